/- PtN Made5 PtO PtP PtQ PtR PtS PuE0 -/
import Derived.Test.YtpecobmfabmpkaaGreatDoorM13
import Derived.Laws.MakeOwn
set_option maxRecDepth 20000
set_option maxHeartbeats 4000000
namespace Go.Proofs.YtpecobmfabmpkaaGreatDoor
section
open Go.RowKit
theorem list_app_run {ops:Array Oper}{rest:List Oper}{o:Oper}{a:Act}{Q:Exit→Act→World→Prop}(w:World)(hgd:o.guard=none)(s x:Operand)(t u ty:TypeId)
  (ho:o.op=.call { callee:=.builtin .append,args:=#[s,x],argTypes:=#[t,u] }) (hty:o.type=ty) (v v2:Value) (hs:a.eval s=v) (hx:a.eval x=v2) {v':Value} {w':World}
  (hr:(Builtin.append_ #[t,u] ty #[v,v2]).run Tryz.prog w=.ok v' w') (h:wpList Tryz.prog ops Q rest (a.put o.dst v') w'):wpList Tryz.prog ops Q (o::rest) a w :=
 wpList_plain hgd fun _ hK=>by
  subst hty
  unfold Oper.wp execOp
  simp only[ho,resolve,invoke,builtin,Sem.run_bind,Sem.run_pure,Result.andThen_ok,List.map_toArray,List.map_cons,List.map_nil,hs,hx,hr]
  exact hK _ _ h
theorem step_app_run {ops:Array Oper}{o:Oper}{a:Act}{K:Act→World→Prop}{Q:Exit→Act→World→Prop}{E:Prop}(w:World)(hgd:o.guard=none)(s x:Operand)(t u ty:TypeId)
  (ho:o.op=.call { callee:=.builtin .append,args:=#[s,x],argTypes:=#[t,u] }) (hty:o.type=ty) (v v2:Value) (hs:a.eval s=v) (hx:a.eval x=v2) {v':Value} {w':World}
  (hr:(Builtin.append_ #[t,u] ty #[v,v2]).run Tryz.prog w=.ok v' w') (d:Tmp) (hd:o.dst=some d) (h:K (a.put (some d) v') w'):if Region.wanted o (yielded ops a.tmps)=true then Oper.wp Tryz.prog o a w K Q else E:=by
 have hw:Region.wanted o (yielded ops a.tmps)=true:=by simp[Region.wanted,hgd]
 rw[if_pos hw]
 subst hty
 unfold Oper.wp execOp
 simp only[ho,resolve,invoke,builtin,Sem.run_bind,Sem.run_pure,Result.andThen_ok,List.map_toArray,List.map_cons,List.map_nil,hs,hx,hr]
 rw[←hd] at h
 exact h
def RowZ (w:World)(B:Nat)(acc:List UInt8):Prop:=acc.length≤512∧Blk w B 5 (bv (pad512 acc))
theorem bv_app (a b:List UInt8):bv (a++b)=bv a++bv b:=by unfold bv;exact List.map_append
theorem pad_step {acc l:List UInt8}(h:acc.length+l.length≤512):(bv (pad512 acc)).take acc.length++bv l++(bv (pad512 acc)).drop (acc.length+(bv l).length)=bv (pad512 (acc++l)):=by
 rw[pad_eq (by omega:acc.length≤512),pad_eq (by rw[List.length_append];exact h),bv_app,bv_app,bv_app,List.take_left' (bv_length acc),bv_length,List.append_assoc,List.append_assoc]
 congr 2
 rw[List.drop_append,bv_length,List.drop_of_length_le (by rw[bv_length];omega),List.nil_append,show acc.length+l.length-acc.length=l.length by omega]
 unfold bv
 rw[←List.map_drop,List.drop_replicate,List.length_append]
 congr 2
 omega
theorem RowZ.app {w:World}{B:Nat}{acc:List UInt8}(h:RowZ w B acc){sa:Option Addr}{m c:Nat}{l:List UInt8}(hl:IsB w sa m c l)(hfit:acc.length+l.length≤512)(ty:TypeId):
  ∃w',(Builtin.append_ #[33,33] ty #[.slice (some ⟨B,0,none⟩) acc.length 512,.slice sa m c]).run Tryz.prog w=.ok (.slice (some ⟨B,0,none⟩) (acc++l).length 512) w'∧RowZ w' B (acc++l)∧w.grownBy w' (some B):=by
 obtain⟨i0,hi,hz0,hz1,hz2⟩:=info_parts info8
 have hll:=hl.len_eq
 by_cases hm:0<m
 ·obtain⟨g,off,rfl,hcs⟩:=hl.cells hm
  have hr:=run_append_room (P:=Tryz.prog) w 33 ty 5 i0 Tryz.underlying33 hi B acc.length 512 (bv (pad512 acc)).toArray h.2 ⟨g,off,none⟩ m c (bv l) (by rw[bv_length,hz1,Nat.mul_one,hll]) (fun j u hu=>by
   have hj:j<l.length:=by have:=(List.getElem?_eq_some_iff.1 hu).1;rw[bv_length] at this;exact this
   rw[bv_at l j hj] at hu
   rw[Addr.add_lit,hcs j (by omega)]
   exact hu) (fun u hu=>(by unfold bv at hu;obtain⟨b,_,rfl⟩:=List.mem_map.1 hu;rfl)) (by omega) (by rw[hz1,Nat.mul_one,bv_length,List.size_toArray,bv_length,pad512_len];omega)
  rw[hz1,Nat.mul_one,List.toList_toArray,pad_step hfit] at hr
  refine⟨_,by rw[List.length_append,hll];exact hr,⟨by rw[List.length_append];exact hfit,h.2.row _⟩,⟨rfl,rfl,rfl,by simp[World.setRow],fun k _ hk=>setRow_other w B k _ (fun e=>hk (by rw[e]))⟩⟩
 ·have hm0:m=0:=by omega
  have:l=[]:=List.eq_nil_of_length_eq_zero (by omega)
  subst this hm0
  refine⟨w,?_,by rw[List.append_nil];exact h,World.grownBy.refl _ _⟩
  rw[List.append_nil]
  have hx:(Builtin.firstCells 1 0 (.slice sa 0 c)).run Tryz.prog w=.ok #[] w:=by
   cases sa<;>rfl
  simp[Builtin.append_,run_underlying Tryz.underlying33,sizeOf,typeInfo,hi,hz1,Builtin.lenOf,h.1,hx,storeCells]
theorem KeepO.grown1 {us:List TypeId}{w w':World}{B ty:Nat}{cs:List Value}(hB:Blk w B ty cs)(ht:ty∉us)(hg:w.grownBy w' (some B)):KeepO us w w' :=
 ⟨hg.size,fun i c t fz hi h=>(hg.block i (Array.getElem?_eq_some_iff.1 hi).1 (fun e=>by
  have e2:=Option.some.inj e
  subst e2
  unfold Blk at hB
  rw[hi] at hB
  injection hB with h4
  injection h4 with _ h5 _
  subst h5
  exact ht h)).trans hi,fun i o hi ho=>(hg.block i (Array.getElem?_eq_some_iff.1 hi).1 (fun e=>by
  have e2:=Option.some.inj e
  subst e2
  unfold Blk at hB
  rw[hi] at hB
  injection hB with h4
  subst h4
  cases ho)).trans hi⟩
theorem KeepU.grown1 {fl:Nat}{us:List TypeId}{w w':World}{B ty:Nat}{cs:List Value}(hB:Blk w B ty cs)(ht:ty∉us)(hg:w.grownBy w' (some B))(hle:fl≤B):KeepU fl us w w':=⟨KeepO.grown1 hB ht hg,fun k hk h2=>hg.block k h2 (fun e=>by have:=Option.some.inj e;omega)⟩
theorem pgKid (w:World)(S J P base m:Nat)(t:Tl)(j:Jl)(at_:Int)(lv:Nat)(ve vk:Value)(ks:List Nat)(i k:Nat)(p:Pg)(h:SpAx w S J P base t j)(hf:Fit t j m)(hz:RdZ w vk ks)(hi:ks[i]?=some k)(hk:51≤k)(hn:k<j.p.n)(hp:pgOf (spRdB t j (k:Int))=some p)(hl:lv=p.lv+1)(hl2:lv≤11):
  Calls Tryz.prog 72 #[gT S,.agg (pgc at_ lv ve vk).toArray,.int .i64 (i:Int)] w fun e w'=>(∃v ve vk L,e=.returned v∧PgO w' w.heap.size (k:Int) p v ve vk L)∧Below w.heap.size w w':=by
 unfold gT pgc
 obtain⟨hik,hie⟩:=List.getElem?_eq_some_iff.1 hi
 have hzz:=hz
 obtain⟨ka,kc,rfl,hkc,hcs⟩:=hz
 obtain⟨g,off,_,_,rfl,-,-⟩:=hcs (by omega)
 have hn2:=hf.few.n
 have W1:Below w.heap.size w (((w.alloc (.cells #[.pointer (some ⟨S,0,none⟩)] 87)).alloc (.cells #[.int .i64 at_,.int .i64 (lv:Int),ve,.slice (some ⟨g,off,none⟩) ks.length kc] 133)).alloc (.cells #[.int .i64 0,.int .i64 0,.slice none 0 0,.slice none 0 0] 133)):=(((Below.refl _ w).alloc (Nat.le_refl _) _).alloc (by simp) _).alloc (by simp;omega) _
 have k0:Blk (((w.alloc (.cells #[.pointer (some ⟨S,0,none⟩)] 87)).alloc (.cells #[.int .i64 at_,.int .i64 (lv:Int),ve,.slice (some ⟨g,off,none⟩) ks.length kc] 133)).alloc (.cells #[.int .i64 0,.int .i64 0,.slice none 0 0,.slice none 0 0] 133)) w.heap.size 87 [.pointer (some ⟨S,0,none⟩)]:=((Blk.newAt w w.heap.size 87 #[.pointer (some ⟨S,0,none⟩)] [.pointer (some ⟨S,0,none⟩)] rfl rfl).alloc _).alloc _
 have k1:Blk (((w.alloc (.cells #[.pointer (some ⟨S,0,none⟩)] 87)).alloc (.cells #[.int .i64 at_,.int .i64 (lv:Int),ve,.slice (some ⟨g,off,none⟩) ks.length kc] 133)).alloc (.cells #[.int .i64 0,.int .i64 0,.slice none 0 0,.slice none 0 0] 133)) (w.heap.size+1) 133 [.int .i64 at_,.int .i64 (lv:Int),ve,.slice (some ⟨g,off,none⟩) ks.length kc]:=(Blk.newAt _ (w.heap.size+1) 133 #[.int .i64 at_,.int .i64 (lv:Int),ve,.slice (some ⟨g,off,none⟩) ks.length kc] [.int .i64 at_,.int .i64 (lv:Int),ve,.slice (some ⟨g,off,none⟩) ks.length kc] (by simp) rfl).alloc _
 have k2:Blk (((w.alloc (.cells #[.pointer (some ⟨S,0,none⟩)] 87)).alloc (.cells #[.int .i64 at_,.int .i64 (lv:Int),ve,.slice (some ⟨g,off,none⟩) ks.length kc] 133)).alloc (.cells #[.int .i64 0,.int .i64 0,.slice none 0 0,.slice none 0 0] 133)) (w.heap.size+2) 133 [.int .i64 0,.int .i64 0,.slice none 0 0,.slice none 0 0]:=Blk.newAt _ (w.heap.size+2) 133 _ _ (by simp) rfl
 generalize hW:((w.alloc (.cells #[.pointer (some ⟨S,0,none⟩)] 87)).alloc (.cells #[.int .i64 at_,.int .i64 (lv:Int),ve,.slice (some ⟨g,off,none⟩) ks.length kc] 133)).alloc (.cells #[.int .i64 0,.int .i64 0,.slice none 0 0,.slice none 0 0] 133)=Y0 at *
 have HRd:Hid (∀W,Below w.heap.size w W→Calls Tryz.prog 67 #[.agg #[.pointer (some ⟨S,0,none⟩)],.int .i64 (k:Int)] W fun e w'=>(∃v ve vk L,e=.returned v∧PgO w' W.heap.size (k:Int) p v ve vk L)∧Below W.heap.size W w'):=fun W hW=>pgRead W S J P base m t j k p (SpAx.keep h (KeepT.of_below hW)) hf hk hn hp
 obtain⟨_,g',off',e',hc⟩:=(hzz.keep (KeepO.of_below W1)).at_ i hik
 have e2:=Option.some.inj e'
 injection e2 with q1 q2 _
 subst q1 q2
 rw[hie] at hc
 have HW1:=mkHid W1
 have K0:=mkHid k0
 have K1:=mkHid k1
 have K2:=mkHid k2
 have HCt:Hid (∀W,Below Y0.heap.size Y0 W→W.cell? ⟨w.heap.size,0,none⟩=some (.pointer (some ⟨S,0,none⟩))∧W.cell? ⟨w.heap.size+1,3,none⟩=some (.slice (some ⟨g,off,none⟩) ks.length kc)∧W.cell? ⟨g,off+i,none⟩=some (.int .i64 (k:Int))):=fun W hW=>⟨(K0.out.on hW).cell 0,(K1.out.on hW).cell 3,(hW.cell (p:=⟨g,off+i,none⟩) (cell_lt hc)).trans hc⟩
 have hi':(i:Int)<(ks.length:Int):=by omega
 have hi0:(0:Int)≤(i:Int):=by omega
 have HNy:=needYes13 4
 have hlw:IntKind.i64.wrap ((lv:Int)-1)=(p.lv:Int):=by rw[show (lv:Int)-1=(p.lv:Int) by omega];exact wrapi64_in _ (by omega) (by omega)
 clear h hf hzz hcs k0 k1 k2 W1 hp hc hie hi hl
 generalize ks.length=n at *
 go_enter Tryz.func72,Tryz.ntmps72
 go_wp2_with fail
 refine lk0 (fun w'=>w'.cell? ⟨w.heap.size,0,none⟩=some (.pointer (some ⟨S,0,none⟩))∧w'.cell? ⟨w.heap.size+1,3,none⟩=some (.slice (some ⟨g,off,none⟩) n kc)∧w'.cell? ⟨g,off+i,none⟩=some (.int .i64 (k:Int))) 8 (HCt.out _ ((Below.refl _ Y0).drew)) (fun hHeld=>?_)
 refine lkT 8 0 (.agg #[.pointer (some ⟨S,0,none⟩)]) rfl (Or.inl ⟨by rfl,?_⟩) hHeld ?_
 ·intro w hSw;obtain⟨s1,s2,s3⟩:=hSw;go_simp
 (try simp only[Act.put,sIx,sZ0,sZ1])
 refine lkT 9 1 ?_ rfl (Or.inl ⟨by rfl,?_⟩) hHeld ?_
 rotate_left
 ·intro w hSw;obtain⟨s1,s2,s3⟩:=hSw;go_simp;with_reducible rfl
 (try simp only[Act.put,sIx,sZ0,sZ1])
 refine lkT 10 2 (.slice (some ⟨g,off,none⟩) n kc) rfl (Or.inl ⟨by rfl,?_⟩) hHeld ?_
 ·intro w hSw;obtain⟨s1,s2,s3⟩:=hSw;go_simp
 (try simp only[Act.put,sIx,sZ0,sZ1])
 refine lkT 11 3 ?_ rfl (Or.inl ⟨by rfl,?_⟩) hHeld ?_
 rotate_left
 ·intro w hSw;obtain⟨s1,s2,s3⟩:=hSw;go_simp;with_reducible rfl
 (try simp only[Act.put,sIx,sZ0,sZ1])
 refine lkT 12 4 ?_ rfl (Or.inl ⟨by rfl,?_⟩) hHeld ?_
 rotate_left
 ·intro w hSw;obtain⟨s1,s2,s3⟩:=hSw;go_simp;with_reducible rfl
 (try simp only[Act.put,sIx,sZ0,sZ1])
 refine lkT 13 5 (.int .i64 (k:Int)) rfl (Or.inl ⟨by rfl,?_⟩) hHeld ?_
 ·intro w hSw;obtain⟨s1,s2,s3⟩:=hSw;go_simp
 (try simp only[Act.put,sIx,sZ0,sZ1])
 refine lkR (rs:=[6,7]) (by kernel_rfl) (by simp) (NextL.cons rfl (fun K hK=>?_) (NextL.cons rfl (fun K hK=>?_) NextL.nil))
 ·go_simp
  go_wp2_with (go_at_call 67;refine(HRd.out _ (HW1.out.trans (Below.drew (Below.refl _ Y0) |>.mono HW1.out.size))).mono ?_;rintro e y1 ⟨⟨v1,ve1,vk1,L1,rfl,hp1⟩,hb1⟩)
  have hb0:Below Y0.heap.size Y0 y1:=(Below.drew (Below.refl _ Y0)).trans hb1
  refine hK.out _ _ (HCt.out _ hb0) (fun hHeld=>?_)
  (try simp only[Act.put,sIx,sZ0,sZ1])
  clear hK K
  obtain⟨ea1,ec1,he1,_⟩:=hp1.e.form
  obtain⟨ka1,kc1,hk1,_⟩:=hp1.k.isZ
  rw[List.length_map] at hk1
  have hv1:=hp1.v
  subst he1 hk1 hv1
  have HP1:Hid (PgO y1 (w.heap.size+3) (k:Int) p (.agg #[.int .i64 (k:Int),.int .i64 (p.lv:Int),.slice ea1 L1.length ec1,.slice ka1 p.ks.length kc1]) (.slice ea1 L1.length ec1) (.slice ka1 p.ks.length kc1) L1):=⟨rfl,own_low hp1.e K2.out.lt,own_low hp1.k K2.out.lt,hp1.es,hp1.x⟩
  have HB1:=mkHid hb0
  clear hp1 hb1 hb0
  unfold pgc
  refine lk1 7 rfl (fun K hK=>?_)
  go_simp
  refine hK.out _ _ (HCt.out _ (HB1.out.trans (((Below.refl _ y1).alloc (Nat.le_refl _) _).mono HB1.out.size))) (fun hHeld=>?_)
  (try simp only[Act.put,sIx,sZ0,sZ1])
  clear hK K
  refine lkZ rfl (fun K hK=>?_)
  go_simp
  refine hK.out _ _ ?_
  simp only[Exit.then]
  (try simp only[Act.put,sIx,sZ0,sZ1])
  clear hK K hHeld
  have hAl:=(Below.refl _ y1).alloc (Nat.le_refl _) (.cells #[.int .i64 (k:Int),.int .i64 (p.lv:Int),.slice ea1 L1.length ec1,.slice ka1 p.ks.length kc1] 133)
  have hbY:=HB1.out.trans (hAl.mono HB1.out.size)
  have KZ1:=mkHid (K1.out.on hbY)
  have KZ2:=mkHid (K2.out.on hbY)
  have KZk:Hid (Blk (y1.alloc (.cells #[.int .i64 (k:Int),.int .i64 (p.lv:Int),.slice ea1 L1.length ec1,.slice ka1 p.ks.length kc1] 133)) y1.heap.size 133 [.int .i64 (k:Int),.int .i64 (p.lv:Int),.slice ea1 L1.length ec1,.slice ka1 p.ks.length kc1]):=Blk.new y1 _ _
  have HPZ:=mkHid (HP1.out.below hAl)
  have HBZ:=mkHid (HW1.out.trans (hbY.mono HW1.out.size))
  have hBk:w.heap.size+3≤y1.heap.size:=Nat.le_trans K2.out.lt HB1.out.size
  clear HP1 HB1 hAl hbY
  generalize y1.alloc (.cells #[.int .i64 (k:Int),.int .i64 (p.lv:Int),.slice ea1 L1.length ec1,.slice ka1 p.ks.length kc1] 133)=Z at *
  generalize y1.heap.size=Bk at *
  have d1:Z.cell? ⟨w.heap.size+1,1,none⟩=some (.int .i64 (lv:Int)):=KZ1.out.cell 1
  have b0:Z.cell? ⟨Bk,0,none⟩=some (.int .i64 (k:Int)):=KZk.out.cell 0
  have b1:Z.cell? ⟨Bk,1,none⟩=some (.int .i64 (p.lv:Int)):=KZk.out.cell 1
  have b2:Z.cell? ⟨Bk,2,none⟩=some (.slice ea1 L1.length ec1):=KZk.out.cell 2
  have b3:Z.cell? ⟨Bk,3,none⟩=some (.slice ka1 p.ks.length kc1):=KZk.out.cell 3
  have r0:=KZ2.out.cell 0
  have r1:=KZ2.out.cell 1
  have r2:=KZ2.out.cell 2
  have r3:=KZ2.out.cell 3
  simp only[gZ0,gZ1] at r0 r1 r2 r3
  have g0:=KZ2.out.frozen 0
  have g1:=KZ2.out.frozen 1
  have g2:=KZ2.out.frozen 2
  have g3:=KZ2.out.frozen 3
  go_wp2_with (go_at_call 99;refine(HNy _).mono ?_;rintro x w2 ⟨rfl,hww⟩;rw[hww];clear hww w2)
  refine bodyPost_ret (retPg rfl _ _ (w.heap.size+2) _ _ _ _ rfl ((((KZ2.out.set 0 _).set 1 _).set 2 _).set 3 _)) rfl ?_
  have hg:=grown4 Z (w.heap.size+2) (.int .i64 (k:Int)) (.int .i64 (p.lv:Int)) (.slice ea1 L1.length ec1) (.slice ka1 p.ks.length kc1)
  have hb9:Below w.heap.size w _:=HBZ.out.grown hg HBZ.out.size (fun k e=>by have:=Option.some.inj e;omega)
  refine⟨⟨_,.slice ea1 L1.length ec1,.slice ka1 p.ks.length kc1,L1,rfl,?_⟩,hb9⟩
  have hke:KeepO UE Z _:=KeepO.grown1 KZ2.out (by decide) hg
  have h9:=HPZ.out.keep hke
  exact⟨rfl,own_low h9.e (by omega),own_low h9.k (by omega),h9.es,h9.x⟩
 ·go_simp
  have hA0:Below Y0.heap.size Y0 ((Y0.alloc (.cells #[.int .i64 0,.int .i64 0,.slice none 0 0,.slice none 0 0] 133)).drew):=Below.drew ((Below.refl _ Y0).alloc (Nat.le_refl _) _)
  refine hK.out _ _ (HCt.out _ hA0) (fun hHeld=>?_)
  (try simp only[Act.put,sIx,sZ0,sZ1])
  clear hK K
  have KA:Hid (Blk ((Y0.alloc (.cells #[.int .i64 0,.int .i64 0,.slice none 0 0,.slice none 0 0] 133)).drew) Y0.heap.size 133 [.int .i64 0,.int .i64 0,.slice none 0 0,.slice none 0 0]):=Blk.new Y0 133 [.int .i64 0,.int .i64 0,.slice none 0 0,.slice none 0 0]
  have HA0:=mkHid hA0
  have hBk:w.heap.size+3≤Y0.heap.size:=K2.out.lt
  have hBk2:Y0.heap.size+1≤((Y0.alloc (.cells #[.int .i64 0,.int .i64 0,.slice none 0 0,.slice none 0 0] 133)).drew).heap.size:=KA.out.lt
  clear hA0
  generalize (Y0.alloc (.cells #[.int .i64 0,.int .i64 0,.slice none 0 0,.slice none 0 0] 133)).drew=Y1 at *
  generalize hBe:Y0.heap.size=Bk at *
  have HRy:=HRd.out Y1 (HW1.out.trans (HA0.out.mono (by omega)))
  refine lk1 6 rfl (fun K hK=>?_)
  go_simp
  go_wp2_with (go_at_call 67;refine HRy.mono ?_;rintro e y1 ⟨⟨v1,ve1,vk1,L1,rfl,hp1⟩,hb1⟩)
  have hb0:Below Bk Y0 y1:=HA0.out.trans (hb1.mono (by omega))
  refine hK.out _ _ (HCt.out _ hb0) (fun hHeld=>?_)
  (try simp only[Act.put,sIx,sZ0,sZ1])
  clear hK K
  obtain⟨ea1,ec1,he1,_⟩:=hp1.e.form
  obtain⟨ka1,kc1,hk1,_⟩:=hp1.k.isZ
  rw[List.length_map] at hk1
  have hv1:=hp1.v
  subst he1 hk1 hv1
  have KA1:=mkHid (KA.out.on hb1)
  have a0:=KA1.out.cell 0
  have a1:=KA1.out.cell 1
  have a2:=KA1.out.cell 2
  have a3:=KA1.out.cell 3
  simp only[gZ0,gZ1] at a0 a1 a2 a3
  have f0:=KA1.out.frozen 0
  have f1:=KA1.out.frozen 1
  have f2:=KA1.out.frozen 2
  have f3:=KA1.out.frozen 3
  have HP1:=mkHid hp1
  have HB1:=mkHid hb0
  clear hp1 hb1 hb0 KA HA0
  unfold pgc
  refine lkZ rfl (fun K hK=>?_)
  go_simp
  refine hK.out _ _ ?_
  simp only[Exit.then]
  (try simp only[Act.put,sIx,sZ0,sZ1])
  clear hK K hHeld a0 a1 a2 a3 f0 f1 f2 f3
  have hg0:=grown4 y1 Bk (.int .i64 (k:Int)) (.int .i64 (p.lv:Int)) (.slice ea1 L1.length ec1) (.slice ka1 p.ks.length kc1)
  have KZk:Hid (Blk ((((y1.setCell ⟨Bk,0,none⟩ (.int .i64 (k:Int))).setCell ⟨Bk,1,none⟩ (.int .i64 (p.lv:Int))).setCell ⟨Bk,2,none⟩ (.slice ea1 L1.length ec1)).setCell ⟨Bk,3,none⟩ (.slice ka1 p.ks.length kc1)) Bk 133 [.int .i64 (k:Int),.int .i64 (p.lv:Int),.slice ea1 L1.length ec1,.slice ka1 p.ks.length kc1]):=(((KA1.out.set 0 _).set 1 _).set 2 _).set 3 _
  have hke0:KeepO UE y1 _:=KeepO.grown1 KA1.out (by decide) hg0
  have HPy:=HP1.out.keep hke0
  have hbY:Below Y0.heap.size Y0 ((((y1.setCell ⟨Bk,0,none⟩ (.int .i64 (k:Int))).setCell ⟨Bk,1,none⟩ (.int .i64 (p.lv:Int))).setCell ⟨Bk,2,none⟩ (.slice ea1 L1.length ec1)).setCell ⟨Bk,3,none⟩ (.slice ka1 p.ks.length kc1)):=by rw[hBe];exact HB1.out.grown hg0 (by rw[←hBe];exact HB1.out.size) (fun k e=>by have:=Option.some.inj e;omega)
  have KZ1:=mkHid (K1.out.on hbY)
  have KZ2:=mkHid (K2.out.on hbY)
  have HBZ:=mkHid (HW1.out.trans (hbY.mono HW1.out.size))
  have HPZ:Hid (PgO ((((y1.setCell ⟨Bk,0,none⟩ (.int .i64 (k:Int))).setCell ⟨Bk,1,none⟩ (.int .i64 (p.lv:Int))).setCell ⟨Bk,2,none⟩ (.slice ea1 L1.length ec1)).setCell ⟨Bk,3,none⟩ (.slice ka1 p.ks.length kc1)) (w.heap.size+3) (k:Int) p (.agg #[.int .i64 (k:Int),.int .i64 (p.lv:Int),.slice ea1 L1.length ec1,.slice ka1 p.ks.length kc1]) (.slice ea1 L1.length ec1) (.slice ka1 p.ks.length kc1) L1):=⟨rfl,own_low HPy.e (by omega),own_low HPy.k (by omega),HPy.es,HPy.x⟩
  clear HPy hke0 hg0 hbY HP1 HB1 KA1
  generalize (((y1.setCell ⟨Bk,0,none⟩ (.int .i64 (k:Int))).setCell ⟨Bk,1,none⟩ (.int .i64 (p.lv:Int))).setCell ⟨Bk,2,none⟩ (.slice ea1 L1.length ec1)).setCell ⟨Bk,3,none⟩ (.slice ka1 p.ks.length kc1)=Z at *
  have d1:Z.cell? ⟨w.heap.size+1,1,none⟩=some (.int .i64 (lv:Int)):=KZ1.out.cell 1
  have b0:Z.cell? ⟨Bk,0,none⟩=some (.int .i64 (k:Int)):=KZk.out.cell 0
  have b1:Z.cell? ⟨Bk,1,none⟩=some (.int .i64 (p.lv:Int)):=KZk.out.cell 1
  have b2:Z.cell? ⟨Bk,2,none⟩=some (.slice ea1 L1.length ec1):=KZk.out.cell 2
  have b3:Z.cell? ⟨Bk,3,none⟩=some (.slice ka1 p.ks.length kc1):=KZk.out.cell 3
  have r0:=KZ2.out.cell 0
  have r1:=KZ2.out.cell 1
  have r2:=KZ2.out.cell 2
  have r3:=KZ2.out.cell 3
  simp only[gZ0,gZ1] at r0 r1 r2 r3
  have g0:=KZ2.out.frozen 0
  have g1:=KZ2.out.frozen 1
  have g2:=KZ2.out.frozen 2
  have g3:=KZ2.out.frozen 3
  go_wp2_with (go_at_call 99;refine(HNy _).mono ?_;rintro x w2 ⟨rfl,hww⟩;rw[hww];clear hww w2)
  refine bodyPost_ret (retPg rfl _ _ (w.heap.size+2) _ _ _ _ rfl ((((KZ2.out.set 0 _).set 1 _).set 2 _).set 3 _)) rfl ?_
  have hg:=grown4 Z (w.heap.size+2) (.int .i64 (k:Int)) (.int .i64 (p.lv:Int)) (.slice ea1 L1.length ec1) (.slice ka1 p.ks.length kc1)
  have hb9:Below w.heap.size w _:=HBZ.out.grown hg HBZ.out.size (fun k e=>by have:=Option.some.inj e;omega)
  refine⟨⟨_,.slice ea1 L1.length ec1,.slice ka1 p.ks.length kc1,L1,rfl,?_⟩,hb9⟩
  have hke:KeepO UE Z _:=KeepO.grown1 KZ2.out (by decide) hg
  have h9:=HPZ.out.keep hke
  exact⟨rfl,own_low h9.e (by omega),own_low h9.k (by omega),h9.es,h9.x⟩
theorem made512:madeCells (Value.int .u8 0).cells (512 * 1)=(bv (pad512 [])).toArray:=by kernel_rfl
theorem list_makeR {ops:Array Oper}{rest:List Oper}{o:Oper}{a:Act}{Q:Exit→Act→World→Prop}(w:World)(hgd:o.guard=none)(l c:Operand)(hop:o.op=Op.makeSlice 33 l c)(hl:a.eval l=.int .i64 0)(hc:a.eval c=.int .i64 512)
  (h:∀w',RowZ w' w.heap.size []→Below w.heap.size w w'→wpList Tryz.prog ops Q rest (a.put o.dst (.slice (some ⟨w.heap.size,0,none⟩) 0 512)) w'):wpList Tryz.prog ops Q (o::rest) a w :=
 wpList_plain hgd fun _ hK=>by
  obtain⟨i0,hi,hz0,hz1,hz2⟩:=info_parts info8
  have hr:=run_makeSlice (P:=Tryz.prog) w 33 5 i0 (.int .u8 0) Tryz.underlying33 hi hz0 .i64 .i64 0 512 (by omega) (by omega) (by rw[hz1];decide) (by rw[hz2];decide) (by decide)
  rw[hz1] at hr
  have hm:madeCells (Value.int .u8 0).cells ((512:Int).toNat * 1)=(bv (pad512 [])).toArray:=made512
  rw[hm] at hr
  unfold Oper.wp execOp
  simp only[hop,Sem.run_bind,Sem.run_pure,Result.andThen_ok,hl,hc,hr]
  exact hK _ _ (h _ ⟨by simp,Blk.new w 5 (bv (pad512 []))⟩ ((Below.refl _ w).alloc (Nat.le_refl _) _))
def SecU (w:World)(v:Value)(b:List UInt8):Prop:=∃g,v=.slice (some ⟨g,0,none⟩) 512 512∧Blk w g 5 (bv b)∧b.length=512
theorem SecU.isB {w:World}{v:Value}{b:List UInt8}(h:SecU w v b):∃g,v=.slice (some ⟨g,0,none⟩) b.length 512∧∀W,KeepO [5] w W→IsB W (some ⟨g,0,none⟩) b.length 512 b:=by
 obtain⟨g,rfl,hB,hl⟩:=h
 refine⟨g,by rw[hl],fun W hW=>?_⟩
 have hB2:Blk W g 5 (bv b):=hW.same g _ _ _ hB (by decide)
 rw[hl]
 exact⟨hl,Nat.le_refl _,by decide,(fun e=>by cases e),fun _=>⟨g,0,rfl,fun i hi=>by rw[hB2.cell,Nat.zero_add,bv_at b i (by omega)]⟩⟩
def pgB (p:Pg):List UInt8:=pad512 (116::UInt8.ofNat p.lv::UInt8.ofNat (p.es.length+p.ks.length):: (entsB p.es++kidsB p.ks))
theorem pgB_leaf (l:List Et):pgB ⟨0,l,[]⟩=leafB l:=by
 unfold pgB leafB
 rw[kidsB,List.append_nil]
 rfl
theorem pgB_node (ks:List Nat):pgB ⟨1,[],ks⟩=nodeB ks:=by
 unfold pgB nodeB
 rw[entsB,List.nil_append,List.length_nil,Nat.zero_add]
 rfl
theorem isB_blk {w:World}{B:Nat}{l:List UInt8}(h:Blk w B 5 (bv l))(hl:l.length≤512):IsB w (some ⟨B,0,none⟩) l.length l.length l :=
 ⟨rfl,Nat.le_refl _,Nat.le_trans hl (by decide),(fun e=>by cases e),fun _=>⟨B,0,rfl,fun i hi=>by rw[h.cell,Nat.zero_add,bv_at l i hi]⟩⟩
structure ScAt (w wr:World)(at_:Int)(p:Pg)(ve vk:Value)(acc:List UInt8):Prop where
 pg:Blk wr w.heap.size 133 [.int .i64 at_,.int .i64 (p.lv:Int),ve,vk]
 row:RowZ wr (w.heap.size+1) acc
 low:Below w.heap.size w wr
theorem ScAt.on {w wr wr':World}{at_:Int}{p:Pg}{ve vk:Value}{acc:List UInt8}(h:ScAt w wr at_ p ve vk acc)(hb:Below wr.heap.size wr wr'):ScAt w wr' at_ p ve vk acc :=
 ⟨h.pg.on hb,⟨h.row.1,h.row.2.on hb⟩,h.low.trans (hb.mono h.low.size)⟩
theorem ScAt.app {w wr:World}{at_:Int}{p:Pg}{ve vk:Value}{acc:List UInt8}(h:ScAt w wr at_ p ve vk acc){sa:Option Addr}{m c:Nat}{l:List UInt8}(hl:IsB wr sa m c l)(hfit:acc.length+l.length≤512)(ty:TypeId):
  ∃w',(Builtin.append_ #[33,33] ty #[.slice (some ⟨w.heap.size+1,0,none⟩) acc.length 512,.slice sa m c]).run Tryz.prog wr=.ok (.slice (some ⟨w.heap.size+1,0,none⟩) (acc++l).length 512) w'∧ScAt w w' at_ p ve vk (acc++l)∧wr.grownBy w' (some (w.heap.size+1)):=by
 obtain⟨w',hr,h1,hg⟩:=h.row.app hl hfit ty
 exact⟨w',hr,⟨(hg.block w.heap.size h.pg.lt (fun e=>by have:=Option.some.inj e;omega)).trans h.pg,h1,h.low.grown hg h.low.size (fun k e=>by have:=Option.some.inj e;omega)⟩,hg⟩
variable {fl:Nat}
theorem bv3 (a b c:Nat)(ha:a<256)(hb:b<256)(hc:c<256):[Value.int .u8 (a:Int),.int .u8 (b:Int),.int .u8 (c:Int)]=bv [UInt8.ofNat a,UInt8.ofNat b,UInt8.ofNat c]:=by
 unfold bv
 simp only[List.map_cons,List.map_nil]
 rw[u8_of ha,u8_of hb,u8_of hc]
theorem bv2 (a b:Nat)(ha:a<256)(hb:b<256):[Value.int .u8 (a:Int),.int .u8 (b:Int)]=bv [UInt8.ofNat a,UInt8.ofNat b]:=by
 unfold bv
 simp only[List.map_cons,List.map_nil]
 rw[u8_of ha,u8_of hb]
theorem isB_made {w:World}{cs:Array Value}{l:List UInt8}(h:cs.toList=bv l)(hl:l.length≤512):IsB (w.alloc (.cells cs 5)) (some ⟨w.heap.size,0,none⟩) l.length l.length l:=by
 refine isB_blk ?_ hl
 have:=Blk.newAt w w.heap.size 5 cs (bv l) rfl (by rw[←h])
 exact this
theorem entsB_take_succ {l:List Et}{k:Nat}(h:k<l.length):entsB (l.take (k+1))=entsB (l.take k)++([UInt8.ofNat (l.getD k et0).k.length,UInt8.ofNat (l.getD k et0).v.length]++(l.getD k et0).k++(l.getD k et0).v):=by
 have e:l.getD k et0=l[k]:=by simp[h]
 rw[List.take_succ_eq_append_getElem h,entsB_append,entsB,entsB,List.append_nil,e]
 unfold entB
 simp
theorem kidsB_take_succ {l:List Nat}{k:Nat}(h:k<l.length):kidsB (l.take (k+1))=kidsB (l.take k)++[UInt8.ofNat (l.getD k 0/256),UInt8.ofNat (l.getD k 0%256)]:=by
 have e:l.getD k 0=l[k]:=by simp[h]
 rw[List.take_succ_eq_append_getElem h,kidsB_append,kidsB,kidsB,List.append_nil,e]
 rfl
theorem szL_take_le (l:List Et)(k:Nat):szL (l.take k)≤szL l:=by have:=szL_cut l k;omega
theorem codSector (at_:Int)(p:Pg)(ve vk:Value)(L:List Eq3)(w:World)(h:PgR fl w p ve vk L)(hf:PgF p)(hn:p.es.length+p.ks.length≤254)(hsz:szL p.es+2 * p.ks.length≤509)(hk:∀i∈p.ks,i<65536)(he:∀e∈p.es,e.k.length≤255∧e.v.length≤255):
  Calls Tryz.prog 139 #[.agg (pgc at_ p.lv ve vk).toArray] w fun e w'=>(∃v,e=.returned v∧SecU w' v (pgB p))∧Below w.heap.size w w':=by
 obtain⟨ea,ec,ka,kc,rfl,rfl⟩:=h.forms
 have hL:=h.len
 have HPg:Hid (∀W,Below w.heap.size w W→PgR fl W p (.slice ea p.es.length ec) (.slice ka p.ks.length kc) L):=fun W hW=>h.below hW
 have HE:Hid (∀x∈L,x.1.k.length≤255∧x.1.v.length≤255):=fun x hx=>he x.1 (by rw[←h.es];exact List.mem_map.2 ⟨x,hx,rfl⟩)
 have HEs:=mkHid h.es
 have HKs:Hid (∀i∈p.ks,i<65536):=hk
 have HB0:Hid (Below w.heap.size w (w.alloc (.cells (pgc at_ p.lv (.slice ea p.es.length ec) (.slice ka p.ks.length kc)).toArray 133))):=(Below.refl _ w).alloc (Nat.le_refl _) _
 have HK0:Hid (Blk (w.alloc (.cells (pgc at_ p.lv (.slice ea p.es.length ec) (.slice ka p.ks.length kc)).toArray 133)) w.heap.size 133 (pgc at_ p.lv (.slice ea p.es.length ec) (.slice ka p.ks.length kc))):=Blk.new w _ _
 have HLn:=fun W=>codLen13 at_ p.lv ea ka p.es.length ec p.ks.length kc W (by omega)
 have hlv:=hf.lv
 have hwl:IntKind.u8.wrap (p.lv:Int)=(p.lv:Int):=wrap8_nat _ (by omega)
 have hwn:IntKind.u8.wrap ((p.es.length+p.ks.length:Nat):Int)=((p.es.length+p.ks.length:Nat):Int):=wrap8_nat _ (by omega)
 have HSz:Hid (szL p.es+2 * p.ks.length≤509):=hsz
 have hes254:p.es.length≤254:=by omega
 have hks254:p.ks.length≤254:=by omega
 generalize hNN:p.es.length+p.ks.length=N at *
 have HNN:=mkHid hNN
 clear hNN
 unfold pgc at *
 clear h hf he hk hsz
 go_enter Tryz.func139,Tryz.ntmps139
 go_wp2_with (at_make;refine list_makeR _ rfl _ _ rfl rfl rfl ?_;intro w1 hr1 hb1)
 have hs0:(w.alloc (.cells #[.int .i64 at_,.int .i64 (p.lv:Int),.slice ea p.es.length ec,.slice ka p.ks.length kc] 133)).heap.size=w.heap.size+1:=by simp
 rw[hs0] at hr1 hb1
 have HA1:Hid (ScAt w w1.drew at_ p (.slice ea p.es.length ec) (.slice ka p.ks.length kc) []):=ScAt.on (wr:=w1) ⟨HK0.out.on (by rw[hs0];exact hb1),hr1,HB0.out.trans (hb1.mono (by omega))⟩ (Below.drew (Below.refl _ w1))
 clear hr1 hb1 HK0 HB0
 clear hs0
 have HCt:Hid (∀W acc,ScAt w W at_ p (.slice ea p.es.length ec) (.slice ka p.ks.length kc) acc→W.cell? ⟨w.heap.size,0,none⟩=some (.int .i64 at_)∧W.cell? ⟨w.heap.size,1,none⟩=some (.int .i64 (p.lv:Int))∧W.cell? ⟨w.heap.size,2,none⟩=some (.slice ea p.es.length ec)∧W.cell? ⟨w.heap.size,3,none⟩=some (.slice ka p.ks.length kc)):=fun W acc hW=>⟨hW.pg.cell 0,hW.pg.cell 1,hW.pg.cell 2,hW.pg.cell 3⟩
 refine lk0 (fun W=>W.cell? ⟨w.heap.size,0,none⟩=some (.int .i64 at_)∧W.cell? ⟨w.heap.size,1,none⟩=some (.int .i64 (p.lv:Int))∧W.cell? ⟨w.heap.size,2,none⟩=some (.slice ea p.es.length ec)∧W.cell? ⟨w.heap.size,3,none⟩=some (.slice ka p.ks.length kc)) 9 (HCt.out _ _ HA1.out) (fun hHeld=>?_)
 generalize w1.drew=Y1 at *
 refine lkT 9 0 ?_ rfl (Or.inl ⟨by rfl,?_⟩) hHeld ?_
 rotate_left
 ·intro w hSw;obtain⟨s0,s1,s2,s3⟩:=hSw;go_simp;with_reducible rfl
 (try simp only[Act.put,sIx,sZ0,sZ1])
 refine lkT 10 1 ?_ rfl (Or.inl ⟨by rfl,?_⟩) hHeld ?_
 rotate_left
 ·intro w hSw;obtain⟨s0,s1,s2,s3⟩:=hSw;go_simp;with_reducible rfl
 (try simp only[Act.put,sIx,sZ0,sZ1])
 refine lkT 11 2 (.int .i64 (p.lv:Int)) rfl (Or.inl ⟨by rfl,?_⟩) hHeld ?_
 ·intro w hSw;obtain⟨s0,s1,s2,s3⟩:=hSw;go_simp
 (try simp only[Act.put,sIx,sZ0,sZ1])
 refine lkT 12 3 (.int .u8 (p.lv:Int)) rfl (Or.inl ⟨by rfl,?_⟩) hHeld ?_
 ·intro w hSw;obtain⟨s0,s1,s2,s3⟩:=hSw;go_simp
 (try simp only[Act.put,sIx,sZ0,sZ1])
 refine lkT 13 4 (.agg #[.int .i64 at_,.int .i64 (p.lv:Int),.slice ea p.es.length ec,.slice ka p.ks.length kc]) rfl (Or.inl ⟨by rfl,?_⟩) hHeld ?_
 ·intro w hSw;obtain⟨s0,s1,s2,s3⟩:=hSw;go_simp
 (try simp only[Act.put,sIx,sZ0,sZ1])
 refine lk1 5 rfl (fun K hK=>?_)
 go_simp
 go_wp2_with (go_at_call 70;refine(HLn _).mono ?_;rintro e y2 ⟨rfl,hb2⟩)
 have HA2:=mkHid (HA1.out.on hb2)
 refine hK.out _ _ (HCt.out _ _ HA2.out) (fun hHeld=>?_)
 (try simp only[Act.put,sIx,sZ0,sZ1])
 clear hK K hb2 HA1 HLn
 refine lkT 15 6 (.int .u8 (N:Int)) rfl (Or.inl ⟨by rfl,?_⟩) hHeld ?_
 ·intro w hSw;obtain⟨s0,s1,s2,s3⟩:=hSw;go_simp
 (try simp only[Act.put,sIx,sZ0,sZ1])
 refine lk1 7 rfl (fun K hK=>?_)
 go_simp
 have HI3:Hid (IsB (y2.alloc (.cells #[.int .u8 116,.int .u8 (p.lv:Int),.int .u8 (N:Int)] 5)) (some ⟨y2.heap.size,0,none⟩) 3 3 [116,UInt8.ofNat p.lv,UInt8.ofNat N]):=isB_made (l:=[116,UInt8.ofNat p.lv,UInt8.ofNat N]) (bv3 116 p.lv N (by omega) (by omega) (by omega)) (by simp)
 have HA3:=mkHid (HA2.out.on ((Below.refl _ y2).alloc (Nat.le_refl _) (.cells #[.int .u8 116,.int .u8 (p.lv:Int),.int .u8 (N:Int)] 5)))
 refine hK.out _ _ (HCt.out _ _ HA3.out) (fun hHeld=>?_)
 (try simp only[Act.put,sIx,sZ0,sZ1])
 clear hK K HA2
 generalize y2.alloc (.cells #[.int .u8 116,.int .u8 (p.lv:Int),.int .u8 (N:Int)] 5)=Y3 at *
 generalize y2.heap.size=Bn at *
 obtain⟨Y4,hr4,hA4,-⟩:=HA3.out.app HI3.out (by simp) 33
 rw[List.nil_append] at hr4 hA4
 refine lk1 8 rfl (fun K hK=>?_)
 refine step_app_run Y3 (by rfl) _ _ 33 33 33 (by rfl) (by rfl) _ _ (by rfl) (by rfl) hr4 17 rfl ?_
 refine hK.out _ _ (HCt.out _ _ hA4) (fun hHeld=>?_)
 (try simp only[Act.put,sIx,sZ0,sZ1])
 clear hK K HA3 HI3 hr4
 have HA4:=mkHid hA4
 clear hA4
 generalize hh:[116,UInt8.ofNat p.lv,UInt8.ofNat N]=hd at *
 have hhl:hd.length=3:=by rw[←hh];rfl
 have HHd:=mkHid hh
 clear hh
 refine lkZ rfl (fun K hK=>?_)
 go_simp
 refine hK.out _ _ ?_
 simp only[Exit.then]
 (try simp only[Act.put,sIx,sZ0,sZ1])
 clear hK K hHeld
 have d2:Y4.cell? ⟨w.heap.size,2,none⟩=some (.slice ea p.es.length ec):=HA4.out.pg.cell 2
 go_wp2_with fail
 clear d2
 go_loopg [21,3] p.es.length (fun kx i b wr=>∃(k:Nat) (acc:List UInt8),k≤p.es.length∧p.es.length-k≤kx∧i=.int .i64 (k:Int)∧b=.slice (some ⟨w.heap.size+1,0,none⟩) acc.length 512∧Hid (acc=hd++entsB (p.es.take k))∧Hid (ScAt w wr at_ p (.slice ea p.es.length ec) (.slice ka p.ks.length kc) acc))
 case atStart=>exact⟨0,hd,Nat.zero_le _,by omega,rfl,by first|rfl|rw[hhl],by unfold Hid;rw[List.take_zero,entsB,List.append_nil],HA4⟩
 case round =>
  clear HA4
  obtain⟨k,acc,hk,hkx,rfl,rfl,HAc,HA⟩:=hrel
  by_cases hlt:k<p.es.length
  ·have hlt':(k:Int)<(p.es.length:Int):=by omega
   obtain⟨x,hx⟩:∃x,L[k]?=some x:=⟨_,List.getElem?_eq_getElem (by omega)⟩
   have hxm:=List.mem_of_getElem? hx
   obtain⟨hn1,hn2⟩:=HE.out x hxm
   have hxe:p.es.getD k et0=x.1:=by rw[←HEs.out];exact getD_map L k x hx
   have HIx:Hid (∀W,Below w.heap.size w W→IsB W x.2.a x.1.k.length x.2.c x.1.k∧IsB W x.2.b x.1.v.length x.2.d x.1.v):=fun W hW=>⟨((HPg.out W hW).e.is x hxm).is.k,((HPg.out W hW).e.is x hxm).is.v⟩
   have hR1:=(HPg.out wr HA.out.low).e
   obtain⟨-,-,g,off,hae,d0,d1,-⟩:=hR1.at_ k x hx
   subst hae
   have HFt:Hid (acc.length+(2+x.1.k.length+x.1.v.length)≤512∧hd++entsB (p.es.take (k+1))=acc++[UInt8.ofNat x.1.k.length,UInt8.ofNat x.1.v.length]++x.1.k++x.1.v):=by
    constructor
    ·have h1:=szL_take_succ hlt
     have h2:=szL_take_le p.es (k+1)
     have h3:=HSz.out
     rw[hxe] at h1
     unfold szE at h1
     rw[HAc.out,List.length_append,entsB_length,hhl]
     omega
    ·rw[entsB_take_succ hlt,hxe,HAc.out]
     simp only[List.append_assoc]
   have hw1:IntKind.u8.wrap (x.1.k.length:Int)=(x.1.k.length:Int):=wrap8_nat _ (by omega)
   have hw2:IntKind.u8.wrap (x.1.v.length:Int)=(x.1.v.length:Int):=wrap8_nat _ (by omega)
   have HBv:=bv2 x.1.k.length x.1.v.length (by omega) (by omega)
   have HAl:=mkHid (HA.out.on ((Below.refl _ wr).alloc (Nat.le_refl _) (.cells #[.slice x.2.a x.1.k.length x.2.c,.slice x.2.b x.1.v.length x.2.d] 64)))
   have KE:Hid (Blk (wr.alloc (.cells #[.slice x.2.a x.1.k.length x.2.c,.slice x.2.b x.1.v.length x.2.d] 64)) wr.heap.size 64 [.slice x.2.a x.1.k.length x.2.c,.slice x.2.b x.1.v.length x.2.d]):=Blk.new wr _ _
   have hBe:w.heap.size+1<wr.heap.size:=HA.out.row.2.lt
   have e0:=KE.out.cell 0
   have e1:=KE.out.cell 1
   simp only[gZ0,gZ1] at e0 e1
   clear hR1 hxm hx hxe HA
   generalize x.1.k=xk at *
   generalize x.1.v=xv at *
   generalize x.2.a=qa at *
   generalize x.2.b=qb at *
   generalize x.2.c=qc at *
   generalize x.2.d=qd at *
   have HW1s:(wr.alloc (.cells #[.slice qa xk.length qc,.slice qb xv.length qd] 64)).heap.size=wr.heap.size+1:=by simp
   have HI2:Hid (IsB ((wr.alloc (.cells #[.slice qa xk.length qc,.slice qb xv.length qd] 64)).alloc (.cells #[.int .u8 (xk.length:Int),.int .u8 (xv.length:Int)] 5)) (some ⟨wr.heap.size+1,0,none⟩) 2 2 [UInt8.ofNat xk.length,UInt8.ofNat xv.length]):=by
    have:=isB_made (w:=wr.alloc (.cells #[.slice qa xk.length qc,.slice qb xv.length qd] 64)) (cs:=#[.int .u8 (xk.length:Int),.int .u8 (xv.length:Int)]) (l:=[UInt8.ofNat xk.length,UInt8.ofNat xv.length]) HBv (by simp)
    rw[HW1s] at this
    exact this
   have hA2a:=(Below.refl _ (wr.alloc (.cells #[.slice qa xk.length qc,.slice qb xv.length qd] 64))).alloc (Nat.le_refl _) (.cells #[.int .u8 (xk.length:Int),.int .u8 (xv.length:Int)] 5)
   obtain⟨Y3,hr3,hA3,hg3⟩:=(HAl.out.on hA2a).app HI2.out (by have:=HFt.out.1;simp;omega) 33
   have KE3:Hid (Blk Y3 wr.heap.size 64 [.slice qa xk.length qc,.slice qb xv.length qd]):=(hg3.block wr.heap.size (KE.out.on hA2a).lt (fun e=>by have:=Option.some.inj e;omega)).trans (KE.out.on hA2a)
   obtain⟨Y4,hr4,hA4,hg4⟩:=hA3.app (HIx.out Y3 hA3.low).1 (by have:=HFt.out.1;simp;omega) 33
   have KE4:Hid (Blk Y4 wr.heap.size 64 [.slice qa xk.length qc,.slice qb xv.length qd]):=(hg4.block wr.heap.size KE3.out.lt (fun e=>by have:=Option.some.inj e;omega)).trans KE3.out
   obtain⟨Y5,hr5,hA5,hg5⟩:=hA4.app (HIx.out Y4 hA4.low).2 (by have:=HFt.out.1;simp;omega) 33
   have c3:Y3.cell? ⟨wr.heap.size,0,none⟩=some (.slice qa xk.length qc):=KE3.out.cell 0
   have c4:Y4.cell? ⟨wr.heap.size,1,none⟩=some (.slice qb xv.length qd):=KE4.out.cell 1
   have HA5:=mkHid hA5
   rw[←HFt.out.2] at HA5
   have hl5:(acc++[UInt8.ofNat xk.length,UInt8.ofNat xv.length]++xk++xv).length=(hd++entsB (p.es.take (k+1))).length:=by rw[HFt.out.2]
   rw[hl5] at hr5
   clear hA3 hA4 hA5 hg3 hg4 hg5 KE KE3 KE4 HI2 HIx HAl HBv hA2a HW1s hl5
   generalize hl3:(acc++[UInt8.ofNat xk.length,UInt8.ofNat xv.length]).length=n3 at *
   generalize hl4:(acc++[UInt8.ofNat xk.length,UInt8.ofNat xv.length]++xk).length=n4 at *
   have HFn:=mkHid HFt.out.1
   have HR3:=mkHid hr3
   have HR4:=mkHid hr4
   have HR5:=mkHid hr5
   clear hl3 hl4 HFt hr3 hr4 hr5
   go_wp2_with (first|(at_builtin;refine list_app_run _ rfl _ _ 33 33 33 rfl rfl _ _ rfl rfl HR3.out ?_;clear HR3)|(at_builtin;refine list_app_run _ rfl _ _ 33 33 33 rfl rfl _ _ rfl rfl HR4.out ?_;clear HR4)|(at_builtin;refine list_app_run _ rfl _ _ 33 33 33 rfl rfl _ _ rfl rfl HR5.out ?_;clear HR5))
   go_roundg (p.es.length-(k+1))
   case measure=>omega
   case rel=>exact⟨k+1,hd++entsB (p.es.take (k+1)),by omega,Nat.le_refl _,by go_num,by rw[List.length_append,hhl],rfl,HA5⟩
  ·have hlt':¬(k:Int)<(p.es.length:Int):=by omega
   have HAc2:Hid (acc=hd++entsB p.es):=by unfold Hid;rw[HAc.out,show k=p.es.length by omega,List.take_length]
   have d3:wr.cell? ⟨w.heap.size,3,none⟩=some (.slice ka p.ks.length kc):=HA.out.pg.cell 3
   go_wp2_with fail
   clear d3 HAc
   go_loopg [48,3] p.ks.length (fun kx i b wr=>∃(k:Nat) (acc:List UInt8),k≤p.ks.length∧p.ks.length-k≤kx∧i=.int .i64 (k:Int)∧b=.slice (some ⟨w.heap.size+1,0,none⟩) acc.length 512∧Hid (acc=hd++entsB p.es++kidsB (p.ks.take k))∧Hid (ScAt w wr at_ p (.slice ea p.es.length ec) (.slice ka p.ks.length kc) acc))
   case atStart=>exact⟨0,acc,Nat.zero_le _,by omega,rfl,rfl,by unfold Hid;rw[HAc2.out,List.take_zero,kidsB,List.append_nil],HA⟩
   case round =>
    clear HA HAc2
    obtain⟨q,ac,hq,hqx,rfl,rfl,HAc,HA⟩:=hrel
    by_cases hlt:q<p.ks.length
    ·have hlt':(q:Int)<(p.ks.length:Int):=by omega
     obtain⟨-,g,off,hae,d0⟩:=(HPg.out wr HA.out.low).k.at_ q hlt
     subst hae
     have hze:p.ks.getD q 0=p.ks[q]:=by simp[hlt]
     have hz:=HKs.out p.ks[q] (List.getElem_mem hlt)
     have HFt:Hid (ac.length+2≤512∧hd++entsB p.es++kidsB (p.ks.take (q+1))=ac++[UInt8.ofNat (p.ks[q]/256),UInt8.ofNat (p.ks[q]%256)]):=by
      constructor
      ·have h3:=HSz.out
       rw[HAc.out,List.length_append,List.length_append,entsB_length,kidsB_length,hhl,List.length_take]
       omega
      ·rw[kidsB_take_succ hlt,hze,HAc.out]
       simp only[List.append_assoc]
     generalize p.ks[q]=z at *
     obtain⟨za,hza⟩:∃za,z/256=za:=⟨_,rfl⟩
     obtain⟨zb,hzb⟩:∃zb,z%256=zb:=⟨_,rfl⟩
     rw[hza,hzb] at HFt
     have hsa:(z:Int)/256=(za:Int):=by omega
     have hwa:IntKind.i64.wrap (za:Int)=(za:Int):=wrapi64_in _ (by omega) (by omega)
     have hw1:IntKind.u8.wrap (za:Int)=(za:Int):=wrap8_nat _ (by omega)
     have hw2:IntKind.u8.wrap (z:Int)=(zb:Int):=by rw[wrap8_mod];omega
     have HBv:=bv2 za zb (by omega) (by omega)
     have HI2:Hid (IsB (wr.alloc (.cells #[.int .u8 (za:Int),.int .u8 (zb:Int)] 5)) (some ⟨wr.heap.size,0,none⟩) 2 2 [UInt8.ofNat za,UInt8.ofNat zb]):=isB_made (w:=wr) (cs:=#[.int .u8 (za:Int),.int .u8 (zb:Int)]) (l:=[UInt8.ofNat za,UInt8.ofNat zb]) HBv (by simp)
     obtain⟨Y3,hr3,hA3,-⟩:=(HA.out.on ((Below.refl _ wr).alloc (Nat.le_refl _) (.cells #[.int .u8 (za:Int),.int .u8 (zb:Int)] 5))).app HI2.out (by have:=HFt.out.1;simp;omega) 33
     have HA3:=mkHid hA3
     have hl3:(ac++[UInt8.ofNat za,UInt8.ofNat zb]).length=(hd++entsB p.es++kidsB (p.ks.take (q+1))).length:=by rw[HFt.out.2]
     rw[←HFt.out.2] at HA3
     rw[hl3] at hr3
     generalize hn3:(hd++entsB p.es++kidsB (p.ks.take (q+1))).length=n3 at hr3
     have HN3:=mkHid hn3
     have HR3:=mkHid hr3
     clear hl3 hr3 hA3 HI2 HBv hza hzb HFt hn3 HA hze hz
     go_wp2_with (at_builtin;refine list_app_run _ rfl _ _ 33 33 33 rfl rfl _ _ rfl rfl HR3.out ?_;clear HR3)
     go_roundg (p.ks.length-(q+1))
     case measure=>omega
     case rel=>exact⟨q+1,hd++entsB p.es++kidsB (p.ks.take (q+1)),by omega,Nat.le_refl _,by go_num,by rw[HN3.out],rfl,HA3⟩
    ·have hlt':¬(q:Int)<(p.ks.length:Int):=by omega
     have HFin:Hid (pad512 ac=pgB p):=by
      unfold Hid pgB
      rw[HAc.out,show q=p.ks.length by omega,List.take_length,←HHd.out,HNN.out]
      simp
     have hle:=HA.out.row.1
     have hsl:=fun W=>slH .i64 (w.heap.size+1) 0 ac.length 512 512 (by omega) W
     simp only[Int.cast_ofNat_Int] at hsl
     go_wp2_with fail
     go_ret
     refine⟨⟨_,rfl,w.heap.size+1,rfl,?_,pad512_len _⟩,HA.out.low⟩
     rw[←HFin.out]
     exact HA.out.row.2
end
section
open Go.RowKit
variable {fl:Nat}
structure PgS (p:Pg):Prop where
 f:PgF p
 n:p.es.length+p.ks.length≤254
 sz:szL p.es+2 * p.ks.length≤509
 k:∀i∈p.ks,i<65536
 e:∀e∈p.es,e.k.length≤255∧e.v.length≤255
theorem KS.ue {base:Nat}{w w':World}(h:KS base w w')(hle:fl≤base):KeepU fl UE w w':=KeepU.ofB (h.o.less (by decide)) h.b hle
abbrev T13:List TypeId:=[30,4,133,64,87,144,50,215,3,33]
theorem SpAx.keep13 {w w':World}{S J P base:Nat}{t:Tl}{j:Jl}(h:SpAx w S J P base t j)(hk:KeepT T13 w w'):SpAx w' S J P base t j:=by
 obtain⟨T,g,c,h⟩:=h
 obtain⟨M,tr,ht⟩:=h.ta
 exact⟨T,g,c,⟨M,tr,⟨hk.blk ht.ja.blk (by decide),ht.ja.low,ht.ja.d.keep hk (by decide) (by decide) (by decide),ht.ja.seq⟩,hk.blk ht.blk (by decide),ht.low,ht.lowM,ownM_keep ht.own hk,ht.sort,ht.ok,ht.over⟩,hk.blk h.blk (by decide),h.low,own_keepO (KeepO.ofT (us:=[5]) hk (by decide)) h.own (by decide)⟩
theorem KeepT.grown1 {ts:List TypeId}{w w':World}{B ty:Nat}{cs:List Value}(hB:Blk w B ty cs)(ht:ty∈ts)(hg:w.grownBy w' (some B)):KeepT ts w w' :=
 ⟨hg.size,fun k o hk hno=>(hg.block k (Array.getElem?_eq_some_iff.1 hk).1 (fun e=>by
  have e2:=Option.some.inj e
  subst e2
  unfold Blk at hB
  rw[hk] at hB
  exact hno _ _ _ (Option.some.inj hB) ht)).trans hk⟩
theorem KS.mid {base:Nat}{w a b c:World}{B:Nat}(h1:KS base w a)(hg:a.grownBy b (some B))(hB:w.heap.size≤B)(hlo:base≤w.heap.size)(h3:KS base b c):KS base w c :=
 ⟨⟨Nat.le_trans h1.o.size (Nat.le_trans hg.size h3.o.size),fun k x t fz hk ht=>by
   have h4:=h1.o.same k x t fz hk ht
   have hkl:=(Array.getElem?_eq_some_iff.1 hk).1
   exact h3.o.same k x t fz ((hg.block k (Array.getElem?_eq_some_iff.1 h4).1 (fun e=>by have:=Option.some.inj e;omega)).trans h4) ht,
  fun k o hk ho=>by
   have h4:=h1.o.ctl k o hk ho
   have hkl:=(Array.getElem?_eq_some_iff.1 hk).1
   exact h3.o.ctl k o ((hg.block k (Array.getElem?_eq_some_iff.1 h4).1 (fun e=>by have:=Option.some.inj e;omega)).trans h4) ho⟩,
  (h1.b.grown hg (Nat.le_trans hlo h1.o.size) (fun k e=>by have:=Option.some.inj e;omega)).trans h3.b⟩
theorem pgB_len (p:Pg):(pgB p).length=512:=pad512_len _
theorem pgWrite (w:World)(S J P base m:Nat)(t:Tl)(j:Jl)(s:Nat)(p:Pg)(ve vk:Value)(L:List Eq3)(h:SpAx w S J P base t j)(hf:Fit t j m)(hp:PgR fl w p ve vk L)(hs:PgS p)(hsn:s≤4096)(hz:spWrE t j (s:Int) (pgB p)=0):
  Calls Tryz.prog 100 #[gT S,.agg (pgc (s:Int) p.lv ve vk).toArray] w fun e w'=>e=.returned (.tuple #[])∧SpAx w' S J P base (spWr t j (s:Int) (pgB p)) j∧KS base w w':=by
 have hlo:=spcOK.lo h
 unfold gT
 obtain⟨ea,ec,ka,kc,rfl,rfl⟩:=hp.forms
 have W1:Below w.heap.size w ((w.alloc (.cells #[.pointer (some ⟨S,0,none⟩)] 87)).alloc (.cells #[.int .i64 (s:Int),.int .i64 (p.lv:Int),.slice ea p.es.length ec,.slice ka p.ks.length kc] 133)):=((Below.refl _ w).alloc (Nat.le_refl _) _).alloc (by simp) _
 have k0:Blk ((w.alloc (.cells #[.pointer (some ⟨S,0,none⟩)] 87)).alloc (.cells #[.int .i64 (s:Int),.int .i64 (p.lv:Int),.slice ea p.es.length ec,.slice ka p.ks.length kc] 133)) w.heap.size 87 [.pointer (some ⟨S,0,none⟩)]:=(Blk.newAt w w.heap.size 87 #[.pointer (some ⟨S,0,none⟩)] [.pointer (some ⟨S,0,none⟩)] rfl rfl).alloc _
 have k1:Blk ((w.alloc (.cells #[.pointer (some ⟨S,0,none⟩)] 87)).alloc (.cells #[.int .i64 (s:Int),.int .i64 (p.lv:Int),.slice ea p.es.length ec,.slice ka p.ks.length kc] 133)) (w.heap.size+1) 133 [.int .i64 (s:Int),.int .i64 (p.lv:Int),.slice ea p.es.length ec,.slice ka p.ks.length kc]:=Blk.newAt _ (w.heap.size+1) 133 _ _ (by simp) rfl
 generalize hW:(w.alloc (.cells #[.pointer (some ⟨S,0,none⟩)] 87)).alloc (.cells #[.int .i64 (s:Int),.int .i64 (p.lv:Int),.slice ea p.es.length ec,.slice ka p.ks.length kc] 133)=Y0 at *
 have HCt:Hid (∀W,KS base Y0 W→W.cell? ⟨w.heap.size,0,none⟩=some (.pointer (some ⟨S,0,none⟩))∧W.cell? ⟨w.heap.size+1,0,none⟩=some (.int .i64 (s:Int))∧W.cell? ⟨w.heap.size+1,1,none⟩=some (.int .i64 (p.lv:Int))∧W.cell? ⟨w.heap.size+1,2,none⟩=some (.slice ea p.es.length ec)∧W.cell? ⟨w.heap.size+1,3,none⟩=some (.slice ka p.ks.length kc)):=fun W hW=>⟨(hW.o.blk k0 (by decide)).cell 0,(hW.o.blk k1 (by decide)).cell 0,(hW.o.blk k1 (by decide)).cell 1,(hW.o.blk k1 (by decide)).cell 2,(hW.o.blk k1 (by decide)).cell 3⟩
 have hD:Below Y0.heap.size Y0 Y0.drew:=Below.drew (Below.refl _ Y0)
 have HSe:=codSector (s:Int) p _ _ L Y0.drew ((hp.below W1).below hD) hs.f hs.n hs.sz hs.k hs.e
 have HK0:Hid (KS base w Y0.drew∧KS base Y0 Y0.drew):=⟨KS.of_below (W1.trans (hD.mono W1.size)) hlo,KS.of_below hD (Nat.le_trans hlo W1.size)⟩
 have HWr:Hid (∀W v,Below Y0.drew.heap.size Y0.drew W→SecU W v (pgB p)→Calls Tryz.prog 33 #[.pointer (some ⟨S,0,none⟩),.int .i64 (s:Int),v] W fun e w'=>e=.returned (.int .i64 0)∧SpAx w' S J P base (spWr t j (s:Int) (pgB p)) j∧KS base W w'):=fun W v hWb hv=>by
  obtain⟨g,rfl,hB⟩:=hv.isB
  have:=codSWrite W S J P base m t j (s:Int) (some ⟨g,0,none⟩) 512 (pgB p) (SpAx.keep h (KeepT.of_below (W1.trans ((hD.trans (hWb.mono hD.size)).mono W1.size)))) hf (by omega) (by omega) (by rw[pgB_len];omega) (fun W2 h2 _=>hB W2 h2)
  rw[hz] at this
  exact this
 have HLo:Hid (base≤Y0.drew.heap.size):=Nat.le_trans hlo W1.size
 have HNy:=needYes13 0
 have HSeU:=mkHid HSe
 clear hp hs h hf k0 k1 W1 hz hD HSe
 unfold pgc at *
 go_enter Tryz.func100,Tryz.ntmps100
 go_wp2_with fail
 refine lk0 (fun W=>W.cell? ⟨w.heap.size,0,none⟩=some (.pointer (some ⟨S,0,none⟩))∧W.cell? ⟨w.heap.size+1,0,none⟩=some (.int .i64 (s:Int))∧W.cell? ⟨w.heap.size+1,1,none⟩=some (.int .i64 (p.lv:Int))∧W.cell? ⟨w.heap.size+1,2,none⟩=some (.slice ea p.es.length ec)∧W.cell? ⟨w.heap.size+1,3,none⟩=some (.slice ka p.ks.length kc)) 7 (HCt.out _ HK0.out.2) (fun hHeld=>?_)
 generalize hY1:Y0.drew=Y1 at *
 refine lkT 5 0 ?_ rfl (Or.inl ⟨by rfl,?_⟩) hHeld ?_
 rotate_left
 ·intro w hSw;obtain⟨s0,s1,s2,s3,s4⟩:=hSw;go_simp;with_reducible rfl
 (try simp only[Act.put,sIx,sZ0,sZ1])
 refine lkT 6 1 (.pointer (some ⟨S,0,none⟩)) rfl (Or.inl ⟨by rfl,?_⟩) hHeld ?_
 ·intro w hSw;obtain⟨s0,s1,s2,s3,s4⟩:=hSw;go_simp
 (try simp only[Act.put,sIx,sZ0,sZ1])
 refine lkT 7 2 ?_ rfl (Or.inl ⟨by rfl,?_⟩) hHeld ?_
 rotate_left
 ·intro w hSw;obtain⟨s0,s1,s2,s3,s4⟩:=hSw;go_simp;with_reducible rfl
 (try simp only[Act.put,sIx,sZ0,sZ1])
 refine lkT 8 3 (.int .i64 (s:Int)) rfl (Or.inl ⟨by rfl,?_⟩) hHeld ?_
 ·intro w hSw;obtain⟨s0,s1,s2,s3,s4⟩:=hSw;go_simp
 (try simp only[Act.put,sIx,sZ0,sZ1])
 refine lkT 9 4 (.agg #[.int .i64 (s:Int),.int .i64 (p.lv:Int),.slice ea p.es.length ec,.slice ka p.ks.length kc]) rfl (Or.inl ⟨by rfl,?_⟩) hHeld ?_
 ·intro w hSw;obtain⟨s0,s1,s2,s3,s4⟩:=hSw;go_simp
 (try simp only[Act.put,sIx,sZ0,sZ1])
 refine lk1 5 rfl (fun K hK=>?_)
 go_simp
 go_wp2_with (go_at_call 139;refine HSeU.out.mono ?_;rintro e y2 ⟨⟨v2,rfl,hv2⟩,hb2⟩)
 have HK2:Hid (KS base Y1 y2):=KS.of_below hb2 HLo.out
 have HWy:=HWr.out y2 v2 hb2 hv2
 refine hK.out _ _ (HCt.out _ (HK0.out.2.trans HK2.out)) (fun hHeld=>?_)
 (try simp only[Act.put,sIx,sZ0,sZ1])
 clear hK K HSeU
 refine lk1 6 rfl (fun K hK=>?_)
 go_simp
 go_wp2_with (go_at_call 33;refine HWy.mono ?_;rintro e y3 ⟨rfl,hA3,hk3⟩)
 have HK3:=mkHid hk3
 have HA3:=mkHid hA3
 refine hK.out _ _ (HCt.out _ ((HK0.out.2.trans HK2.out).trans HK3.out)) (fun hHeld=>?_)
 (try simp only[Act.put,sIx,sZ0,sZ1])
 clear hK K HWy
 refine lkZ rfl (fun K hK=>?_)
 go_simp
 refine hK.out _ _ ?_
 simp only[Exit.then]
 (try simp only[Act.put,sIx,sZ0,sZ1])
 clear hK K hHeld
 go_wp2_with (go_at_call 99;refine(HNy _).mono ?_;rintro x w2 ⟨rfl,hww⟩;rw[hww];clear hww w2)
 go_end0
 exact⟨rfl,HA3.out,(HK0.out.1.trans HK2.out).trans HK3.out⟩
theorem pgAdd (w:World)(S J P base m:Nat)(t:Tl)(j:Jl)(at_:Int)(p:Pg)(ve vk:Value)(L:List Eq3)(h:SpAx w S J P base t j)(hf:Fit t j m)(hp:PgR fl w p ve vk L)(hs:PgS p)(hE:tkE t j=0)(hF:Fit (tkT t j) j m)(hn:tkV t j<j.p.n)(hz:spWrE (tkT t j) j (tkV t j:Int) (pgB p)=0)(hfl:fl≤base:=by omega):
  Calls Tryz.prog 66 #[gT S,.agg (pgc at_ p.lv ve vk).toArray] w fun e w'=>e=.returned (.int .i64 (tkV t j:Int))∧SpAx w' S J P base (addT t j (pgB p)) j∧KS base w w':=by
 have hlo:=spcOK.lo h
 have hn2:=hf.few.n
 obtain⟨ea,ec,ka,kc,rfl,rfl⟩:=hp.forms
 unfold gT addT
 have W1:Below w.heap.size w ((w.alloc (.cells #[.pointer (some ⟨S,0,none⟩)] 87)).alloc (.cells #[.int .i64 at_,.int .i64 (p.lv:Int),.slice ea p.es.length ec,.slice ka p.ks.length kc] 133)):=((Below.refl _ w).alloc (Nat.le_refl _) _).alloc (by simp) _
 have k0:Blk ((w.alloc (.cells #[.pointer (some ⟨S,0,none⟩)] 87)).alloc (.cells #[.int .i64 at_,.int .i64 (p.lv:Int),.slice ea p.es.length ec,.slice ka p.ks.length kc] 133)) w.heap.size 87 [.pointer (some ⟨S,0,none⟩)]:=(Blk.newAt w w.heap.size 87 #[.pointer (some ⟨S,0,none⟩)] [.pointer (some ⟨S,0,none⟩)] rfl rfl).alloc _
 have k1:Blk ((w.alloc (.cells #[.pointer (some ⟨S,0,none⟩)] 87)).alloc (.cells #[.int .i64 at_,.int .i64 (p.lv:Int),.slice ea p.es.length ec,.slice ka p.ks.length kc] 133)) (w.heap.size+1) 133 [.int .i64 at_,.int .i64 (p.lv:Int),.slice ea p.es.length ec,.slice ka p.ks.length kc]:=Blk.newAt _ (w.heap.size+1) 133 _ _ (by simp) rfl
 have HG:=codTake _ S J P base m t j (SpAx.keep h (KeepT.of_below W1)) hf
 rw[hE] at HG
 have c0:=k0.cell 0
 simp only[List.getElem?_cons_zero] at c0
 have HK1:Hid (KS base w ((w.alloc (.cells #[.pointer (some ⟨S,0,none⟩)] 87)).alloc (.cells #[.int .i64 at_,.int .i64 (p.lv:Int),.slice ea p.es.length ec,.slice ka p.ks.length kc] 133))):=KS.of_below W1 hlo
 have HB0:=mkHid k0
 have HB1:=mkHid k1
 have HPr:=mkHid (hp.below W1)
 have HNy:=needYes13 0
 have hne:w.heap.size≠w.heap.size+1:=by omega
 have HWr:Hid (∀W,SpAx W S J P base (tkT t j) j→PgR fl W p (.slice ea p.es.length ec) (.slice ka p.ks.length kc) L→Calls Tryz.prog 100 #[.agg #[.pointer (some ⟨S,0,none⟩)],.agg #[.int .i64 (tkV t j:Int),.int .i64 (p.lv:Int),.slice ea p.es.length ec,.slice ka p.ks.length kc]] W fun e w'=>e=.returned (.tuple #[])∧SpAx w' S J P base (spWr (tkT t j) j (tkV t j:Int) (pgB p)) j∧KS base W w'):=fun W h1 h2=>pgWrite W S J P base m (tkT t j) j (tkV t j) p _ _ L h1 hF h2 hs (by omega) hz
 unfold pgc at *
 clear h hf k0 k1 W1 hz hs hp hF hE
 generalize tkV t j=sv at *
 generalize spWr (tkT t j) j (sv:Int) (pgB p)=tn at *
 generalize tkT t j=tt at *
 go_enter Tryz.func66,Tryz.ntmps66
 go_wp2_with fail
 refine HG.mono ?_
 rintro e y1 ⟨rfl,hA1,hk1⟩
 have HA1:=mkHid hA1
 have HKy:=mkHid hk1
 have HBy0:=mkHid (hk1.o.blk HB0.out (by decide))
 have HBy1:=mkHid (hk1.o.blk HB1.out (by decide))
 have HPy:=mkHid (HPr.out.keep (hk1.ue hfl))
 have d0:=HBy1.out.cell 0
 simp only[List.getElem?_cons_zero] at d0
 have f0:=HBy1.out.frozen 0
 have hg:=grown_set y1 (w.heap.size+1) 0 (.int .i64 (sv:Int))
 have HBz1:=mkHid (HBy1.out.set 0 (.int .i64 (sv:Int)))
 have HBz0:=mkHid (HBy0.out.other ⟨w.heap.size+1,0,none⟩ (.int .i64 (sv:Int)) hne)
 have HPz:=mkHid (HPy.out.keep (KeepU.grown1 HBy1.out (by decide) hg (by omega)))
 have HAz:=mkHid (SpAx.keep13 HA1.out (KeepT.grown1 HBy1.out (by decide) hg))
 clear HG hA1 hk1 hg
 have z0:=HBz0.out.cell 0
 have z1:=HBz1.out.cell 0
 have z2:=HBz1.out.cell 1
 have z3:=HBz1.out.cell 2
 have z4:=HBz1.out.cell 3
 simp only[gZ0,gZ1,List.set_cons_zero] at z0 z1 z2 z3 z4
 have HWz:=HWr.out _ HAz.out HPz.out
 go_wp2_with (go_at_call 99;refine(HNy _).mono ?_;rintro x w2 ⟨rfl,hww⟩;rw[hww];clear hww w2)
 refine HWz.mono ?_
 rintro e y3 ⟨rfl,hA3,hk3⟩
 go_wp2_with fail
 go_ret
 exact⟨rfl,hA3,KS.mid (HK1.out.trans HKy.out) (grown_set y1 (w.heap.size+1) 0 _) (by omega) hlo hk3⟩
end
section
open Go.RowKit
variable {fl:Nat}
theorem pgFirst (w:World)(S:Nat)(at_:Int)(ve vk:Value)(L:List Eq3)(x:Eq3)(hr:RdN fl w ve L)(hx:L[0]?=some x):
  Calls Tryz.prog 112 #[gT S,.agg (pgc at_ 0 ve vk).toArray] w fun e w'=>e=.returned (.slice x.2.a x.1.k.length x.2.c)∧Below w.heap.size w w':=by
 unfold gT
 obtain⟨a,cap,rfl,hc,_⟩:=hr.form
 have W1:Below w.heap.size w ((w.alloc (.cells #[.pointer (some ⟨S,0,none⟩)] 87)).alloc (.cells (pgc at_ 0 (.slice a L.length cap) vk).toArray 133)):=((Below.refl _ w).alloc (Nat.le_refl _) _).alloc (by simp) _
 have k1:Blk ((w.alloc (.cells #[.pointer (some ⟨S,0,none⟩)] 87)).alloc (.cells (pgc at_ 0 (.slice a L.length cap) vk).toArray 133)) (w.heap.size+1) 133 (pgc at_ 0 (.slice a L.length cap) vk):=Blk.newAt _ (w.heap.size+1) 133 _ _ (by simp) rfl
 obtain⟨-,h0,g,off,rfl,d0,-,-⟩:=(hr.keep (KeepU.of_below W1)).at_ 0 x hx
 unfold pgc at *
 have c1:=k1.cell 1
 have c2:=k1.cell 2
 simp only[gZ0,gZ1] at c1 c2
 have HW1:=mkHid W1
 have hn:(0:Int)<(L.length:Int):=by omega
 clear k1 W1 hr hx
 simp only[Int.natCast_zero,Nat.zero_mul,Nat.add_zero] at *
 generalize x.2.a=qa at *
 generalize x.2.c=qc at *
 generalize x.1.k.length=n1 at *
 generalize L.length=n at *
 go_enter Tryz.func112,Tryz.ntmps112
 go_wp2_with fail
 go_loopg [7] 1 (fun _ _ wr=>wr=((w.alloc (.cells #[.pointer (some ⟨S,0,none⟩)] 87)).alloc (.cells #[.int .i64 at_,.int .i64 0,.slice (some ⟨g,off,none⟩) n cap,vk] 133)))
 case atStart=>rfl
 case round =>
  subst hrel
  go_wp2_with fail
  go_ret
  exact⟨rfl,HW1.out⟩
theorem codSearch (w:World)(n:Nat)(f:Nat)(cap:Array Value)(c:Nat→Bool)(hn:n≤1000000)(hcl:∀W k,Below w.heap.size w W→k<n→Calls Tryz.prog f (#[.int .i64 ((k:Nat):Int)]++cap) W fun e w'=>e=.returned (.bool (c k))∧Below W.heap.size W w')(hf:∀args w,(callFunc f args).run Tryz.prog w=.ok (.enter f args) w):
  Calls Tryz.prog 109 #[.int .i64 (n:Int),.func (.func f) #[] cap] w fun e w'=>(∃i:Nat,e=.returned (.int .i64 (i:Int))∧i≤n∧(0<i→c (i-1)=false)∧(i<n→c i=true))∧Below w.heap.size w w':=by
 have HC:Hid (∀W k,Below w.heap.size w W→k<n→Calls Tryz.prog f (#[.int .i64 ((k:Nat):Int)]++cap) W fun e w'=>e=.returned (.bool (c k))∧Below W.heap.size W w'):=hcl
 clear hcl
 go_enter Tryz.func109,Tryz.ntmps109
 go_wp2
 go_loopg [5,6] n (fun kx s5 s6 wr=>∃lo hi:Nat,s5=.int .i64 (lo:Int)∧s6=.int .i64 (hi:Int)∧lo≤hi∧hi≤n∧hi-lo≤kx∧Hid (Below w.heap.size w wr)∧Hid (0<lo→c (lo-1)=false)∧Hid (hi<n→c hi=true))
 case atStart=>exact⟨0,n,rfl,rfl,Nat.zero_le _,Nat.le_refl _,by omega,Below.refl _ _,fun h=>absurd h (Nat.lt_irrefl 0),fun h=>absurd h (Nat.lt_irrefl _)⟩
 case round =>
  obtain⟨lo,hi,rfl,rfl,hlh,hin,hg,HB,HI,HJ⟩:=hrel
  by_cases hlt:lo<hi
  ·have HCk:=HC.out wr ((lo+hi)/2) HB.out (by omega)
   rw[show (((lo+hi)/2:Nat):Int)=((lo:Int)+(hi:Int))/2 by omega] at HCk
   generalize hck:c ((lo+hi)/2)=b at HCk
   have HCb:=mkHid hck
   clear hck
   cases b with
   | false =>
    go_wp2_with (go_at_fn f;refine HCk.mono ?_;rintro e w' ⟨rfl,hb1⟩)
    go_roundg (hi-((lo+hi)/2+1))
    case measure=>omega
    case rel=>exact⟨(lo+hi)/2+1,hi,by rw[show ((lo:Int)+(hi:Int))/2+1=(((lo+hi)/2+1:Nat):Int) by omega],rfl,by omega,hin,Nat.le_refl _,HB.out.trans (hb1.mono HB.out.size),fun _=>by rw[Nat.add_sub_cancel];exact HCb.out,HJ⟩
   | true =>
    go_wp2_with (go_at_fn f;refine HCk.mono ?_;rintro e w' ⟨rfl,hb1⟩)
    go_roundg ((lo+hi)/2-lo)
    case measure=>omega
    case rel=>exact⟨lo,(lo+hi)/2,rfl,by rw[show ((lo:Int)+(hi:Int))/2=(((lo+hi)/2:Nat):Int) by omega],by omega,by omega,Nat.le_refl _,HB.out.trans (hb1.mono HB.out.size),HI,fun _=>HCb.out⟩
  ·obtain rfl:hi=lo:=by omega
   go_wp2
   go_ret
   exact⟨⟨hi,rfl,hin,HI.out,HJ.out⟩,HB.out⟩
end
section
open Go.RowKit
def KidL (t:Tl)(j:Jl)(ks:List Nat)(lf:Nat→List Et):Prop:=∀i s,ks[i]?=some s→51≤s∧s<j.p.n∧pgOf (spRdB t j (s:Int))=some ⟨0,lf i,[]⟩∧lf i≠[]
theorem pgLess (w:World)(S J P base m G Pb Kb:Nat)(t:Tl)(j:Jl)(at_:Int)(ve vk:Value)(ks:List Nat)(lf:Nat→List Et)(ka:Option Addr)(kn kc:Nat)(key:List UInt8)(k k1:Nat)(hk1:k+1=k1)(h:SpAx w S J P base t j)(hf:Fit t j m)
  (hG:Blk w G 87 [.pointer (some ⟨S,0,none⟩)]) (hP:Blk w Pb 133 [.int .i64 at_,.int .i64 1,ve,vk]) (hK:Blk w Kb 33 [.slice ka kn kc]) (hz:RdZ w vk ks) (hve:∃a n c,ve=.slice a n c) (hkey:IsB w ka kn kc key) (hl:KidL t j ks lf) (hk:k1<ks.length) (hks:ks.length≤1000):
  Calls Tryz.prog 110 #[.int .i64 (k:Int),.pointer (some ⟨G,0,none⟩),.pointer (some ⟨Pb,0,none⟩),.pointer (some ⟨Kb,0,none⟩)] w fun e w'=>e=.returned (.bool (decide (0<Lib.compareBytes (fstK (lf k1)) key)))∧Below w.heap.size w w':=by
 obtain⟨s,hs⟩:∃s,ks[k1]?=some s:=⟨_,List.getElem?_eq_getElem hk⟩
 obtain⟨h51,hn,hpg,hne⟩:=hl _ s hs
 obtain⟨ea,en,ec,rfl⟩:=hve
 have hzz:=hz
 obtain⟨za,zc,rfl,_⟩:=hz
 have HD:Below w.heap.size w w.drew:=Below.drew (Below.refl _ w)
 have HCt:Hid (∀W,Below w.heap.size w W→W.cell? ⟨G,0,none⟩=some (.pointer (some ⟨S,0,none⟩))∧W.cell? ⟨Pb,0,none⟩=some (.int .i64 at_)∧W.cell? ⟨Pb,1,none⟩=some (.int .i64 1)∧W.cell? ⟨Pb,2,none⟩=some (.slice ea en ec)∧W.cell? ⟨Pb,3,none⟩=some (.slice za ks.length zc)∧W.cell? ⟨Kb,0,none⟩=some (.slice ka kn kc)):=fun W hW=>⟨(hG.on hW).cell 0,(hP.on hW).cell 0,(hP.on hW).cell 1,(hP.on hW).cell 2,(hP.on hW).cell 3,(hK.on hW).cell 0⟩
 have HKd:=pgKid w.drew S J P base m t j at_ 1 (.slice ea en ec) (.slice za ks.length zc) ks k1 s ⟨0,lf k1,[]⟩ (SpAx.keep h (KeepT.of_below HD)) hf (hzz.keep (KeepO.of_below HD)) hs h51 hn hpg rfl (by omega)
 have HFs:=fun W at2 ve2 vk2 L2 x (hr:RdN 0 W ve2 L2) (hx:L2[0]?=some x)=>pgFirst W S at2 ve2 vk2 L2 x hr hx
 have HKy:Hid (∀W,Below w.heap.size w W→IsB W ka kn kc key):=fun W hW=>hkey.below hW rfl
 have hw1:IntKind.i64.wrap ((k:Int)+1)=(k1:Int):=by rw[show (k:Int)+1=(k1:Int) by omega];exact wrapi64_in _ (by omega) (by omega)
 obtain⟨e0,l0,hle⟩:∃e0 l0,lf k1=e0::l0:=by cases hq:lf k1 with|nil=>exact absurd hq hne|cons a b=>exact⟨a,b,rfl⟩
 have HFk:Hid (fstK (lf k1)=e0.k):=by unfold Hid fstK;rw[hle];rfl
 unfold gT pgc at *
 simp only[Int.natCast_one] at HKd
 clear h hf hG hP hK hzz hkey hl hs hpg hne hk hk1
 generalize hrb:decide (0<Lib.compareBytes (fstK (lf k1)) key)=rb
 have HRb:Hid (decide (0<Lib.compareBytes e0.k key)=rb):=by unfold Hid;rw[←hrb,HFk.out]
 clear hrb HFk
 go_enter Tryz.func110,Tryz.ntmps110
 go_wp2_with fail
 refine lk0 (fun W=>W.cell? ⟨G,0,none⟩=some (.pointer (some ⟨S,0,none⟩))∧W.cell? ⟨Pb,0,none⟩=some (.int .i64 at_)∧W.cell? ⟨Pb,1,none⟩=some (.int .i64 1)∧W.cell? ⟨Pb,2,none⟩=some (.slice ea en ec)∧W.cell? ⟨Pb,3,none⟩=some (.slice za ks.length zc)∧W.cell? ⟨Kb,0,none⟩=some (.slice ka kn kc)) 10 (HCt.out _ HD) (fun hHeld=>?_)
 have HDh:=mkHid HD
 clear HD
 generalize w.drew=Y1 at *
 refine lkT 6 0 (.agg #[.pointer (some ⟨S,0,none⟩)]) rfl (Or.inl ⟨by rfl,?_⟩) hHeld ?_
 ·intro w hSw;obtain⟨s0,s1,s2,s3,s4,s5⟩:=hSw;go_simp
 (try simp only[Act.put,sIx,sZ0,sZ1])
 refine lkT 7 1 (.agg #[.pointer (some ⟨S,0,none⟩)]) rfl (Or.inl ⟨by rfl,?_⟩) hHeld ?_
 ·intro w hSw;obtain⟨s0,s1,s2,s3,s4,s5⟩:=hSw;go_simp
 (try simp only[Act.put,sIx,sZ0,sZ1])
 refine lkT 8 2 (.agg #[.int .i64 at_,.int .i64 1,.slice ea en ec,.slice za ks.length zc]) rfl (Or.inl ⟨by rfl,?_⟩) hHeld ?_
 ·intro w hSw;obtain⟨s0,s1,s2,s3,s4,s5⟩:=hSw;go_simp
 (try simp only[Act.put,sIx,sZ0,sZ1])
 refine lkT 9 3 ?_ rfl (Or.inl ⟨by rfl,?_⟩) hHeld ?_
 rotate_left
 ·intro w hSw;obtain⟨s0,s1,s2,s3,s4,s5⟩:=hSw;go_simp;with_reducible rfl
 (try simp only[Act.put,sIx,sZ0,sZ1])
 refine lkT 10 4 (.int .i64 (k1:Int)) rfl (Or.inl ⟨by rfl,?_⟩) hHeld ?_
 ·intro w hSw;obtain⟨s0,s1,s2,s3,s4,s5⟩:=hSw;go_simp
 (try simp only[Act.put,sIx,sZ0,sZ1])
 refine lkT 13 7 (.slice ka kn kc) rfl (Or.inl ⟨by rfl,?_⟩) hHeld ?_
 ·intro w hSw;obtain⟨s0,s1,s2,s3,s4,s5⟩:=hSw;go_simp
 (try simp only[Act.put,sIx,sZ0,sZ1])
 refine lk1 5 rfl (fun K hK=>?_)
 go_simp
 go_wp2_with (go_at_call 72;refine HKd.mono ?_;rintro e y2 ⟨⟨v2,ve2,vk2,L2,rfl,hp2⟩,hb2⟩)
 have HB2:=mkHid (HDh.out.trans (hb2.mono HDh.out.size))
 refine hK.out _ _ (HCt.out _ HB2.out) (fun hHeld=>?_)
 (try simp only[Act.put,sIx,sZ0,sZ1])
 clear hK K
 obtain⟨x,hx,hxe⟩:∃x,L2[0]?=some x∧x.1=e0:=by
  have h1:=hp2.es
  rw[hle] at h1
  cases L2 with
  | nil=>cases h1
  | cons a b=>exact⟨a,rfl,(List.cons.inj h1).1⟩
 have hv2:=hp2.v
 subst hv2
 have HP2:=mkHid hp2
 have HF2:=HFs y2 (s:Int) ve2 vk2 L2 x hp2.r.e hx
 unfold pgc at HF2
 clear HFs hb2 hp2
 refine lk1 6 rfl (fun K hK=>?_)
 go_simp
 go_wp2_with (go_at_call 112;refine HF2.mono ?_;rintro e y3 ⟨rfl,hb3⟩)
 have HB3:=mkHid (HB2.out.trans (hb3.mono HB2.out.size))
 have HIx:Hid (IsB y3 x.2.a x.1.k.length x.2.c x.1.k):=(((HP2.out.r.e.is x (List.mem_of_getElem? hx)).keep (KeepU.of_below hb3)).is).k
 refine hK.out _ _ (HCt.out _ HB3.out) (fun hHeld=>?_)
 (try simp only[Act.put,sIx,sZ0,sZ1])
 clear hK K HF2
 have HC:=codCompare x.2.a ka x.1.k.length kn x.2.c kc x.1.k key y3 HIx.out (HKy.out _ HB3.out)
 rw[hxe] at HC
 refine lk1 8 rfl (fun K hK=>?_)
 go_simp
 go_wp2_with (go_at_call 111;refine HC.mono ?_;rintro e y4 ⟨rfl,hw4⟩;rw[hw4];clear hw4)
 refine hK.out _ _ (HCt.out _ HB3.out) (fun hHeld=>?_)
 (try simp only[Act.put,sIx,sZ0,sZ1])
 clear hK K HC
 generalize Lib.compareBytes e0.k key=cz at *
 refine lkT 15 9 (.bool rb) rfl (Or.inl ⟨by rfl,?_⟩) hHeld ?_
 ·intro w hSw;obtain⟨s0,s1,s2,s3,s4,s5⟩:=hSw;go_simp;first|(rw[←HRb.out];done)|(simp[←HRb.out];done)|exact HRb.out
 (try simp only[Act.put,sIx,sZ0,sZ1])
 refine lkZ rfl (fun K hK=>?_)
 go_simp
 refine hK.out _ _ ?_
 simp only[Exit.then]
 (try simp only[Act.put,sIx,sZ0,sZ1])
 clear hK K hHeld
 go_wp2_with fail
 go_ret
 exact⟨rfl,HB3.out⟩
theorem pgFind (w:World)(S J P base m:Nat)(t:Tl)(j:Jl)(at_:Int)(ve vk:Value)(ks:List Nat)(lf:Nat→List Et)(ka:Option Addr)(kn kc:Nat)(key:List UInt8)(h:SpAx w S J P base t j)(hf:Fit t j m)
  (hz:RdZ w vk ks) (hve:∃a n c,ve=.slice a n c) (hkey:IsB w ka kn kc key) (hl:KidL t j ks lf) (hks:ks.length≤1000) (hk0:0<ks.length):
  Calls Tryz.prog 73 #[gT S,.agg (pgc at_ 1 ve vk).toArray,.slice ka kn kc] w fun e w'=>(∃i:Nat,e=.returned (.int .i64 (i:Int))∧i<ks.length∧(0<i→Op.bytesLess key (fstK (lf i))=false)∧(i+1<ks.length→Op.bytesLess key (fstK (lf (i+1)))=true))∧Below w.heap.size w w':=by
 obtain⟨ea,en,ec,rfl⟩:=hve
 have hzz:=hz
 obtain⟨za,zc,rfl,_⟩:=hz
 unfold gT pgc
 simp only[Int.natCast_one]
 have W1:Below w.heap.size w (((w.alloc (.cells #[.pointer (some ⟨S,0,none⟩)] 87)).alloc (.cells #[.int .i64 at_,.int .i64 1,.slice ea en ec,.slice za ks.length zc] 133)).alloc (.cells #[.slice ka kn kc] 33)):=(((Below.refl _ w).alloc (Nat.le_refl _) _).alloc (by simp) _).alloc (by simp;omega) _
 have k0:Blk (((w.alloc (.cells #[.pointer (some ⟨S,0,none⟩)] 87)).alloc (.cells #[.int .i64 at_,.int .i64 1,.slice ea en ec,.slice za ks.length zc] 133)).alloc (.cells #[.slice ka kn kc] 33)) w.heap.size 87 [.pointer (some ⟨S,0,none⟩)]:=((Blk.newAt w w.heap.size 87 #[.pointer (some ⟨S,0,none⟩)] [.pointer (some ⟨S,0,none⟩)] rfl rfl).alloc _).alloc _
 have k1:Blk (((w.alloc (.cells #[.pointer (some ⟨S,0,none⟩)] 87)).alloc (.cells #[.int .i64 at_,.int .i64 1,.slice ea en ec,.slice za ks.length zc] 133)).alloc (.cells #[.slice ka kn kc] 33)) (w.heap.size+1) 133 [.int .i64 at_,.int .i64 1,.slice ea en ec,.slice za ks.length zc]:=(Blk.newAt _ (w.heap.size+1) 133 #[.int .i64 at_,.int .i64 1,.slice ea en ec,.slice za ks.length zc] [.int .i64 at_,.int .i64 1,.slice ea en ec,.slice za ks.length zc] (by simp) rfl).alloc _
 have k2:Blk (((w.alloc (.cells #[.pointer (some ⟨S,0,none⟩)] 87)).alloc (.cells #[.int .i64 at_,.int .i64 1,.slice ea en ec,.slice za ks.length zc] 133)).alloc (.cells #[.slice ka kn kc] 33)) (w.heap.size+2) 33 [.slice ka kn kc]:=Blk.newAt _ (w.heap.size+2) 33 _ _ (by simp) rfl
 generalize hW:((w.alloc (.cells #[.pointer (some ⟨S,0,none⟩)] 87)).alloc (.cells #[.int .i64 at_,.int .i64 1,.slice ea en ec,.slice za ks.length zc] 133)).alloc (.cells #[.slice ka kn kc] 33)=Y0 at *
 have HSe:=codSearch Y0 (ks.length-1) 110 #[.pointer (some ⟨w.heap.size,0,none⟩),.pointer (some ⟨w.heap.size+1,0,none⟩),.pointer (some ⟨w.heap.size+2,0,none⟩)] (fun k=>decide (0<Lib.compareBytes (fstK (lf (k+1))) key)) (by omega) (fun W k hW hk=>by
   have hB:=W1.trans (hW.mono W1.size)
   exact pgLess W S J P base m w.heap.size (w.heap.size+1) (w.heap.size+2) t j at_ _ _ ks lf ka kn kc key k (k+1) rfl (SpAx.keep h (KeepT.of_below hB)) hf (k0.on hW) (k1.on hW) (k2.on hW) (hzz.keep (KeepO.of_below hB)) ⟨_,_,_,rfl⟩ (hkey.below hB rfl) hl (by omega) hks)
  (fun args W=>by simp[callFunc,Tryz.func110];rfl)
 have c3:=k1.cell 3
 simp only[gZ0,gZ1] at c3
 have hw1:IntKind.i64.wrap ((ks.length:Int)-1)=((ks.length-1:Nat):Int):=by rw[show (ks.length:Int)-1=((ks.length-1:Nat):Int) by omega];exact wrapi64_in _ (by omega) (by omega)
 have hmf:=mkF0
 have HW1:=mkHid W1
 clear h hf k0 k1 k2 W1 hzz hkey hl
 obtain⟨n1,hn1⟩:∃n1,ks.length-1=n1:=⟨_,rfl⟩
 rw[hn1] at HSe hw1
 have HN1:=mkHid hn1
 clear hn1
 go_enter Tryz.func73,Tryz.ntmps73
 go_wp2_with fail
 refine HSe.mono ?_
 rintro e y1 ⟨⟨i,rfl,hi,hlo,hhi⟩,hb1⟩
 go_wp2_with fail
 go_ret
 have hn:=HN1.out
 refine⟨⟨i,rfl,by omega,fun h0=>?_,fun h0=>?_⟩,HW1.out.trans (hb1.mono HW1.out.size)⟩
 ·have:=hlo h0
  rw[show i-1+1=i by omega] at this
  have h2:=of_decide_eq_false this
  rw[cb_gt] at h2
  exact Bool.eq_false_iff.2 h2
 ·have:=of_decide_eq_true (hhi (by omega))
  exact(cb_gt _ _).1 this
variable {fl:Nat}
theorem codKeepFits (w:World)(S J P base m:Nat)(t:Tl)(j:Jl)(s:Nat)(p:Pg)(ve vk:Value)(L:List Eq3)(h:SpAx w S J P base t j)(hf:Fit t j m)(hp:PgR fl w p ve vk L)(hs:PgS p)(hsn:s≤4096)(hz:spWrE t j (s:Int) (pgB p)=0):
  Calls Tryz.prog 104 #[gT S,.agg (pgc (s:Int) p.lv ve vk).toArray] w fun e w'=>e=.returned (.int .i64 0)∧SpAx w' S J P base (spWr t j (s:Int) (pgB p)) j∧KS base w w':=by
 have hlo:=spcOK.lo h
 unfold gT
 have W1:Below w.heap.size w ((w.alloc (.cells #[.pointer (some ⟨S,0,none⟩)] 87)).alloc (.cells (pgc (s:Int) p.lv ve vk).toArray 133)):=((Below.refl _ w).alloc (Nat.le_refl _) _).alloc (by simp) _
 have k0:Blk ((w.alloc (.cells #[.pointer (some ⟨S,0,none⟩)] 87)).alloc (.cells (pgc (s:Int) p.lv ve vk).toArray 133)) w.heap.size 87 [.pointer (some ⟨S,0,none⟩)]:=(Blk.newAt w w.heap.size 87 #[.pointer (some ⟨S,0,none⟩)] [.pointer (some ⟨S,0,none⟩)] rfl rfl).alloc _
 have k1:Blk ((w.alloc (.cells #[.pointer (some ⟨S,0,none⟩)] 87)).alloc (.cells (pgc (s:Int) p.lv ve vk).toArray 133)) (w.heap.size+1) 133 (pgc (s:Int) p.lv ve vk):=Blk.newAt _ (w.heap.size+1) 133 _ _ (by simp) rfl
 have hp0:=hp.below W1
 have hA0:=SpAx.keep h (KeepT.of_below W1)
 have hK0:KS base w ((w.alloc (.cells #[.pointer (some ⟨S,0,none⟩)] 87)).alloc (.cells (pgc (s:Int) p.lv ve vk).toArray 133)):=KS.of_below W1 hlo
 generalize hW:(w.alloc (.cells #[.pointer (some ⟨S,0,none⟩)] 87)).alloc (.cells (pgc (s:Int) p.lv ve vk).toArray 133)=Y0 at *
 have HFi:=codFits (s:Int) p ve vk L Y0 hp0 hs.f
 rw[decide_eq_true (show szP p≤509 from hs.sz)] at HFi
 have HWr:Hid (∀W,Below Y0.heap.size Y0 W→Calls Tryz.prog 100 #[.agg #[.pointer (some ⟨S,0,none⟩)],.agg (pgc (s:Int) p.lv ve vk).toArray] W fun e w'=>e=.returned (.tuple #[])∧SpAx w' S J P base (spWr t j (s:Int) (pgB p)) j∧KS base W w'):=fun W hW =>
  pgWrite W S J P base m t j s p ve vk L (SpAx.keep hA0 (KeepT.of_below hW)) hf (hp0.below hW) hs hsn hz
 unfold pgc at *
 have c0:=k0.cell 0
 have d0:=k1.cell 0
 have d1:=k1.cell 1
 have d2:=k1.cell 2
 have d3:=k1.cell 3
 simp only[gZ0,gZ1] at c0 d0 d1 d2 d3
 have HK0:=mkHid hK0
 have HB0:=mkHid k0
 have HB1:=mkHid k1
 have HLo:Hid (base≤Y0.heap.size):=spcOK.lo hA0
 clear h hf hp hs hp0 hA0 hK0 k0 k1 W1
 go_enter Tryz.func104,Tryz.ntmps104
 go_upto_region 1 with fail
 (try rw[hW])
 clear hW
 go_upto_region 2 with(go_at_call 145;refine HFi.mono ?_;rintro e y1 ⟨rfl,hb1⟩)
 have HWr1:=HWr.out y1 hb1
 have hk1:=(HK0.out.trans (KS.of_below hb1 HLo.out))
 have KB0:=HB0.out.on hb1
 have KB1:=HB1.out.on hb1
 have c0:=KB0.cell 0
 have d0:=KB1.cell 0
 have d1:=KB1.cell 1
 have d2:=KB1.cell 2
 have d3:=KB1.cell 3
 simp only[gZ0,gZ1] at c0 d0 d1 d2 d3
 have HK1:=mkHid hk1
 clear HFi hb1 hk1 KB0 KB1 HWr
 go_wp2_with (go_at_call 100;refine HWr1.mono ?_;rintro e y2 ⟨rfl,hA2,hk2⟩;have HA2:=mkHid hA2;have HK2:=mkHid hk2;clear hA2 hk2)
 go_ret
 exact⟨rfl,HA2.out,HK1.out.trans HK2.out⟩
end
end Go.Proofs.YtpecobmfabmpkaaGreatDoor
