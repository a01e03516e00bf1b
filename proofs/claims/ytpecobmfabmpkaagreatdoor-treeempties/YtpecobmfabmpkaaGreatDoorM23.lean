/- PtN -/
import Derived.Test.YtpecobmfabmpkaaGreatDoorM22
set_option maxRecDepth 20000
set_option maxHeartbeats 2000000
namespace Go.Proofs.YtpecobmfabmpkaaGreatDoor
open Go.RowKit
theorem list_app_run {ops:Array Oper}{rest:List Oper}{o:Oper}{a:Act}{Q:Exit→Act→World→Prop}(w:World)(hgd:o.guard=none)(s x:Operand)(t u ty:TypeId)
  (ho:o.op=.call { callee:=.builtin .append,args:=#[s,x],argTypes:=#[t,u] }) (hty:o.type=ty) (v v2:Value) (hs:a.eval s=v) (hx:a.eval x=v2) {v':Value} {w':World}
  (hr:(Builtin.append_ #[t,u] ty #[v,v2]).run Tryz.prog w=.ok v' w') (h:wpList Tryz.prog ops Q rest (a.put o.dst v') w'):wpList Tryz.prog ops Q (o::rest) a w :=
 wpList_plain hgd fun _ hK=>by
  subst hty
  unfold Oper.wp execOp
  simp only[ho,resolve,invoke,builtin,Sem.run_bind,Sem.run_pure,Result.andThen_ok,List.map_toArray,List.map_cons,List.map_nil,hs,hx,hr]
  exact hK _ _ h
theorem step_app_run {ops:Array Oper}{o:Oper}{a:Act}{K:Act→World→Prop}{Q:Exit→Act→World→Prop}{E:Prop}(w:World)(hgd:o.guard=none)(s x:Operand)(t u ty:TypeId)
  (ho:o.op=.call { callee:=.builtin .append,args:=#[s,x],argTypes:=#[t,u] }) (hty:o.type=ty) (v v2:Value) (hs:a.eval s=v) (hx:a.eval x=v2) {v':Value} {w':World}
  (hr:(Builtin.append_ #[t,u] ty #[v,v2]).run Tryz.prog w=.ok v' w') (d:Tmp) (hd:o.dst=some d) (h:K (a.put (some d) v') w'):if Region.wanted o (yielded ops a.tmps)=true then Oper.wp Tryz.prog o a w K Q else E:=by
 have hw:Region.wanted o (yielded ops a.tmps)=true:=by simp[Region.wanted,hgd]
 rw[if_pos hw]
 subst hty
 unfold Oper.wp execOp
 simp only[ho,resolve,invoke,builtin,Sem.run_bind,Sem.run_pure,Result.andThen_ok,List.map_toArray,List.map_cons,List.map_nil,hs,hx,hr]
 rw[←hd] at h
 exact h
def RowZ (w:World)(B:Nat)(acc:List UInt8):Prop:=acc.length≤512∧Blk w B 5 (bv (pad512 acc))
theorem bv_app (a b:List UInt8):bv (a++b)=bv a++bv b:=by unfold bv;exact List.map_append
theorem pad_step {acc l:List UInt8}(h:acc.length+l.length≤512):(bv (pad512 acc)).take acc.length++bv l++(bv (pad512 acc)).drop (acc.length+(bv l).length)=bv (pad512 (acc++l)):=by
 rw[pad_eq (by omega:acc.length≤512),pad_eq (by rw[List.length_append];exact h),bv_app,bv_app,bv_app,List.take_left' (bv_length acc),bv_length,List.append_assoc,List.append_assoc]
 congr 2
 rw[List.drop_append,bv_length,List.drop_of_length_le (by rw[bv_length];omega),List.nil_append,show acc.length+l.length-acc.length=l.length by omega]
 unfold bv
 rw[←List.map_drop,List.drop_replicate,List.length_append]
 congr 2
 omega
theorem RowZ.app {w:World}{B:Nat}{acc:List UInt8}(h:RowZ w B acc){sa:Option Addr}{m c:Nat}{l:List UInt8}(hl:IsB w sa m c l)(hfit:acc.length+l.length≤512)(ty:TypeId):
  ∃w',(Builtin.append_ #[33,33] ty #[.slice (some ⟨B,0,none⟩) acc.length 512,.slice sa m c]).run Tryz.prog w=.ok (.slice (some ⟨B,0,none⟩) (acc++l).length 512) w'∧RowZ w' B (acc++l)∧w.grownBy w' (some B):=by
 obtain⟨i0,hi,hz0,hz1,hz2⟩:=info_parts info8
 have hll:=hl.len_eq
 by_cases hm:0<m
 ·obtain⟨g,off,rfl,hcs⟩:=hl.cells hm
  have hr:=run_append_room (P:=Tryz.prog) w 33 ty 5 i0 Tryz.underlying33 hi B acc.length 512 (bv (pad512 acc)).toArray h.2 ⟨g,off,none⟩ m c (bv l) (by rw[bv_length,hz1,Nat.mul_one,hll]) (fun j u hu=>by
   have hj:j<l.length:=by have:=(List.getElem?_eq_some_iff.1 hu).1;rw[bv_length] at this;exact this
   rw[bv_at l j hj] at hu
   rw[Addr.add_lit,hcs j (by omega)]
   exact hu) (fun u hu=>(by unfold bv at hu;obtain⟨b,_,rfl⟩:=List.mem_map.1 hu;rfl)) (by omega) (by rw[hz1,Nat.mul_one,bv_length,List.size_toArray,bv_length,pad512_len];omega)
  rw[hz1,Nat.mul_one,List.toList_toArray,pad_step hfit] at hr
  refine⟨_,by rw[List.length_append,hll];exact hr,⟨by rw[List.length_append];exact hfit,h.2.row _⟩,⟨rfl,rfl,rfl,by simp[World.setRow],fun k _ hk=>setRow_other w B k _ (fun e=>hk (by rw[e]))⟩⟩
 ·have hm0:m=0:=by omega
  have:l=[]:=List.eq_nil_of_length_eq_zero (by omega)
  subst this hm0
  refine⟨w,?_,by rw[List.append_nil];exact h,World.grownBy.refl _ _⟩
  rw[List.append_nil]
  have hx:(Builtin.firstCells 1 0 (.slice sa 0 c)).run Tryz.prog w=.ok #[] w:=by
   cases sa<;>rfl
  simp[Builtin.append_,run_underlying Tryz.underlying33,sizeOf,typeInfo,hi,hz1,Builtin.lenOf,h.1,hx,storeCells]
theorem KeepO.grown1 {us:List TypeId}{w w':World}{B ty:Nat}{cs:List Value}(hB:Blk w B ty cs)(ht:ty∉us)(hg:w.grownBy w' (some B)):KeepO us w w' :=
 ⟨hg.size,fun i c t fz hi h=>(hg.block i (Array.getElem?_eq_some_iff.1 hi).1 (fun e=>by
  have e2:=Option.some.inj e
  subst e2
  unfold Blk at hB
  rw[hi] at hB
  injection hB with h4
  injection h4 with _ h5 _
  subst h5
  exact ht h)).trans hi,fun i o hi ho=>(hg.block i (Array.getElem?_eq_some_iff.1 hi).1 (fun e=>by
  have e2:=Option.some.inj e
  subst e2
  unfold Blk at hB
  rw[hi] at hB
  injection hB with h4
  subst h4
  cases ho)).trans hi⟩
theorem KeepU.grown1 {fl:Nat}{us:List TypeId}{w w':World}{B ty:Nat}{cs:List Value}(hB:Blk w B ty cs)(ht:ty∉us)(hg:w.grownBy w' (some B))(hle:fl≤B):KeepU fl us w w':=⟨KeepO.grown1 hB ht hg,fun k hk h2=>hg.block k h2 (fun e=>by have:=Option.some.inj e;omega)⟩
theorem pgKid (w:World)(S J P base m:Nat)(t:Tl)(j:Jl)(at_:Int)(lv:Nat)(ve vk:Value)(ks:List Nat)(i k:Nat)(p:Pg)(h:SpAx w S J P base t j)(hf:Fit t j m)(hz:RdZ w vk ks)(hi:ks[i]?=some k)(hk:51≤k)(hn:k<j.p.n)(hp:pgOf (spRdB t j (k:Int))=some p)(hl:lv=p.lv+1)(hl2:lv≤11):
  Calls Tryz.prog 72 #[gT S,.agg (pgc at_ lv ve vk).toArray,.int .i64 (i:Int)] w fun e w'=>(∃v ve vk L,e=.returned v∧PgO w' w.heap.size (k:Int) p v ve vk L)∧Below w.heap.size w w':=by
 unfold gT pgc
 obtain⟨hik,hie⟩:=List.getElem?_eq_some_iff.1 hi
 have hzz:=hz
 obtain⟨ka,kc,rfl,hkc,hcs⟩:=hz
 obtain⟨g,off,_,_,rfl,-,-⟩:=hcs (by omega)
 have hn2:=hf.few.n
 have W1:Below w.heap.size w (((w.alloc (.cells #[.pointer (some ⟨S,0,none⟩)] 87)).alloc (.cells #[.int .i64 at_,.int .i64 (lv:Int),ve,.slice (some ⟨g,off,none⟩) ks.length kc] 133)).alloc (.cells #[.int .i64 0,.int .i64 0,.slice none 0 0,.slice none 0 0] 133)):=(((Below.refl _ w).alloc (Nat.le_refl _) _).alloc (by simp) _).alloc (by simp;omega) _
 have k0:Blk (((w.alloc (.cells #[.pointer (some ⟨S,0,none⟩)] 87)).alloc (.cells #[.int .i64 at_,.int .i64 (lv:Int),ve,.slice (some ⟨g,off,none⟩) ks.length kc] 133)).alloc (.cells #[.int .i64 0,.int .i64 0,.slice none 0 0,.slice none 0 0] 133)) w.heap.size 87 [.pointer (some ⟨S,0,none⟩)]:=((Blk.newAt w w.heap.size 87 #[.pointer (some ⟨S,0,none⟩)] [.pointer (some ⟨S,0,none⟩)] rfl rfl).alloc _).alloc _
 have k1:Blk (((w.alloc (.cells #[.pointer (some ⟨S,0,none⟩)] 87)).alloc (.cells #[.int .i64 at_,.int .i64 (lv:Int),ve,.slice (some ⟨g,off,none⟩) ks.length kc] 133)).alloc (.cells #[.int .i64 0,.int .i64 0,.slice none 0 0,.slice none 0 0] 133)) (w.heap.size+1) 133 [.int .i64 at_,.int .i64 (lv:Int),ve,.slice (some ⟨g,off,none⟩) ks.length kc]:=(Blk.newAt _ (w.heap.size+1) 133 #[.int .i64 at_,.int .i64 (lv:Int),ve,.slice (some ⟨g,off,none⟩) ks.length kc] [.int .i64 at_,.int .i64 (lv:Int),ve,.slice (some ⟨g,off,none⟩) ks.length kc] (by simp) rfl).alloc _
 have k2:Blk (((w.alloc (.cells #[.pointer (some ⟨S,0,none⟩)] 87)).alloc (.cells #[.int .i64 at_,.int .i64 (lv:Int),ve,.slice (some ⟨g,off,none⟩) ks.length kc] 133)).alloc (.cells #[.int .i64 0,.int .i64 0,.slice none 0 0,.slice none 0 0] 133)) (w.heap.size+2) 133 [.int .i64 0,.int .i64 0,.slice none 0 0,.slice none 0 0]:=Blk.newAt _ (w.heap.size+2) 133 _ _ (by simp) rfl
 generalize hW:((w.alloc (.cells #[.pointer (some ⟨S,0,none⟩)] 87)).alloc (.cells #[.int .i64 at_,.int .i64 (lv:Int),ve,.slice (some ⟨g,off,none⟩) ks.length kc] 133)).alloc (.cells #[.int .i64 0,.int .i64 0,.slice none 0 0,.slice none 0 0] 133)=Y0 at *
 have HRd:Hid (∀W,Below w.heap.size w W→Calls Tryz.prog 67 #[.agg #[.pointer (some ⟨S,0,none⟩)],.int .i64 (k:Int)] W fun e w'=>(∃v ve vk L,e=.returned v∧PgO w' W.heap.size (k:Int) p v ve vk L)∧Below W.heap.size W w'):=fun W hW=>pgRead W S J P base m t j k p (SpAx.keep h (KeepT.of_below hW)) hf hk hn hp
 obtain⟨_,g',off',e',hc⟩:=(hzz.keep (KeepO.of_below W1)).at_ i hik
 have e2:=Option.some.inj e'
 injection e2 with q1 q2 _
 subst q1 q2
 rw[hie] at hc
 have HW1:=mkHid W1
 have K0:=mkHid k0
 have K1:=mkHid k1
 have K2:=mkHid k2
 have HCt:Hid (∀W,Below Y0.heap.size Y0 W→W.cell? ⟨w.heap.size,0,none⟩=some (.pointer (some ⟨S,0,none⟩))∧W.cell? ⟨w.heap.size+1,3,none⟩=some (.slice (some ⟨g,off,none⟩) ks.length kc)∧W.cell? ⟨g,off+i,none⟩=some (.int .i64 (k:Int))):=fun W hW=>⟨(K0.out.on hW).cell 0,(K1.out.on hW).cell 3,(hW.cell (p:=⟨g,off+i,none⟩) (cell_lt hc)).trans hc⟩
 have hi':(i:Int)<(ks.length:Int):=by omega
 have hi0:(0:Int)≤(i:Int):=by omega
 have HNy:=needYes13 4
 have hlw:IntKind.i64.wrap ((lv:Int)-1)=(p.lv:Int):=by rw[show (lv:Int)-1=(p.lv:Int) by omega];exact wrapi64_in _ (by omega) (by omega)
 clear h hf hzz hcs k0 k1 k2 W1 hp hc hie hi hl
 generalize ks.length=n at *
 go_enter Tryz.func72,Tryz.ntmps72
 go_wp2_with fail
 refine lk0 (fun w'=>w'.cell? ⟨w.heap.size,0,none⟩=some (.pointer (some ⟨S,0,none⟩))∧w'.cell? ⟨w.heap.size+1,3,none⟩=some (.slice (some ⟨g,off,none⟩) n kc)∧w'.cell? ⟨g,off+i,none⟩=some (.int .i64 (k:Int))) 8 (HCt.out _ ((Below.refl _ Y0).drew)) (fun hHeld=>?_)
 refine lkT 8 0 (.agg #[.pointer (some ⟨S,0,none⟩)]) rfl (Or.inl ⟨by rfl,?_⟩) hHeld ?_
 ·intro w hSw;obtain⟨s1,s2,s3⟩:=hSw;go_simp
 (try simp only[Act.put,sIx,sZ0,sZ1])
 refine lkT 9 1 ?_ rfl (Or.inl ⟨by rfl,?_⟩) hHeld ?_
 rotate_left
 ·intro w hSw;obtain⟨s1,s2,s3⟩:=hSw;go_simp;with_reducible rfl
 (try simp only[Act.put,sIx,sZ0,sZ1])
 refine lkT 10 2 (.slice (some ⟨g,off,none⟩) n kc) rfl (Or.inl ⟨by rfl,?_⟩) hHeld ?_
 ·intro w hSw;obtain⟨s1,s2,s3⟩:=hSw;go_simp
 (try simp only[Act.put,sIx,sZ0,sZ1])
 refine lkT 11 3 ?_ rfl (Or.inl ⟨by rfl,?_⟩) hHeld ?_
 rotate_left
 ·intro w hSw;obtain⟨s1,s2,s3⟩:=hSw;go_simp;with_reducible rfl
 (try simp only[Act.put,sIx,sZ0,sZ1])
 refine lkT 12 4 ?_ rfl (Or.inl ⟨by rfl,?_⟩) hHeld ?_
 rotate_left
 ·intro w hSw;obtain⟨s1,s2,s3⟩:=hSw;go_simp;with_reducible rfl
 (try simp only[Act.put,sIx,sZ0,sZ1])
 refine lkT 13 5 (.int .i64 (k:Int)) rfl (Or.inl ⟨by rfl,?_⟩) hHeld ?_
 ·intro w hSw;obtain⟨s1,s2,s3⟩:=hSw;go_simp
 (try simp only[Act.put,sIx,sZ0,sZ1])
 refine lkR (rs:=[6,7]) (by kernel_rfl) (by simp) (NextL.cons rfl (fun K hK=>?_) (NextL.cons rfl (fun K hK=>?_) NextL.nil))
 ·go_simp
  go_wp2_with (go_at_call 67;refine(HRd.out _ (HW1.out.trans (Below.drew (Below.refl _ Y0) |>.mono HW1.out.size))).mono ?_;rintro e y1 ⟨⟨v1,ve1,vk1,L1,rfl,hp1⟩,hb1⟩)
  have hb0:Below Y0.heap.size Y0 y1:=(Below.drew (Below.refl _ Y0)).trans hb1
  refine hK.out _ _ (HCt.out _ hb0) (fun hHeld=>?_)
  (try simp only[Act.put,sIx,sZ0,sZ1])
  clear hK K
  obtain⟨ea1,ec1,he1,_⟩:=hp1.e.form
  obtain⟨ka1,kc1,hk1,_⟩:=hp1.k.isZ
  rw[List.length_map] at hk1
  have hv1:=hp1.v
  subst he1 hk1 hv1
  have HP1:Hid (PgO y1 (w.heap.size+3) (k:Int) p (.agg #[.int .i64 (k:Int),.int .i64 (p.lv:Int),.slice ea1 L1.length ec1,.slice ka1 p.ks.length kc1]) (.slice ea1 L1.length ec1) (.slice ka1 p.ks.length kc1) L1):=⟨rfl,own_low hp1.e K2.out.lt,own_low hp1.k K2.out.lt,hp1.es,hp1.x⟩
  have HB1:=mkHid hb0
  clear hp1 hb1 hb0
  unfold pgc
  refine lk1 7 rfl (fun K hK=>?_)
  go_simp
  refine hK.out _ _ (HCt.out _ (HB1.out.trans (((Below.refl _ y1).alloc (Nat.le_refl _) _).mono HB1.out.size))) (fun hHeld=>?_)
  (try simp only[Act.put,sIx,sZ0,sZ1])
  clear hK K
  refine lkZ rfl (fun K hK=>?_)
  go_simp
  refine hK.out _ _ ?_
  simp only[Exit.then]
  (try simp only[Act.put,sIx,sZ0,sZ1])
  clear hK K hHeld
  have hAl:=(Below.refl _ y1).alloc (Nat.le_refl _) (.cells #[.int .i64 (k:Int),.int .i64 (p.lv:Int),.slice ea1 L1.length ec1,.slice ka1 p.ks.length kc1] 133)
  have hbY:=HB1.out.trans (hAl.mono HB1.out.size)
  have KZ1:=mkHid (K1.out.on hbY)
  have KZ2:=mkHid (K2.out.on hbY)
  have KZk:Hid (Blk (y1.alloc (.cells #[.int .i64 (k:Int),.int .i64 (p.lv:Int),.slice ea1 L1.length ec1,.slice ka1 p.ks.length kc1] 133)) y1.heap.size 133 [.int .i64 (k:Int),.int .i64 (p.lv:Int),.slice ea1 L1.length ec1,.slice ka1 p.ks.length kc1]):=Blk.new y1 _ _
  have HPZ:=mkHid (HP1.out.below hAl)
  have HBZ:=mkHid (HW1.out.trans (hbY.mono HW1.out.size))
  have hBk:w.heap.size+3≤y1.heap.size:=Nat.le_trans K2.out.lt HB1.out.size
  clear HP1 HB1 hAl hbY
  generalize y1.alloc (.cells #[.int .i64 (k:Int),.int .i64 (p.lv:Int),.slice ea1 L1.length ec1,.slice ka1 p.ks.length kc1] 133)=Z at *
  generalize y1.heap.size=Bk at *
  have d1:Z.cell? ⟨w.heap.size+1,1,none⟩=some (.int .i64 (lv:Int)):=KZ1.out.cell 1
  have b0:Z.cell? ⟨Bk,0,none⟩=some (.int .i64 (k:Int)):=KZk.out.cell 0
  have b1:Z.cell? ⟨Bk,1,none⟩=some (.int .i64 (p.lv:Int)):=KZk.out.cell 1
  have b2:Z.cell? ⟨Bk,2,none⟩=some (.slice ea1 L1.length ec1):=KZk.out.cell 2
  have b3:Z.cell? ⟨Bk,3,none⟩=some (.slice ka1 p.ks.length kc1):=KZk.out.cell 3
  have r0:=KZ2.out.cell 0
  have r1:=KZ2.out.cell 1
  have r2:=KZ2.out.cell 2
  have r3:=KZ2.out.cell 3
  simp only[gZ0,gZ1] at r0 r1 r2 r3
  have g0:=KZ2.out.frozen 0
  have g1:=KZ2.out.frozen 1
  have g2:=KZ2.out.frozen 2
  have g3:=KZ2.out.frozen 3
  go_wp2_with (go_at_call 99;refine(HNy _).mono ?_;rintro x w2 ⟨rfl,hww⟩;rw[hww];clear hww w2)
  refine bodyPost_ret (retPg rfl _ _ (w.heap.size+2) _ _ _ _ rfl ((((KZ2.out.set 0 _).set 1 _).set 2 _).set 3 _)) rfl ?_
  have hg:=grown4 Z (w.heap.size+2) (.int .i64 (k:Int)) (.int .i64 (p.lv:Int)) (.slice ea1 L1.length ec1) (.slice ka1 p.ks.length kc1)
  have hb9:Below w.heap.size w _:=HBZ.out.grown hg HBZ.out.size (fun k e=>by have:=Option.some.inj e;omega)
  refine⟨⟨_,.slice ea1 L1.length ec1,.slice ka1 p.ks.length kc1,L1,rfl,?_⟩,hb9⟩
  have hke:KeepO UE Z _:=KeepO.grown1 KZ2.out (by decide) hg
  have h9:=HPZ.out.keep hke
  exact⟨rfl,own_low h9.e (by omega),own_low h9.k (by omega),h9.es,h9.x⟩
 ·go_simp
  have hA0:Below Y0.heap.size Y0 ((Y0.alloc (.cells #[.int .i64 0,.int .i64 0,.slice none 0 0,.slice none 0 0] 133)).drew):=Below.drew ((Below.refl _ Y0).alloc (Nat.le_refl _) _)
  refine hK.out _ _ (HCt.out _ hA0) (fun hHeld=>?_)
  (try simp only[Act.put,sIx,sZ0,sZ1])
  clear hK K
  have KA:Hid (Blk ((Y0.alloc (.cells #[.int .i64 0,.int .i64 0,.slice none 0 0,.slice none 0 0] 133)).drew) Y0.heap.size 133 [.int .i64 0,.int .i64 0,.slice none 0 0,.slice none 0 0]):=Blk.new Y0 133 [.int .i64 0,.int .i64 0,.slice none 0 0,.slice none 0 0]
  have HA0:=mkHid hA0
  have hBk:w.heap.size+3≤Y0.heap.size:=K2.out.lt
  have hBk2:Y0.heap.size+1≤((Y0.alloc (.cells #[.int .i64 0,.int .i64 0,.slice none 0 0,.slice none 0 0] 133)).drew).heap.size:=KA.out.lt
  clear hA0
  generalize (Y0.alloc (.cells #[.int .i64 0,.int .i64 0,.slice none 0 0,.slice none 0 0] 133)).drew=Y1 at *
  generalize hBe:Y0.heap.size=Bk at *
  have HRy:=HRd.out Y1 (HW1.out.trans (HA0.out.mono (by omega)))
  refine lk1 6 rfl (fun K hK=>?_)
  go_simp
  go_wp2_with (go_at_call 67;refine HRy.mono ?_;rintro e y1 ⟨⟨v1,ve1,vk1,L1,rfl,hp1⟩,hb1⟩)
  have hb0:Below Bk Y0 y1:=HA0.out.trans (hb1.mono (by omega))
  refine hK.out _ _ (HCt.out _ hb0) (fun hHeld=>?_)
  (try simp only[Act.put,sIx,sZ0,sZ1])
  clear hK K
  obtain⟨ea1,ec1,he1,_⟩:=hp1.e.form
  obtain⟨ka1,kc1,hk1,_⟩:=hp1.k.isZ
  rw[List.length_map] at hk1
  have hv1:=hp1.v
  subst he1 hk1 hv1
  have KA1:=mkHid (KA.out.on hb1)
  have a0:=KA1.out.cell 0
  have a1:=KA1.out.cell 1
  have a2:=KA1.out.cell 2
  have a3:=KA1.out.cell 3
  simp only[gZ0,gZ1] at a0 a1 a2 a3
  have f0:=KA1.out.frozen 0
  have f1:=KA1.out.frozen 1
  have f2:=KA1.out.frozen 2
  have f3:=KA1.out.frozen 3
  have HP1:=mkHid hp1
  have HB1:=mkHid hb0
  clear hp1 hb1 hb0 KA HA0
  unfold pgc
  refine lkZ rfl (fun K hK=>?_)
  go_simp
  refine hK.out _ _ ?_
  simp only[Exit.then]
  (try simp only[Act.put,sIx,sZ0,sZ1])
  clear hK K hHeld a0 a1 a2 a3 f0 f1 f2 f3
  have hg0:=grown4 y1 Bk (.int .i64 (k:Int)) (.int .i64 (p.lv:Int)) (.slice ea1 L1.length ec1) (.slice ka1 p.ks.length kc1)
  have KZk:Hid (Blk ((((y1.setCell ⟨Bk,0,none⟩ (.int .i64 (k:Int))).setCell ⟨Bk,1,none⟩ (.int .i64 (p.lv:Int))).setCell ⟨Bk,2,none⟩ (.slice ea1 L1.length ec1)).setCell ⟨Bk,3,none⟩ (.slice ka1 p.ks.length kc1)) Bk 133 [.int .i64 (k:Int),.int .i64 (p.lv:Int),.slice ea1 L1.length ec1,.slice ka1 p.ks.length kc1]):=(((KA1.out.set 0 _).set 1 _).set 2 _).set 3 _
  have hke0:KeepO UE y1 _:=KeepO.grown1 KA1.out (by decide) hg0
  have HPy:=HP1.out.keep hke0
  have hbY:Below Y0.heap.size Y0 ((((y1.setCell ⟨Bk,0,none⟩ (.int .i64 (k:Int))).setCell ⟨Bk,1,none⟩ (.int .i64 (p.lv:Int))).setCell ⟨Bk,2,none⟩ (.slice ea1 L1.length ec1)).setCell ⟨Bk,3,none⟩ (.slice ka1 p.ks.length kc1)):=by rw[hBe];exact HB1.out.grown hg0 (by rw[←hBe];exact HB1.out.size) (fun k e=>by have:=Option.some.inj e;omega)
  have KZ1:=mkHid (K1.out.on hbY)
  have KZ2:=mkHid (K2.out.on hbY)
  have HBZ:=mkHid (HW1.out.trans (hbY.mono HW1.out.size))
  have HPZ:Hid (PgO ((((y1.setCell ⟨Bk,0,none⟩ (.int .i64 (k:Int))).setCell ⟨Bk,1,none⟩ (.int .i64 (p.lv:Int))).setCell ⟨Bk,2,none⟩ (.slice ea1 L1.length ec1)).setCell ⟨Bk,3,none⟩ (.slice ka1 p.ks.length kc1)) (w.heap.size+3) (k:Int) p (.agg #[.int .i64 (k:Int),.int .i64 (p.lv:Int),.slice ea1 L1.length ec1,.slice ka1 p.ks.length kc1]) (.slice ea1 L1.length ec1) (.slice ka1 p.ks.length kc1) L1):=⟨rfl,own_low HPy.e (by omega),own_low HPy.k (by omega),HPy.es,HPy.x⟩
  clear HPy hke0 hg0 hbY HP1 HB1 KA1
  generalize (((y1.setCell ⟨Bk,0,none⟩ (.int .i64 (k:Int))).setCell ⟨Bk,1,none⟩ (.int .i64 (p.lv:Int))).setCell ⟨Bk,2,none⟩ (.slice ea1 L1.length ec1)).setCell ⟨Bk,3,none⟩ (.slice ka1 p.ks.length kc1)=Z at *
  have d1:Z.cell? ⟨w.heap.size+1,1,none⟩=some (.int .i64 (lv:Int)):=KZ1.out.cell 1
  have b0:Z.cell? ⟨Bk,0,none⟩=some (.int .i64 (k:Int)):=KZk.out.cell 0
  have b1:Z.cell? ⟨Bk,1,none⟩=some (.int .i64 (p.lv:Int)):=KZk.out.cell 1
  have b2:Z.cell? ⟨Bk,2,none⟩=some (.slice ea1 L1.length ec1):=KZk.out.cell 2
  have b3:Z.cell? ⟨Bk,3,none⟩=some (.slice ka1 p.ks.length kc1):=KZk.out.cell 3
  have r0:=KZ2.out.cell 0
  have r1:=KZ2.out.cell 1
  have r2:=KZ2.out.cell 2
  have r3:=KZ2.out.cell 3
  simp only[gZ0,gZ1] at r0 r1 r2 r3
  have g0:=KZ2.out.frozen 0
  have g1:=KZ2.out.frozen 1
  have g2:=KZ2.out.frozen 2
  have g3:=KZ2.out.frozen 3
  go_wp2_with (go_at_call 99;refine(HNy _).mono ?_;rintro x w2 ⟨rfl,hww⟩;rw[hww];clear hww w2)
  refine bodyPost_ret (retPg rfl _ _ (w.heap.size+2) _ _ _ _ rfl ((((KZ2.out.set 0 _).set 1 _).set 2 _).set 3 _)) rfl ?_
  have hg:=grown4 Z (w.heap.size+2) (.int .i64 (k:Int)) (.int .i64 (p.lv:Int)) (.slice ea1 L1.length ec1) (.slice ka1 p.ks.length kc1)
  have hb9:Below w.heap.size w _:=HBZ.out.grown hg HBZ.out.size (fun k e=>by have:=Option.some.inj e;omega)
  refine⟨⟨_,.slice ea1 L1.length ec1,.slice ka1 p.ks.length kc1,L1,rfl,?_⟩,hb9⟩
  have hke:KeepO UE Z _:=KeepO.grown1 KZ2.out (by decide) hg
  have h9:=HPZ.out.keep hke
  exact⟨rfl,own_low h9.e (by omega),own_low h9.k (by omega),h9.es,h9.x⟩
end Go.Proofs.YtpecobmfabmpkaaGreatDoor
