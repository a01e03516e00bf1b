/- Made5 PtO PtP PtQ -/
import Derived.Laws.MakeOwn
import Derived.Test.YtpecobmfabmpkaaGreatDoorM23
set_option maxRecDepth 20000
set_option maxHeartbeats 4000000
namespace Go.Proofs.YtpecobmfabmpkaaGreatDoor
open Go.RowKit
theorem made512:madeCells (Value.int .u8 0).cells (512 * 1)=(bv (pad512 [])).toArray:=by kernel_rfl
theorem list_makeR {ops:Array Oper}{rest:List Oper}{o:Oper}{a:Act}{Q:Exit→Act→World→Prop}(w:World)(hgd:o.guard=none)(l c:Operand)(hop:o.op=Op.makeSlice 33 l c)(hl:a.eval l=.int .i64 0)(hc:a.eval c=.int .i64 512)
  (h:∀w',RowZ w' w.heap.size []→Below w.heap.size w w'→wpList Tryz.prog ops Q rest (a.put o.dst (.slice (some ⟨w.heap.size,0,none⟩) 0 512)) w'):wpList Tryz.prog ops Q (o::rest) a w :=
 wpList_plain hgd fun _ hK=>by
  obtain⟨i0,hi,hz0,hz1,hz2⟩:=info_parts info8
  have hr:=run_makeSlice (P:=Tryz.prog) w 33 5 i0 (.int .u8 0) Tryz.underlying33 hi hz0 .i64 .i64 0 512 (by omega) (by omega) (by rw[hz1];decide) (by rw[hz2];decide) (by decide)
  rw[hz1] at hr
  have hm:madeCells (Value.int .u8 0).cells ((512:Int).toNat * 1)=(bv (pad512 [])).toArray:=made512
  rw[hm] at hr
  unfold Oper.wp execOp
  simp only[hop,Sem.run_bind,Sem.run_pure,Result.andThen_ok,hl,hc,hr]
  exact hK _ _ (h _ ⟨by simp,Blk.new w 5 (bv (pad512 []))⟩ ((Below.refl _ w).alloc (Nat.le_refl _) _))
def SecU (w:World)(v:Value)(b:List UInt8):Prop:=∃g,v=.slice (some ⟨g,0,none⟩) 512 512∧Blk w g 5 (bv b)∧b.length=512
theorem SecU.isB {w:World}{v:Value}{b:List UInt8}(h:SecU w v b):∃g,v=.slice (some ⟨g,0,none⟩) b.length 512∧∀W,KeepO [5] w W→IsB W (some ⟨g,0,none⟩) b.length 512 b:=by
 obtain⟨g,rfl,hB,hl⟩:=h
 refine⟨g,by rw[hl],fun W hW=>?_⟩
 have hB2:Blk W g 5 (bv b):=hW.same g _ _ _ hB (by decide)
 rw[hl]
 exact⟨hl,Nat.le_refl _,by decide,(fun e=>by cases e),fun _=>⟨g,0,rfl,fun i hi=>by rw[hB2.cell,Nat.zero_add,bv_at b i (by omega)]⟩⟩
def pgB (p:Pg):List UInt8:=pad512 (116::UInt8.ofNat p.lv::UInt8.ofNat (p.es.length+p.ks.length):: (entsB p.es++kidsB p.ks))
theorem pgB_leaf (l:List Et):pgB ⟨0,l,[]⟩=leafB l:=by
 unfold pgB leafB
 rw[kidsB,List.append_nil]
 rfl
theorem pgB_node (ks:List Nat):pgB ⟨1,[],ks⟩=nodeB ks:=by
 unfold pgB nodeB
 rw[entsB,List.nil_append,List.length_nil,Nat.zero_add]
 rfl
theorem isB_blk {w:World}{B:Nat}{l:List UInt8}(h:Blk w B 5 (bv l))(hl:l.length≤512):IsB w (some ⟨B,0,none⟩) l.length l.length l :=
 ⟨rfl,Nat.le_refl _,Nat.le_trans hl (by decide),(fun e=>by cases e),fun _=>⟨B,0,rfl,fun i hi=>by rw[h.cell,Nat.zero_add,bv_at l i hi]⟩⟩
structure ScAt (w wr:World)(at_:Int)(p:Pg)(ve vk:Value)(acc:List UInt8):Prop where
 pg:Blk wr w.heap.size 133 [.int .i64 at_,.int .i64 (p.lv:Int),ve,vk]
 row:RowZ wr (w.heap.size+1) acc
 low:Below w.heap.size w wr
theorem ScAt.on {w wr wr':World}{at_:Int}{p:Pg}{ve vk:Value}{acc:List UInt8}(h:ScAt w wr at_ p ve vk acc)(hb:Below wr.heap.size wr wr'):ScAt w wr' at_ p ve vk acc :=
 ⟨h.pg.on hb,⟨h.row.1,h.row.2.on hb⟩,h.low.trans (hb.mono h.low.size)⟩
theorem ScAt.app {w wr:World}{at_:Int}{p:Pg}{ve vk:Value}{acc:List UInt8}(h:ScAt w wr at_ p ve vk acc){sa:Option Addr}{m c:Nat}{l:List UInt8}(hl:IsB wr sa m c l)(hfit:acc.length+l.length≤512)(ty:TypeId):
  ∃w',(Builtin.append_ #[33,33] ty #[.slice (some ⟨w.heap.size+1,0,none⟩) acc.length 512,.slice sa m c]).run Tryz.prog wr=.ok (.slice (some ⟨w.heap.size+1,0,none⟩) (acc++l).length 512) w'∧ScAt w w' at_ p ve vk (acc++l)∧wr.grownBy w' (some (w.heap.size+1)):=by
 obtain⟨w',hr,h1,hg⟩:=h.row.app hl hfit ty
 exact⟨w',hr,⟨(hg.block w.heap.size h.pg.lt (fun e=>by have:=Option.some.inj e;omega)).trans h.pg,h1,h.low.grown hg h.low.size (fun k e=>by have:=Option.some.inj e;omega)⟩,hg⟩
variable {fl:Nat}
theorem bv3 (a b c:Nat)(ha:a<256)(hb:b<256)(hc:c<256):[Value.int .u8 (a:Int),.int .u8 (b:Int),.int .u8 (c:Int)]=bv [UInt8.ofNat a,UInt8.ofNat b,UInt8.ofNat c]:=by
 unfold bv
 simp only[List.map_cons,List.map_nil]
 rw[u8_of ha,u8_of hb,u8_of hc]
theorem bv2 (a b:Nat)(ha:a<256)(hb:b<256):[Value.int .u8 (a:Int),.int .u8 (b:Int)]=bv [UInt8.ofNat a,UInt8.ofNat b]:=by
 unfold bv
 simp only[List.map_cons,List.map_nil]
 rw[u8_of ha,u8_of hb]
theorem isB_made {w:World}{cs:Array Value}{l:List UInt8}(h:cs.toList=bv l)(hl:l.length≤512):IsB (w.alloc (.cells cs 5)) (some ⟨w.heap.size,0,none⟩) l.length l.length l:=by
 refine isB_blk ?_ hl
 have:=Blk.newAt w w.heap.size 5 cs (bv l) rfl (by rw[←h])
 exact this
theorem entsB_take_succ {l:List Et}{k:Nat}(h:k<l.length):entsB (l.take (k+1))=entsB (l.take k)++([UInt8.ofNat (l.getD k et0).k.length,UInt8.ofNat (l.getD k et0).v.length]++(l.getD k et0).k++(l.getD k et0).v):=by
 have e:l.getD k et0=l[k]:=by simp[h]
 rw[List.take_succ_eq_append_getElem h,entsB_append,entsB,entsB,List.append_nil,e]
 unfold entB
 simp
theorem kidsB_take_succ {l:List Nat}{k:Nat}(h:k<l.length):kidsB (l.take (k+1))=kidsB (l.take k)++[UInt8.ofNat (l.getD k 0/256),UInt8.ofNat (l.getD k 0%256)]:=by
 have e:l.getD k 0=l[k]:=by simp[h]
 rw[List.take_succ_eq_append_getElem h,kidsB_append,kidsB,kidsB,List.append_nil,e]
 rfl
theorem szL_take_le (l:List Et)(k:Nat):szL (l.take k)≤szL l:=by have:=szL_cut l k;omega
theorem codSector (at_:Int)(p:Pg)(ve vk:Value)(L:List Eq3)(w:World)(h:PgR fl w p ve vk L)(hf:PgF p)(hn:p.es.length+p.ks.length≤254)(hsz:szL p.es+2 * p.ks.length≤509)(hk:∀i∈p.ks,i<65536)(he:∀e∈p.es,e.k.length≤255∧e.v.length≤255):
  Calls Tryz.prog 139 #[.agg (pgc at_ p.lv ve vk).toArray] w fun e w'=>(∃v,e=.returned v∧SecU w' v (pgB p))∧Below w.heap.size w w':=by
 obtain⟨ea,ec,ka,kc,rfl,rfl⟩:=h.forms
 have hL:=h.len
 have HPg:Hid (∀W,Below w.heap.size w W→PgR fl W p (.slice ea p.es.length ec) (.slice ka p.ks.length kc) L):=fun W hW=>h.below hW
 have HE:Hid (∀x∈L,x.1.k.length≤255∧x.1.v.length≤255):=fun x hx=>he x.1 (by rw[←h.es];exact List.mem_map.2 ⟨x,hx,rfl⟩)
 have HEs:=mkHid h.es
 have HKs:Hid (∀i∈p.ks,i<65536):=hk
 have HB0:Hid (Below w.heap.size w (w.alloc (.cells (pgc at_ p.lv (.slice ea p.es.length ec) (.slice ka p.ks.length kc)).toArray 133))):=(Below.refl _ w).alloc (Nat.le_refl _) _
 have HK0:Hid (Blk (w.alloc (.cells (pgc at_ p.lv (.slice ea p.es.length ec) (.slice ka p.ks.length kc)).toArray 133)) w.heap.size 133 (pgc at_ p.lv (.slice ea p.es.length ec) (.slice ka p.ks.length kc))):=Blk.new w _ _
 have HLn:=fun W=>codLen13 at_ p.lv ea ka p.es.length ec p.ks.length kc W (by omega)
 have hlv:=hf.lv
 have hwl:IntKind.u8.wrap (p.lv:Int)=(p.lv:Int):=wrap8_nat _ (by omega)
 have hwn:IntKind.u8.wrap ((p.es.length+p.ks.length:Nat):Int)=((p.es.length+p.ks.length:Nat):Int):=wrap8_nat _ (by omega)
 have HSz:Hid (szL p.es+2 * p.ks.length≤509):=hsz
 have hes254:p.es.length≤254:=by omega
 have hks254:p.ks.length≤254:=by omega
 generalize hNN:p.es.length+p.ks.length=N at *
 have HNN:=mkHid hNN
 clear hNN
 unfold pgc at *
 clear h hf he hk hsz
 go_enter Tryz.func139,Tryz.ntmps139
 go_wp2_with (at_make;refine list_makeR _ rfl _ _ rfl rfl rfl ?_;intro w1 hr1 hb1)
 have hs0:(w.alloc (.cells #[.int .i64 at_,.int .i64 (p.lv:Int),.slice ea p.es.length ec,.slice ka p.ks.length kc] 133)).heap.size=w.heap.size+1:=by simp
 rw[hs0] at hr1 hb1
 have HA1:Hid (ScAt w w1.drew at_ p (.slice ea p.es.length ec) (.slice ka p.ks.length kc) []):=ScAt.on (wr:=w1) ⟨HK0.out.on (by rw[hs0];exact hb1),hr1,HB0.out.trans (hb1.mono (by omega))⟩ (Below.drew (Below.refl _ w1))
 clear hr1 hb1 HK0 HB0
 clear hs0
 have HCt:Hid (∀W acc,ScAt w W at_ p (.slice ea p.es.length ec) (.slice ka p.ks.length kc) acc→W.cell? ⟨w.heap.size,0,none⟩=some (.int .i64 at_)∧W.cell? ⟨w.heap.size,1,none⟩=some (.int .i64 (p.lv:Int))∧W.cell? ⟨w.heap.size,2,none⟩=some (.slice ea p.es.length ec)∧W.cell? ⟨w.heap.size,3,none⟩=some (.slice ka p.ks.length kc)):=fun W acc hW=>⟨hW.pg.cell 0,hW.pg.cell 1,hW.pg.cell 2,hW.pg.cell 3⟩
 refine lk0 (fun W=>W.cell? ⟨w.heap.size,0,none⟩=some (.int .i64 at_)∧W.cell? ⟨w.heap.size,1,none⟩=some (.int .i64 (p.lv:Int))∧W.cell? ⟨w.heap.size,2,none⟩=some (.slice ea p.es.length ec)∧W.cell? ⟨w.heap.size,3,none⟩=some (.slice ka p.ks.length kc)) 9 (HCt.out _ _ HA1.out) (fun hHeld=>?_)
 generalize w1.drew=Y1 at *
 refine lkT 9 0 ?_ rfl (Or.inl ⟨by rfl,?_⟩) hHeld ?_
 rotate_left
 ·intro w hSw;obtain⟨s0,s1,s2,s3⟩:=hSw;go_simp;with_reducible rfl
 (try simp only[Act.put,sIx,sZ0,sZ1])
 refine lkT 10 1 ?_ rfl (Or.inl ⟨by rfl,?_⟩) hHeld ?_
 rotate_left
 ·intro w hSw;obtain⟨s0,s1,s2,s3⟩:=hSw;go_simp;with_reducible rfl
 (try simp only[Act.put,sIx,sZ0,sZ1])
 refine lkT 11 2 (.int .i64 (p.lv:Int)) rfl (Or.inl ⟨by rfl,?_⟩) hHeld ?_
 ·intro w hSw;obtain⟨s0,s1,s2,s3⟩:=hSw;go_simp
 (try simp only[Act.put,sIx,sZ0,sZ1])
 refine lkT 12 3 (.int .u8 (p.lv:Int)) rfl (Or.inl ⟨by rfl,?_⟩) hHeld ?_
 ·intro w hSw;obtain⟨s0,s1,s2,s3⟩:=hSw;go_simp
 (try simp only[Act.put,sIx,sZ0,sZ1])
 refine lkT 13 4 (.agg #[.int .i64 at_,.int .i64 (p.lv:Int),.slice ea p.es.length ec,.slice ka p.ks.length kc]) rfl (Or.inl ⟨by rfl,?_⟩) hHeld ?_
 ·intro w hSw;obtain⟨s0,s1,s2,s3⟩:=hSw;go_simp
 (try simp only[Act.put,sIx,sZ0,sZ1])
 refine lk1 5 rfl (fun K hK=>?_)
 go_simp
 go_wp2_with (go_at_call 70;refine(HLn _).mono ?_;rintro e y2 ⟨rfl,hb2⟩)
 have HA2:=mkHid (HA1.out.on hb2)
 refine hK.out _ _ (HCt.out _ _ HA2.out) (fun hHeld=>?_)
 (try simp only[Act.put,sIx,sZ0,sZ1])
 clear hK K hb2 HA1 HLn
 refine lkT 15 6 (.int .u8 (N:Int)) rfl (Or.inl ⟨by rfl,?_⟩) hHeld ?_
 ·intro w hSw;obtain⟨s0,s1,s2,s3⟩:=hSw;go_simp
 (try simp only[Act.put,sIx,sZ0,sZ1])
 refine lk1 7 rfl (fun K hK=>?_)
 go_simp
 have HI3:Hid (IsB (y2.alloc (.cells #[.int .u8 116,.int .u8 (p.lv:Int),.int .u8 (N:Int)] 5)) (some ⟨y2.heap.size,0,none⟩) 3 3 [116,UInt8.ofNat p.lv,UInt8.ofNat N]):=isB_made (l:=[116,UInt8.ofNat p.lv,UInt8.ofNat N]) (bv3 116 p.lv N (by omega) (by omega) (by omega)) (by simp)
 have HA3:=mkHid (HA2.out.on ((Below.refl _ y2).alloc (Nat.le_refl _) (.cells #[.int .u8 116,.int .u8 (p.lv:Int),.int .u8 (N:Int)] 5)))
 refine hK.out _ _ (HCt.out _ _ HA3.out) (fun hHeld=>?_)
 (try simp only[Act.put,sIx,sZ0,sZ1])
 clear hK K HA2
 generalize y2.alloc (.cells #[.int .u8 116,.int .u8 (p.lv:Int),.int .u8 (N:Int)] 5)=Y3 at *
 generalize y2.heap.size=Bn at *
 obtain⟨Y4,hr4,hA4,-⟩:=HA3.out.app HI3.out (by simp) 33
 rw[List.nil_append] at hr4 hA4
 refine lk1 8 rfl (fun K hK=>?_)
 refine step_app_run Y3 (by rfl) _ _ 33 33 33 (by rfl) (by rfl) _ _ (by rfl) (by rfl) hr4 17 rfl ?_
 refine hK.out _ _ (HCt.out _ _ hA4) (fun hHeld=>?_)
 (try simp only[Act.put,sIx,sZ0,sZ1])
 clear hK K HA3 HI3 hr4
 have HA4:=mkHid hA4
 clear hA4
 generalize hh:[116,UInt8.ofNat p.lv,UInt8.ofNat N]=hd at *
 have hhl:hd.length=3:=by rw[←hh];rfl
 have HHd:=mkHid hh
 clear hh
 refine lkZ rfl (fun K hK=>?_)
 go_simp
 refine hK.out _ _ ?_
 simp only[Exit.then]
 (try simp only[Act.put,sIx,sZ0,sZ1])
 clear hK K hHeld
 have d2:Y4.cell? ⟨w.heap.size,2,none⟩=some (.slice ea p.es.length ec):=HA4.out.pg.cell 2
 go_wp2_with fail
 clear d2
 go_loopg [21,3] p.es.length (fun kx i b wr=>∃(k:Nat) (acc:List UInt8),k≤p.es.length∧p.es.length-k≤kx∧i=.int .i64 (k:Int)∧b=.slice (some ⟨w.heap.size+1,0,none⟩) acc.length 512∧Hid (acc=hd++entsB (p.es.take k))∧Hid (ScAt w wr at_ p (.slice ea p.es.length ec) (.slice ka p.ks.length kc) acc))
 case atStart=>exact⟨0,hd,Nat.zero_le _,by omega,rfl,by first|rfl|rw[hhl],by unfold Hid;rw[List.take_zero,entsB,List.append_nil],HA4⟩
 case round =>
  clear HA4
  obtain⟨k,acc,hk,hkx,rfl,rfl,HAc,HA⟩:=hrel
  by_cases hlt:k<p.es.length
  ·have hlt':(k:Int)<(p.es.length:Int):=by omega
   obtain⟨x,hx⟩:∃x,L[k]?=some x:=⟨_,List.getElem?_eq_getElem (by omega)⟩
   have hxm:=List.mem_of_getElem? hx
   obtain⟨hn1,hn2⟩:=HE.out x hxm
   have hxe:p.es.getD k et0=x.1:=by rw[←HEs.out];exact getD_map L k x hx
   have HIx:Hid (∀W,Below w.heap.size w W→IsB W x.2.a x.1.k.length x.2.c x.1.k∧IsB W x.2.b x.1.v.length x.2.d x.1.v):=fun W hW=>⟨((HPg.out W hW).e.is x hxm).is.k,((HPg.out W hW).e.is x hxm).is.v⟩
   have hR1:=(HPg.out wr HA.out.low).e
   obtain⟨-,-,g,off,hae,d0,d1,-⟩:=hR1.at_ k x hx
   subst hae
   have HFt:Hid (acc.length+(2+x.1.k.length+x.1.v.length)≤512∧hd++entsB (p.es.take (k+1))=acc++[UInt8.ofNat x.1.k.length,UInt8.ofNat x.1.v.length]++x.1.k++x.1.v):=by
    constructor
    ·have h1:=szL_take_succ hlt
     have h2:=szL_take_le p.es (k+1)
     have h3:=HSz.out
     rw[hxe] at h1
     unfold szE at h1
     rw[HAc.out,List.length_append,entsB_length,hhl]
     omega
    ·rw[entsB_take_succ hlt,hxe,HAc.out]
     simp only[List.append_assoc]
   have hw1:IntKind.u8.wrap (x.1.k.length:Int)=(x.1.k.length:Int):=wrap8_nat _ (by omega)
   have hw2:IntKind.u8.wrap (x.1.v.length:Int)=(x.1.v.length:Int):=wrap8_nat _ (by omega)
   have HBv:=bv2 x.1.k.length x.1.v.length (by omega) (by omega)
   have HAl:=mkHid (HA.out.on ((Below.refl _ wr).alloc (Nat.le_refl _) (.cells #[.slice x.2.a x.1.k.length x.2.c,.slice x.2.b x.1.v.length x.2.d] 64)))
   have KE:Hid (Blk (wr.alloc (.cells #[.slice x.2.a x.1.k.length x.2.c,.slice x.2.b x.1.v.length x.2.d] 64)) wr.heap.size 64 [.slice x.2.a x.1.k.length x.2.c,.slice x.2.b x.1.v.length x.2.d]):=Blk.new wr _ _
   have hBe:w.heap.size+1<wr.heap.size:=HA.out.row.2.lt
   have e0:=KE.out.cell 0
   have e1:=KE.out.cell 1
   simp only[gZ0,gZ1] at e0 e1
   clear hR1 hxm hx hxe HA
   generalize x.1.k=xk at *
   generalize x.1.v=xv at *
   generalize x.2.a=qa at *
   generalize x.2.b=qb at *
   generalize x.2.c=qc at *
   generalize x.2.d=qd at *
   have HW1s:(wr.alloc (.cells #[.slice qa xk.length qc,.slice qb xv.length qd] 64)).heap.size=wr.heap.size+1:=by simp
   have HI2:Hid (IsB ((wr.alloc (.cells #[.slice qa xk.length qc,.slice qb xv.length qd] 64)).alloc (.cells #[.int .u8 (xk.length:Int),.int .u8 (xv.length:Int)] 5)) (some ⟨wr.heap.size+1,0,none⟩) 2 2 [UInt8.ofNat xk.length,UInt8.ofNat xv.length]):=by
    have:=isB_made (w:=wr.alloc (.cells #[.slice qa xk.length qc,.slice qb xv.length qd] 64)) (cs:=#[.int .u8 (xk.length:Int),.int .u8 (xv.length:Int)]) (l:=[UInt8.ofNat xk.length,UInt8.ofNat xv.length]) HBv (by simp)
    rw[HW1s] at this
    exact this
   have hA2a:=(Below.refl _ (wr.alloc (.cells #[.slice qa xk.length qc,.slice qb xv.length qd] 64))).alloc (Nat.le_refl _) (.cells #[.int .u8 (xk.length:Int),.int .u8 (xv.length:Int)] 5)
   obtain⟨Y3,hr3,hA3,hg3⟩:=(HAl.out.on hA2a).app HI2.out (by have:=HFt.out.1;simp;omega) 33
   have KE3:Hid (Blk Y3 wr.heap.size 64 [.slice qa xk.length qc,.slice qb xv.length qd]):=(hg3.block wr.heap.size (KE.out.on hA2a).lt (fun e=>by have:=Option.some.inj e;omega)).trans (KE.out.on hA2a)
   obtain⟨Y4,hr4,hA4,hg4⟩:=hA3.app (HIx.out Y3 hA3.low).1 (by have:=HFt.out.1;simp;omega) 33
   have KE4:Hid (Blk Y4 wr.heap.size 64 [.slice qa xk.length qc,.slice qb xv.length qd]):=(hg4.block wr.heap.size KE3.out.lt (fun e=>by have:=Option.some.inj e;omega)).trans KE3.out
   obtain⟨Y5,hr5,hA5,hg5⟩:=hA4.app (HIx.out Y4 hA4.low).2 (by have:=HFt.out.1;simp;omega) 33
   have c3:Y3.cell? ⟨wr.heap.size,0,none⟩=some (.slice qa xk.length qc):=KE3.out.cell 0
   have c4:Y4.cell? ⟨wr.heap.size,1,none⟩=some (.slice qb xv.length qd):=KE4.out.cell 1
   have HA5:=mkHid hA5
   rw[←HFt.out.2] at HA5
   have hl5:(acc++[UInt8.ofNat xk.length,UInt8.ofNat xv.length]++xk++xv).length=(hd++entsB (p.es.take (k+1))).length:=by rw[HFt.out.2]
   rw[hl5] at hr5
   clear hA3 hA4 hA5 hg3 hg4 hg5 KE KE3 KE4 HI2 HIx HAl HBv hA2a HW1s hl5
   generalize hl3:(acc++[UInt8.ofNat xk.length,UInt8.ofNat xv.length]).length=n3 at *
   generalize hl4:(acc++[UInt8.ofNat xk.length,UInt8.ofNat xv.length]++xk).length=n4 at *
   have HFn:=mkHid HFt.out.1
   have HR3:=mkHid hr3
   have HR4:=mkHid hr4
   have HR5:=mkHid hr5
   clear hl3 hl4 HFt hr3 hr4 hr5
   go_wp2_with (first|(at_builtin;refine list_app_run _ rfl _ _ 33 33 33 rfl rfl _ _ rfl rfl HR3.out ?_;clear HR3)|(at_builtin;refine list_app_run _ rfl _ _ 33 33 33 rfl rfl _ _ rfl rfl HR4.out ?_;clear HR4)|(at_builtin;refine list_app_run _ rfl _ _ 33 33 33 rfl rfl _ _ rfl rfl HR5.out ?_;clear HR5))
   go_roundg (p.es.length-(k+1))
   case measure=>omega
   case rel=>exact⟨k+1,hd++entsB (p.es.take (k+1)),by omega,Nat.le_refl _,by go_num,by rw[List.length_append,hhl],rfl,HA5⟩
  ·have hlt':¬(k:Int)<(p.es.length:Int):=by omega
   have HAc2:Hid (acc=hd++entsB p.es):=by unfold Hid;rw[HAc.out,show k=p.es.length by omega,List.take_length]
   have d3:wr.cell? ⟨w.heap.size,3,none⟩=some (.slice ka p.ks.length kc):=HA.out.pg.cell 3
   go_wp2_with fail
   clear d3 HAc
   go_loopg [48,3] p.ks.length (fun kx i b wr=>∃(k:Nat) (acc:List UInt8),k≤p.ks.length∧p.ks.length-k≤kx∧i=.int .i64 (k:Int)∧b=.slice (some ⟨w.heap.size+1,0,none⟩) acc.length 512∧Hid (acc=hd++entsB p.es++kidsB (p.ks.take k))∧Hid (ScAt w wr at_ p (.slice ea p.es.length ec) (.slice ka p.ks.length kc) acc))
   case atStart=>exact⟨0,acc,Nat.zero_le _,by omega,rfl,rfl,by unfold Hid;rw[HAc2.out,List.take_zero,kidsB,List.append_nil],HA⟩
   case round =>
    clear HA HAc2
    obtain⟨q,ac,hq,hqx,rfl,rfl,HAc,HA⟩:=hrel
    by_cases hlt:q<p.ks.length
    ·have hlt':(q:Int)<(p.ks.length:Int):=by omega
     obtain⟨-,g,off,hae,d0⟩:=(HPg.out wr HA.out.low).k.at_ q hlt
     subst hae
     have hze:p.ks.getD q 0=p.ks[q]:=by simp[hlt]
     have hz:=HKs.out p.ks[q] (List.getElem_mem hlt)
     have HFt:Hid (ac.length+2≤512∧hd++entsB p.es++kidsB (p.ks.take (q+1))=ac++[UInt8.ofNat (p.ks[q]/256),UInt8.ofNat (p.ks[q]%256)]):=by
      constructor
      ·have h3:=HSz.out
       rw[HAc.out,List.length_append,List.length_append,entsB_length,kidsB_length,hhl,List.length_take]
       omega
      ·rw[kidsB_take_succ hlt,hze,HAc.out]
       simp only[List.append_assoc]
     generalize p.ks[q]=z at *
     obtain⟨za,hza⟩:∃za,z/256=za:=⟨_,rfl⟩
     obtain⟨zb,hzb⟩:∃zb,z%256=zb:=⟨_,rfl⟩
     rw[hza,hzb] at HFt
     have hsa:(z:Int)/256=(za:Int):=by omega
     have hwa:IntKind.i64.wrap (za:Int)=(za:Int):=wrapi64_in _ (by omega) (by omega)
     have hw1:IntKind.u8.wrap (za:Int)=(za:Int):=wrap8_nat _ (by omega)
     have hw2:IntKind.u8.wrap (z:Int)=(zb:Int):=by rw[wrap8_mod];omega
     have HBv:=bv2 za zb (by omega) (by omega)
     have HI2:Hid (IsB (wr.alloc (.cells #[.int .u8 (za:Int),.int .u8 (zb:Int)] 5)) (some ⟨wr.heap.size,0,none⟩) 2 2 [UInt8.ofNat za,UInt8.ofNat zb]):=isB_made (w:=wr) (cs:=#[.int .u8 (za:Int),.int .u8 (zb:Int)]) (l:=[UInt8.ofNat za,UInt8.ofNat zb]) HBv (by simp)
     obtain⟨Y3,hr3,hA3,-⟩:=(HA.out.on ((Below.refl _ wr).alloc (Nat.le_refl _) (.cells #[.int .u8 (za:Int),.int .u8 (zb:Int)] 5))).app HI2.out (by have:=HFt.out.1;simp;omega) 33
     have HA3:=mkHid hA3
     have hl3:(ac++[UInt8.ofNat za,UInt8.ofNat zb]).length=(hd++entsB p.es++kidsB (p.ks.take (q+1))).length:=by rw[HFt.out.2]
     rw[←HFt.out.2] at HA3
     rw[hl3] at hr3
     generalize hn3:(hd++entsB p.es++kidsB (p.ks.take (q+1))).length=n3 at hr3
     have HN3:=mkHid hn3
     have HR3:=mkHid hr3
     clear hl3 hr3 hA3 HI2 HBv hza hzb HFt hn3 HA hze hz
     go_wp2_with (at_builtin;refine list_app_run _ rfl _ _ 33 33 33 rfl rfl _ _ rfl rfl HR3.out ?_;clear HR3)
     go_roundg (p.ks.length-(q+1))
     case measure=>omega
     case rel=>exact⟨q+1,hd++entsB p.es++kidsB (p.ks.take (q+1)),by omega,Nat.le_refl _,by go_num,by rw[HN3.out],rfl,HA3⟩
    ·have hlt':¬(q:Int)<(p.ks.length:Int):=by omega
     have HFin:Hid (pad512 ac=pgB p):=by
      unfold Hid pgB
      rw[HAc.out,show q=p.ks.length by omega,List.take_length,←HHd.out,HNN.out]
      simp
     have hle:=HA.out.row.1
     have hsl:=fun W=>slH .i64 (w.heap.size+1) 0 ac.length 512 512 (by omega) W
     simp only[Int.cast_ofNat_Int] at hsl
     go_wp2_with fail
     go_ret
     refine⟨⟨_,rfl,w.heap.size+1,rfl,?_,pad512_len _⟩,HA.out.low⟩
     rw[←HFin.out]
     exact HA.out.row.2
end Go.Proofs.YtpecobmfabmpkaaGreatDoor
namespace Go.Proofs.YtpecobmfabmpkaaGreatDoor
open Go.RowKit
variable {fl:Nat}
structure PgS (p:Pg):Prop where
  f:PgF p
  n:p.es.length+p.ks.length≤254
  sz:szL p.es+2 * p.ks.length≤509
  k:∀i∈p.ks,i<65536
  e:∀e∈p.es,e.k.length≤255∧e.v.length≤255
theorem KS.ue {base:Nat}{w w':World}(h:KS base w w')(hle:fl≤base):KeepU fl UE w w':=KeepU.ofB (h.o.less (by decide)) h.b hle
abbrev T13:List TypeId:=[30,4,133,64,87,144,50,215,3,33]
theorem SpAx.keep13 {w w':World}{S J P base:Nat}{t:Tl}{j:Jl}(h:SpAx w S J P base t j)(hk:KeepT T13 w w'):SpAx w' S J P base t j:=by
  obtain⟨T,g,c,h⟩:=h
  obtain⟨M,tr,ht⟩:=h.ta
  exact⟨T,g,c,⟨M,tr,⟨hk.blk ht.ja.blk (by decide),ht.ja.low,ht.ja.d.keep hk (by decide) (by decide) (by decide),ht.ja.seq⟩,hk.blk ht.blk (by decide),ht.low,ht.lowM,ownM_keep ht.own hk,ht.sort,ht.ok,ht.over⟩,hk.blk h.blk (by decide),h.low,own_keepO (KeepO.ofT (us:=[5]) hk (by decide)) h.own (by decide)⟩
theorem KeepT.grown1 {ts:List TypeId}{w w':World}{B ty:Nat}{cs:List Value}(hB:Blk w B ty cs)(ht:ty∈ts)(hg:w.grownBy w' (some B)):KeepT ts w w' :=
  ⟨hg.size,fun k o hk hno=>(hg.block k (Array.getElem?_eq_some_iff.1 hk).1 (fun e=>by
    have e2:=Option.some.inj e
    subst e2
    unfold Blk at hB
    rw[hk] at hB
    exact hno _ _ _ (Option.some.inj hB) ht)).trans hk⟩
theorem KS.mid {base:Nat}{w a b c:World}{B:Nat}(h1:KS base w a)(hg:a.grownBy b (some B))(hB:w.heap.size≤B)(hlo:base≤w.heap.size)(h3:KS base b c):KS base w c :=
  ⟨⟨Nat.le_trans h1.o.size (Nat.le_trans hg.size h3.o.size),fun k x t fz hk ht=>by
      have h4:=h1.o.same k x t fz hk ht
      have hkl:=(Array.getElem?_eq_some_iff.1 hk).1
      exact h3.o.same k x t fz ((hg.block k (Array.getElem?_eq_some_iff.1 h4).1 (fun e=>by have:=Option.some.inj e;omega)).trans h4) ht,
    fun k o hk ho=>by
      have h4:=h1.o.ctl k o hk ho
      have hkl:=(Array.getElem?_eq_some_iff.1 hk).1
      exact h3.o.ctl k o ((hg.block k (Array.getElem?_eq_some_iff.1 h4).1 (fun e=>by have:=Option.some.inj e;omega)).trans h4) ho⟩,
   (h1.b.grown hg (Nat.le_trans hlo h1.o.size) (fun k e=>by have:=Option.some.inj e;omega)).trans h3.b⟩
theorem pgB_len (p:Pg):(pgB p).length=512:=pad512_len _
theorem pgWrite (w:World)(S J P base m:Nat)(t:Tl)(j:Jl)(s:Nat)(p:Pg)(ve vk:Value)(L:List Eq3)(h:SpAx w S J P base t j)(hf:Fit t j m)(hp:PgR fl w p ve vk L)(hs:PgS p)(hsn:s≤4096)(hz:spWrE t j (s:Int) (pgB p)=0):
    Calls Tryz.prog 100 #[gT S,.agg (pgc (s:Int) p.lv ve vk).toArray] w fun e w'=>e=.returned (.tuple #[])∧SpAx w' S J P base (spWr t j (s:Int) (pgB p)) j∧KS base w w':=by
  have hlo:=spcOK.lo h
  unfold gT
  obtain⟨ea,ec,ka,kc,rfl,rfl⟩:=hp.forms
  have W1:Below w.heap.size w ((w.alloc (.cells #[.pointer (some ⟨S,0,none⟩)] 87)).alloc (.cells #[.int .i64 (s:Int),.int .i64 (p.lv:Int),.slice ea p.es.length ec,.slice ka p.ks.length kc] 133)):=((Below.refl _ w).alloc (Nat.le_refl _) _).alloc (by simp) _
  have k0:Blk ((w.alloc (.cells #[.pointer (some ⟨S,0,none⟩)] 87)).alloc (.cells #[.int .i64 (s:Int),.int .i64 (p.lv:Int),.slice ea p.es.length ec,.slice ka p.ks.length kc] 133)) w.heap.size 87 [.pointer (some ⟨S,0,none⟩)]:=(Blk.newAt w w.heap.size 87 #[.pointer (some ⟨S,0,none⟩)] [.pointer (some ⟨S,0,none⟩)] rfl rfl).alloc _
  have k1:Blk ((w.alloc (.cells #[.pointer (some ⟨S,0,none⟩)] 87)).alloc (.cells #[.int .i64 (s:Int),.int .i64 (p.lv:Int),.slice ea p.es.length ec,.slice ka p.ks.length kc] 133)) (w.heap.size+1) 133 [.int .i64 (s:Int),.int .i64 (p.lv:Int),.slice ea p.es.length ec,.slice ka p.ks.length kc]:=Blk.newAt _ (w.heap.size+1) 133 _ _ (by simp) rfl
  generalize hW:(w.alloc (.cells #[.pointer (some ⟨S,0,none⟩)] 87)).alloc (.cells #[.int .i64 (s:Int),.int .i64 (p.lv:Int),.slice ea p.es.length ec,.slice ka p.ks.length kc] 133)=Y0 at *
  have HCt:Hid (∀W,KS base Y0 W→W.cell? ⟨w.heap.size,0,none⟩=some (.pointer (some ⟨S,0,none⟩))∧W.cell? ⟨w.heap.size+1,0,none⟩=some (.int .i64 (s:Int))∧W.cell? ⟨w.heap.size+1,1,none⟩=some (.int .i64 (p.lv:Int))∧W.cell? ⟨w.heap.size+1,2,none⟩=some (.slice ea p.es.length ec)∧W.cell? ⟨w.heap.size+1,3,none⟩=some (.slice ka p.ks.length kc)):=fun W hW=>⟨(hW.o.blk k0 (by decide)).cell 0,(hW.o.blk k1 (by decide)).cell 0,(hW.o.blk k1 (by decide)).cell 1,(hW.o.blk k1 (by decide)).cell 2,(hW.o.blk k1 (by decide)).cell 3⟩
  have hD:Below Y0.heap.size Y0 Y0.drew:=Below.drew (Below.refl _ Y0)
  have HSe:=codSector (s:Int) p _ _ L Y0.drew ((hp.below W1).below hD) hs.f hs.n hs.sz hs.k hs.e
  have HK0:Hid (KS base w Y0.drew∧KS base Y0 Y0.drew):=⟨KS.of_below (W1.trans (hD.mono W1.size)) hlo,KS.of_below hD (Nat.le_trans hlo W1.size)⟩
  have HWr:Hid (∀W v,Below Y0.drew.heap.size Y0.drew W→SecU W v (pgB p)→Calls Tryz.prog 33 #[.pointer (some ⟨S,0,none⟩),.int .i64 (s:Int),v] W fun e w'=>e=.returned (.int .i64 0)∧SpAx w' S J P base (spWr t j (s:Int) (pgB p)) j∧KS base W w'):=fun W v hWb hv=>by
    obtain⟨g,rfl,hB⟩:=hv.isB
    have:=codSWrite W S J P base m t j (s:Int) (some ⟨g,0,none⟩) 512 (pgB p) (SpAx.keep h (KeepT.of_below (W1.trans ((hD.trans (hWb.mono hD.size)).mono W1.size)))) hf (by omega) (by omega) (by rw[pgB_len];omega) (fun W2 h2 _=>hB W2 h2)
    rw[hz] at this
    exact this
  have HLo:Hid (base≤Y0.drew.heap.size):=Nat.le_trans hlo W1.size
  have HNy:=needYes13 0
  have HSeU:=mkHid HSe
  clear hp hs h hf k0 k1 W1 hz hD HSe
  unfold pgc at *
  go_enter Tryz.func100,Tryz.ntmps100
  go_wp2_with fail
  refine lk0 (fun W=>W.cell? ⟨w.heap.size,0,none⟩=some (.pointer (some ⟨S,0,none⟩))∧W.cell? ⟨w.heap.size+1,0,none⟩=some (.int .i64 (s:Int))∧W.cell? ⟨w.heap.size+1,1,none⟩=some (.int .i64 (p.lv:Int))∧W.cell? ⟨w.heap.size+1,2,none⟩=some (.slice ea p.es.length ec)∧W.cell? ⟨w.heap.size+1,3,none⟩=some (.slice ka p.ks.length kc)) 7 (HCt.out _ HK0.out.2) (fun hHeld=>?_)
  generalize hY1:Y0.drew=Y1 at *
  refine lkT 5 0 ?_ rfl (Or.inl ⟨by rfl,?_⟩) hHeld ?_
  rotate_left
  · intro w hSw;obtain⟨s0,s1,s2,s3,s4⟩:=hSw;go_simp;with_reducible rfl
  (try simp only[Act.put,sIx,sZ0,sZ1])
  refine lkT 6 1 (.pointer (some ⟨S,0,none⟩)) rfl (Or.inl ⟨by rfl,?_⟩) hHeld ?_
  · intro w hSw;obtain⟨s0,s1,s2,s3,s4⟩:=hSw;go_simp
  (try simp only[Act.put,sIx,sZ0,sZ1])
  refine lkT 7 2 ?_ rfl (Or.inl ⟨by rfl,?_⟩) hHeld ?_
  rotate_left
  · intro w hSw;obtain⟨s0,s1,s2,s3,s4⟩:=hSw;go_simp;with_reducible rfl
  (try simp only[Act.put,sIx,sZ0,sZ1])
  refine lkT 8 3 (.int .i64 (s:Int)) rfl (Or.inl ⟨by rfl,?_⟩) hHeld ?_
  · intro w hSw;obtain⟨s0,s1,s2,s3,s4⟩:=hSw;go_simp
  (try simp only[Act.put,sIx,sZ0,sZ1])
  refine lkT 9 4 (.agg #[.int .i64 (s:Int),.int .i64 (p.lv:Int),.slice ea p.es.length ec,.slice ka p.ks.length kc]) rfl (Or.inl ⟨by rfl,?_⟩) hHeld ?_
  · intro w hSw;obtain⟨s0,s1,s2,s3,s4⟩:=hSw;go_simp
  (try simp only[Act.put,sIx,sZ0,sZ1])
  refine lk1 5 rfl (fun K hK=>?_)
  go_simp
  go_wp2_with (go_at_call 139;refine HSeU.out.mono ?_;rintro e y2 ⟨⟨v2,rfl,hv2⟩,hb2⟩)
  have HK2:Hid (KS base Y1 y2):=KS.of_below hb2 HLo.out
  have HWy:=HWr.out y2 v2 hb2 hv2
  refine hK.out _ _ (HCt.out _ (HK0.out.2.trans HK2.out)) (fun hHeld=>?_)
  (try simp only[Act.put,sIx,sZ0,sZ1])
  clear hK K HSeU
  refine lk1 6 rfl (fun K hK=>?_)
  go_simp
  go_wp2_with (go_at_call 33;refine HWy.mono ?_;rintro e y3 ⟨rfl,hA3,hk3⟩)
  have HK3:=mkHid hk3
  have HA3:=mkHid hA3
  refine hK.out _ _ (HCt.out _ ((HK0.out.2.trans HK2.out).trans HK3.out)) (fun hHeld=>?_)
  (try simp only[Act.put,sIx,sZ0,sZ1])
  clear hK K HWy
  refine lkZ rfl (fun K hK=>?_)
  go_simp
  refine hK.out _ _ ?_
  simp only[Exit.then]
  (try simp only[Act.put,sIx,sZ0,sZ1])
  clear hK K hHeld
  go_wp2_with (go_at_call 99;refine(HNy _).mono ?_;rintro x w2 ⟨rfl,hww⟩;rw[hww];clear hww w2)
  go_end0
  exact⟨rfl,HA3.out,(HK0.out.1.trans HK2.out).trans HK3.out⟩
theorem pgGive (w:World)(S J P base m:Nat)(t:Tl)(j:Jl)(s:Nat)(lv:Nat)(ve vk:Value)(h:SpAx w S J P base t j)(hf:Fit t j m)(hsn:s≤4096)(hz:gvE t j (s:Int)=0)(hve:∃a n c,ve=.slice a n c)(hvk:∃a n c,vk=.slice a n c):
    Calls Tryz.prog 71 #[gT S,.agg (pgc (s:Int) lv ve vk).toArray] w fun e w'=>e=.returned (.tuple #[])∧SpAx w' S J P base (gvT t j (s:Int)) j∧KS base w w':=by
  have hlo:=spcOK.lo h
  obtain⟨ea,en,ec,rfl⟩:=hve
  obtain⟨ka,kn,kc,rfl⟩:=hvk
  unfold gT pgc
  have W1:Below w.heap.size w ((w.alloc (.cells #[.pointer (some ⟨S,0,none⟩)] 87)).alloc (.cells #[.int .i64 (s:Int),.int .i64 (lv:Int),.slice ea en ec,.slice ka kn kc] 133)):=((Below.refl _ w).alloc (Nat.le_refl _) _).alloc (by simp) _
  have k0:Blk ((w.alloc (.cells #[.pointer (some ⟨S,0,none⟩)] 87)).alloc (.cells #[.int .i64 (s:Int),.int .i64 (lv:Int),.slice ea en ec,.slice ka kn kc] 133)) w.heap.size 87 [.pointer (some ⟨S,0,none⟩)]:=(Blk.newAt w w.heap.size 87 #[.pointer (some ⟨S,0,none⟩)] [.pointer (some ⟨S,0,none⟩)] rfl rfl).alloc _
  have k1:Blk ((w.alloc (.cells #[.pointer (some ⟨S,0,none⟩)] 87)).alloc (.cells #[.int .i64 (s:Int),.int .i64 (lv:Int),.slice ea en ec,.slice ka kn kc] 133)) (w.heap.size+1) 133 [.int .i64 (s:Int),.int .i64 (lv:Int),.slice ea en ec,.slice ka kn kc]:=Blk.newAt _ (w.heap.size+1) 133 _ _ (by simp) rfl
  have HG:=codGive _ S J P base m t j (s:Int) (SpAx.keep h (KeepT.of_below W1)) hf (by omega) (by omega)
  rw[hz] at HG
  have c0:=k0.cell 0
  have c1:=k1.cell 0
  simp only[List.getElem?_cons_zero] at c0 c1
  have HK1:Hid (KS base w ((w.alloc (.cells #[.pointer (some ⟨S,0,none⟩)] 87)).alloc (.cells #[.int .i64 (s:Int),.int .i64 (lv:Int),.slice ea en ec,.slice ka kn kc] 133))):=KS.of_below W1 hlo
  have HNy:=needYes13 0
  clear h hf k0 k1 W1 hz
  go_enter Tryz.func71,Tryz.ntmps71
  go_wp2_with fail
  refine HG.mono ?_
  rintro e y1 ⟨rfl,hA1,hk1⟩
  go_wp2_with (go_at_call 99;refine(HNy _).mono ?_;rintro x w2 ⟨rfl,hww⟩;rw[hww];clear hww w2)
  go_end0
  exact⟨rfl,hA1,HK1.out.trans hk1⟩
theorem pgAdd (w:World)(S J P base m:Nat)(t:Tl)(j:Jl)(at_:Int)(p:Pg)(ve vk:Value)(L:List Eq3)(h:SpAx w S J P base t j)(hf:Fit t j m)(hp:PgR fl w p ve vk L)(hs:PgS p)(hE:tkE t j=0)(hF:Fit (tkT t j) j m)(hn:tkV t j<j.p.n)(hz:spWrE (tkT t j) j (tkV t j:Int) (pgB p)=0)(hfl:fl≤base:=by omega):
    Calls Tryz.prog 66 #[gT S,.agg (pgc at_ p.lv ve vk).toArray] w fun e w'=>e=.returned (.int .i64 (tkV t j:Int))∧SpAx w' S J P base (addT t j (pgB p)) j∧KS base w w':=by
  have hlo:=spcOK.lo h
  have hn2:=hf.few.n
  obtain⟨ea,ec,ka,kc,rfl,rfl⟩:=hp.forms
  unfold gT addT
  have W1:Below w.heap.size w ((w.alloc (.cells #[.pointer (some ⟨S,0,none⟩)] 87)).alloc (.cells #[.int .i64 at_,.int .i64 (p.lv:Int),.slice ea p.es.length ec,.slice ka p.ks.length kc] 133)):=((Below.refl _ w).alloc (Nat.le_refl _) _).alloc (by simp) _
  have k0:Blk ((w.alloc (.cells #[.pointer (some ⟨S,0,none⟩)] 87)).alloc (.cells #[.int .i64 at_,.int .i64 (p.lv:Int),.slice ea p.es.length ec,.slice ka p.ks.length kc] 133)) w.heap.size 87 [.pointer (some ⟨S,0,none⟩)]:=(Blk.newAt w w.heap.size 87 #[.pointer (some ⟨S,0,none⟩)] [.pointer (some ⟨S,0,none⟩)] rfl rfl).alloc _
  have k1:Blk ((w.alloc (.cells #[.pointer (some ⟨S,0,none⟩)] 87)).alloc (.cells #[.int .i64 at_,.int .i64 (p.lv:Int),.slice ea p.es.length ec,.slice ka p.ks.length kc] 133)) (w.heap.size+1) 133 [.int .i64 at_,.int .i64 (p.lv:Int),.slice ea p.es.length ec,.slice ka p.ks.length kc]:=Blk.newAt _ (w.heap.size+1) 133 _ _ (by simp) rfl
  have HG:=codTake _ S J P base m t j (SpAx.keep h (KeepT.of_below W1)) hf
  rw[hE] at HG
  have c0:=k0.cell 0
  simp only[List.getElem?_cons_zero] at c0
  have HK1:Hid (KS base w ((w.alloc (.cells #[.pointer (some ⟨S,0,none⟩)] 87)).alloc (.cells #[.int .i64 at_,.int .i64 (p.lv:Int),.slice ea p.es.length ec,.slice ka p.ks.length kc] 133))):=KS.of_below W1 hlo
  have HB0:=mkHid k0
  have HB1:=mkHid k1
  have HPr:=mkHid (hp.below W1)
  have HNy:=needYes13 0
  have hne:w.heap.size≠w.heap.size+1:=by omega
  have HWr:Hid (∀W,SpAx W S J P base (tkT t j) j→PgR fl W p (.slice ea p.es.length ec) (.slice ka p.ks.length kc) L→Calls Tryz.prog 100 #[.agg #[.pointer (some ⟨S,0,none⟩)],.agg #[.int .i64 (tkV t j:Int),.int .i64 (p.lv:Int),.slice ea p.es.length ec,.slice ka p.ks.length kc]] W fun e w'=>e=.returned (.tuple #[])∧SpAx w' S J P base (spWr (tkT t j) j (tkV t j:Int) (pgB p)) j∧KS base W w'):=fun W h1 h2=>pgWrite W S J P base m (tkT t j) j (tkV t j) p _ _ L h1 hF h2 hs (by omega) hz
  unfold pgc at *
  clear h hf k0 k1 W1 hz hs hp hF hE
  generalize tkV t j=sv at *
  generalize spWr (tkT t j) j (sv:Int) (pgB p)=tn at *
  generalize tkT t j=tt at *
  go_enter Tryz.func66,Tryz.ntmps66
  go_wp2_with fail
  refine HG.mono ?_
  rintro e y1 ⟨rfl,hA1,hk1⟩
  have HA1:=mkHid hA1
  have HKy:=mkHid hk1
  have HBy0:=mkHid (hk1.o.blk HB0.out (by decide))
  have HBy1:=mkHid (hk1.o.blk HB1.out (by decide))
  have HPy:=mkHid (HPr.out.keep (hk1.ue hfl))
  have d0:=HBy1.out.cell 0
  simp only[List.getElem?_cons_zero] at d0
  have f0:=HBy1.out.frozen 0
  have hg:=grown_set y1 (w.heap.size+1) 0 (.int .i64 (sv:Int))
  have HBz1:=mkHid (HBy1.out.set 0 (.int .i64 (sv:Int)))
  have HBz0:=mkHid (HBy0.out.other ⟨w.heap.size+1,0,none⟩ (.int .i64 (sv:Int)) hne)
  have HPz:=mkHid (HPy.out.keep (KeepU.grown1 HBy1.out (by decide) hg (by omega)))
  have HAz:=mkHid (SpAx.keep13 HA1.out (KeepT.grown1 HBy1.out (by decide) hg))
  clear HG hA1 hk1 hg
  have z0:=HBz0.out.cell 0
  have z1:=HBz1.out.cell 0
  have z2:=HBz1.out.cell 1
  have z3:=HBz1.out.cell 2
  have z4:=HBz1.out.cell 3
  simp only[gZ0,gZ1,List.set_cons_zero] at z0 z1 z2 z3 z4
  have HWz:=HWr.out _ HAz.out HPz.out
  go_wp2_with (go_at_call 99;refine(HNy _).mono ?_;rintro x w2 ⟨rfl,hww⟩;rw[hww];clear hww w2)
  refine HWz.mono ?_
  rintro e y3 ⟨rfl,hA3,hk3⟩
  go_wp2_with fail
  go_ret
  exact⟨rfl,hA3,KS.mid (HK1.out.trans HKy.out) (grown_set y1 (w.heap.size+1) 0 _) (by omega) hlo hk3⟩
end Go.Proofs.YtpecobmfabmpkaaGreatDoor
