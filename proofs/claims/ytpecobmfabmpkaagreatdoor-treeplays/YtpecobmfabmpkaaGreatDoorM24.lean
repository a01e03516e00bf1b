/- TsE TsK TsF OpenK13 -/
import Derived.Test.YtpecobmfabmpkaaGreatDoorM23
set_option maxRecDepth 100000
set_option maxHeartbeats 8000000
namespace Go.Proofs.YtpecobmfabmpkaaGreatDoor
section
open Go.RowKit
structure Ply (w wr:World)(J P m:Nat)(j:Jl)(root:Nat)(SS:List Int)(v:Value)(ls:List Eq3):Prop where
 tj:TJ wr J P w.heap.size m 4096 j root (plE ls) SS
 ow:OwnE wr w.heap.size v ls
 ek:∀x∈ls,EtK wr x.1 x.2
 bel:Below w.heap.size w wr
structure Plx (w wr:World)(S J P m:Nat)(t:Tl)(j:Jl)(root:Nat)(SS:List Int)(v:Value)(ls:List Eq3):Prop where
 sa:SpAx wr S J P w.heap.size t j
 tk:Tk t j m SS
 tr:TR t j root (plE ls) SS
 n:j.p.n=4096
 ow:OwnE wr w.heap.size v ls
 ek:∀x∈ls,EtK wr x.1 x.2
 bel:Below w.heap.size w wr
theorem Plx.row {w wr:World}{S J P m:Nat}{t:Tl}{j:Jl}{root:Nat}{SS:List Int}{v:Value}{ls:List Eq3}(h:Plx w wr S J P m t j root SS v ls):RowE wr w.heap.size v ls:=⟨h.ow,fun x hx=>(h.ek x hx).is⟩
theorem OwnE.on13 {w w':World}{base:Nat}{v:Value}{l:List Eq3}(h:OwnE w base v l)(hb:Below w.heap.size w w'):OwnE w' base v l:=own_keepO (us:=[91]) (KeepO.of_below hb) h (by decide)
theorem Plx.on {w wr wr':World}{S J P m:Nat}{t:Tl}{j:Jl}{root:Nat}{SS:List Int}{v:Value}{ls:List Eq3}(h:Plx w wr S J P m t j root SS v ls)(hb:Below wr.heap.size wr wr'):Plx w wr' S J P m t j root SS v ls :=
 ⟨SpAx.keep h.sa (KeepT.of_below hb),h.tk,h.tr,h.n,h.ow.on13 hb,fun x hx=>(h.ek x hx).keep (KeepO.of_below hb),h.bel.trans (hb.mono h.bel.size)⟩
theorem Plx.by_ {w wr wr':World}{S J P m:Nat}{t t':Tl}{j:Jl}{root root':Nat}{SS SS':List Int}{v:Value}{ls:List Eq3}{l':List Et}(h:Plx w wr S J P m t j root SS v ls)(hk:KS w.heap.size wr wr')(hs:SpAx wr' S J P w.heap.size t' j)(ht:Tk t' j m SS')(hr:TR t' j root' l' SS'):
  (OwnE wr' w.heap.size v ls∧(∀x∈ls,EtK wr' x.1 x.2)∧Below w.heap.size w wr')∧RowE wr' w.heap.size v ls∧(∀W v' ls',Below wr'.heap.size wr' W→OwnE W w.heap.size v' ls'→plE ls'=l'→(∀x∈ls',EtK W x.1 x.2)→Plx w W S J P m t' j root' SS' v' ls'):=by
 have h1:OwnE wr' w.heap.size v ls:=own_keepO hk.o h.ow (by decide)
 have h2:∀x∈ls,EtK wr' x.1 x.2:=fun x hx=>(h.ek x hx).keep (hk.o.less (by decide))
 have h3:=h.bel.trans hk.b
 refine⟨⟨h1,h2,h3⟩,⟨h1,fun x hx=>(h2 x hx).is⟩,fun W v' ls' hW ho he hx=>⟨SpAx.keep hs (KeepT.of_below hW),ht,by rw[he];exact hr,h.n,ho,hx,h3.trans (hW.mono h3.size)⟩⟩
theorem Ply.open_ {w wr wr':World}{S J P m:Nat}{j:Jl}{root:Nat}{SS:List Int}{v:Value}{ls:List Eq3}(h:Ply w wr J P m j root SS v ls)(hs:SpAx wr' S J P w.heap.size t0 j)(hk:KS w.heap.size wr wr'):Plx w wr' S J P m t0 j root SS v ls :=
 ⟨hs,h.tj.tk,h.tj.tr,h.tj.n,own_keepO hk.o h.ow (by decide),fun x hx=>(h.ek x hx).keep (hk.o.less (by decide)),h.bel.trans hk.b⟩
theorem Plx.shut {w wr wr':World}{S J P m m':Nat}{t:Tl}{j j':Jl}{root:Nat}{SS:List Int}{v:Value}{ls:List Eq3}(h:Plx w wr S J P m t j root SS v ls)(ht:TJ wr' J P w.heap.size m' 4096 j' root (plE ls) SS)(hk:KS w.heap.size wr wr'):Ply w wr' J P m' j' root SS v ls :=
 ⟨ht,own_keepO hk.o h.ow (by decide),fun x hx=>(h.ek x hx).keep (hk.o.less (by decide)),h.bel.trans hk.b⟩
theorem Plx.drop {w wr:World}{S J P m:Nat}{j:Jl}{root:Nat}{SS:List Int}{v:Value}{ls:List Eq3}(h:Plx w wr S J P m t0 j root SS v ls):Ply w wr J P m j root SS v ls:=⟨⟨spcOK.toJ h.sa,h.tk,h.tr,h.n⟩,h.ow,h.ek,h.bel⟩
theorem mkKey_len (r:Nat):(mkKey r).length≤63:=by
 unfold mkKey
 rw[List.length_append,List.length_replicate]
 simp only[List.length_cons,List.length_nil]
 omega
theorem keyP_len (p:Kp)(h:p.key.length≤1000):(keyP p).length≤1000:=by
 unfold keyP
 split
 ·have:=mkKey_len (nK p.n 50);omega
 ·exact h
theorem valP_len (p:Kp)(h:p.value.length≤1000):(valP p).length≤1000:=by
 unfold valP
 split
 ·have h1:=nK_lt p.m 170 (by omega)
  have h2:(mkVal p.m (nK p.m 170)).length=nK p.m 170:=by unfold mkVal;simp
  have h3:nK p.m ((170:Nat):Int)=nK p.m 170:=rfl
  omega
 ·exact h
theorem at_nil (l:List Et):atE l []=0:=by
 cases l with
 | nil=>rfl
 | cons e l=>rw[atE,if_neg (by cases e.k<;>simp[Op.bytesLess])]
theorem scan_all (l:List Et)(h:l.length≤1000):scanE13 l [] 1000=l:=by
 unfold scanE13
 rw[at_nil,List.drop_zero,List.take_of_length_le (by simpa using h)]
theorem KpK.keep {fl:Nat}{w w':World}{p:Kp}{q:KpA}(h:KpK fl w p q)(hk:KeepU fl [5] w w'):KpK fl w' p q:=⟨fun W hW=>h.k W (hk.trans hW),fun W hW=>h.v W (hk.trans hW)⟩
structure KqR (x:Kq):Prop where
 n0 : -9223372036854775808≤x.1.n
 n1:x.1.n≤9223372036854775807
 m0 : -9223372036854775808≤x.1.m
 m1:x.1.m≤9223372036854775807
theorem isb_low {w w':World}{a:Option Addr}{n c:Nat}{l:List UInt8}(h:IsB w a n c l)(hl:∀k,k<w.heap.size→w'.heap[k]?=w.heap[k]?):IsB w' a n c l:=by
 obtain⟨h1,h2,h3,h4,h5⟩:=h
 refine⟨h1,h2,h3,h4,fun hp=>?_⟩
 obtain⟨b,off,e,hc⟩:=h5 hp
 refine⟨b,off,e,fun i hi=>?_⟩
 have h6:=hc i hi
 have h7:=hl b (cell_lt h6)
 rw[←h6]
 unfold World.cell?
 simp only[h7]
theorem kpk_in {w:World}{p:Kp}{q:KpA}(h1:IsB w q.a p.key.length q.c p.key)(h2:IsB w q.b p.value.length q.d p.value):KpK w.heap.size w p q :=
 ⟨fun _ hW=>isb_low h1 fun k hk=>hW.low k hk hk,fun _ hW=>isb_low h2 fun k hk=>hW.low k hk hk⟩
theorem tail_facts {ln pn k:Nat}(hpg:(pn=0↔ln=0)∧pn≤2 * ln-1∧pn≤ln+1)(hk:ln≤k+1)(hk2:k<150):(ln=0∧pn=0)∨(¬(ln:Int)=0∧¬(pn:Int)=0∧((ln:Int)==0)=false∧((pn:Int)==0)=false∧IntKind.i64.wrap (2 * (ln:Int))=2 * (ln:Int)∧IntKind.i64.wrap (2 * (ln:Int)-1)=2 * (ln:Int)-1∧¬(2 * (ln:Int)-1<(pn:Int))∧¬(2 * (ln:Int)-1<0)∧(0:Int)<2 * (ln:Int)-1∧IntKind.i64.wrap (4045-(pn:Int))=4045-(pn:Int)):=by
 by_cases h0:ln=0
 ·exact .inl ⟨h0,hpg.1.2 h0⟩
 ·have hp0:¬pn=0:=fun e=>h0 (hpg.1.1 e)
  have f1:¬(ln:Int)=0:=by omega
  have f2:¬(pn:Int)=0:=by omega
  exact .inr ⟨f1,f2,beq_eq_false_iff_ne.2 f1,beq_eq_false_iff_ne.2 f2,wrapi64_in _ (by omega) (by omega),wrapi64_in _ (by omega) (by omega),by omega,by omega,by omega,wrapi64_in _ (by omega) (by omega)⟩
theorem del_len_le (l:List Et)(k:List UInt8):(delE13 l k).length≤l.length:=by
 unfold delE13
 split
 ·rw[List.length_append,List.length_take,List.length_drop];omega
 ·exact Nat.le_refl _
theorem scan_len (l:List Et)(k:List UInt8)(m:Int):(scanE13 l k m).length≤l.length:=by
 unfold scanE13
 rw[List.length_take,List.length_drop];omega
theorem IsEs.on13 {w w':World}{a:Option Addr}{n:Nat}{l:List Eq3}(h:IsEs w a n l)(hb:Below w.heap.size w w'):IsEs w' a n l:=⟨h.len,fun hn=>by
 obtain⟨g,off,e,hc⟩:=h.cells hn
 refine⟨g,off,e,fun k x hx=>?_⟩
 obtain⟨h1,h2,h3⟩:=hc k x hx
 exact⟨(hb.cell (p:=⟨g,off+k * 2,none⟩) (cell_lt h1)).trans h1,(hb.cell (p:=⟨g,off+k * 2+1,none⟩) (cell_lt h2)).trans h2,⟨h3.k.below hb rfl,h3.v.below hb rfl⟩⟩⟩
theorem ScanR.isEs {l:List Et}{fr:List UInt8}{most:Int}{B:Nat}{v:Value}{w':World}(h:ScanR l fr most B v w'):∃a c L,v=.slice a L.length c∧IsEs w' a L.length L∧L.map Prod.fst=scanE13 l fr most∧L.length≤c:=by
 obtain⟨L,hO,he,hx⟩:=h
 obtain⟨a,c,rfl,hle,-⟩:=hO.form
 refine⟨a,c,L,rfl,⟨rfl,fun hn=>?_⟩,he,hle⟩
 obtain⟨g,rfl,_,_,_⟩:=hO.at_ 0 hn
 refine⟨g,0,rfl,fun k x hx2=>?_⟩
 obtain⟨hk,rfl⟩:=List.getElem?_eq_some_iff.1 hx2
 obtain⟨g',hg',_,_,hc⟩:=hO.at_ k hk
 obtain rfl:=(Addr.mk.inj (Option.some.inj hg')).1
 have h0:=hc 0 (by omega)
 have h1:=hc 1 (by omega)
 rw[Nat.zero_add]
 exact⟨h0,h1,(hx _ (List.getElem_mem hk)).is⟩
theorem plays13 (ks:List Kq)(a:Option Addr)(n cap:Nat)(w:World)(h:IsK13 w.heap.size w a n ks)(hr:∀x∈ks,KqR x)(hn:n≤140737488351232):
  Calls Tryz.prog 3 #[.slice a n cap] w fun e w'=>e=.returned (.bool true)∧Below w.heap.size w w':=by
 have HAl:=lawAlive13
 have HLt:=lawLight13 ks a n cap w h (by omega)
 cases hlt0:lightK ks with
 | false =>
  rw[hlt0] at HLt
  go_enter Tryz.func3,Tryz.ntmps3
  go_wp2_with fail
  refine HLt.mono ?_
  rintro e x1 ⟨rfl,hb1⟩
  go_wp2_with fail
  refine(HAl x1).mono ?_
  rintro e x2 ⟨rfl,hb2⟩
  go_wp2_with fail
  go_ret
  exact⟨rfl,hb1.trans (hb2.mono hb1.size)⟩
 | true =>
 rw[hlt0] at HLt
 have hli:(∀x∈ks,x.1.key.length+x.1.value.length≤1000)∧n≤150:=by
  unfold lightK at hlt0
  rw[Bool.and_eq_true] at hlt0
  have h1:=of_decide_eq_true hlt0.1
  have h2:=of_decide_eq_true hlt0.2
  rw[h.len] at h2
  exact⟨h1,h2⟩
 obtain⟨hli1,hn150⟩:=hli
 have HLi:=mkHid hli1
 have HR:=mkHid hr
 have HH:=mkHid h
 clear hlt0 hli1 hr h
 go_enter Tryz.func3,Tryz.ntmps3
 go_wp2_with fail
 refine HLt.mono ?_
 rintro e x1 ⟨rfl,hb1⟩
 have HB1:=mkHid hb1
 have HFr:=lawFreshN 4096 (by omega) (by omega) x1 w.heap.size hb1.size
 rw[show ((4096:Nat):Int)=4096 from rfl] at HFr
 clear HLt hb1
 go_wp2_with fail
 refine HFr.mono ?_
 rintro e x2 ⟨⟨J,S0,P,rfl,hS2⟩,hk2⟩
 have HB2:=mkHid (HB1.out.trans hk2.out.b)
 have HS2:=mkHid hS2.out
 clear HFr hS2 hk2 HB1
 go_wp2_with fail
 refine(HAl x2).mono ?_
 rintro e x3 ⟨rfl,hb3⟩
 have HP3:Hid (Ply w x3 J P 50 ⟨Pl.new 4096,0,false⟩ 0 [] (.slice none 0 0) []):=⟨tj_new (by omega) (by omega) (SpAx.keep HS2.out (KeepT.of_below hb3)),OwnE.nil _ _,(fun x hx=>by cases hx),HB2.out.trans (hb3.mono HB2.out.size)⟩
 clear hb3 HS2 HB2
 go_wp2_with fail
 go_loopw [5,6,7] (fun v5 v6 v7 wr=>∃(k m:Nat) (j:Jl) (root:Nat) (SS:List Int) (ls:List Eq3),k≤n∧m≤50+150 * k∧v5=.int .i64 (root:Int)∧v7=.int .i64 (k:Int)∧Hid (ls.length≤k)∧Hid (Ply w wr J P m j root SS v6 ls)) (fun _ _ v _=>n-(Go.RowKit.intOf v).toNat)
 case atStart=>exact⟨0,50,⟨Pl.new 4096,0,false⟩,0,[],[],Nat.zero_le _,Nat.le_refl _,rfl,rfl,Nat.le_refl _,HP3⟩
 case round =>
  clear HP3
  obtain⟨k,m,j,root,SS,ls,hk,hm,rfl,rfl,HL,HP⟩:=hrel
  by_cases hlt:k<n
  ·have hlt':(k:Int)<(n:Int):=by omega
   obtain⟨g,off,rfl,hc⟩:=HH.out.cells (by omega)
   obtain⟨x,hx⟩:∃x,ks[k]?=some x:=⟨ks[k]'(by rw[HH.out.len];exact hlt),List.getElem?_eq_getElem _⟩
   have hxm:=List.mem_of_getElem? hx
   have hck:=hc k x hx
   have HOp:=treeOpen HP.out.tj
   have HCk:Hid (∀W,Below w.heap.size w W→∀j,j<5→W.cell? ⟨g,off+k * 5+j,none⟩=(kpc x.1 x.2)[j]?):=fun W hW j hj=>by
    have h1:=hck j hj
    have h2:∃u,(kpc x.1 x.2)[j]?=some u:=⟨(kpc x.1 x.2)[j]'(by simpa [kpc] using hj),List.getElem?_eq_getElem _⟩
    obtain⟨u,hu⟩:=h2
    rw[hu] at h1 ⊢
    exact(hW.cell (p:=⟨g,off+k * 5+j,none⟩) (cell_lt h1)).trans h1
   have HKx:=mkHid (And.intro (HH.out.ok x hxm) (And.intro (HR.out x hxm) (HLi.out x hxm)))
   clear hc hck hx hxm
   obtain⟨⟨kind,key,nn,mm,val⟩,⟨qa,qc,qb,qd⟩⟩:=x
   obtain⟨la,lc,hvl,-,-⟩:=HP.out.ow.form
   subst hvl
   go_wp2_with fail
   refine HOp.mono ?_
   rintro e y1 ⟨⟨S,rfl,hS1⟩,hk1⟩
   have HX1:=mkHid (HP.out.open_ hS1 hk1)
   have c0:y1.cell? ⟨g,off+k * 5,none⟩=some (.int .i64 kind):=HCk.out y1 HX1.out.bel 0 (by omega)
   have c1:y1.cell? ⟨g,off+k * 5+1,none⟩=some (.slice qa key.length qc):=HCk.out y1 HX1.out.bel 1 (by omega)
   have c2:y1.cell? ⟨g,off+k * 5+2,none⟩=some (.int .i64 nn):=HCk.out y1 HX1.out.bel 2 (by omega)
   have c3:y1.cell? ⟨g,off+k * 5+3,none⟩=some (.int .i64 mm):=HCk.out y1 HX1.out.bel 3 (by omega)
   have c4:y1.cell? ⟨g,off+k * 5+4,none⟩=some (.slice qb val.length qd):=HCk.out y1 HX1.out.bel 4 (by omega)
   have hbA:Below y1.heap.size y1 (y1.alloc (.cells #[.int .i64 kind,.slice qa key.length qc,.int .i64 nn,.int .i64 mm,.slice qb val.length qd] 35)):=(Below.refl _ y1).alloc (Nat.le_refl _) _
   have HXa:=mkHid (HX1.out.on hbA)
   have HBl:=mkHid (Blk.new y1 35 [.int .i64 kind,.slice qa key.length qc,.int .i64 nn,.int .i64 mm,.slice qb val.length qd])
   clear HOp hS1 hk1 HP hbA HCk HX1
   go_upto_region 15 with fail
   generalize hY:y1.alloc (.cells #[.int .i64 kind,.slice qa key.length qc,.int .i64 nn,.int .i64 mm,.slice qb val.length qd] 35)=Y at *
   obtain⟨BO,hBO⟩:∃BO,BO=y1.heap.size:=⟨_,rfl⟩
   rw[←hBO] at HBl ⊢
   clear hY hBO c0 c1 c2 c3 c4
   have hKy:∀W,Below Y.heap.size Y W→KpK w.heap.size W ⟨kind,key,nn,mm,val⟩ ⟨qa,qc,qb,qd⟩:=fun W hW=>HKx.out.1.keep (KeepU.of_below (HXa.out.bel.trans (hW.mono HXa.out.bel.size)))
   have HKey:∀W,Below Y.heap.size Y W→Calls Tryz.prog 11 #[.agg #[.int .i64 kind,.slice qa key.length qc,.int .i64 nn,.int .i64 mm,.slice qb val.length qd]] W fun e w'=>KeyPost w.heap.size (keyP ⟨kind,key,nn,mm,val⟩) e w'∧Below W.heap.size W w':=fun W hW=>lawKey13 ⟨kind,key,nn,mm,val⟩ ⟨qa,qc,qb,qd⟩ W (hKy W hW) HKx.out.2.1.n0 HKx.out.2.1.n1 (by have h9:=HKx.out.2.2;show key.length≤_;have h8:key.length+val.length≤1000:=h9;omega)
   have HVal:∀W,Below Y.heap.size Y W→Calls Tryz.prog 12 #[.agg #[.int .i64 kind,.slice qa key.length qc,.int .i64 nn,.int .i64 mm,.slice qb val.length qd]] W fun e w'=>KeyPost w.heap.size (valP ⟨kind,key,nn,mm,val⟩) e w'∧Below W.heap.size W w':=fun W hW=>lawValue13 ⟨kind,key,nn,mm,val⟩ ⟨qa,qc,qb,qd⟩ W (hKy W hW) HKx.out.2.1.m0 HKx.out.2.1.m1 (by have h9:=HKx.out.2.2;show val.length≤_;have h8:key.length+val.length≤1000:=h9;omega)
   have HKV:Hid ((keyP ⟨kind,key,nn,mm,val⟩).length≤1000∧(valP ⟨kind,key,nn,mm,val⟩).length≤1000):=⟨keyP_len _ (by have h9:=HKx.out.2.2;show key.length≤_;have h8:key.length+val.length≤1000:=h9;omega),valP_len _ (by have h9:=HKx.out.2.2;show val.length≤_;have h8:key.length+val.length≤1000:=h9;omega)⟩
   generalize keyP ⟨kind,key,nn,mm,val⟩=K at *
   generalize valP ⟨kind,key,nn,mm,val⟩=V at *
   go_cut [11,12] from 53 to 237 (fun v11 v12 wx=>(∃ka kc,v11=.slice ka K.length kc∧Hid (BsP w.heap.size wx ka K.length kc K))∧(∃va vc,v12=.slice va V.length vc∧Hid (BsP w.heap.size wx va V.length vc V))∧Hid (Below Y.heap.size Y wx))
   case first =>
    have hD:Below Y.heap.size Y Y.drew:=(Below.refl _ Y).drew
    refine wp_region_noPanic ?_
    refine wp_region_held_drew (S:=fun w'=>Below Y.heap.size Y w') (by kernel_rfl) ((Below.refl _ Y).drew) (fun hHeld=>?_)
    refine takeH (some 74) (i:=0) (v:=.agg #[.int .i64 kind,.slice qa key.length qc,.int .i64 nn,.int .i64 mm,.slice qb val.length qd]) rfl (by kernel_rfl) (by kernel_rfl) (by kernel_rfl) (fun _ _ _ h=>h) (Or.inl ⟨by rfl,?_⟩) hHeld rfl ?_
    ·intro w hSw;have hq:=HBl.out.on hSw;have s0:=hq.cell 0;have s1:=hq.cell 1;have s2:=hq.cell 2;have s3:=hq.cell 3;have s4:=hq.cell 4;simp only[gZ0,gZ1] at s0 s1 s2 s3 s4;go_simp
    (try simp only[Act.put,sIx,sZ0,sZ1])
    refine takeH (some 76) (i:=2) (v:=.agg #[.int .i64 kind,.slice qa key.length qc,.int .i64 nn,.int .i64 mm,.slice qb val.length qd]) rfl (by kernel_rfl) (by kernel_rfl) (by kernel_rfl) (fun _ _ _ h=>h) (Or.inl ⟨by rfl,?_⟩) hHeld rfl ?_
    ·intro w hSw;have hq:=HBl.out.on hSw;have s0:=hq.cell 0;have s1:=hq.cell 1;have s2:=hq.cell 2;have s3:=hq.cell 3;have s4:=hq.cell 4;simp only[gZ0,gZ1] at s0 s1 s2 s3 s4;go_simp
    (try simp only[Act.put,sIx,sZ0,sZ1])
    refine wpAnyH_ready (rs:=[1]) (by kernel_rfl) (by simp) (AllReadyH.cons rfl (fun KK hK=>?_) AllReadyH.nil)
    go_simp
    refine(HKey Y.drew (hD)).mono ?_
    rintro e z1 ⟨⟨ka,kc,rfl,hkk⟩,hz1⟩
    go_simp
    have hz01:Below Y.heap.size Y z1:=hD.trans (hz1.mono hD.size)
    refine hK.out _ _ hz01 (fun hHeld=>?_)
    (try simp only[Act.put,sIx,sZ0,sZ1])
    clear hK KK
    refine wpAnyH_ready (rs:=[3]) (by kernel_rfl) (by simp) (AllReadyH.cons rfl (fun KK hK=>?_) AllReadyH.nil)
    go_simp
    refine(HVal z1 (hz01)).mono ?_
    rintro e z2 ⟨⟨va,vc,rfl,hvv⟩,hz2⟩
    go_simp
    have hz12:Below Y.heap.size Y z2:=hz01.trans (hz2.mono hz01.size)
    refine hK.out _ _ hz12 (fun hHeld=>?_)
    (try simp only[Act.put,sIx,sZ0,sZ1])
    clear hK KK
    refine takeH (some 11) (i:=4) (v:=?_) rfl (by kernel_rfl) (by kernel_rfl) (by kernel_rfl) (fun _ _ _ h=>h) (Or.inl ⟨by rfl,?_⟩) hHeld rfl ?_
    rotate_left
    ·intro w hSw;go_simp;with_reducible rfl
    (try simp only[Act.put,sIx,sZ0,sZ1])
    refine takeH (some 12) (i:=5) (v:=?_) rfl (by kernel_rfl) (by kernel_rfl) (by kernel_rfl) (fun _ _ _ h=>h) (Or.inl ⟨by rfl,?_⟩) hHeld rfl ?_
    rotate_left
    ·intro w hSw;go_simp;with_reducible rfl
    (try simp only[Act.put,sIx,sZ0,sZ1])
    refine wpAnyH_done (by kernel_rfl) ?_ _
    refine NoPanic.normal ?_
    go_wp2_with fail
    go_meet
    case rel=>exact⟨⟨ka,kc,rfl,IsB.bsp (fun W hW=>hkk W ((KeepU.of_below hz2).trans hW))⟩,⟨va,vc,rfl,IsB.bsp hvv⟩,hz12⟩
   case rest =>
    obtain⟨⟨ka,kc,rfl,HB1⟩,⟨va,vc,rfl,HB2⟩,HBy0⟩:=hcut
    rename World=>y
    have HBs:=mkHid (And.intro HB1.out HB2.out)
    have HX:=mkHid (HXa.out.on HBy0.out)
    have HBy:=mkHid (HBl.out.on HBy0.out)
    have d0:y.cell? ⟨BO,0,none⟩=some (.int .i64 kind):=HBy.out.cell 0
    clear HB1 HB2 HBy0 HXa HBl hKy HKey HVal HKx
    obtain⟨kn,hkn⟩:∃kn,kn=K.length:=⟨_,rfl⟩
    by_cases hkind:kind=1
    ·as_aux_lemma =>
      subst hkind
      have c3:y.cell? ⟨BO,3,none⟩=some (.int .i64 mm):=HBy.out.cell 3
      cases hit:itemOk K V with
      | true =>
       have HPt:=codPut13 y S J P w.heap.size m t0 j root (plE ls) SS ⟨K,V⟩ ⟨ka,kc,va,vc⟩ HX.out.sa HX.out.tk HX.out.tr (EtQ.of HBs.out.1 HBs.out.2) hit (by show 0+8≤48;omega) (by rw[plE_len];have:=HL.out;omega) (by have h1:=HX.out.tr.pages.2.2;rw[plE_len] at h1;have:=HL.out;rw[HX.out.n];omega) (Nat.le_refl _)
       have HIt:=fun W=>refItem13 K V ka va kc vc W (by have:=HKV.out;omega) (by have:=HKV.out;omega)
       rw[hit] at HIt
       go_wp2_with fail
       refine HPt.mono ?_
       rintro e y1 ⟨⟨t',r',S',rfl,hA1,hT1,hR1,_⟩,hk1⟩
       obtain⟨⟨hO1,hE1,hB1⟩,hRw1,hBy1⟩:=HX.out.by_ hk1 hA1 hT1 hR1
       have hke:KeepU w.heap.size UB y y1:=KeepU.ofB (hk1.o.less (by decide)) hk1.b (Nat.le_refl _)
       have HRp:=refPut13 ls K V la ka va ls.length lc K.length kc V.length vc w.heap.size y1 hRw1 ((HBs.out.1.keep hke).is) ((HBs.out.2.keep hke).is) (by have:=HL.out;omega) (by have:=HKV.out;omega) (by have:=HKV.out;omega) hB1.size
       have HY1:=mkHid (And.intro hE1 hBy1)
       clear HPt hA1 hT1 hR1 hk1 hO1 hB1 hRw1 hke HX hE1 hBy1
       go_wp2_with (first|(go_at_call 14;refine(HIt _).mono ?_;rintro e Z ⟨rfl,hZ⟩;obtain rfl:=hZ.symm;clear hZ))
       refine HRp.mono ?_
       rintro e y2 ⟨⟨v2,l2,rfl,hO2,he2,hx2⟩,hb2⟩
       obtain⟨va2,vc2,rfl,-,-⟩:=hO2.form
       have HX:=mkHid (HY1.out.2 y2 _ l2 hb2 hO2 he2 (fun x hx=>(hx2 x hx).elim (fun h=>(HY1.out.1 x h).keep (KeepO.of_below hb2)) id))
       have hl2:l2.length≤ls.length+1:=by
        have h1:=put_len (plE ls) K V
        rw[←he2,plE_len,plE_len] at h1
        exact h1
       have hlk:l2.length≤k+1:=by have:=HL.out;omega
       obtain⟨ln,hln⟩:∃ln,ln=l2.length:=⟨_,rfl⟩
       rw[←hln] at HX hlk ⊢
       have HLn:=mkHid hln
       clear HRp hO2 he2 hx2 hb2 HY1 HIt hit hl2 hln
       obtain⟨pn,hpn⟩:∃pn,pn=(S').length:=⟨_,rfl⟩
       have hpg:=HX.out.tr.pages
       rw[plE_len,←HLn.out,←hpn] at hpg
       have HPg:=codPages13 y2 S J P w.heap.size m t' j r' (plE l2) S' HX.out.sa HX.out.tk HX.out.tr (by rw[plE_len,←HLn.out];omega)
       rw[←hpn] at HPg
       have HPn:=mkHid hpn
       clear hpn
       go_wp2_with fail
       refine HPg.mono ?_
       rintro e z1 ⟨rfl,hbz⟩
       have HP1:=mkHid (HX.out.on hbz)
       clear HPg hbz HX
       have HF:=tail_facts hpg hlk (by omega)
       rcases HF with⟨rfl,rfl⟩|⟨f1,f2,f9,fA,f3,f4,f5,f6,f7,f8⟩
       all_goals
        have HCm:=treeCommit HP1.out.sa HP1.out.tk HP1.out.tr HP1.out.n (by omega)
        go_wp2_with fail
        refine HCm.mono ?_
        rintro e z2 ⟨rfl,hT2,hk2⟩
        have HP2:=mkHid (HP1.out.shut hT2 hk2)
        have HOp:=treeOpen hT2
        clear HCm hT2 hk2 HP1
        go_wp2_with fail
        refine HOp.mono ?_
        rintro e z3 ⟨⟨S3,rfl,hS3⟩,hk3⟩
        have HP3:=mkHid (HP2.out.open_ hS3 hk3)
        have HFe:=spcOK.free z3 S3 J P w.heap.size (m+150) t0 (cmJ t' j) hS3 HP3.out.tk.fit
        have hfe:=HP3.out.tk.all
        first|rw[show (freeL (mapL t0 (cmJ t' j)) ((cmJ t' j).p.n-51):Int)=4045 by have h9:=HP3.out.n;rw[h9] at hfe ⊢;have:=HPn.out;omega] at HFe|rw[show (freeL (mapL t0 (cmJ t' j)) ((cmJ t' j).p.n-51):Int)=4045-(pn:Int) by have h9:=HP3.out.n;rw[h9] at hfe ⊢;have:=HPn.out;omega] at HFe
        clear HOp hS3 hk3 hfe HP2
        go_wp2_with fail
        refine HFe.mono ?_
        rintro e z4 ⟨rfl,hS4,hk4⟩
        have HP4:=mkHid ((HP3.out.drop).open_ hS4 hk4).drop
        clear HFe hS4 hk4 HP3
        go_wp2_with fail
        go_roundw
        case rel=>exact⟨k+1,m+150,cmJ t' j,r',S',l2,by omega,by omega,rfl,by go_num,by have:=HLn.out;unfold Hid;omega,HP4⟩
        case measure=>simp[Go.RowKit.intOf];omega
      | false =>
       have HPt:=codPutNo y S root ka va K.length kc V.length vc hit
       have HIt:=fun W=>refItem13 K V ka va kc vc W (by have:=HKV.out;omega) (by have:=HKV.out;omega)
       rw[hit] at HIt
       go_wp2_with fail
       refine HPt.mono ?_
       rintro e y1 ⟨rfl,hb1⟩
       have HP9:=mkHid (HX.out.on hb1).drop
       clear HPt hb1 HX hit
       go_wp2_with (first|(go_at_call 14;refine(HIt _).mono ?_;rintro e Z ⟨rfl,hZ⟩;obtain rfl:=hZ.symm;clear hZ))
       go_roundw
       case rel=>exact⟨k+1,m,j,root,SS,ls,by omega,by omega,rfl,by go_num,by have:=HL.out;unfold Hid;omega,HP9⟩
       case measure=>simp[Go.RowKit.intOf];omega
    by_cases hkind2:kind=2
    ·have hkind:=hkind2
     as_aux_lemma =>
      subst hkind
      cases hit:keyOk K with
      | true =>
       have HPt:=codDel13 y S J P w.heap.size m t0 j root (plE ls) SS ka K.length kc K HX.out.sa HX.out.tk HX.out.tr HBs.out.1.is hit (by show 0+6≤48;omega)
       have HIt:=fun W=>refKey13 K ka kc W (by have:=HKV.out;omega)
       rw[hit] at HIt
       go_wp2_with fail
       refine HPt.mono ?_
       rintro e y1 ⟨⟨t',r',S',rfl,hA1,hT1,hR1,_⟩,hk1⟩
       obtain⟨⟨hO1,hE1,hB1⟩,hRw1,hBy1⟩:=HX.out.by_ hk1 hA1 hT1 hR1
       have hke:KeepU w.heap.size UB y y1:=KeepU.ofB (hk1.o.less (by decide)) hk1.b (Nat.le_refl _)
       have HRp:=refDelete13 ls K la ka ls.length lc K.length kc w.heap.size y1 hRw1 ((HBs.out.1.keep hke).is) (by have:=HL.out;omega) hB1.size
       change Calls Tryz.prog _ _ _ (fun e w'=>(∃v l',e=.returned (.tuple #[v,.bool (hasE13 (plE ls) K)])∧_∧_∧_)∧_) at HRp
       have HY1:=mkHid (And.intro hE1 hBy1)
       have hdl:=del_len_le (plE ls) K
       rw[plE_len] at hdl
       obtain⟨hh,hhh⟩:∃b,b=hasE13 (plE ls) K:=⟨_,rfl⟩
       rw[←hhh] at HRp ⊢
       clear HPt hA1 hT1 hR1 hk1 hO1 hB1 hRw1 hke HX hE1 hBy1 hhh
       go_wp2_with (first|(go_at_call 17;refine(HIt _).mono ?_;rintro e Z ⟨rfl,hZ⟩;obtain rfl:=hZ.symm;clear hZ))
       refine HRp.mono ?_
       rintro e y2 ⟨⟨v2,l2,rfl,hO2,he2,hx2⟩,hb2⟩
       obtain⟨va2,vc2,rfl,-,-⟩:=hO2.form
       have HX:=mkHid (HY1.out.2 y2 _ l2 hb2 hO2 he2 (fun x hx=>(HY1.out.1 x (hx2 x hx)).keep (KeepO.of_below hb2)))
       have hlk:l2.length≤k+1:=by
        rw[←he2,plE_len] at hdl
        have:=HL.out;omega
       obtain⟨ln,hln⟩:∃ln,ln=l2.length:=⟨_,rfl⟩
       rw[←hln] at HX hlk ⊢
       have HLn:=mkHid hln
       clear HRp hO2 he2 hx2 hb2 HY1 HIt hit hln hdl
       obtain⟨pn,hpn⟩:∃pn,pn=(S').length:=⟨_,rfl⟩
       have hpg:=HX.out.tr.pages
       rw[plE_len,←HLn.out,←hpn] at hpg
       have HPg:=codPages13 y2 S J P w.heap.size m t' j r' (plE l2) S' HX.out.sa HX.out.tk HX.out.tr (by rw[plE_len,←HLn.out];omega)
       rw[←hpn] at HPg
       have HPn:=mkHid hpn
       clear hpn
       go_wp2_with fail
       refine HPg.mono ?_
       rintro e z1 ⟨rfl,hbz⟩
       have HP1:=mkHid (HX.out.on hbz)
       clear HPg hbz HX
       have HF:=tail_facts hpg hlk (by omega)
       rcases HF with⟨rfl,rfl⟩|⟨f1,f2,f9,fA,f3,f4,f5,f6,f7,f8⟩
       all_goals
        have HCm:=treeCommit HP1.out.sa HP1.out.tk HP1.out.tr HP1.out.n (by omega)
        go_wp2_with fail
        refine HCm.mono ?_
        rintro e z2 ⟨rfl,hT2,hk2⟩
        have HP2:=mkHid (HP1.out.shut hT2 hk2)
        have HOp:=treeOpen hT2
        clear HCm hT2 hk2 HP1
        go_wp2_with fail
        refine HOp.mono ?_
        rintro e z3 ⟨⟨S3,rfl,hS3⟩,hk3⟩
        have HP3:=mkHid (HP2.out.open_ hS3 hk3)
        have HFe:=spcOK.free z3 S3 J P w.heap.size (m+150) t0 (cmJ t' j) hS3 HP3.out.tk.fit
        have hfe:=HP3.out.tk.all
        first|rw[show (freeL (mapL t0 (cmJ t' j)) ((cmJ t' j).p.n-51):Int)=4045 by have h9:=HP3.out.n;rw[h9] at hfe ⊢;have:=HPn.out;omega] at HFe|rw[show (freeL (mapL t0 (cmJ t' j)) ((cmJ t' j).p.n-51):Int)=4045-(pn:Int) by have h9:=HP3.out.n;rw[h9] at hfe ⊢;have:=HPn.out;omega] at HFe
        clear HOp hS3 hk3 hfe HP2
        go_wp2_with fail
        refine HFe.mono ?_
        rintro e z4 ⟨rfl,hS4,hk4⟩
        have HP4:=mkHid ((HP3.out.drop).open_ hS4 hk4).drop
        clear HFe hS4 hk4 HP3
        go_wp2_with fail
        go_roundw
        case rel=>exact⟨k+1,m+150,cmJ t' j,r',S',l2,by omega,by omega,rfl,by go_num,by have:=HLn.out;unfold Hid;omega,HP4⟩
        case measure=>simp[Go.RowKit.intOf];omega
      | false =>
       have HPt:=codDelNo y S root ka K.length kc hit
       have HIt:=fun W=>refKey13 K ka kc W (by have:=HKV.out;omega)
       rw[hit] at HIt
       go_wp2_with fail
       refine HPt.mono ?_
       rintro e y1 ⟨rfl,hb1⟩
       have HP9:=mkHid (HX.out.on hb1).drop
       clear HPt hb1 HX hit
       go_wp2_with (first|(go_at_call 17;refine(HIt _).mono ?_;rintro e Z ⟨rfl,hZ⟩;obtain rfl:=hZ.symm;clear hZ))
       go_roundw
       case rel=>exact⟨k+1,m,j,root,SS,ls,by omega,by omega,rfl,by go_num,by have:=HL.out;unfold Hid;omega,HP9⟩
       case measure=>simp[Go.RowKit.intOf];omega
    by_cases hkind3:kind=3
    ·have hkind:=hkind3
     as_aux_lemma =>
      subst hkind
      have HGt:=codGet13 y S J P w.heap.size m t0 j root (plE ls) SS ka K.length kc K HX.out.sa HX.out.tk HX.out.tr HBs.out.1.is
      have HIt:=fun W=>refKey13 K ka kc W (by have:=HKV.out;omega)
      go_wp2_with fail
      refine HGt.mono ?_
      rintro e y1 ⟨⟨gv,gh,rfl,hgt⟩,hb1⟩
      have HX1:=mkHid (HX.out.on hb1)
      have HB1:=mkHid (HBs.out.1.below hb1)
      have HRg:=refGet13 ls K la ka ls.length lc K.length kc w.heap.size y1 HX1.out.row HB1.out.is (by have:=HL.out;omega)
      change Calls Tryz.prog _ _ _ (fun e w'=>(∃v c,e=.returned (.tuple #[.slice v (getE13 (plE ls) K).length c,.bool (hasE13 (plE ls) K)])∧_)∧_) at HRg
      clear HGt hb1 HX
      cases hit:keyOk K with
      | true =>
       rw[hit] at hgt HIt
       obtain⟨rfl,hv⟩:=hgt rfl
       obtain⟨ga,gc,rfl,hgi⟩:=hv
       obtain⟨G,hG⟩:∃G,G=getE13 (plE ls) K:=⟨_,rfl⟩
       rw[←hG] at hgi HRg ⊢
       obtain⟨hh,hhh⟩:∃b,b=hasE13 (plE ls) K:=⟨_,rfl⟩
       rw[←hhh] at HRg ⊢
       have HGi:=mkHid hgi
       clear hG hhh hgi hgt
       obtain⟨gl,hgl⟩:∃gl,gl=G.length:=⟨_,rfl⟩
       rw[←hgl] at HGi HRg ⊢
       have HGl:=mkHid hgl
       clear hgl
       simp only[if_true]
       go_wp2_with fail
       refine HRg.mono ?_
       rintro e y2 ⟨⟨ra,rc,rfl,hri⟩,hb2⟩
       have HX:=mkHid (HX1.out.on hb2)
       have HSm:=refSame ga gl gc G ra gl rc G y2 (HGi.out.below hb2 rfl) hri
       rw[eqB_self] at HSm
       clear HRg hri hb2 HX1 hit
       obtain⟨ln,hln⟩:∃ln,ln=ls.length:=⟨_,rfl⟩
       have hlk:ln≤k+1:=by have:=HL.out;omega
       have HLn:=mkHid hln
       rw[←hln] at HX ⊢
       clear hln
       go_wp2_with (first|(go_at_call 17;refine(HIt _).mono ?_;rintro e Z ⟨rfl,hZ⟩;obtain rfl:=hZ.symm;clear hZ)|(go_at_call 21;refine HSm.mono ?_;rintro e y3 ⟨rfl,nd,hnd⟩))
       subst hnd
       have hbd:Below y2.heap.size y2 (y2.drewN nd):=bel_drewN (Below.refl _ _) nd
       replace HX:=mkHid (HX.out.on hbd)
       clear hbd HSm
       generalize y2.drewN nd=y4 at *
       obtain⟨pn,hpn⟩:∃pn,pn=(SS).length:=⟨_,rfl⟩
       have hpg:=HX.out.tr.pages
       rw[plE_len,←HLn.out,←hpn] at hpg
       have HPg:=codPages13 y4 S J P w.heap.size m t0 j root (plE ls) SS HX.out.sa HX.out.tk HX.out.tr (by rw[plE_len,←HLn.out];omega)
       rw[←hpn] at HPg
       have HPn:=mkHid hpn
       clear hpn
       go_wp2_with fail
       refine HPg.mono ?_
       rintro e z1 ⟨rfl,hbz⟩
       have HP1:=mkHid (HX.out.on hbz)
       clear HPg hbz HX
       have HF:=tail_facts hpg hlk (by omega)
       rcases HF with⟨rfl,rfl⟩|⟨f1,f2,f9,fA,f3,f4,f5,f6,f7,f8⟩
       all_goals
        have HCm:=treeCommit HP1.out.sa HP1.out.tk HP1.out.tr HP1.out.n (by omega)
        go_wp2_with fail
        refine HCm.mono ?_
        rintro e z2 ⟨rfl,hT2,hk2⟩
        have HP2:=mkHid (HP1.out.shut hT2 hk2)
        have HOp:=treeOpen hT2
        clear HCm hT2 hk2 HP1
        go_wp2_with fail
        refine HOp.mono ?_
        rintro e z3 ⟨⟨S3,rfl,hS3⟩,hk3⟩
        have HP3:=mkHid (HP2.out.open_ hS3 hk3)
        have HFe:=spcOK.free z3 S3 J P w.heap.size (m+150) t0 (cmJ t0 j) hS3 HP3.out.tk.fit
        have hfe:=HP3.out.tk.all
        first|rw[show (freeL (mapL t0 (cmJ t0 j)) ((cmJ t0 j).p.n-51):Int)=4045 by have h9:=HP3.out.n;rw[h9] at hfe ⊢;have:=HPn.out;omega] at HFe|rw[show (freeL (mapL t0 (cmJ t0 j)) ((cmJ t0 j).p.n-51):Int)=4045-(pn:Int) by have h9:=HP3.out.n;rw[h9] at hfe ⊢;have:=HPn.out;omega] at HFe
        clear HOp hS3 hk3 hfe HP2
        go_wp2_with fail
        refine HFe.mono ?_
        rintro e z4 ⟨rfl,hS4,hk4⟩
        have HP4:=mkHid ((HP3.out.drop).open_ hS4 hk4).drop
        clear HFe hS4 hk4 HP3
        go_wp2_with fail
        go_roundw
        case rel=>exact⟨k+1,m+150,cmJ t0 j,root,SS,ls,by omega,by omega,rfl,by go_num,by have:=HLn.out;unfold Hid;omega,HP4⟩
        case measure=>simp[Go.RowKit.intOf];omega
      | false =>
       rw[hit] at HIt
       clear hgt
       simp only[Bool.false_eq_true,if_false]
       go_wp2_with fail
       refine HRg.mono ?_
       rintro e y2 ⟨⟨ra,rc,rfl,hri⟩,hb2⟩
       have HP9:=mkHid (HX1.out.on hb2).drop
       clear HRg hri hb2 HX1 hit
       go_wp2_with (first|(go_at_call 17;refine(HIt _).mono ?_;rintro e Z ⟨rfl,hZ⟩;obtain rfl:=hZ.symm;clear hZ))
       go_roundw
       case rel=>exact⟨k+1,m,j,root,SS,ls,by omega,by omega,rfl,by go_num,by have:=HL.out;unfold Hid;omega,HP9⟩
       case measure=>simp[Go.RowKit.intOf];omega
    by_cases hkind4:kind=4
    ·have hkind:=hkind4
     as_aux_lemma =>
      subst hkind
      have c3:y.cell? ⟨BO,3,none⟩=some (.int .i64 mm):=HBy.out.cell 3
      have HSc:=codScan13 y S J P w.heap.size m t0 j root (plE ls) SS ka K.length kc K mm HX.out.sa HX.out.tk HX.out.tr HBs.out.1 HX.out.bel.size
      go_wp2_with fail
      refine HSc.mono ?_
      rintro e y1 ⟨⟨sv,rfl,hsc⟩,hb1⟩
      obtain⟨sa,sc,L,hsv,hIs,hLe,hLn0⟩:=hsc.isEs
      subst hsv
      have HX1:=mkHid (HX.out.on hb1)
      have HB1:=mkHid (HBs.out.1.below hb1)
      have HBy1:=mkHid (HBy.out.on hb1)
      have c3:y1.cell? ⟨BO,3,none⟩=some (.int .i64 mm):=HBy1.out.cell 3
      have HRs:=refScan13 ls K mm la ka ls.length lc K.length kc w.heap.size y1 HX1.out.row HB1.out.is (by have:=HL.out;omega)
      have HIs:=mkHid (And.intro hIs hLe)
      have hll:L.length≤1000:=by
       have h1:=congrArg List.length hLe
       rw[List.length_map] at h1
       have h2:=scan_len (plE ls) K mm
       rw[plE_len] at h2
       have:=HL.out;omega
      clear HSc hb1 hIs hLe HX
      obtain⟨sn,hsn⟩:∃sn,sn=L.length:=⟨_,rfl⟩
      rw[←hsn] at HIs hll ⊢
      clear hsn
      go_wp2_with fail
      refine HRs.mono ?_
      rintro e y2 ⟨⟨v2,l2,rfl,hO2,he2,hx2⟩,hb2⟩
      obtain⟨va2,vc2,rfl,-,-⟩:=hO2.form
      have HX:=mkHid (HX1.out.on hb2)
      have hrow:RowE y2 y1.heap.size (.slice va2 l2.length vc2) l2:=⟨hO2,fun x hx=>(HX.out.ek x (hx2 x hx)).is⟩
      have hl2:l2.length≤1000:=by
       have h1:=congrArg List.length he2
       rw[plE_len] at h1
       have h2:=scan_len (plE ls) K mm
       rw[plE_len] at h2
       have:=HL.out;omega
      have HSm:=lawSame13 L l2 sa va2 sn sc l2.length vc2 y1.heap.size y2 (HIs.out.1.on13 hb2) hrow (by omega) (by omega)
      rw[decide_eq_true (show plE L=plE l2 by rw[he2];exact HIs.out.2)] at HSm
      clear HRs hO2 he2 hx2 hb2 HX1 hrow c3
      obtain⟨ln,hln⟩:∃ln,ln=ls.length:=⟨_,rfl⟩
      have hlk:ln≤k+1:=by have:=HL.out;omega
      have HLn:=mkHid hln
      rw[←hln] at HX ⊢
      clear hln
      go_wp2_with fail
      refine HSm.mono ?_
      rintro e y3 ⟨rfl,hb3⟩
      replace HX:=mkHid (HX.out.on hb3)
      clear HSm hb3
      obtain⟨pn,hpn⟩:∃pn,pn=(SS).length:=⟨_,rfl⟩
      have hpg:=HX.out.tr.pages
      rw[plE_len,←HLn.out,←hpn] at hpg
      have HPg:=codPages13 y3 S J P w.heap.size m t0 j root (plE ls) SS HX.out.sa HX.out.tk HX.out.tr (by rw[plE_len,←HLn.out];omega)
      rw[←hpn] at HPg
      have HPn:=mkHid hpn
      clear hpn
      go_wp2_with fail
      refine HPg.mono ?_
      rintro e z1 ⟨rfl,hbz⟩
      have HP1:=mkHid (HX.out.on hbz)
      clear HPg hbz HX
      have HF:=tail_facts hpg hlk (by omega)
      rcases HF with⟨rfl,rfl⟩|⟨f1,f2,f9,fA,f3,f4,f5,f6,f7,f8⟩
      all_goals
       have HCm:=treeCommit HP1.out.sa HP1.out.tk HP1.out.tr HP1.out.n (by omega)
       go_wp2_with fail
       refine HCm.mono ?_
       rintro e z2 ⟨rfl,hT2,hk2⟩
       have HP2:=mkHid (HP1.out.shut hT2 hk2)
       have HOp:=treeOpen hT2
       clear HCm hT2 hk2 HP1
       go_wp2_with fail
       refine HOp.mono ?_
       rintro e z3 ⟨⟨S3,rfl,hS3⟩,hk3⟩
       have HP3:=mkHid (HP2.out.open_ hS3 hk3)
       have HFe:=spcOK.free z3 S3 J P w.heap.size (m+150) t0 (cmJ t0 j) hS3 HP3.out.tk.fit
       have hfe:=HP3.out.tk.all
       first|rw[show (freeL (mapL t0 (cmJ t0 j)) ((cmJ t0 j).p.n-51):Int)=4045 by have h9:=HP3.out.n;rw[h9] at hfe ⊢;have:=HPn.out;omega] at HFe|rw[show (freeL (mapL t0 (cmJ t0 j)) ((cmJ t0 j).p.n-51):Int)=4045-(pn:Int) by have h9:=HP3.out.n;rw[h9] at hfe ⊢;have:=HPn.out;omega] at HFe
       clear HOp hS3 hk3 hfe HP2
       go_wp2_with fail
       refine HFe.mono ?_
       rintro e z4 ⟨rfl,hS4,hk4⟩
       have HP4:=mkHid ((HP3.out.drop).open_ hS4 hk4).drop
       clear HFe hS4 hk4 HP3
       go_wp2_with fail
       go_roundw
       case rel=>exact⟨k+1,m+150,cmJ t0 j,root,SS,ls,by omega,by omega,rfl,by go_num,by have:=HLn.out;unfold Hid;omega,HP4⟩
       case measure=>simp[Go.RowKit.intOf];omega
    as_aux_lemma =>
     obtain⟨ln,hln⟩:∃ln,ln=ls.length:=⟨_,rfl⟩
     have hlk:ln≤k+1:=by have:=HL.out;omega
     have HLn:=mkHid hln
     rw[←hln] at HX ⊢
     clear hln
     obtain⟨pn,hpn⟩:∃pn,pn=(SS).length:=⟨_,rfl⟩
     have hpg:=HX.out.tr.pages
     rw[plE_len,←HLn.out,←hpn] at hpg
     have HPg:=codPages13 y S J P w.heap.size m t0 j root (plE ls) SS HX.out.sa HX.out.tk HX.out.tr (by rw[plE_len,←HLn.out];omega)
     rw[←hpn] at HPg
     have HPn:=mkHid hpn
     clear hpn
     go_wp2_with fail
     refine HPg.mono ?_
     rintro e z1 ⟨rfl,hbz⟩
     have HP1:=mkHid (HX.out.on hbz)
     clear HPg hbz HX
     have HF:=tail_facts hpg hlk (by omega)
     rcases HF with⟨rfl,rfl⟩|⟨f1,f2,f9,fA,f3,f4,f5,f6,f7,f8⟩
     all_goals
      have HCm:=treeCommit HP1.out.sa HP1.out.tk HP1.out.tr HP1.out.n (by omega)
      go_wp2_with fail
      refine HCm.mono ?_
      rintro e z2 ⟨rfl,hT2,hk2⟩
      have HP2:=mkHid (HP1.out.shut hT2 hk2)
      have HOp:=treeOpen hT2
      clear HCm hT2 hk2 HP1
      go_wp2_with fail
      refine HOp.mono ?_
      rintro e z3 ⟨⟨S3,rfl,hS3⟩,hk3⟩
      have HP3:=mkHid (HP2.out.open_ hS3 hk3)
      have HFe:=spcOK.free z3 S3 J P w.heap.size (m+150) t0 (cmJ t0 j) hS3 HP3.out.tk.fit
      have hfe:=HP3.out.tk.all
      first|rw[show (freeL (mapL t0 (cmJ t0 j)) ((cmJ t0 j).p.n-51):Int)=4045 by have h9:=HP3.out.n;rw[h9] at hfe ⊢;have:=HPn.out;omega] at HFe|rw[show (freeL (mapL t0 (cmJ t0 j)) ((cmJ t0 j).p.n-51):Int)=4045-(pn:Int) by have h9:=HP3.out.n;rw[h9] at hfe ⊢;have:=HPn.out;omega] at HFe
      clear HOp hS3 hk3 hfe HP2
      go_wp2_with fail
      refine HFe.mono ?_
      rintro e z4 ⟨rfl,hS4,hk4⟩
      have HP4:=mkHid ((HP3.out.drop).open_ hS4 hk4).drop
      clear HFe hS4 hk4 HP3
      go_wp2_with fail
      go_roundw
      case rel=>exact⟨k+1,m+150,cmJ t0 j,root,SS,ls,by omega,by omega,rfl,by go_num,by have:=HLn.out;unfold Hid;omega,HP4⟩
      case measure=>simp[Go.RowKit.intOf];omega
  ·have hlt':¬(k:Int)<(n:Int):=by omega
   have HOp:=treeOpen HP.out.tj
   obtain⟨la,lc,hvl,-,-⟩:=HP.out.ow.form
   subst hvl
   go_wp2_with fail
   refine HOp.mono ?_
   rintro e y1 ⟨⟨S,rfl,hS1⟩,hk1⟩
   have HX:=mkHid (HP.out.open_ hS1 hk1)
   have HSc:=codScan13 y1 S J P w.heap.size m t0 j root (plE ls) SS none 0 0 [] 1000 HX.out.sa HX.out.tk HX.out.tr (fl:=0) (fun W _=>isB_none W) (Nat.zero_le _)
   clear HOp hS1 hk1 HP
   go_wp2_with fail
   refine HSc.mono ?_
   rintro e y2 ⟨⟨sv,rfl,hsc⟩,hb2⟩
   obtain⟨sa,sc,L,hsv,hIs,hLe,hLn0⟩:=hsc.isEs
   subst hsv
   have HX2:=mkHid (HX.out.on hb2)
   rw[scan_all _ (by rw[plE_len];have:=HL.out;omega)] at hLe
   have hll:L.length=ls.length:=by have h1:=congrArg List.length hLe;rw[List.length_map,plE_len] at h1;exact h1
   have HSm:=lawSame13 L ls sa la L.length sc ls.length lc w.heap.size y2 hIs HX2.out.row (by have:=HL.out;omega) (by have:=HL.out;omega)
   rw[decide_eq_true (show plE L=plE ls from hLe)] at HSm
   clear HSc hb2 HX hIs hLe hll
   go_wp2_with fail
   refine HSm.mono ?_
   rintro e y3 ⟨rfl,hb3⟩
   have HB3:=mkHid (HX2.out.bel.trans (hb3.mono HX2.out.bel.size))
   clear HSm hb3 HX2
   go_wp2_with fail
   go_ret
   exact⟨rfl,HB3.out⟩
end
section
open Go.ChangeShapes Go.WideShapes
structure KqIn (W:World)(q:Kq):Prop where
 k:IsB W q.2.a q.1.key.length q.2.c q.1.key
 v:IsB W q.2.b q.1.value.length q.2.d q.1.value
 kl:q.1.key.length≤140737488351232
 vl:q.1.value.length≤140737488351232
 r:KqR q
theorem open_kqc {H:Type}{enc:TypeId × Value→H}{W:World}(n:Nat)(cs:List Value)(x:DataW H × List MemPlace)(h:DataW.trod enc Tryz.prog W 0 (fun _=>true) true n 35 cs=some x)(hN:∀m∈x.1.weights Tryz.prog 35,m≤140737488351232):
  ∃q:Kq,cs=kpc q.1 q.2∧KqIn W q:=by
 obtain⟨d,pl⟩:=x
 obtain⟨xs,k,hk,hxy,hcl,hxl,hf⟩:=DataW.trod_struct Tryz.underlying35 h
 rw[show Tryz.prog.cellsOf 35=5 by kernel_rfl] at hcl
 match xs,hxl,cs,hcl with
 | [y0,y1,y2,y3,y4],_,[v0,v1,v2,v3,v4],_ =>
  have g0:=hf 0 _ rfl
  have g1:=hf 1 _ rfl
  have g2:=hf 2 _ rfl
  have g3:=hf 3 _ rfl
  have g4:=hf 4 _ rfl
  have c_i:Tryz.prog.cellsOf 3=1:=by kernel_rfl
  have c_y:Tryz.prog.cellsOf 33=1:=by kernel_rfl
  simp[c_i] at g0
  simp[c_y] at g1
  simp[c_i] at g2
  simp[c_i] at g3
  simp[c_y] at g4
  have hd:d=.agg [y0.1,y1.1,y2.1,y3.1,y4.1]:=by have:=(Prod.mk.inj hxy).1;simpa using this
  obtain⟨x0,e0,_,r0⟩:=DataW.trod_int Tryz.underlying3 g0
  simp only[List.cons.injEq,and_true] at e0
  subst e0
  have i0 : -9223372036854775808≤x0∧x0≤9223372036854775807:=by simpa [Lit.wf,IntKind.min,IntKind.max,IntKind.signed,IntKind.bits] using r0
  obtain⟨a1,m1,p1,rfl⟩:=slice_of14 Tryz.underlying33 g1
  have hw1:∀n∈y1.1.weights Tryz.prog 33,n≤140737488351232:=fun n hn=>hN n (by
   rw[hd]
   simp only[DataW.weights,Tryz.underlying35,DataW.weightsEach,List.map_cons,List.map_nil]
   simp[hn])
  obtain⟨b1,h1,hL1⟩:=open_bytes g1
  have n1:=hL1 _ hw1
  obtain rfl:=h1.len_eq
  obtain⟨x2,e2,_,r2⟩:=DataW.trod_int Tryz.underlying3 g2
  simp only[List.cons.injEq,and_true] at e2
  subst e2
  have i2 : -9223372036854775808≤x2∧x2≤9223372036854775807:=by simpa [Lit.wf,IntKind.min,IntKind.max,IntKind.signed,IntKind.bits] using r2
  obtain⟨x3,e3,_,r3⟩:=DataW.trod_int Tryz.underlying3 g3
  simp only[List.cons.injEq,and_true] at e3
  subst e3
  have i3 : -9223372036854775808≤x3∧x3≤9223372036854775807:=by simpa [Lit.wf,IntKind.min,IntKind.max,IntKind.signed,IntKind.bits] using r3
  obtain⟨a4,m4,p4,rfl⟩:=slice_of14 Tryz.underlying33 g4
  have hw4:∀n∈y4.1.weights Tryz.prog 33,n≤140737488351232:=fun n hn=>hN n (by
   rw[hd]
   simp only[DataW.weights,Tryz.underlying35,DataW.weightsEach,List.map_cons,List.map_nil]
   simp[hn])
  obtain⟨b4,h4,hL4⟩:=open_bytes g4
  have n4:=hL4 _ hw4
  obtain rfl:=h4.len_eq
  exact⟨(⟨x0,b1,x2,x3,b4⟩,⟨a1,p1,a4,p4⟩),rfl,⟨h1,h4,n1,n4,⟨i2.1,i2.2,i3.1,i3.2⟩⟩⟩
theorem open_ks13 {H:Type}{enc:TypeId × Value→H}{W:World}{fuel:Nat}{a:Option Addr}{len cap:Nat}{x:DataW H × List MemPlace}(h:DataW.trod enc Tryz.prog W 0 (fun _=>true) true fuel 22 [.slice a len cap]=some x)(hN:∀n∈x.1.weights Tryz.prog 22,n≤140737488351232):
  ∃l,IsK13 W.heap.size W a len l∧(∀y∈l,KqR y)∧len≤140737488351232:=by
 obtain⟨l,h1,h2,h3,_,_⟩:=open_row ((⟨0,[],0,0,[]⟩,⟨none,0,none,0⟩):Kq) 5 (fun q=>kpc q.1 q.2) (KqIn W) 22 35 Tryz.underlying22 (by kernel_rfl) (by decide) (fun _=>rfl) open_kqc h hN
 rw[show Tryz.prog.bytesOf 35=72 by kernel_rfl] at h3
 refine⟨l,⟨h1.len,fun hp=>?_,fun y hy=>kpk_in (h2 y hy).k (h2 y hy).v,fun y hy=>⟨by have:=(h2 y hy).kl;omega,by have:=(h2 y hy).vl;omega⟩⟩,fun y hy=>(h2 y hy).r,by omega⟩
 obtain⟨g,off,e,_,hc⟩:=h1.cells hp
 refine⟨g,off,e,fun k y hy j hj=>?_⟩
 have h5:(kpc y.1 y.2)[j]?=some ((kpc y.1 y.2)[j]'(by simpa [kpc] using hj)):=List.getElem?_eq_getElem _
 rw[h5]
 exact hc k y hy j _ h5
end
end Go.Proofs.YtpecobmfabmpkaaGreatDoor
