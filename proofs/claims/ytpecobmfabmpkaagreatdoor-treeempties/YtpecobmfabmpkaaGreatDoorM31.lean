/- PvR -/
import Derived.Test.YtpecobmfabmpkaaGreatDoorM30
set_option maxRecDepth 20000
set_option maxHeartbeats 6000000
namespace Go.Proofs.YtpecobmfabmpkaaGreatDoor
open Go.RowKit
def gat (fr:List UInt8)(most:Int)(acc l:List Et):List Et:=acc++(l.drop (atE l fr)).take (min (most-(acc.length:Int)).toNat 1000)
def stpS (fr:List UInt8)(most:Int)(acc l:List Et):List Et × Bool:=(gat fr most acc l,decide (((gat fr most acc l).length:Int)<most))
def rkS (acc:List Et):Nat:=300-acc.length/1000
structure InvS (fl Fb Lb Mb Nl:Nat)(fa:Option Addr)(fn fc:Nat)(fr:List UInt8)(most:Int)(acc:List Et)(X:Nat)(W:World):Prop where
  f:Blk W Fb 33 [.slice fa fn fc]
  b:BsP fl W fa fn fc fr
  m:Blk W Mb 3 [.int .i64 most]
  l:∃v L,Blk W Lb 50 [v]∧OwnN W Nl v L∧(∀k,v.ownBlock=some k→k<X)∧L.map Prod.fst=acc∧∀x∈L,EtP W x.1 x.2
theorem gat_len (fr:List UInt8)(most:Int)(acc l:List Et):(gat fr most acc l).length≤acc.length+1000:=by
  unfold gat
  rw[List.length_append,List.length_take]
  omega
theorem InvS.keep {fl Fb Lb Mb Nl:Nat}{fa:Option Addr}{fn fc:Nat}{fr:List UInt8}{most:Int}{acc:List Et}{X:Nat}{W W':World}(h:InvS fl Fb Lb Mb Nl fa fn fc fr most acc X W)(hk:KeepT [144] W W')(hlw:∀k,k<Nl→k<W.heap.size→W'.heap[k]?=W.heap[k]?)(hfl:fl≤Nl):InvS fl Fb Lb Mb Nl fa fn fc fr most acc X W':=by
  obtain⟨v,L,h1,h2,h3,h4,h5⟩:=h.l
  exact⟨hk.blk h.f (by decide),h.b.keep ⟨KeepO.ofT hk (by decide),fun k h1 h2=>hlw k (by omega) h2⟩,hk.blk h.m (by decide),v,L,hk.blk h1 (by decide),own_keepO (us:=[64]) (KeepO.ofT hk (by decide)) h2 (by decide),h3,h4,fun x hx=>(h5 x hx).keep (KeepO.ofT hk (by decide))⟩
theorem callScan (fl Fb Lb Mb N0 Nl:Nat)(fa:Option Addr)(fn fc:Nat)(fr:List UInt8)(most:Int)(hL:Lb<N0)(hNl:Nl≤Lb)(acc:List Et)(X:Nat)(W:World)(at_:Int)(p:Pg)(ve vk:Value)(L:List Eq3)(hrk:0<rkS acc)(hI:InvS fl Fb Lb Mb Nl fa fn fc fr most acc X W)(hp:PgR 0 W p ve vk L)(hon:OwnN W X ve L)(hs:SrtE p.es)(hn:p.es.length≤1000)(hit:∀e∈p.es,itemOk e.k e.v=true)(hfl:fl≤Nl):
    Calls Tryz.prog 77 #[.agg (pgc at_ p.lv ve vk).toArray,.pointer (some ⟨Fb,0,none⟩),.pointer (some ⟨Lb,0,none⟩),.pointer (some ⟨Mb,0,none⟩)] W fun e w'=>e=.returned (.bool (stpS fr most acc p.es).2)∧InvS fl Fb Lb Mb Nl fa fn fc fr most (stpS fr most acc p.es).1 w'.heap.size w'∧VKeep N0 Nl [64] W w':=by
  obtain⟨ea,ec,xa,xc,rfl,rfl⟩:=hp.forms
  have hLl:=hp.len
  have hes:=hp.es
  have hacc:acc.length<300000:=by unfold rkS at hrk;omega
  have W1:Below W.heap.size W (W.alloc (.cells (pgc at_ p.lv (.slice ea p.es.length ec) (.slice xa p.ks.length xc)).toArray 133)):=(Below.refl _ W).alloc (Nat.le_refl _) _
  have kp:Blk (W.alloc (.cells (pgc at_ p.lv (.slice ea p.es.length ec) (.slice xa p.ks.length xc)).toArray 133)) W.heap.size 133 (pgc at_ p.lv (.slice ea p.es.length ec) (.slice xa p.ks.length xc)):=Blk.new W _ _
  generalize hW:W.alloc (.cells (pgc at_ p.lv (.slice ea p.es.length ec) (.slice xa p.ks.length xc)).toArray 133)=Y0 at *
  have hI0:=hI.keep (KeepT.of_below W1) (lw_below W1) hfl
  have HFd:=codFind13 at_ p.lv (.slice ea p.es.length ec) (.slice xa p.ks.length xc) L fa fn fc fr Y0 (hp.e.keep (KeepU.of_below W1)) (by rw[hes];exact hs) hI0.b.is (by rw[hLl];exact hn)
  rw[hes] at HFd
  have hal:=atE_le p.es fr
  obtain⟨v0,L0,hl1,hl2,hl3,hl4,hl5⟩:=hI0.l
  obtain⟨va,vc,hv0,-⟩:=hl2.form
  have hln0:L0.length=acc.length:=by rw[←hl4,List.length_map]
  have hsep:∀kk,v0.ownBlock=some kk→(Value.slice ea p.es.length ec).ownBlock≠some kk:=fun kk h1 h2=>by
    have h3:=hl3 kk h1
    have h4:=(World.ownsRow.lt hon kk h2).1
    omega
  have hV0:VKeep N0 Nl [64] W Y0:=VKeep.below W1 (by have:=hI.l;obtain⟨_,_,q1,_⟩:=this;have:=q1.lt;omega)
  have HI0:=mkHid (And.intro hI0.f (And.intro hI0.b hI0.m))
  have HL0:=mkHid (And.intro hl1 (And.intro hl2 (And.intro hl4 hl5)))
  have HSep:=mkHid hsep
  have HV0:=mkHid hV0
  have HOn:=mkHid (hon.on W1)
  have HLx:Hid (∀x∈L,EtP Y0 x.1 x.2):=fun x hx=>((hp.e.is x hx).below W1).p
  have HKp:=mkHid kp
  have HIt:=mkHid hit
  have HEs:=mkHid (And.intro hes hLl)
  obtain⟨a,ha⟩:∃a,a=atE p.es fr:=⟨_,rfl⟩
  obtain⟨hh,hhh⟩:∃b,b=hasE13 p.es fr:=⟨_,rfl⟩
  rw[←ha,←hhh] at HFd
  rw[←ha] at hal
  obtain⟨n,hnn⟩:∃n,n=p.es.length:=⟨_,rfl⟩
  unfold pgc at *
  rw[←hnn] at HFd hal hn HSep HOn HKp hW ⊢
  have HA:=mkHid ha
  have HNn:=mkHid hnn
  have hb2:=HI0.out.1.cell 0
  have d0:=HKp.out.cell 0
  have d1:=HKp.out.cell 1
  have d2:=HKp.out.cell 2
  have d3:=HKp.out.cell 3
  simp only[gZ0,gZ1] at hb2 d0 d1 d2 d3
  have hW2:=HV0.out.t.size
  clear hI hp hon hs hit hI0 hl1 hl2 hl3 hl4 hl5 hsep hV0 kp W1 hes hLl ha hhh hnn hln0 hv0
  generalize p.ks.length=kn at *
  generalize hlv:(p.lv:Int)=lv at *
  clear hlv
  go_enter Tryz.func77,Tryz.ntmps77
  go_upto_region 1 with fail
  (try rw[hW])
  clear hW
  go_wp2_with (go_at_call 74;refine HFd.mono ?_;rintro r1 y1 ⟨rfl,hb1⟩;have HB1:=mkHid hb1;clear hb1)
  clear hb2 d0 d1 d2 d3
  go_loopg [6] n (fun kx s6 wr=>∃(k:Nat) (v:Value) (Lk:List Eq3),k≤n∧n-k≤kx∧s6=.int .i64 (k:Int)∧a≤k∧Hid (k-a≤(most-(acc.length:Int)).toNat∧Lk.map Prod.fst=acc++(p.es.drop a).take (k-a))∧Hid (Blk wr Lb 50 [v]∧OwnN wr Nl v Lk∧∀x∈Lk,EtP wr x.1 x.2)∧Hid (∀kk,v.ownBlock=some kk→(Value.slice ea n ec).ownBlock≠some kk)∧Hid (VKeep N0 Nl [64] W wr)∧Hid (Blk wr Fb 33 [.slice fa fn fc]∧BsP fl wr fa fn fc fr∧Blk wr Mb 3 [.int .i64 most])∧Hid (Blk wr W.heap.size 133 [.int .i64 at_,.int .i64 lv,.slice ea n ec,.slice xa kn xc]∧OwnN wr X (.slice ea n ec) L∧∀x∈L,EtP wr x.1 x.2))
  case atStart=>exact⟨a,v0,L0,by have h:=hal;exact h,by omega,rfl,Nat.le_refl _,⟨by omega,by rw[HL0.out.2.2.1,Nat.sub_self,List.take_zero,List.append_nil]⟩,⟨HL0.out.1.on HB1.out,HL0.out.2.1.on HB1.out,fun x hx=>(HL0.out.2.2.2 x hx).below HB1.out⟩,HSep.out,HV0.out.trans (VKeep.below HB1.out (by have:=HL0.out.1.lt;omega)),⟨HI0.out.1.on HB1.out,HI0.out.2.1.keep (KeepU.of_below HB1.out),HI0.out.2.2.on HB1.out⟩,⟨HKp.out.on HB1.out,HOn.out.on HB1.out,fun x hx=>(HLx.out x hx).below HB1.out⟩⟩
  case round =>
    obtain⟨k,v,Lk,hkn,hkx,rfl,hak,HT,HO,HS,HV,HI,HP⟩:=hrel
    obtain⟨va,vc,hv,-⟩:=HO.out.2.1.form
    subst hv
    have l0:=HO.out.1.cell 0
    have d2:=HP.out.1.cell 2
    have m0:=HI.out.2.2.cell 0
    simp only[gZ0,gZ1] at l0 d2 m0
    obtain⟨ln,hln⟩:∃ln,ln=Lk.length:=⟨_,rfl⟩
    rw[←hln] at l0
    have hLn:ln=acc.length+(k-a):=by
      have:=congrArg List.length HT.out.2
      rw[List.length_map,←hln,List.length_append,List.length_take,List.length_drop,←HNn.out] at this
      omega
    have HLn:=mkHid hln
    have HLa:=mkHid hLn
    clear hln hLn
    by_cases hgo:k<n∧(ln:Int)<most
    · obtain⟨hk,hm⟩:=hgo
      have hk':(k:Int)<(n:Int):=by omega
      have hk0:(0:Int)≤(k:Int):=by omega
      have hLL:L.length=n:=by rw[HEs.out.2,HNn.out]
      obtain⟨g,hge,hg0,hg1,hcl⟩:=HP.out.2.1.at_ k (by omega)
      subst hge
      obtain⟨x,hx⟩:∃x,x=L[k]'(by omega):=⟨_,rfl⟩
      have hxm:x∈L:=by rw[hx];exact List.getElem_mem _
      have hxe:x.1=p.es[k]'(by rw[←HNn.out];exact hk):=by
        have h1:(L.map Prod.fst)[k]?=p.es[k]?:=by rw[HEs.out.1]
        rw[List.getElem?_map,List.getElem?_eq_getElem (by omega),List.getElem?_eq_getElem (by rw[←HNn.out];exact hk)] at h1
        rw[hx]
        exact Option.some.inj h1
      have hif:=item_facts (HIt.out x.1 (by rw[hxe];exact List.getElem_mem _))
      have g0:=hcl 0 (by omega)
      have g1:=hcl 1 (by omega)
      rw[←hx] at g0 g1
      simp only[etc2,Nat.add_zero,gZ0,gZ1] at g0 g1
      have hDw:Below wr.heap.size wr wr.drew:=(Below.refl _ wr).drew
      have hCp:=codCopied wr.drew x.1 x.2 ((HP.out.2.2 x hxm).below hDw) (by omega) (by omega)
      unfold etc2 at hCp
      generalize hkl:x.1.k.length=kl at *
      generalize hvl:x.1.v.length=vl at *
      have HKV:=mkHid (And.intro hkl hvl)
      have HXe:=mkHid hxe
      clear hkl hvl hcl hx hxe
      have HCt:Hid (∀V,Below wr.heap.size wr V→V.cell? ⟨Lb,0,none⟩=some (.slice va Lk.length vc)∧V.cell? ⟨W.heap.size,2,none⟩=some (.slice (some ⟨g,0,none⟩) n ec)∧V.cell? ⟨g,k * 2,none⟩=some (.slice x.2.a kl x.2.c)∧V.cell? ⟨g,k * 2+1,none⟩=some (.slice x.2.b vl x.2.d)):=fun V hV=>by
        have hc:=fun (i:Nat)=>cell_same (hV.5 g hg1) i
        exact⟨(HO.out.1.on hV).cell 0,(HP.out.1.on hV).cell 2,(hc _).trans g0,(hc _).trans g1⟩
      have hgd1:(decide ((k:Int)<(n:Int)))=true:=decide_eq_true hk'
      have hgd2:(decide ((ln:Int)<most))=true:=decide_eq_true hm
      go_upto_region 4 with fail
      refine lk0 (fun V=>V.cell? ⟨Lb,0,none⟩=some (.slice va Lk.length vc)∧V.cell? ⟨W.heap.size,2,none⟩=some (.slice (some ⟨g,0,none⟩) n ec)∧V.cell? ⟨g,k * 2,none⟩=some (.slice x.2.a kl x.2.c)∧V.cell? ⟨g,k * 2+1,none⟩=some (.slice x.2.b vl x.2.d)) 9 (HCt.out _ hDw) (fun hHeld=>?_)
      refine lkC [8] 27 0 (.slice va Lk.length vc) rfl (Or.inl ⟨by rfl,?_⟩) hHeld ?_
      · intro w hSw;obtain⟨s0,s1,s2,s3⟩:=hSw;go_simp
      (try simp only[Act.put,sIx,sZ0,sZ1])
      refine lkC [2,4,5,6,7,8] 28 1 (.pointer (some ⟨W.heap.size,2,none⟩)) rfl (Or.inl ⟨by rfl,?_⟩) hHeld ?_
      · intro w hSw;go_simp
      (try simp only[Act.put,sIx,sZ0,sZ1])
      refine lkC [4,5,6,7,8] 29 2 (.slice (some ⟨g,0,none⟩) n ec) rfl (Or.inl ⟨by rfl,?_⟩) hHeld ?_
      · intro w hSw;obtain⟨s0,s1,s2,s3⟩:=hSw;go_simp
      (try simp only[Act.put,sIx,sZ0,sZ1])
      refine lkC [4,5,6,7,8] 30 3 (.int .i64 (k:Int)) rfl (Or.inl ⟨by rfl,?_⟩) hHeld ?_
      · intro w hSw;go_simp
      (try simp only[Act.put,sIx,sZ0,sZ1])
      refine lkC [5,6,7,8] 31 4 (.pointer (some ⟨g,k * 2,none⟩)) rfl (Or.inl ⟨by rfl,?_⟩) hHeld ?_
      · intro w hSw;go_simp
      (try simp only[Act.put,sIx,sZ0,sZ1])
      refine lkC [6,7,8] 32 5 (.agg #[.slice x.2.a kl x.2.c,.slice x.2.b vl x.2.d]) rfl (Or.inl ⟨by rfl,?_⟩) hHeld ?_
      · intro w hSw;obtain⟨s0,s1,s2,s3⟩:=hSw;go_simp
      (try simp only[Act.put,sIx,sZ0,sZ1])
      refine lk1 6 rfl (fun K hK=>?_)
      go_simp
      refine hCp.mono ?_
      rintro r5 y5 ⟨⟨q5,rfl,he5⟩,hb5⟩
      go_simp
      have hB5:=hDw.trans (hb5.mono hDw.size)
      refine hK.out _ _ (HCt.out _ hB5) (fun hHeld=>?_)
      (try simp only[Act.put,sIx,sZ0,sZ1])
      clear hK K hCp
      refine lk1 7 rfl (fun K hK=>?_)
      go_simp
      have hA6:Below y5.heap.size y5 (y5.alloc (.cells #[.slice q5.a kl q5.c,.slice q5.b vl q5.d] 64)):=(Below.refl _ y5).alloc (Nat.le_refl _) _
      have kB6:Blk (y5.alloc (.cells #[.slice q5.a kl q5.c,.slice q5.b vl q5.d] 64)) y5.heap.size 64 (etc2 x.1 q5):=by
        unfold etc2
        rw[HKV.out.1,HKV.out.2]
        exact Blk.newAt y5 y5.heap.size 64 _ _ rfl rfl
      have hB6:=hB5.trans (hA6.mono hB5.size)
      have he6:=he5.below hA6
      refine hK.out _ _ (HCt.out _ hB6) (fun hHeld=>?_)
      (try simp only[Act.put,sIx,sZ0,sZ1])
      clear hK K
      have hNlw:Nl≤(y5.alloc (.cells #[.slice q5.a kl q5.c,.slice q5.b vl q5.d] 64)).heap.size:=Nat.le_trans (Nat.le_trans hNl (Nat.le_of_lt HO.out.1.lt)) hB6.size
      obtain⟨v7,y7,hr7,hO7,hg7,hfr7⟩:=appN_run (x:=(x.1,q5)) (HO.out.2.1.on hB6) kB6 (by have:=HLa.out;rw[←HLn.out];omega) hNlw 50
      have hsz6:wr.heap.size<(y5.alloc (.cells #[.slice q5.a kl q5.c,.slice q5.b vl q5.d] 64)).heap.size:=Nat.lt_of_le_of_lt hB5.size kB6.lt
      generalize y5.alloc (.cells #[.slice q5.a kl q5.c,.slice q5.b vl q5.d] 64)=y6 at *
      have hT7:KeepT [64] y6 y7:=KeepT.grownN (HO.out.2.1.on hB6) hg7
      have hng:∀o,y6.heap[g]?=some o→y7.heap[g]?=some o:=fun o ho=>(hg7.block g (Nat.lt_trans hg1 hsz6) (fun e=>HS.out g e.symm rfl)).trans ho
      have hg6:y6.heap[g]?=wr.heap[g]?:=hB6.5 g hg1
      have hg7':y7.heap[g]?=wr.heap[g]?:=by
        obtain⟨o,ho⟩:∃o,wr.heap[g]?=some o:=⟨_,Array.getElem?_eq_getElem hg1⟩
        rw[ho]
        exact hng o (hg6.trans ho)
      obtain⟨v7a,v7c,hv7,-⟩:=hO7.form
      obtain⟨nl,hnl⟩:∃nl,nl=(Lk++[(x.1,q5)]).length:=⟨_,rfl⟩
      rw[←hnl] at hv7
      subst hv7
      clear hnl
      have hLb7:=hT7.blk (HO.out.1.on hB6) (by decide)
      have hPb7:=hT7.blk (HP.out.1.on hB6) (by decide)
      have hS7:(fun V:World=>V.cell? ⟨Lb,0,none⟩=some (.slice va Lk.length vc)∧V.cell? ⟨W.heap.size,2,none⟩=some (.slice (some ⟨g,0,none⟩) n ec)∧V.cell? ⟨g,k * 2,none⟩=some (.slice x.2.a kl x.2.c)∧V.cell? ⟨g,k * 2+1,none⟩=some (.slice x.2.b vl x.2.d)) y7:=⟨hLb7.cell 0,hPb7.cell 2,(cell_same hg7' _).trans g0,(cell_same hg7' _).trans g1⟩
      refine lk1 8 rfl (fun K hK=>?_)
      refine step_app_run y6 (by rfl) _ _ 50 50 50 (by rfl) (by rfl) _ _ (by rfl) (by rfl) hr7 35 rfl ?_
      refine hK.out _ _ hS7 (fun hHeld=>?_)
      (try simp only[Act.put,sIx,sZ0,sZ1])
      clear hK K
      have l7:=hLb7.cell 0
      have lf7:=hLb7.frozen 0
      simp only[List.getElem?_cons_zero] at l7
      have hT8:KeepT [50] y7 (y7.setCell ⟨Lb,0,none⟩ (.slice v7a nl v7c)):=(KeepT.refl _ y7).set hLb7 (by decide) 0 _
      have hLb8:=hLb7.set 0 (.slice v7a nl v7c)
      have hTx:KeepT [64,50] wr (y7.setCell ⟨Lb,0,none⟩ (.slice v7a nl v7c)):=(KeepT.of_below hB6).trans ((hT7.more (by decide)).trans (hT8.more (by decide)))
      have HN8:=mkHid (And.intro hLb8 (And.intro (own_keepO (us:=[64]) (KeepO.ofT hT8 (by decide)) hO7 (by decide):OwnN (y7.setCell ⟨Lb,0,none⟩ (.slice v7a nl v7c)) Nl (.slice v7a nl v7c) (Lk++[(x.1,q5)])) hTx))
      have HE8:Hid (∀z∈Lk++[(x.1,q5)],EtP (y7.setCell ⟨Lb,0,none⟩ (.slice v7a nl v7c)) z.1 z.2):=fun z hz=>by
        rcases List.mem_append.1 hz with h1|h1
        · exact(HO.out.2.2 z h1).keep (KeepO.ofT hTx (by decide))
        · rw[List.mem_singleton.1 h1]
          exact he6.keep (KeepO.ofT ((hT7.more (us:=[64,50]) (by decide)).trans (hT8.more (by decide))) (by decide))
      have HT8:Hid (k+1-a≤(most-(acc.length:Int)).toNat∧(Lk++[(x.1,q5)]).map Prod.fst=acc++(p.es.drop a).take (k+1-a)):=by
        refine⟨by have:=HLa.out;omega,?_⟩
        have h1:(p.es.drop a)[k-a]?=some x.1:=by rw[List.getElem?_drop,show a+(k-a)=k by omega,HXe.out,List.getElem?_eq_getElem]
        rw[List.map_append,HT.out.2,show k+1-a=(k-a)+1 by omega,List.take_add_one,h1,List.append_assoc]
        rfl
      have HS8:Hid (∀kk,(Value.slice v7a nl v7c).ownBlock=some kk→(Value.slice (some ⟨g,0,none⟩) n ec).ownBlock≠some kk):=fun kk h1 h2=>by
        rcases hfr7 with h3|h3
        · exact HS.out kk (h3▸h1) h2
        · rw[h3] at h1
          have e1:=Option.some.inj h1
          have e2:g=kk:=Option.some.inj h2
          omega
      have HV8:Hid (VKeep N0 Nl [64] W (y7.setCell ⟨Lb,0,none⟩ (.slice v7a nl v7c))):=HV.out.trans ⟨fun B o hB hn ht=>by
          have h1:=hT7.same B o ((hB6.5 B (Array.getElem?_eq_some_iff.1 hB).1).trans hB) ht
          exact(Below.heap_setCell _ _ _ _ (by show B≠Lb;omega)).trans h1,hTx.more (by decide),((hB6.mono (Nat.le_trans hNl (Nat.le_of_lt HO.out.1.lt))).grown hg7 hNlw (fun kk e=>(World.ownsRow.lt HO.out.2.1 kk e).1)).setCell (p:=⟨Lb,0,none⟩) hNl _⟩
      have HI8:Hid (Blk (y7.setCell ⟨Lb,0,none⟩ (.slice v7a nl v7c)) Fb 33 [.slice fa fn fc]∧BsP fl (y7.setCell ⟨Lb,0,none⟩ (.slice v7a nl v7c)) fa fn fc fr∧Blk (y7.setCell ⟨Lb,0,none⟩ (.slice v7a nl v7c)) Mb 3 [.int .i64 most]):=⟨hTx.blk HI.out.1 (by decide),HI.out.2.1.keep (KeepU.ofB (KeepO.ofT hTx (by decide)) (((hB6.mono (Nat.le_trans hNl (Nat.le_of_lt HO.out.1.lt))).grown hg7 hNlw (fun kk e=>(World.ownsRow.lt HO.out.2.1 kk e).1)).setCell (p:=⟨Lb,0,none⟩) hNl _) hfl),hTx.blk HI.out.2.2 (by decide)⟩
      have hon6:OwnN y6 X (.slice (some ⟨g,0,none⟩) n ec) L:=HP.out.2.1.on hB6
      have hon7:OwnN y7 X (.slice (some ⟨g,0,none⟩) n ec) L:=World.ownsRow.kept hon6 hg7 (.inr (fun e=>HS.out g e.symm rfl))
      have HP8:Hid (Blk (y7.setCell ⟨Lb,0,none⟩ (.slice v7a nl v7c)) W.heap.size 133 [.int .i64 at_,.int .i64 lv,.slice (some ⟨g,0,none⟩) n ec,.slice xa kn xc]∧OwnN (y7.setCell ⟨Lb,0,none⟩ (.slice v7a nl v7c)) X (.slice (some ⟨g,0,none⟩) n ec) L∧∀x∈L,EtP (y7.setCell ⟨Lb,0,none⟩ (.slice v7a nl v7c)) x.1 x.2):=⟨hTx.blk HP.out.1 (by decide),own_keepO (us:=[64]) (KeepO.ofT hT8 (by decide)) hon7 (by decide),fun z hz=>(HP.out.2.2 z hz).keep (KeepO.ofT hTx (by decide))⟩
      clear hon6 hon7 hT7 hT8 hTx hng hg6 hg7 hg7' hO7 hfr7 hLb8 hPb7 hS7 hLb7 hB6 hB5 hb5 he5 he6 kB6
      refine lkZ rfl (fun K hK=>?_)
      go_simp
      refine hK.out _ _ ?_
      (try simp only[Exit.then])
      (try simp only[Act.put,sIx,sZ0,sZ1])
      clear hK K hHeld
      have hwk:IntKind.i64.wrap ((k:Int)+1)=(k:Int)+1:=wrapi64_in _ (by omega) (by omega)
      generalize y7.setCell ⟨Lb,0,none⟩ (.slice v7a nl v7c)=Y8 at *
      go_wp2_with fail
      go_roundg (n-(k+1))
      all_goals first|exact Nat.lt_of_lt_of_le (Nat.sub_lt_sub_left hk (Nat.lt_succ_self k)) hkx|skip
      all_goals exact⟨k+1,.slice v7a nl v7c,Lk++[(x.1,q5)],hk,Nat.le_refl _,by go_num,by omega,HT8.out,⟨HN8.out.1,HN8.out.2.1,HE8.out⟩,HS8.out,HV8.out,HI8.out,HP8.out⟩
    · have hfin:Lk.map Prod.fst=gat fr most acc p.es:=by
        rw[HT.out.2]
        unfold gat
        rw[←HA.out]
        congr 1
        have hT:=HT.out.1
        have hdl:(p.es.drop a).length=n-a:=by rw[List.length_drop,←HNn.out]
        by_cases hk:k<n
        · have h1:¬(ln:Int)<most:=fun h=>hgo ⟨hk,h⟩
          have hLn:=HLa.out
          congr 1
          omega
        · rw[List.take_of_length_le (by omega),List.take_of_length_le (by omega)]
      have hres:decide ((ln:Int)<most)=(stpS fr most acc p.es).2:=by
        unfold stpS
        rw[←hfin,List.length_map,←HLn.out]
      have HRes:=mkHid hres
      have HFin:=mkHid hfin
      clear hfin hres
      have hpost:InvS fl Fb Lb Mb Nl fa fn fc fr most (stpS fr most acc p.es).1 wr.heap.size wr:=⟨HI.out.1,HI.out.2.1,HI.out.2.2,_,Lk,HO.out.1,HO.out.2.1,fun kk h=>(World.ownsRow.lt HO.out.2.1 kk h).2,HFin.out,HO.out.2.2⟩
      have HPost:=mkHid hpost
      clear hpost
      by_cases hk:k<n
      · have hk':(k:Int)<(n:Int):=by omega
        have hm':¬(ln:Int)<most:=fun h=>hgo ⟨hk,h⟩
        clear hgo
        go_wp2_with fail
        go_ret
        exact⟨by rw[←HRes.out,decide_eq_false (show ¬(ln:Int)<most by omega)];rfl,HPost.out,HV.out⟩
      · have hk':¬(k:Int)<(n:Int):=by omega
        clear hgo
        go_wp2_with fail
        go_ret
        exact⟨by rw[←HRes.out];rfl,HPost.out,HV.out⟩
theorem visScan (fl Fb Lb Mb N0 Nl:Nat)(fa:Option Addr)(fn fc:Nat)(fr:List UInt8)(most:Int)(hL:Lb<N0)(hNl:Nl≤Lb)(hfl:fl≤Nl):
    VisOK 77 #[.pointer (some ⟨Fb,0,none⟩),.pointer (some ⟨Lb,0,none⟩),.pointer (some ⟨Mb,0,none⟩)] (stpS fr most) (InvS fl Fb Lb Mb Nl fa fn fc fr most) N0 Nl rkS :=
  ⟨fun acc l=>by
    have h:=gat_len fr most acc l
    show 300-acc.length/1000≤300-(gat fr most acc l).length/1000+1
    omega,
   fun acc X W at_ p ve vk L hrk hI hp hon hs hn hit=>callScan fl Fb Lb Mb N0 Nl fa fn fc fr most hL hNl acc X W at_ p ve vk L hrk hI hp hon hs hn hit hfl,
   fun acc X W W' hI hk hlw=>hI.keep hk hlw hfl,fun args w=>by simp[callFunc,Tryz.func77];rfl⟩
end Go.Proofs.YtpecobmfabmpkaaGreatDoor
