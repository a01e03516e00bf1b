/- PvS PuK PvP PvT -/
import Derived.Test.YtpecobmfabmpkaaGreatDoorM33
set_option maxRecDepth 20000
set_option maxHeartbeats 3000000
namespace Go.Proofs.YtpecobmfabmpkaaGreatDoor
open Go.RowKit
variable {fl:Nat}
def ScanR (l:List Et)(fr:List UInt8)(most:Int)(B:Nat)(v:Value)(w':World):Prop:=∃L,OwnN w' B v L∧L.map Prod.fst=scanE13 l fr most∧∀x∈L,EtP w' x.1 x.2
theorem scan_nil (l:List Et)(fr:List UInt8)(most:Int)(h:most≤0):scanE13 l fr most=[]:=by
 unfold scanE13
 rw[show most.toNat=0 by omega,List.take_zero]
theorem gat_leaf {l:List Et}(fr:List UInt8)(most:Int)(h:l.length≤1000):(stpS fr most [] l).1=scanE13 l fr most:=by
 show gat fr most [] l=_
 unfold gat scanE13
 have hd:(l.drop (atE l fr)).length≤1000:=by rw[List.length_drop];omega
 rw[List.nil_append,List.length_nil]
 by_cases ht:most.toNat≤1000
 ·rw[show min (most-((0:Nat):Int)).toNat 1000=most.toNat by omega]
 ·rw[List.take_of_length_le (by omega),List.take_of_length_le (by omega)]
theorem gat_none (fr:List UInt8)(most:Int):stpS fr most [] []=([],decide (0<most)):=by
 have h:gat fr most [] []=[]:=by unfold gat;simp
 unfold stpS
 rw[h]
 rfl
theorem eachScan (y4:World)(S J P base m N B3:Nat)(t:Tl)(j:Jl)(root:Nat)(l:List Et)(SS:List Int)(pg:Pg)(v ve vk:Value)(L:List Eq3)(fa:Option Addr)(fn fc:Nat)(fr:List UInt8)(most:Int)(h:SpAx y4 S J P base t j)(hk:Tk t j m SS)(hso:SrtE l)(hcase:(SS=[(root:Int)]∧LfAt t j root l)∨∃Q:Ps,NdAt t j root Q∧l=entsP Q∧SS=(root:Int):: secsP Q)
  (hpg:pgOf (spRdB t j (root:Int))=some pg) (hp:PgO y4 B3 (root:Int) pg v ve vk L) (hB3:N+5≤B3)
  (hf:Blk y4 (N+1) 33 [.slice fa fn fc]) (hm:Blk y4 (N+2) 3 [.int .i64 most]) (hl:Blk y4 (N+3) 50 [.slice none 0 0]) (hw:Blk y4 (N+4) 144 [.pointer (some ⟨S,0,none⟩),.slice none 0 0]) (hfr:BsP fl y4 fa fn fc fr) (hfl:fl≤N):
  Calls Tryz.prog 76 #[.pointer (some ⟨N+4,0,none⟩),v,.slice fa fn fc,.func (.func 77) #[] #[.pointer (some ⟨N+1,0,none⟩),.pointer (some ⟨N+3,0,none⟩),.pointer (some ⟨N+2,0,none⟩)]] y4 fun e w'=>(∃b,e=.returned (.bool b))∧(∃v2,Blk w' (N+3) 50 [v2]∧ScanR l fr most N v2 w')∧Blk w' (N+1) 33 [.slice fa fn fc]∧VKeep (N+4) N [64,144] y4 w':=by
 have hV:=visScan fl (N+1) (N+3) (N+2) (N+4) N fa fn fc fr most (by omega) (by omega) hfl
 have hI:InvS fl (N+1) (N+3) (N+2) N fa fn fc fr most [] B3 y4:=⟨hf,hfr,hm,.slice none 0 0,[],hl,OwnN.nil _ _,(fun k e=>by simp[Value.ownBlock] at e),rfl,(fun x hx=>absurd hx List.not_mem_nil)⟩
 have hfin:∀(acc:List Et) (X:Nat) (w':World),acc=scanE13 l fr most→InvS fl (N+1) (N+3) (N+2) N fa fn fc fr most acc X w'→(∃v2,Blk w' (N+3) 50 [v2]∧ScanR l fr most N v2 w')∧Blk w' (N+1) 33 [.slice fa fn fc]:=fun acc X w' ha hi=>by
  obtain⟨v2,L2,q1,q2,_,q4,q5⟩:=hi.l
  exact⟨⟨v2,q1,L2,q2,by rw[q4,ha],q5⟩,hi.f⟩
 rcases hcase with⟨rfl,hL⟩|⟨Q,hN,rfl,rfl⟩
 ·have hpe:pg=⟨0,l,[]⟩:=by
   have h2:=pg_leaf hL.ok
   rw[hL.rd,h2] at hpg
   exact(Option.some.inj hpg).symm
  subst hpe
  obtain rfl:=hp.v
  obtain⟨e1,he1,hk1⟩:=fst_mem hL.ok.ne
  have:=codEach0 77 #[.pointer (some ⟨N+1,0,none⟩),.pointer (some ⟨N+3,0,none⟩),.pointer (some ⟨N+2,0,none⟩)] (stpS fr most) (InvS fl (N+1) (N+3) (N+2) N fa fn fc fr most) (N+4) N rkS hV y4 (N+4) S (root:Int) ve vk (.slice fa fn fc) l L none 0 0 [] [] B3 (by decide) hI hp.e hw hp.r hL.ok (fun W _=>isB_none W) (less_nil (by rw[←hk1];exact(item_facts (hL.ok.ok e1 he1)).1)) ⟨fa,fn,fc,rfl⟩ (Nat.le_refl _) (by omega)
  refine this.mono ?_
  rintro e w' ⟨q1,⟨X',_,q2⟩,_,q3⟩
  have h9:=hfin _ X' w' (gat_leaf fr most (Nat.le_trans hL.ok.len (by decide))) q2
  exact⟨⟨_,q1⟩,h9.1,h9.2,q3⟩
 ·have hpe:pg=⟨1,[],Q.map (·.1)⟩:=by
   rw[nd_pg13 hN hk] at hpg
   exact(Option.some.inj hpg).symm
  subst hpe
  obtain rfl:=hp.v
  have hL0:L=[]:=List.map_eq_nil_iff.1 hp.es
  have hq2:=hN.n
  have hq254:=hN.n2
  have hrd:=hp.r.e
  have hoe:=hp.e
  rw[hL0] at hrd hoe
  have hrk:Q.length+1≤rkS []:=by show Q.length+1≤300;omega
  by_cases hm0:0<most
  ·have:=codEach1 77 #[.pointer (some ⟨N+1,0,none⟩),.pointer (some ⟨N+3,0,none⟩),.pointer (some ⟨N+2,0,none⟩)] (stpS fr most) (InvS fl (N+1) (N+3) (N+2) N fa fn fc fr most) (N+4) N rkS hV y4 S J P base m t j (N+4) root Q (root:Int) ve vk fa fn fc fr [] B3 hrk h hN hk hso hI hoe (by rw[gat_none];exact decide_eq_true hm0) hw hrd (own_base hp.k (by omega)) hfr (Nat.le_refl _) (by omega)
   refine this.mono ?_
   rintro e w' ⟨i,q0,q1,_,q3,⟨X',q4⟩,q5⟩
   rw[gat_none] at q3 q4
   have hlf:∀p∈Q,p.2≠[]∧p.2.length≤1000:=fun p hp=>⟨(hN.lf p hp).ok.ne,Nat.le_trans (hN.lf p hp).ok.len (by decide)⟩
   have h9:=hfin _ X' w' (gather_all hso (fun p hp=>(hlf p hp).1) (fun p hp=>(hlf p hp).2) hm0 q0 q1) q4
   exact⟨⟨_,q3⟩,h9.1,h9.2,q5⟩
  ·have:=codEach1No 77 #[.pointer (some ⟨N+1,0,none⟩),.pointer (some ⟨N+3,0,none⟩),.pointer (some ⟨N+2,0,none⟩)] (stpS fr most) (InvS fl (N+1) (N+3) (N+2) N fa fn fc fr most) (N+4) N rkS hV y4 S J P base m t j (N+4) root Q (root:Int) ve vk fa fn fc fr [] B3 hrk h hN hk hso hI hoe (by rw[gat_none];exact decide_eq_false hm0) hw hrd (own_base hp.k (by omega)) hfr (Nat.le_refl _) (by omega)
   refine this.mono ?_
   rintro e w' ⟨q3,⟨X',q4⟩,q5⟩
   rw[gat_none] at q4
   have h9:=hfin _ X' w' (scan_nil _ fr most (by omega)).symm q4
   exact⟨⟨_,q3⟩,h9.1,h9.2,q5⟩
def ScnPost (l:List Et)(fr:List UInt8)(most:Int)(w:World)(e:Ending)(w':World):Prop:=(∃v,e=.returned v∧ScanR l fr most w.heap.size v w')∧Below w.heap.size w w'
theorem pgScan (w:World)(S J P base m:Nat)(t:Tl)(j:Jl)(root:Nat)(l:List Et)(SS:List Int)(fa:Option Addr)(fn fc:Nat)(fr:List UInt8)(most:Int)(h:SpAx w S J P base t j)(hk:Tk t j m SS)(ht:TR t j root l SS)(hfr:BsP fl w fa fn fc fr)(hfl:fl≤w.heap.size:=by omega):
  Calls Tryz.prog 51 #[gT S,.int .i64 (root:Int),.slice fa fn fc,.int .i64 most] w (ScnPost l fr most w):=by
 have hf:=hk.fit
 unfold gT
 obtain⟨Y0,hW⟩:∃Y0,(((w.alloc (.cells #[.pointer (some ⟨S,0,none⟩)] 87)).alloc (.cells #[.slice fa fn fc] 33)).alloc (.cells #[.int .i64 most] 3)).alloc (.cells #[.slice none 0 0] 50)=Y0:=⟨_,rfl⟩
 have W1:Below w.heap.size w Y0:=by rw[←hW];exact((((Below.refl _ w).alloc (Nat.le_refl _) _).alloc (by simp) _).alloc (by simp;omega) _).alloc (by simp;omega) _
 have k0:Blk Y0 w.heap.size 87 [.pointer (some ⟨S,0,none⟩)]:=by rw[←hW];exact(((Blk.newAt w w.heap.size 87 #[.pointer (some ⟨S,0,none⟩)] [.pointer (some ⟨S,0,none⟩)] rfl rfl).alloc _).alloc _).alloc _
 have k1:Blk Y0 (w.heap.size+1) 33 [.slice fa fn fc]:=by rw[←hW];exact((Blk.newAt _ (w.heap.size+1) 33 _ _ (by simp) rfl).alloc _).alloc _
 have k2:Blk Y0 (w.heap.size+2) 3 [.int .i64 most]:=by rw[←hW];exact(Blk.newAt _ (w.heap.size+2) 3 _ _ (by simp) rfl).alloc _
 have k3:Blk Y0 (w.heap.size+3) 50 [.slice none 0 0]:=by rw[←hW];exact Blk.newAt _ (w.heap.size+3) 50 _ _ (by simp) rfl
 have hs0:Y0.heap.size=w.heap.size+4:=by rw[←hW];simp
 have c0:=k0.cell 0
 have n0:=k3.cell 0
 simp only[List.getElem?_cons_zero] at c0 n0
 have HW:=mkHid hW
 clear hW
 rcases ht.2 with⟨rfl,rfl,rfl⟩|hcase
 ·have HF:=mkHid W1
  clear h hk k0 k1 k2 k3 W1
  rw[show (((0:Nat)):Int)=0 from rfl]
  go_enter Tryz.func51,Tryz.ntmps51
  go_upto_region 2 with fail
  (try rw[HW.out])
  go_wp2_with fail
  go_ret
  exact⟨⟨_,rfl,[],OwnN.nil _ _,by unfold scanE13;simp,fun x hx=>absurd hx List.not_mem_nil⟩,HF.out⟩
 have hr51:51≤root∧root<j.p.n:=by
  rcases hcase with⟨rfl,_⟩|⟨Q,_,rfl,rfl⟩
  ·have:=hk.rng (root:Int) List.mem_cons_self;omega
  ·have:=hk.rng (root:Int) List.mem_cons_self;omega
 have hs1:((root:Int)==0)=false:=by rw[beq_eq_false_iff_ne];omega
 have hs2:¬root=0:=by omega
 obtain⟨pg,hpg⟩:∃pg,pgOf (spRdB t j (root:Int))=some pg:=by
  rcases hcase with⟨rfl,hL⟩|⟨Q,hN,rfl,rfl⟩
  ·exact⟨_,by rw[hL.rd];exact pg_leaf hL.ok⟩
  ·exact⟨_,nd_pg13 hN hk⟩
 have W3:Below Y0.heap.size Y0 (Y0.alloc (.cells #[.pointer (some ⟨S,0,none⟩),.slice none 0 0] 144)):=(Below.refl _ Y0).alloc (Nat.le_refl _) _
 have kw:Blk (Y0.alloc (.cells #[.pointer (some ⟨S,0,none⟩),.slice none 0 0] 144)) (w.heap.size+4) 144 [.pointer (some ⟨S,0,none⟩),.slice none 0 0]:=Blk.newAt Y0 (w.heap.size+4) 144 _ _ hs0 rfl
 have k03:=k0.on W3
 have k13:=k1.on W3
 have k23:=k2.on W3
 have k33:=k3.on W3
 have W13:=W1.trans (W3.mono W1.size)
 generalize hW3:Y0.alloc (.cells #[.pointer (some ⟨S,0,none⟩),.slice none 0 0] 144)=Y3 at *
 have hA3:=SpAx.keep h (KeepT.of_below W13)
 have hfr3:=hfr.keep (KeepU.of_below W13)
 have hY3:w.heap.size+4<Y3.heap.size:=kw.lt
 have HRd:Hid (∀W,Below Y3.heap.size Y3 W→Calls Tryz.prog 67 #[gT S,.int .i64 (root:Int)] W fun e w'=>(∃v ve vk L,e=.returned v∧PgO w' W.heap.size (root:Int) pg v ve vk L)∧Below W.heap.size W w'):=fun W hb=>pgRead W S J P base m t j root pg (SpAx.keep hA3 (KeepT.of_below hb)) hf hr51.1 hr51.2 hpg
 have HEa:Hid (∀y4 B3 v ve vk L,Below Y3.heap.size Y3 y4→Y3.heap.size≤B3→PgO y4 B3 (root:Int) pg v ve vk L→Calls Tryz.prog 76 #[.pointer (some ⟨w.heap.size+4,0,none⟩),v,.slice fa fn fc,.func (.func 77) #[] #[.pointer (some ⟨w.heap.size+1,0,none⟩),.pointer (some ⟨w.heap.size+3,0,none⟩),.pointer (some ⟨w.heap.size+2,0,none⟩)]] y4 fun e w'=>(∃b,e=.returned (.bool b))∧(∃v2,Blk w' (w.heap.size+3) 50 [v2]∧ScanR l fr most w.heap.size v2 w')∧Blk w' (w.heap.size+1) 33 [.slice fa fn fc]∧VKeep (w.heap.size+4) w.heap.size [64,144] y4 w'):=fun y4 B3 v ve vk L hb hB3 hp =>
  eachScan y4 S J P base m w.heap.size B3 t j root l SS pg v ve vk L fa fn fc fr most (SpAx.keep hA3 (KeepT.of_below hb)) hk ht.1 hcase hpg hp (by omega) (k13.on hb) (k23.on hb) (k33.on hb) (kw.on hb) (hfr3.keep (KeepU.of_below hb)) hfl
 have hmf:∀(fn:Fn) (first cap:Array Value) (w:World),(Instr.makeFunc fn first cap).run Tryz.prog w=.ok (.func fn first cap) w:=fun _ _ _ _=>rfl
 have hc3:Y3.cell? ⟨w.heap.size,0,none⟩=some (.pointer (some ⟨S,0,none⟩))∧Y3.cell? ⟨w.heap.size+1,0,none⟩=some (.slice fa fn fc):=⟨k03.cell 0,k13.cell 0⟩
 have HK:=mkHid (And.intro k03 k13)
 have HW13:=mkHid W13
 clear h hk ht hcase k0 k1 k2 k3 k03 k13 k23 k33 kw W1 W3 W13 hA3 hpg hfr hfr3
 have HW3:=mkHid hW3
 clear hW3
 go_enter Tryz.func51,Tryz.ntmps51
 go_upto_region 2 with fail
 (try rw[HW.out])
 go_upto_region 5 with fail
 (try rw[HW3.out])
 have hYd:Below Y3.heap.size Y3 Y3.drew:=(Below.refl _ Y3).drew
 refine wp_region_noPanic ?_
 refine wp_region_held_drew (S:=fun w'=>w'.cell? ⟨w.heap.size,0,none⟩=some (.pointer (some ⟨S,0,none⟩))∧w'.cell? ⟨w.heap.size+1,0,none⟩=some (.slice fa fn fc)) (by kernel_rfl) hc3 (fun hHeld=>?_)
 refine takeH (some 16) (i:=0) (v:=gT S) rfl (by kernel_rfl) (by kernel_rfl) (by kernel_rfl) (fun _ _ _ h=>h) (Or.inl ⟨by rfl,?_⟩) hHeld rfl ?_
 ·intro w hSw;obtain⟨s0,s1⟩:=hSw;go_simp;rfl
 (try simp only[Act.put,sIx,sZ0,sZ1])
 refine takeH (some 17) (i:=1) (v:=.int .i64 (root:Int)) rfl (by kernel_rfl) (by kernel_rfl) (by kernel_rfl) (fun _ _ _ h=>h) (Or.inl ⟨by rfl,?_⟩) hHeld rfl ?_
 ·intro w hSw;go_simp
 (try simp only[Act.put,sIx,sZ0,sZ1])
 refine takeH (some 19) (i:=3) (v:=.slice fa fn fc) rfl (by kernel_rfl) (by kernel_rfl) (by kernel_rfl) (fun _ _ _ h=>h) (Or.inl ⟨by rfl,?_⟩) hHeld rfl ?_
 ·intro w hSw;obtain⟨s0,s1⟩:=hSw;go_simp
 (try simp only[Act.put,sIx,sZ0,sZ1])
 refine takeH (some 20) (i:=4) (v:=.func (.func 77) #[] #[.pointer (some ⟨w.heap.size+1,0,none⟩),.pointer (some ⟨w.heap.size+3,0,none⟩),.pointer (some ⟨w.heap.size+2,0,none⟩)]) rfl (by kernel_rfl) (by kernel_rfl) (by kernel_rfl) (fun _ _ _ h=>h) (Or.inl ⟨by rfl,?_⟩) hHeld rfl ?_
 ·intro w hSw;go_simp
 (try simp only[Act.put,sIx,sZ0,sZ1])
 refine wpAnyH_ready (rs:=[2]) (by kernel_rfl) (by simp) (AllReadyH.cons rfl (fun K hK=>?_) AllReadyH.nil)
 go_simp
 go_wp2_with (go_at_call 67;refine(HRd.out _ hYd).mono ?_;rintro e y4 ⟨⟨v,ve,vk,L,rfl,hp⟩,hb4⟩)
 have hb34:=hYd.trans (hb4.mono hYd.size)
 have hEa:=HEa.out y4 _ v ve vk L hb34 hYd.size hp
 have k04:=HK.out.1.on hb34
 have k14:=HK.out.2.on hb34
 have HB34:=mkHid hb34
 refine hK.out _ _ ⟨k04.cell 0,k14.cell 0⟩ (fun hHeld=>?_)
 (try simp only[Act.put,sIx,sZ0,sZ1])
 clear hK K hp hb4 hb34 hc3 HRd HEa
 refine wpAnyH_ready (rs:=[5]) (by kernel_rfl) (by simp) (AllReadyH.cons rfl (fun K hK=>?_) AllReadyH.nil)
 go_simp
 go_wp2_with (go_at_call 76;refine hEa.mono ?_;rintro e y5 ⟨⟨b,rfl⟩,⟨v2,hk3,hsc⟩,hk1,hv5⟩)
 have HK5:=mkHid (And.intro hk3 hsc)
 have HV5:=mkHid hv5
 refine hK.out _ _ ⟨(hv5.t.blk k04 (by decide)).cell 0,hk1.cell 0⟩ (fun hHeld=>?_)
 (try simp only[Act.put,sIx,sZ0,sZ1])
 clear hK K hk1 hv5 hk3 hsc k04 k14
 refine wpAnyH_done (by kernel_rfl) ?_ _
 refine NoPanic.normal ?_
 have n5:=HK5.out.1.cell 0
 simp only[List.getElem?_cons_zero] at n5
 clear hEa hHeld
 go_wp2_with fail
 go_ret
 exact⟨⟨_,rfl,HK5.out.2⟩,(HW13.out.trans (HB34.out.mono HW13.out.size)).trans HV5.out.b⟩
end Go.Proofs.YtpecobmfabmpkaaGreatDoor
namespace Go.Proofs.YtpecobmfabmpkaaGreatDoor
open Go.RowKit
variable {fl:Nat}
theorem load_in13 (w:World)(g:Nat)(v:Value)(h:Blk w g 3 [v]):(loadVar 3 ⟨g,0,none⟩).run Tryz.prog w=.ok v w:=by
 have hc:w.cell? ⟨g,0,none⟩=some v:=h.cell 0
 simp[loadVar,go_sem,hc]
theorem results_ct13 {P:Program}{fn:Func}{p q:Tmp}{ty:TypeId}(h:fn.results=#[.cell p ty,.tmp q])(tmps:Array Value)(w:World)(g:Nat)(x:Value)
  (hp:tmps.getD p undef=.pointer (some ⟨g,0,none⟩)) (hl:(loadVar ty ⟨g,0,none⟩).run P w=.ok x w):
  (results fn tmps).run P w=.ok (.tuple #[x,tmps.getD q undef]) w:=by
 have q1:tmps[p]?.getD undef=.pointer (some ⟨g,0,none⟩):=by simpa using hp
 simp only[results,h]
 simp[Result.andThen,q1,asAddr,hl]
structure PvAt (W:World)(N S:Nat)(root:Int)(kv vv x:Value):Prop where
 t:Blk W N 26 [.pointer (some ⟨S,0,none⟩)]
 r:Blk W (N+1) 3 [.int .i64 root]
 k:Blk W (N+2) 33 [kv]
 v:Blk W (N+3) 33 [vv]
 n:Blk W (N+4) 3 [x]
theorem PvAt.on {W W':World}{N S:Nat}{root:Int}{kv vv x:Value}(g:PvAt W N S root kv vv x)(hb:Below W.heap.size W W'):PvAt W' N S root kv vv x:=⟨g.t.on hb,g.r.on hb,g.k.on hb,g.v.on hb,g.n.on hb⟩
theorem PvAt.ks {W W':World}{N S base:Nat}{root:Int}{kv vv x:Value}(g:PvAt W N S root kv vv x)(hk:KS base W W'):PvAt W' N S root kv vv x:=⟨hk.o.blk g.t (by decide),hk.o.blk g.r (by decide),hk.o.blk g.k (by decide),hk.o.blk g.v (by decide),hk.o.blk g.n (by decide)⟩
def PutR (w0:World)(S J P base m N:Nat)(t:Tl)(j:Jl)(l:List Et)(e:Et)(root:Int)(kv vv:Value)(w':World):Prop :=
 ∃t' root' S',SpAx w' S J P base t' j∧Tk t' j m S'∧TR t' j root' (putE13 l e.k e.v) S'∧t'.l.length≤t.l.length+7∧PvAt w' N S root kv vv (.int .i64 ((root':Nat):Int))∧Blk w' (N+5) 30 [.int .i64 0]∧KS base w0 w'
theorem codPut1 (w w0:World)(S J P base m N:Nat)(t:Tl)(j:Jl)(root:Nat)(l:List Et)(SS:List Int)(e:Et)(q:EtA)(h:SpAx w S J P base t j)(hk:Tk t j m SS)(ht:TR t j root l SS)(he:EtQ fl w e q)(hit:itemOk e.k e.v=true)(hroom:t.l.length+8≤48)(hl:l.length≤190)(hdisk:SS.length+3<j.p.n-51)(hK:KS base w0 w)(hN:w0.heap.size≤N)(hlo0:base≤w0.heap.size)
  (hg:PvAt w N S (root:Int) (.slice q.a e.k.length q.c) (.slice q.b e.v.length q.d) (.int .i64 0)) (hE:Blk w (N+5) 30 [.int .i64 0]) (hfl:fl≤base:=by omega):
  Calls Tryz.prog 42 #[.pointer (some ⟨N,0,none⟩),.pointer (some ⟨N+1,0,none⟩),.pointer (some ⟨N+2,0,none⟩),.pointer (some ⟨N+3,0,none⟩),.pointer (some ⟨N+4,0,none⟩)] w fun r w'=>r=.returned (.tuple #[])∧PutR w0 S J P base m N t j l e (root:Int) (.slice q.a e.k.length q.c) (.slice q.b e.v.length q.d) w':=by
 have HG:=pgPut w S J P base m t j root l SS e q h hk ht he hit hroom hl hdisk
 unfold gT etc2 PutT at HG
 have c0:w.cell? ⟨N,0,none⟩=some (.pointer (some ⟨S,0,none⟩)):=hg.t.cell 0
 have c1:w.cell? ⟨N+1,0,none⟩=some (.int .i64 (root:Int)):=hg.r.cell 0
 have c2:w.cell? ⟨N+2,0,none⟩=some (.slice q.a e.k.length q.c):=hg.k.cell 0
 have c3:w.cell? ⟨N+3,0,none⟩=some (.slice q.b e.v.length q.d):=hg.v.cell 0
 have HGv:=mkHid hg
 have HE:=mkHid hE
 have HK:=mkHid hK
 clear h hk ht he hg hE hK hit
 go_enter Tryz.func42,Tryz.ntmps42
 go_wp2_with fail
 refine HG.mono ?_
 rintro r y1 ⟨⟨t',root',S',rfl,hA1,hk1,ht1,hr1⟩,hks1⟩
 have g1:=HGv.out.ks hks1
 have e1:=hks1.o.blk HE.out (by decide)
 have a4:=g1.n.cell 0
 simp only[List.getElem?_cons_zero] at a4
 have f4:=g1.n.frozen 0
 have HG1:=mkHid g1
 have HE1:=mkHid e1
 have HA1:=mkHid (And.intro hA1 (And.intro hk1 ht1))
 have HK1:=mkHid (HK.out.trans hks1)
 clear HG hks1 g1 e1 hA1 hk1 ht1 HK
 go_wp2_with fail
 go_end0
 refine⟨rfl,t',root',S',HA1.out.1.keep13 ((KeepT.refl _ y1).set HG1.out.n (by decide) 0 _),HA1.out.2.1,HA1.out.2.2,hr1,⟨HG1.out.t.other _ _ (by show N≠N+4;omega),HG1.out.r.other _ _ (by show N+1≠N+4;omega),HG1.out.k.other _ _ (by show N+2≠N+4;omega),HG1.out.v.other _ _ (by show N+3≠N+4;omega),HG1.out.n.set 0 _⟩,HE1.out.other _ _ (by show N+5≠N+4;omega),?_⟩
 exact HK1.out.over (((Below.refl _ y1).mono HK1.out.o.size).setCell (p:=⟨N+4,0,none⟩) (by show w0.heap.size≤N+4;omega) _) hlo0
theorem put_begin (w:World)(S root:Nat)(kv vv:Value):∃Y0,Y0=((((w.alloc (.cells #[.pointer (some ⟨S,0,none⟩)] 26)).alloc (.cells #[.int .i64 (root:Int)] 3)).alloc (.cells #[kv] 33)).alloc (.cells #[vv] 33)).alloc (.cells #[.int .i64 0] 3)∧Below w.heap.size w Y0∧PvAt Y0 w.heap.size S (root:Int) kv vv (.int .i64 0)∧Y0.heap.size=w.heap.size+5:=by
 refine⟨_,rfl,(((((Below.refl _ w).alloc (Nat.le_refl _) _).alloc (by simp) _).alloc (by simp;omega) _).alloc (by simp;omega) _).alloc (by simp;omega) _,?_,by simp⟩
 exact⟨((((Blk.newAt w w.heap.size 26 _ [.pointer (some ⟨S,0,none⟩)] rfl rfl).alloc _).alloc _).alloc _).alloc _,(((Blk.newAt _ (w.heap.size+1) 3 _ [.int .i64 (root:Int)] (by simp) rfl).alloc _).alloc _).alloc _,((Blk.newAt _ (w.heap.size+2) 33 _ [kv] (by simp) rfl).alloc _).alloc _,(Blk.newAt _ (w.heap.size+3) 33 _ [vv] (by simp) rfl).alloc _,Blk.newAt _ (w.heap.size+4) 3 _ [.int .i64 0] (by simp) rfl⟩
theorem codPut13 (w:World)(S J P base m:Nat)(t:Tl)(j:Jl)(root:Nat)(l:List Et)(SS:List Int)(e:Et)(q:EtA)(h:SpAx w S J P base t j)(hk:Tk t j m SS)(ht:TR t j root l SS)(he:EtQ fl w e q)(hit:itemOk e.k e.v=true)(hroom:t.l.length+8≤48)(hl:l.length≤190)(hdisk:SS.length+3<j.p.n-51)(hfl:fl≤base:=by omega):
  Calls Tryz.prog 13 #[.pointer (some ⟨S,0,none⟩),.int .i64 (root:Int),.slice q.a e.k.length q.c,.slice q.b e.v.length q.d] w fun r w'=>(∃t' root' S',r=.returned (.tuple #[.int .i64 ((root':Nat):Int),.int .i64 0])∧SpAx w' S J P base t' j∧Tk t' j m S'∧TR t' j root' (putE13 l e.k e.v) S'∧t'.l.length≤t.l.length+7)∧KS base w w':=by
 have hlo:=spcOK.lo h
 have hif:=item_facts hit
 have HIK:=codIsKey q.a e.k.length q.c
 have HII:=fun W=>codIsItem q.a q.b e.k.length q.c e.v.length q.d W (by omega)
 rw[decide_eq_true (show 1≤e.k.length∧e.k.length≤100 from ⟨hif.1,hif.2.1⟩)] at HIK
 rw[decide_eq_true (show e.k.length+e.v.length≤240 from hif.2.2)] at HII
 have hmf:∀(fn:Fn) (first cap:Array Value) (w:World),(Instr.makeFunc fn first cap).run Tryz.prog w=.ok (.func fn first cap) w:=fun _ _ _ _=>rfl
 obtain⟨Y0,hY0,hB0,hG0,hs0⟩:=put_begin w S root (.slice q.a e.k.length q.c) (.slice q.b e.v.length q.d)
 have hA:=(Below.refl _ Y0).alloc (Nat.le_refl _) (.cells #[.int .i64 0] 30)
 have hBA:=hB0.trans (hA.mono hB0.size)
 have hEA:Blk (Y0.alloc (.cells #[.int .i64 0] 30)) (w.heap.size+5) 30 [.int .i64 0]:=Blk.newAt Y0 (w.heap.size+5) 30 _ [.int .i64 0] hs0 rfl
 have HGd:=guardYes 42 #[.pointer (some ⟨w.heap.size,0,none⟩),.pointer (some ⟨w.heap.size+1,0,none⟩),.pointer (some ⟨w.heap.size+2,0,none⟩),.pointer (some ⟨w.heap.size+3,0,none⟩),.pointer (some ⟨w.heap.size+4,0,none⟩)] Y0
  (PutR w S J P base m w.heap.size t j l e (root:Int) (.slice q.a e.k.length q.c) (.slice q.b e.v.length q.d))
  (fun W ⟨_,_,_,_,_,_,_,_,hE,_⟩=>by rw[hs0];exact hE) (fun args W=>by simp[callFunc,Tryz.func42];rfl)
  (codPut1 _ w S J P base m w.heap.size t j root l SS e q (SpAx.keep h (KeepT.of_below hBA)) hk ht (he.below hBA) hit hroom hl hdisk (KS.of_below hBA hlo) (Nat.le_refl _) hlo (hG0.on hA) hEA)
 have c0:=hG0.t.cell 0
 have c2:=hG0.k.cell 0
 have c3:=hG0.v.cell 0
 have c4:=hG0.n.cell 0
 simp only[List.getElem?_cons_zero] at c0 c2 c3 c4
 have f4:=hG0.n.frozen 0
 have hY0':=hY0.symm
 clear h hk ht he hit hB0 hG0 hY0 hA hBA hEA hif
 go_enter Tryz.func13,Tryz.ntmps13
 go_wp2_with (first|(go_at_call 39;refine(HIK _).mono ?_;rintro e w8 ⟨rfl,hw8⟩;rw[hw8];clear hw8)|(go_at_call 40;refine(HII _).mono ?_;rintro e w8 ⟨rfl,hw8⟩;rw[hw8];clear hw8))
 refine HGd.mono ?_
 rintro r y1 ⟨w1,⟨t',root',S',hA1,hk1,ht1,hr1,hg1,hE1,hks1⟩,rfl,hy1⟩
 rw[hs0] at hy1
 have kN:Blk y1 (w.heap.size+4) 3 [.int .i64 ((root':Nat):Int)]:=by rw[hy1];exact hg1.n.other _ _ (by show w.heap.size+4≠w.heap.size+5;omega)
 have hA2:SpAx y1 S J P base t' j:=by rw[hy1];exact hA1.keep13 ((KeepT.refl _ w1).set hE1 (by decide) 0 _)
 have hk2:KS base w y1:=by rw[hy1];exact hks1.over (((Below.refl _ w1).mono hks1.o.size).setCell (p:=⟨w.heap.size+5,0,none⟩) (by show w.heap.size≤w.heap.size+5;omega) _) hlo
 have HR:=mkHid (And.intro hA2 (And.intro hk1 (And.intro ht1 (And.intro hr1 hk2))))
 have HKN:=mkHid kN
 have d4:=kN.cell 0
 have q4:=kN.frozen 0
 simp only[List.getElem?_cons_zero] at d4
 clear HGd hg1 hE1 hks1 hA1 hk1 ht1 hr1 hA2 hk2 kN hy1 c0 c2 c3 c4 f4
 go_wp2_with fail
 have kN2:=HKN.out.set 0 (.int .i64 ((root':Nat):Int))
 refine bodyPost_ret (results_ct13 (P:=Tryz.prog) rfl _ _ (w.heap.size+4) _ rfl (load_in13 _ _ _ kN2)) rfl ?_
 obtain⟨hA2,hk1,ht1,hr1,hk2⟩:=HR.out
 exact⟨⟨t',root',S',rfl,hA2.keep13 ((KeepT.refl _ y1).set HKN.out (by decide) 0 _),hk1,ht1,hr1⟩,hk2.over (((Below.refl _ y1).mono hk2.o.size).setCell (p:=⟨w.heap.size+4,0,none⟩) (by show w.heap.size≤w.heap.size+4;omega) _) hlo⟩
end Go.Proofs.YtpecobmfabmpkaaGreatDoor
namespace Go.Proofs.YtpecobmfabmpkaaGreatDoor
open Go.RowKit
variable {fl:Nat}
theorem ScanR.keep {l:List Et}{fr:List UInt8}{most:Int}{B:Nat}{v:Value}{w w':World}(h:ScanR l fr most B v w)(hk:KeepT [50,30] w w'):ScanR l fr most B v w':=by
 obtain⟨L,h1,h2,h3⟩:=h
 exact⟨L,own_keepO (us:=[64]) (KeepO.ofT hk (by decide)) h1 (by decide),h2,fun x hx=>(h3 x hx).keep (KeepO.ofT hk (by decide))⟩
theorem ScanR.base {l:List Et}{fr:List UInt8}{most:Int}{B C:Nat}{v:Value}{w:World}(h:ScanR l fr most B v w)(hc:C≤B):ScanR l fr most C v w:=by
 obtain⟨L,h1,h2,h3⟩:=h
 exact⟨L,own_base h1 hc,h2,h3⟩
theorem ScanR.form {l:List Et}{fr:List UInt8}{most:Int}{B:Nat}{v:Value}{w:World}(h:ScanR l fr most B v w):∃a n c,v=.slice a n c:=by
 obtain⟨L,h1,_⟩:=h
 obtain⟨a,c,e,_⟩:=h1.form
 exact⟨a,_,c,e⟩
theorem load_es13 (w:World)(g:Nat)(v:Value)(h:Blk w g 50 [v]):(loadVar 50 ⟨g,0,none⟩).run Tryz.prog w=.ok v w:=by
 have hc:w.cell? ⟨g,0,none⟩=some v:=h.cell 0
 simp[loadVar,go_sem,hc]
structure SvAt (W:World)(N S:Nat)(root:Int)(fv:Value)(most:Int)(v:Value):Prop where
 t:Blk W N 26 [.pointer (some ⟨S,0,none⟩)]
 r:Blk W (N+1) 3 [.int .i64 root]
 f:Blk W (N+2) 33 [fv]
 m:Blk W (N+3) 3 [.int .i64 most]
 l:Blk W (N+4) 50 [v]
theorem SvAt.on {W W':World}{N S:Nat}{root:Int}{fv:Value}{most:Int}{v:Value}(g:SvAt W N S root fv most v)(hb:Below W.heap.size W W'):SvAt W' N S root fv most v:=⟨g.t.on hb,g.r.on hb,g.f.on hb,g.m.on hb,g.l.on hb⟩
def ScnR (w0:World)(N S:Nat)(root:Int)(fv:Value)(most:Int)(l:List Et)(fr:List UInt8)(w':World):Prop:=∃v,SvAt w' N S root fv most v∧ScanR l fr most w0.heap.size v w'∧Blk w' (N+5) 30 [.int .i64 0]∧Below w0.heap.size w0 w'
theorem codScan1 (w w0:World)(S J P base m N:Nat)(t:Tl)(j:Jl)(root:Nat)(l:List Et)(SS:List Int)(fa:Option Addr)(fn fc:Nat)(fr:List UInt8)(most:Int)(h:SpAx w S J P base t j)(hk:Tk t j m SS)(ht:TR t j root l SS)(hfr:BsP fl w fa fn fc fr)(hfl:fl≤w.heap.size)(hB:Below w0.heap.size w0 w)(hN:w0.heap.size≤N)(hg:SvAt w N S (root:Int) (.slice fa fn fc) most (.slice none 0 0))(hE:Blk w (N+5) 30 [.int .i64 0]):
  Calls Tryz.prog 50 #[.pointer (some ⟨N,0,none⟩),.pointer (some ⟨N+1,0,none⟩),.pointer (some ⟨N+2,0,none⟩),.pointer (some ⟨N+3,0,none⟩),.pointer (some ⟨N+4,0,none⟩)] w fun r w'=>r=.returned (.tuple #[])∧ScnR w0 N S (root:Int) (.slice fa fn fc) most l fr w':=by
 have HG:=pgScan w S J P base m t j root l SS fa fn fc fr most h hk ht hfr hfl
 unfold gT ScnPost at HG
 have c0:w.cell? ⟨N,0,none⟩=some (.pointer (some ⟨S,0,none⟩)):=hg.t.cell 0
 have c1:w.cell? ⟨N+1,0,none⟩=some (.int .i64 (root:Int)):=hg.r.cell 0
 have c2:w.cell? ⟨N+2,0,none⟩=some (.slice fa fn fc):=hg.f.cell 0
 have c3:w.cell? ⟨N+3,0,none⟩=some (.int .i64 most):=hg.m.cell 0
 have HGv:=mkHid hg
 have HE:=mkHid hE
 have HB:=mkHid hB
 clear h hk ht hg hE hB hfr
 go_enter Tryz.func50,Tryz.ntmps50
 go_wp2_with fail
 refine HG.mono ?_
 rintro r y1 ⟨⟨v,rfl,hsc⟩,hb1⟩
 obtain⟨va,vn,vc,rfl⟩:=hsc.form
 have g1:=HGv.out.on hb1
 have e1:=HE.out.on hb1
 have a4:=g1.l.cell 0
 simp only[List.getElem?_cons_zero] at a4
 have f4:=g1.l.frozen 0
 have HG1:=mkHid g1
 have HE1:=mkHid e1
 have HB1:=mkHid hb1
 have HSc:=mkHid hsc
 clear HG hb1 g1 e1 hsc
 go_wp2_with fail
 go_end0
 have hkt:KeepT [50,30] y1 (y1.setCell ⟨N+4,0,none⟩ (.slice va vn vc)):=(KeepT.refl _ y1).set HG1.out.l (by decide) 0 _
 exact⟨rfl,.slice va vn vc,⟨HG1.out.t.other _ _ (by show N≠N+4;omega),HG1.out.r.other _ _ (by show N+1≠N+4;omega),HG1.out.f.other _ _ (by show N+2≠N+4;omega),HG1.out.m.other _ _ (by show N+3≠N+4;omega),HG1.out.l.set 0 _⟩,(HSc.out.keep hkt).base HB.out.size,HE1.out.other _ _ (by show N+5≠N+4;omega),(HB.out.trans (HB1.out.mono HB.out.size)).setCell (p:=⟨N+4,0,none⟩) (by show w0.heap.size≤N+4;omega) _⟩
theorem scan_begin (w:World)(S root:Nat)(fv:Value)(most:Int):∃Y0,Y0=((((w.alloc (.cells #[.pointer (some ⟨S,0,none⟩)] 26)).alloc (.cells #[.int .i64 (root:Int)] 3)).alloc (.cells #[fv] 33)).alloc (.cells #[.int .i64 most] 3)).alloc (.cells #[.slice none 0 0] 50)∧Below w.heap.size w Y0∧SvAt Y0 w.heap.size S (root:Int) fv most (.slice none 0 0)∧Y0.heap.size=w.heap.size+5:=by
 refine⟨_,rfl,(((((Below.refl _ w).alloc (Nat.le_refl _) _).alloc (by simp) _).alloc (by simp;omega) _).alloc (by simp;omega) _).alloc (by simp;omega) _,?_,by simp⟩
 exact⟨((((Blk.newAt w w.heap.size 26 _ [.pointer (some ⟨S,0,none⟩)] rfl rfl).alloc _).alloc _).alloc _).alloc _,(((Blk.newAt _ (w.heap.size+1) 3 _ [.int .i64 (root:Int)] (by simp) rfl).alloc _).alloc _).alloc _,((Blk.newAt _ (w.heap.size+2) 33 _ [fv] (by simp) rfl).alloc _).alloc _,(Blk.newAt _ (w.heap.size+3) 3 _ [.int .i64 most] (by simp) rfl).alloc _,Blk.newAt _ (w.heap.size+4) 50 _ [.slice none 0 0] (by simp) rfl⟩
theorem codScan13 (w:World)(S J P base m:Nat)(t:Tl)(j:Jl)(root:Nat)(l:List Et)(SS:List Int)(fa:Option Addr)(fn fc:Nat)(fr:List UInt8)(most:Int)(h:SpAx w S J P base t j)(hk:Tk t j m SS)(ht:TR t j root l SS)(hfr:BsP fl w fa fn fc fr)(hfl:fl≤w.heap.size:=by omega):
  Calls Tryz.prog 22 #[.pointer (some ⟨S,0,none⟩),.int .i64 (root:Int),.slice fa fn fc,.int .i64 most] w fun r w'=>(∃v,r=.returned (.tuple #[v,.int .i64 0])∧ScanR l fr most w.heap.size v w')∧Below w.heap.size w w':=by
 have hmf:∀(fn:Fn) (first cap:Array Value) (w:World),(Instr.makeFunc fn first cap).run Tryz.prog w=.ok (.func fn first cap) w:=fun _ _ _ _=>rfl
 obtain⟨Y0,hY0,hB0,hG0,hs0⟩:=scan_begin w S root (.slice fa fn fc) most
 have hA:=(Below.refl _ Y0).alloc (Nat.le_refl _) (.cells #[.int .i64 0] 30)
 have hBA:=hB0.trans (hA.mono hB0.size)
 have hEA:Blk (Y0.alloc (.cells #[.int .i64 0] 30)) (w.heap.size+5) 30 [.int .i64 0]:=Blk.newAt Y0 (w.heap.size+5) 30 _ [.int .i64 0] hs0 rfl
 have HGd:=guardYes 50 #[.pointer (some ⟨w.heap.size,0,none⟩),.pointer (some ⟨w.heap.size+1,0,none⟩),.pointer (some ⟨w.heap.size+2,0,none⟩),.pointer (some ⟨w.heap.size+3,0,none⟩),.pointer (some ⟨w.heap.size+4,0,none⟩)] Y0
  (ScnR w w.heap.size S (root:Int) (.slice fa fn fc) most l fr)
  (fun W ⟨_,_,_,hE,_⟩=>by rw[hs0];exact hE) (fun args W=>by simp[callFunc,Tryz.func50];rfl)
  (codScan1 _ w S J P base m w.heap.size t j root l SS fa fn fc fr most (SpAx.keep h (KeepT.of_below hBA)) hk ht (hfr.keep (KeepU.of_below hBA)) (Nat.le_trans hfl hBA.size) hBA (Nat.le_refl _) (hG0.on hA) hEA)
 have c0:=hG0.t.cell 0
 have c4:=hG0.l.cell 0
 simp only[List.getElem?_cons_zero] at c0 c4
 have f4:=hG0.l.frozen 0
 have hY0':=hY0.symm
 clear h hk ht hfr hB0 hG0 hY0 hA hBA hEA
 go_enter Tryz.func22,Tryz.ntmps22
 go_wp2_with fail
 refine HGd.mono ?_
 rintro r y1 ⟨w1,⟨v,hg1,hsc1,hE1,hb1⟩,rfl,hy1⟩
 rw[hs0] at hy1
 obtain⟨va,vn,vc,rfl⟩:=hsc1.form
 have kN:Blk y1 (w.heap.size+4) 50 [.slice va vn vc]:=by rw[hy1];exact hg1.l.other _ _ (by show w.heap.size+4≠w.heap.size+5;omega)
 have hsc2:ScanR l fr most w.heap.size (.slice va vn vc) y1:=by rw[hy1];exact hsc1.keep ((KeepT.refl _ w1).set hE1 (by decide) 0 _)
 have hb2:Below w.heap.size w y1:=by rw[hy1];exact hb1.setCell (p:=⟨w.heap.size+5,0,none⟩) (by show w.heap.size≤w.heap.size+5;omega) _
 have HB2:=mkHid hb2
 have HKN:=mkHid kN
 have HSc:=mkHid hsc2
 have d4:=kN.cell 0
 have q4:=kN.frozen 0
 simp only[List.getElem?_cons_zero] at d4
 clear HGd hg1 hE1 hb1 hb2 kN hy1 c0 c4 f4 hsc1 hsc2
 go_wp2_with fail
 have kN2:=HKN.out.set 0 (.slice va vn vc)
 refine bodyPost_ret (results_ct13 (P:=Tryz.prog) rfl _ _ (w.heap.size+4) _ rfl (load_es13 _ _ _ kN2)) rfl ?_
 have hkt:KeepT [50,30] y1 (y1.setCell ⟨w.heap.size+4,0,none⟩ (.slice va vn vc)):=(KeepT.refl _ y1).set HKN.out (by decide) 0 _
 exact⟨⟨.slice va vn vc,rfl,HSc.out.keep hkt⟩,HB2.out.setCell (p:=⟨w.heap.size+4,0,none⟩) (by show w.heap.size≤w.heap.size+4;omega) _⟩
end Go.Proofs.YtpecobmfabmpkaaGreatDoor
