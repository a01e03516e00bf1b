/- PtR PtS PuE0 PtT PtU PtV PtW PtX -/
import Derived.Test.YtpecobmfabmpkaaGreatDoorM24
import Derived.Lib.SliceRun
import Derived.Recover
set_option maxRecDepth 20000
set_option maxHeartbeats 4000000
namespace Go.Proofs.YtpecobmfabmpkaaGreatDoor
open Go.RowKit
variable {fl:Nat}
theorem pgFirst (w:World)(S:Nat)(at_:Int)(ve vk:Value)(L:List Eq3)(x:Eq3)(hr:RdN fl w ve L)(hx:L[0]?=some x):
  Calls Tryz.prog 112 #[gT S,.agg (pgc at_ 0 ve vk).toArray] w fun e w'=>e=.returned (.slice x.2.a x.1.k.length x.2.c)∧Below w.heap.size w w':=by
 unfold gT
 obtain⟨a,cap,rfl,hc,_⟩:=hr.form
 have W1:Below w.heap.size w ((w.alloc (.cells #[.pointer (some ⟨S,0,none⟩)] 87)).alloc (.cells (pgc at_ 0 (.slice a L.length cap) vk).toArray 133)):=((Below.refl _ w).alloc (Nat.le_refl _) _).alloc (by simp) _
 have k1:Blk ((w.alloc (.cells #[.pointer (some ⟨S,0,none⟩)] 87)).alloc (.cells (pgc at_ 0 (.slice a L.length cap) vk).toArray 133)) (w.heap.size+1) 133 (pgc at_ 0 (.slice a L.length cap) vk):=Blk.newAt _ (w.heap.size+1) 133 _ _ (by simp) rfl
 obtain⟨-,h0,g,off,rfl,d0,-,-⟩:=(hr.keep (KeepU.of_below W1)).at_ 0 x hx
 unfold pgc at *
 have c1:=k1.cell 1
 have c2:=k1.cell 2
 simp only[gZ0,gZ1] at c1 c2
 have HW1:=mkHid W1
 have hn:(0:Int)<(L.length:Int):=by omega
 clear k1 W1 hr hx
 simp only[Int.natCast_zero,Nat.zero_mul,Nat.add_zero] at *
 generalize x.2.a=qa at *
 generalize x.2.c=qc at *
 generalize x.1.k.length=n1 at *
 generalize L.length=n at *
 go_enter Tryz.func112,Tryz.ntmps112
 go_wp2_with fail
 go_loopg [7] 1 (fun _ _ wr=>wr=((w.alloc (.cells #[.pointer (some ⟨S,0,none⟩)] 87)).alloc (.cells #[.int .i64 at_,.int .i64 0,.slice (some ⟨g,off,none⟩) n cap,vk] 133)))
 case atStart=>rfl
 case round =>
  subst hrel
  go_wp2_with fail
  go_ret
  exact⟨rfl,HW1.out⟩
theorem codSearch (w:World)(n:Nat)(f:Nat)(cap:Array Value)(c:Nat→Bool)(hn:n≤1000000)(hcl:∀W k,Below w.heap.size w W→k<n→Calls Tryz.prog f (#[.int .i64 ((k:Nat):Int)]++cap) W fun e w'=>e=.returned (.bool (c k))∧Below W.heap.size W w')(hf:∀args w,(callFunc f args).run Tryz.prog w=.ok (.enter f args) w):
  Calls Tryz.prog 109 #[.int .i64 (n:Int),.func (.func f) #[] cap] w fun e w'=>(∃i:Nat,e=.returned (.int .i64 (i:Int))∧i≤n∧(0<i→c (i-1)=false)∧(i<n→c i=true))∧Below w.heap.size w w':=by
 have HC:Hid (∀W k,Below w.heap.size w W→k<n→Calls Tryz.prog f (#[.int .i64 ((k:Nat):Int)]++cap) W fun e w'=>e=.returned (.bool (c k))∧Below W.heap.size W w'):=hcl
 clear hcl
 go_enter Tryz.func109,Tryz.ntmps109
 go_wp2
 go_loopg [5,6] n (fun kx s5 s6 wr=>∃lo hi:Nat,s5=.int .i64 (lo:Int)∧s6=.int .i64 (hi:Int)∧lo≤hi∧hi≤n∧hi-lo≤kx∧Hid (Below w.heap.size w wr)∧Hid (0<lo→c (lo-1)=false)∧Hid (hi<n→c hi=true))
 case atStart=>exact⟨0,n,rfl,rfl,Nat.zero_le _,Nat.le_refl _,by omega,Below.refl _ _,fun h=>absurd h (Nat.lt_irrefl 0),fun h=>absurd h (Nat.lt_irrefl _)⟩
 case round =>
  obtain⟨lo,hi,rfl,rfl,hlh,hin,hg,HB,HI,HJ⟩:=hrel
  by_cases hlt:lo<hi
  ·have HCk:=HC.out wr ((lo+hi)/2) HB.out (by omega)
   rw[show (((lo+hi)/2:Nat):Int)=((lo:Int)+(hi:Int))/2 by omega] at HCk
   generalize hck:c ((lo+hi)/2)=b at HCk
   have HCb:=mkHid hck
   clear hck
   cases b with
   | false =>
    go_wp2_with (go_at_fn f;refine HCk.mono ?_;rintro e w' ⟨rfl,hb1⟩)
    go_roundg (hi-((lo+hi)/2+1))
    case measure=>omega
    case rel=>exact⟨(lo+hi)/2+1,hi,by rw[show ((lo:Int)+(hi:Int))/2+1=(((lo+hi)/2+1:Nat):Int) by omega],rfl,by omega,hin,Nat.le_refl _,HB.out.trans (hb1.mono HB.out.size),fun _=>by rw[Nat.add_sub_cancel];exact HCb.out,HJ⟩
   | true =>
    go_wp2_with (go_at_fn f;refine HCk.mono ?_;rintro e w' ⟨rfl,hb1⟩)
    go_roundg ((lo+hi)/2-lo)
    case measure=>omega
    case rel=>exact⟨lo,(lo+hi)/2,rfl,by rw[show ((lo:Int)+(hi:Int))/2=(((lo+hi)/2:Nat):Int) by omega],by omega,by omega,Nat.le_refl _,HB.out.trans (hb1.mono HB.out.size),HI,fun _=>HCb.out⟩
  ·obtain rfl:hi=lo:=by omega
   go_wp2
   go_ret
   exact⟨⟨hi,rfl,hin,HI.out,HJ.out⟩,HB.out⟩
end Go.Proofs.YtpecobmfabmpkaaGreatDoor
namespace Go.Proofs.YtpecobmfabmpkaaGreatDoor
open Go.RowKit
def KidL (t:Tl)(j:Jl)(ks:List Nat)(lf:Nat→List Et):Prop:=∀i s,ks[i]?=some s→51≤s∧s<j.p.n∧pgOf (spRdB t j (s:Int))=some ⟨0,lf i,[]⟩∧lf i≠[]
theorem pgLess (w:World)(S J P base m G Pb Kb:Nat)(t:Tl)(j:Jl)(at_:Int)(ve vk:Value)(ks:List Nat)(lf:Nat→List Et)(ka:Option Addr)(kn kc:Nat)(key:List UInt8)(k k1:Nat)(hk1:k+1=k1)(h:SpAx w S J P base t j)(hf:Fit t j m)
  (hG:Blk w G 87 [.pointer (some ⟨S,0,none⟩)]) (hP:Blk w Pb 133 [.int .i64 at_,.int .i64 1,ve,vk]) (hK:Blk w Kb 33 [.slice ka kn kc]) (hz:RdZ w vk ks) (hve:∃a n c,ve=.slice a n c) (hkey:IsB w ka kn kc key) (hl:KidL t j ks lf) (hk:k1<ks.length) (hks:ks.length≤1000):
  Calls Tryz.prog 110 #[.int .i64 (k:Int),.pointer (some ⟨G,0,none⟩),.pointer (some ⟨Pb,0,none⟩),.pointer (some ⟨Kb,0,none⟩)] w fun e w'=>e=.returned (.bool (decide (0<Lib.compareBytes (fstK (lf k1)) key)))∧Below w.heap.size w w':=by
 obtain⟨s,hs⟩:∃s,ks[k1]?=some s:=⟨_,List.getElem?_eq_getElem hk⟩
 obtain⟨h51,hn,hpg,hne⟩:=hl _ s hs
 obtain⟨ea,en,ec,rfl⟩:=hve
 have hzz:=hz
 obtain⟨za,zc,rfl,_⟩:=hz
 have HD:Below w.heap.size w w.drew:=Below.drew (Below.refl _ w)
 have HCt:Hid (∀W,Below w.heap.size w W→W.cell? ⟨G,0,none⟩=some (.pointer (some ⟨S,0,none⟩))∧W.cell? ⟨Pb,0,none⟩=some (.int .i64 at_)∧W.cell? ⟨Pb,1,none⟩=some (.int .i64 1)∧W.cell? ⟨Pb,2,none⟩=some (.slice ea en ec)∧W.cell? ⟨Pb,3,none⟩=some (.slice za ks.length zc)∧W.cell? ⟨Kb,0,none⟩=some (.slice ka kn kc)):=fun W hW=>⟨(hG.on hW).cell 0,(hP.on hW).cell 0,(hP.on hW).cell 1,(hP.on hW).cell 2,(hP.on hW).cell 3,(hK.on hW).cell 0⟩
 have HKd:=pgKid w.drew S J P base m t j at_ 1 (.slice ea en ec) (.slice za ks.length zc) ks k1 s ⟨0,lf k1,[]⟩ (SpAx.keep h (KeepT.of_below HD)) hf (hzz.keep (KeepO.of_below HD)) hs h51 hn hpg rfl (by omega)
 have HFs:=fun W at2 ve2 vk2 L2 x (hr:RdN 0 W ve2 L2) (hx:L2[0]?=some x)=>pgFirst W S at2 ve2 vk2 L2 x hr hx
 have HKy:Hid (∀W,Below w.heap.size w W→IsB W ka kn kc key):=fun W hW=>hkey.below hW rfl
 have hw1:IntKind.i64.wrap ((k:Int)+1)=(k1:Int):=by rw[show (k:Int)+1=(k1:Int) by omega];exact wrapi64_in _ (by omega) (by omega)
 obtain⟨e0,l0,hle⟩:∃e0 l0,lf k1=e0::l0:=by cases hq:lf k1 with|nil=>exact absurd hq hne|cons a b=>exact⟨a,b,rfl⟩
 have HFk:Hid (fstK (lf k1)=e0.k):=by unfold Hid fstK;rw[hle];rfl
 unfold gT pgc at *
 simp only[Int.natCast_one] at HKd
 clear h hf hG hP hK hzz hkey hl hs hpg hne hk hk1
 generalize hrb:decide (0<Lib.compareBytes (fstK (lf k1)) key)=rb
 have HRb:Hid (decide (0<Lib.compareBytes e0.k key)=rb):=by unfold Hid;rw[←hrb,HFk.out]
 clear hrb HFk
 go_enter Tryz.func110,Tryz.ntmps110
 go_wp2_with fail
 refine lk0 (fun W=>W.cell? ⟨G,0,none⟩=some (.pointer (some ⟨S,0,none⟩))∧W.cell? ⟨Pb,0,none⟩=some (.int .i64 at_)∧W.cell? ⟨Pb,1,none⟩=some (.int .i64 1)∧W.cell? ⟨Pb,2,none⟩=some (.slice ea en ec)∧W.cell? ⟨Pb,3,none⟩=some (.slice za ks.length zc)∧W.cell? ⟨Kb,0,none⟩=some (.slice ka kn kc)) 10 (HCt.out _ HD) (fun hHeld=>?_)
 have HDh:=mkHid HD
 clear HD
 generalize w.drew=Y1 at *
 refine lkT 6 0 (.agg #[.pointer (some ⟨S,0,none⟩)]) rfl (Or.inl ⟨by rfl,?_⟩) hHeld ?_
 ·intro w hSw;obtain⟨s0,s1,s2,s3,s4,s5⟩:=hSw;go_simp
 (try simp only[Act.put,sIx,sZ0,sZ1])
 refine lkT 7 1 (.agg #[.pointer (some ⟨S,0,none⟩)]) rfl (Or.inl ⟨by rfl,?_⟩) hHeld ?_
 ·intro w hSw;obtain⟨s0,s1,s2,s3,s4,s5⟩:=hSw;go_simp
 (try simp only[Act.put,sIx,sZ0,sZ1])
 refine lkT 8 2 (.agg #[.int .i64 at_,.int .i64 1,.slice ea en ec,.slice za ks.length zc]) rfl (Or.inl ⟨by rfl,?_⟩) hHeld ?_
 ·intro w hSw;obtain⟨s0,s1,s2,s3,s4,s5⟩:=hSw;go_simp
 (try simp only[Act.put,sIx,sZ0,sZ1])
 refine lkT 9 3 ?_ rfl (Or.inl ⟨by rfl,?_⟩) hHeld ?_
 rotate_left
 ·intro w hSw;obtain⟨s0,s1,s2,s3,s4,s5⟩:=hSw;go_simp;with_reducible rfl
 (try simp only[Act.put,sIx,sZ0,sZ1])
 refine lkT 10 4 (.int .i64 (k1:Int)) rfl (Or.inl ⟨by rfl,?_⟩) hHeld ?_
 ·intro w hSw;obtain⟨s0,s1,s2,s3,s4,s5⟩:=hSw;go_simp
 (try simp only[Act.put,sIx,sZ0,sZ1])
 refine lkT 13 7 (.slice ka kn kc) rfl (Or.inl ⟨by rfl,?_⟩) hHeld ?_
 ·intro w hSw;obtain⟨s0,s1,s2,s3,s4,s5⟩:=hSw;go_simp
 (try simp only[Act.put,sIx,sZ0,sZ1])
 refine lk1 5 rfl (fun K hK=>?_)
 go_simp
 go_wp2_with (go_at_call 72;refine HKd.mono ?_;rintro e y2 ⟨⟨v2,ve2,vk2,L2,rfl,hp2⟩,hb2⟩)
 have HB2:=mkHid (HDh.out.trans (hb2.mono HDh.out.size))
 refine hK.out _ _ (HCt.out _ HB2.out) (fun hHeld=>?_)
 (try simp only[Act.put,sIx,sZ0,sZ1])
 clear hK K
 obtain⟨x,hx,hxe⟩:∃x,L2[0]?=some x∧x.1=e0:=by
  have h1:=hp2.es
  rw[hle] at h1
  cases L2 with
  | nil=>cases h1
  | cons a b=>exact⟨a,rfl,(List.cons.inj h1).1⟩
 have hv2:=hp2.v
 subst hv2
 have HP2:=mkHid hp2
 have HF2:=HFs y2 (s:Int) ve2 vk2 L2 x hp2.r.e hx
 unfold pgc at HF2
 clear HFs hb2 hp2
 refine lk1 6 rfl (fun K hK=>?_)
 go_simp
 go_wp2_with (go_at_call 112;refine HF2.mono ?_;rintro e y3 ⟨rfl,hb3⟩)
 have HB3:=mkHid (HB2.out.trans (hb3.mono HB2.out.size))
 have HIx:Hid (IsB y3 x.2.a x.1.k.length x.2.c x.1.k):=(((HP2.out.r.e.is x (List.mem_of_getElem? hx)).keep (KeepU.of_below hb3)).is).k
 refine hK.out _ _ (HCt.out _ HB3.out) (fun hHeld=>?_)
 (try simp only[Act.put,sIx,sZ0,sZ1])
 clear hK K HF2
 have HC:=codCompare x.2.a ka x.1.k.length kn x.2.c kc x.1.k key y3 HIx.out (HKy.out _ HB3.out)
 rw[hxe] at HC
 refine lk1 8 rfl (fun K hK=>?_)
 go_simp
 go_wp2_with (go_at_call 111;refine HC.mono ?_;rintro e y4 ⟨rfl,hw4⟩;rw[hw4];clear hw4)
 refine hK.out _ _ (HCt.out _ HB3.out) (fun hHeld=>?_)
 (try simp only[Act.put,sIx,sZ0,sZ1])
 clear hK K HC
 generalize Lib.compareBytes e0.k key=cz at *
 refine lkT 15 9 (.bool rb) rfl (Or.inl ⟨by rfl,?_⟩) hHeld ?_
 ·intro w hSw;obtain⟨s0,s1,s2,s3,s4,s5⟩:=hSw;go_simp;first|(rw[←HRb.out];done)|(simp[←HRb.out];done)|exact HRb.out
 (try simp only[Act.put,sIx,sZ0,sZ1])
 refine lkZ rfl (fun K hK=>?_)
 go_simp
 refine hK.out _ _ ?_
 simp only[Exit.then]
 (try simp only[Act.put,sIx,sZ0,sZ1])
 clear hK K hHeld
 go_wp2_with fail
 go_ret
 exact⟨rfl,HB3.out⟩
theorem pgFind (w:World)(S J P base m:Nat)(t:Tl)(j:Jl)(at_:Int)(ve vk:Value)(ks:List Nat)(lf:Nat→List Et)(ka:Option Addr)(kn kc:Nat)(key:List UInt8)(h:SpAx w S J P base t j)(hf:Fit t j m)
  (hz:RdZ w vk ks) (hve:∃a n c,ve=.slice a n c) (hkey:IsB w ka kn kc key) (hl:KidL t j ks lf) (hks:ks.length≤1000) (hk0:0<ks.length):
  Calls Tryz.prog 73 #[gT S,.agg (pgc at_ 1 ve vk).toArray,.slice ka kn kc] w fun e w'=>(∃i:Nat,e=.returned (.int .i64 (i:Int))∧i<ks.length∧(0<i→Op.bytesLess key (fstK (lf i))=false)∧(i+1<ks.length→Op.bytesLess key (fstK (lf (i+1)))=true))∧Below w.heap.size w w':=by
 obtain⟨ea,en,ec,rfl⟩:=hve
 have hzz:=hz
 obtain⟨za,zc,rfl,_⟩:=hz
 unfold gT pgc
 simp only[Int.natCast_one]
 have W1:Below w.heap.size w (((w.alloc (.cells #[.pointer (some ⟨S,0,none⟩)] 87)).alloc (.cells #[.int .i64 at_,.int .i64 1,.slice ea en ec,.slice za ks.length zc] 133)).alloc (.cells #[.slice ka kn kc] 33)):=(((Below.refl _ w).alloc (Nat.le_refl _) _).alloc (by simp) _).alloc (by simp;omega) _
 have k0:Blk (((w.alloc (.cells #[.pointer (some ⟨S,0,none⟩)] 87)).alloc (.cells #[.int .i64 at_,.int .i64 1,.slice ea en ec,.slice za ks.length zc] 133)).alloc (.cells #[.slice ka kn kc] 33)) w.heap.size 87 [.pointer (some ⟨S,0,none⟩)]:=((Blk.newAt w w.heap.size 87 #[.pointer (some ⟨S,0,none⟩)] [.pointer (some ⟨S,0,none⟩)] rfl rfl).alloc _).alloc _
 have k1:Blk (((w.alloc (.cells #[.pointer (some ⟨S,0,none⟩)] 87)).alloc (.cells #[.int .i64 at_,.int .i64 1,.slice ea en ec,.slice za ks.length zc] 133)).alloc (.cells #[.slice ka kn kc] 33)) (w.heap.size+1) 133 [.int .i64 at_,.int .i64 1,.slice ea en ec,.slice za ks.length zc]:=(Blk.newAt _ (w.heap.size+1) 133 #[.int .i64 at_,.int .i64 1,.slice ea en ec,.slice za ks.length zc] [.int .i64 at_,.int .i64 1,.slice ea en ec,.slice za ks.length zc] (by simp) rfl).alloc _
 have k2:Blk (((w.alloc (.cells #[.pointer (some ⟨S,0,none⟩)] 87)).alloc (.cells #[.int .i64 at_,.int .i64 1,.slice ea en ec,.slice za ks.length zc] 133)).alloc (.cells #[.slice ka kn kc] 33)) (w.heap.size+2) 33 [.slice ka kn kc]:=Blk.newAt _ (w.heap.size+2) 33 _ _ (by simp) rfl
 generalize hW:((w.alloc (.cells #[.pointer (some ⟨S,0,none⟩)] 87)).alloc (.cells #[.int .i64 at_,.int .i64 1,.slice ea en ec,.slice za ks.length zc] 133)).alloc (.cells #[.slice ka kn kc] 33)=Y0 at *
 have HSe:=codSearch Y0 (ks.length-1) 110 #[.pointer (some ⟨w.heap.size,0,none⟩),.pointer (some ⟨w.heap.size+1,0,none⟩),.pointer (some ⟨w.heap.size+2,0,none⟩)] (fun k=>decide (0<Lib.compareBytes (fstK (lf (k+1))) key)) (by omega) (fun W k hW hk=>by
   have hB:=W1.trans (hW.mono W1.size)
   exact pgLess W S J P base m w.heap.size (w.heap.size+1) (w.heap.size+2) t j at_ _ _ ks lf ka kn kc key k (k+1) rfl (SpAx.keep h (KeepT.of_below hB)) hf (k0.on hW) (k1.on hW) (k2.on hW) (hzz.keep (KeepO.of_below hB)) ⟨_,_,_,rfl⟩ (hkey.below hB rfl) hl (by omega) hks)
  (fun args W=>by simp[callFunc,Tryz.func110];rfl)
 have c3:=k1.cell 3
 simp only[gZ0,gZ1] at c3
 have hw1:IntKind.i64.wrap ((ks.length:Int)-1)=((ks.length-1:Nat):Int):=by rw[show (ks.length:Int)-1=((ks.length-1:Nat):Int) by omega];exact wrapi64_in _ (by omega) (by omega)
 have hmf:∀(fn:Fn) (first cap:Array Value) (w:World),(Instr.makeFunc fn first cap).run Tryz.prog w=.ok (.func fn first cap) w:=fun _ _ _ _=>rfl
 have HW1:=mkHid W1
 clear h hf k0 k1 k2 W1 hzz hkey hl
 obtain⟨n1,hn1⟩:∃n1,ks.length-1=n1:=⟨_,rfl⟩
 rw[hn1] at HSe hw1
 have HN1:=mkHid hn1
 clear hn1
 go_enter Tryz.func73,Tryz.ntmps73
 go_wp2_with fail
 refine HSe.mono ?_
 rintro e y1 ⟨⟨i,rfl,hi,hlo,hhi⟩,hb1⟩
 go_wp2_with fail
 go_ret
 have hn:=HN1.out
 refine⟨⟨i,rfl,by omega,fun h0=>?_,fun h0=>?_⟩,HW1.out.trans (hb1.mono HW1.out.size)⟩
 ·have:=hlo h0
  rw[show i-1+1=i by omega] at this
  have h2:=of_decide_eq_false this
  rw[cb_gt] at h2
  exact Bool.eq_false_iff.2 h2
 ·have:=of_decide_eq_true (hhi (by omega))
  exact(cb_gt _ _).1 this
variable {fl:Nat}
theorem codKeepFits (w:World)(S J P base m:Nat)(t:Tl)(j:Jl)(s:Nat)(p:Pg)(ve vk:Value)(L:List Eq3)(h:SpAx w S J P base t j)(hf:Fit t j m)(hp:PgR fl w p ve vk L)(hs:PgS p)(hsn:s≤4096)(hz:spWrE t j (s:Int) (pgB p)=0):
  Calls Tryz.prog 104 #[gT S,.agg (pgc (s:Int) p.lv ve vk).toArray] w fun e w'=>e=.returned (.int .i64 0)∧SpAx w' S J P base (spWr t j (s:Int) (pgB p)) j∧KS base w w':=by
 have hlo:=spcOK.lo h
 unfold gT
 have W1:Below w.heap.size w ((w.alloc (.cells #[.pointer (some ⟨S,0,none⟩)] 87)).alloc (.cells (pgc (s:Int) p.lv ve vk).toArray 133)):=((Below.refl _ w).alloc (Nat.le_refl _) _).alloc (by simp) _
 have k0:Blk ((w.alloc (.cells #[.pointer (some ⟨S,0,none⟩)] 87)).alloc (.cells (pgc (s:Int) p.lv ve vk).toArray 133)) w.heap.size 87 [.pointer (some ⟨S,0,none⟩)]:=(Blk.newAt w w.heap.size 87 #[.pointer (some ⟨S,0,none⟩)] [.pointer (some ⟨S,0,none⟩)] rfl rfl).alloc _
 have k1:Blk ((w.alloc (.cells #[.pointer (some ⟨S,0,none⟩)] 87)).alloc (.cells (pgc (s:Int) p.lv ve vk).toArray 133)) (w.heap.size+1) 133 (pgc (s:Int) p.lv ve vk):=Blk.newAt _ (w.heap.size+1) 133 _ _ (by simp) rfl
 have hp0:=hp.below W1
 have hA0:=SpAx.keep h (KeepT.of_below W1)
 have hK0:KS base w ((w.alloc (.cells #[.pointer (some ⟨S,0,none⟩)] 87)).alloc (.cells (pgc (s:Int) p.lv ve vk).toArray 133)):=KS.of_below W1 hlo
 generalize hW:(w.alloc (.cells #[.pointer (some ⟨S,0,none⟩)] 87)).alloc (.cells (pgc (s:Int) p.lv ve vk).toArray 133)=Y0 at *
 have HFi:=codFits (s:Int) p ve vk L Y0 hp0 hs.f
 rw[decide_eq_true (show szP p≤509 from hs.sz)] at HFi
 have HWr:Hid (∀W,Below Y0.heap.size Y0 W→Calls Tryz.prog 100 #[.agg #[.pointer (some ⟨S,0,none⟩)],.agg (pgc (s:Int) p.lv ve vk).toArray] W fun e w'=>e=.returned (.tuple #[])∧SpAx w' S J P base (spWr t j (s:Int) (pgB p)) j∧KS base W w'):=fun W hW =>
  pgWrite W S J P base m t j s p ve vk L (SpAx.keep hA0 (KeepT.of_below hW)) hf (hp0.below hW) hs hsn hz
 unfold pgc at *
 have c0:=k0.cell 0
 have d0:=k1.cell 0
 have d1:=k1.cell 1
 have d2:=k1.cell 2
 have d3:=k1.cell 3
 simp only[gZ0,gZ1] at c0 d0 d1 d2 d3
 have HK0:=mkHid hK0
 have HB0:=mkHid k0
 have HB1:=mkHid k1
 have HLo:Hid (base≤Y0.heap.size):=spcOK.lo hA0
 clear h hf hp hs hp0 hA0 hK0 k0 k1 W1
 go_enter Tryz.func104,Tryz.ntmps104
 go_upto_region 1 with fail
 (try rw[hW])
 clear hW
 go_upto_region 2 with(go_at_call 145;refine HFi.mono ?_;rintro e y1 ⟨rfl,hb1⟩)
 have HWr1:=HWr.out y1 hb1
 have hk1:=(HK0.out.trans (KS.of_below hb1 HLo.out))
 have KB0:=HB0.out.on hb1
 have KB1:=HB1.out.on hb1
 have c0:=KB0.cell 0
 have d0:=KB1.cell 0
 have d1:=KB1.cell 1
 have d2:=KB1.cell 2
 have d3:=KB1.cell 3
 simp only[gZ0,gZ1] at c0 d0 d1 d2 d3
 have HK1:=mkHid hk1
 clear HFi hb1 hk1 KB0 KB1 HWr
 go_wp2_with (go_at_call 100;refine HWr1.mono ?_;rintro e y2 ⟨rfl,hA2,hk2⟩;have HA2:=mkHid hA2;have HK2:=mkHid hk2;clear hA2 hk2)
 go_ret
 exact⟨rfl,HA2.out,HK1.out.trans HK2.out⟩
end Go.Proofs.YtpecobmfabmpkaaGreatDoor
namespace Go.Proofs.YtpecobmfabmpkaaGreatDoor
open Go.RowKit
theorem codClone13 (a:Option Addr)(n c:Nat)(l:List UInt8)(w:World)(h:IsB w a n c l)(hn:n≤1000000):
  Calls Tryz.prog 75 #[.slice a n c] w fun e w'=>(∃v,e=.returned v∧OwnB w' w.heap.size v l)∧Below w.heap.size w w':=by
 cases a with
 | none =>
  have h0:=h.nil rfl
  have h1:=h.le
  have h2:=h.len_eq
  have hl:l=[]:=List.eq_nil_of_length_eq_zero (by omega)
  have hn0:n=0:=by omega
  subst hl hn0 h0
  clear h h1 h2
  have hE:∀W,(binOp .eql 33 (.slice none 0 0) (.slice none 0 0)).run Tryz.prog W=.ok (.bool true) W:=fun W=>Lib.run_eql_slice_nil (P:=Tryz.prog) W 33 5 none 0 0 0 0 Tryz.underlying33
  go_enter Tryz.func75,Tryz.ntmps75
  go_wp2_with fail
  go_ret
  exact⟨⟨_,rfl,OwnB.nil _ _⟩,Below.refl _ _⟩
 | some ad =>
  have hY:Below w.heap.size w (w.alloc (.cells #[] 5)):=(Below.refl _ w).alloc (Nat.le_refl _) _
  have HO:Hid (OwnB (w.alloc (.cells #[] 5)) w.heap.size (.slice (some ⟨w.heap.size,0,none⟩) 0 0) []):=OwnB.empty w w.heap.size (Nat.le_refl _)
  have HI:=mkHid (h.below hY rfl)
  have HY:=mkHid hY
  have hl:=h.len_eq
  clear h hY
  have hE:∀W,(binOp .eql 33 (.slice (some ad) n c) (.slice none 0 0)).run Tryz.prog W=.ok (.bool false) W:=fun W=>Lib.run_eql_slice_nil (P:=Tryz.prog) W 33 5 (some ad) n c 0 0 Tryz.underlying33
  go_enter Tryz.func75,Tryz.ntmps75
  go_wp2_with (at_builtin;refine list_appS _ rfl (.tmp 5) (.tmp 6) rfl w.heap.size _ [] rfl HO.out (some ad) n c l rfl HI.out (by simp only[List.length_nil];omega) HY.out.size ?_;intro v2 V2 ho2 hg2;rw[List.nil_append] at ho2;have HD2:=mkHid (HY.out.grown hg2 HY.out.size (fun j hj=>(World.ownsRow.lt HO.out j hj).1)))
  go_ret
  exact⟨⟨_,rfl,ho2⟩,HD2.out⟩
theorem node_kids {t:Tl}{j:Jl}{m:Nat}{s:Nat}{ps:Ps}(h:NdAt t j s ps)(hk:Tk t j m ((s:Int):: secsP ps)):KidL t j (ps.map (·.1)) (fun i=>(ps.getD i (0,[])).2):=fun i x hx=>by
 rw[List.getElem?_map] at hx
 obtain⟨p,hp,rfl⟩:=Option.map_eq_some_iff.1 hx
 have hpm:=List.mem_of_getElem? hp
 have hl:=h.lf p hpm
 have hr:=hk.rng (p.1:Int) (List.mem_cons_of_mem _ (List.mem_map.2 ⟨p,hpm,rfl⟩))
 have hg:(ps.getD i (0,[])).2=p.2:=by rw[List.getD_eq_getElem?_getD,hp];rfl
 show _∧_∧pgOf _=some ⟨0,(ps.getD i (0,[])).2,[]⟩∧(ps.getD i (0,[])).2≠[]
 rw[hg]
 exact⟨by omega,by omega,by rw[hl.rd];exact pg_leaf hl.ok,hl.ok.ne⟩
theorem node_cut {t:Tl}{j:Jl}{s:Nat}{ps:Ps}{key:List UInt8}(h:NdAt t j s ps)(hs:SrtE (entsP ps)){i:Nat}(hi:i<ps.length)(h1:0<i→Op.bytesLess key (fstK (ps.getD i (0,[])).2)=false)(h2:i+1<ps.length→Op.bytesLess key (fstK (ps.getD (i+1) (0,[])).2)=true):
  ∃A p B,ps=A++p::B∧A.length=i∧ps.getD i (0,[])=p∧p∈ps∧AllLt (entsP A) key∧AllGt (entsP B) key:=by
 have hp:ps.getD i (0,[])=ps[i]:=by simp[hi]
 have e:ps=ps.take i++ps[i]::ps.drop (i+1):=by rw[List.getElem_cons_drop,List.take_append_drop]
 refine⟨ps.take i,ps[i],ps.drop (i+1),e,by rw[List.length_take];omega,hp,List.getElem_mem hi,?_⟩
 rw[e] at hs
 refine kid_cut hs (h.lf _ (List.getElem_mem hi)).ok.ne (fun hA=>?_) (fun q B' hq=>?_)
 ·rw[←hp]
  refine h1 ?_
  rcases Nat.eq_zero_or_pos i with h0|h0
  ·exact absurd (by rw[h0,List.take_zero]) hA
  ·exact h0
 ·have hl:i+1<ps.length:=by
   have:(ps.drop (i+1)).length=B'.length+1:=by rw[hq];rfl
   rw[List.length_drop] at this
   omega
  have hq2:ps.getD (i+1) (0,[])=q:=by
   have h3:(ps.drop (i+1))[0]?=some q:=by rw[hq];rfl
   rw[List.getElem?_drop,Nat.add_zero] at h3
   rw[List.getD_eq_getElem?_getD,h3];rfl
  have hqm:q∈ps:=List.mem_of_mem_drop (by rw[hq];exact List.mem_cons_self)
  exact⟨(h.lf q hqm).ok.ne,by rw[←hq2];exact h2 hl⟩
theorem store_pg {w:World}{B:Nat}{c0 c1 c2 c3 d0 d1 d2 d3:Value}(h:Blk w B 133 [c0,c1,c2,c3]):Blk ((((w.setCell ⟨B,0,none⟩ d0).setCell ⟨B,1,none⟩ d1).setCell ⟨B,2,none⟩ d2).setCell ⟨B,3,none⟩ d3) B 133 [d0,d1,d2,d3]:=(((h.set 0 d0).set 1 d1).set 2 d2).set 3 d3
theorem idle13 (E:Nat)(w:World):
  CallsD Tryz.prog 64 #[.pointer (some ⟨E,0,none⟩)] .returning w fun e u' w'=>e=.returned (.tuple #[])∧u'=.returning∧w'=w:=by
 refine callsD_of_wpS Tryz.func64 rfl fun c₀ cs hu=>?_
 apply wpS_seq
 apply wpS_region
 simp[wpOpsS,go_sem,recoverD,hu,Tryz.ntmps64,Exit.thenS]
 apply wpS_seq
 apply wpS_region
 simp[wpOpsS,go_sem,Exit.thenS]
 refine wpS_cond (t:=false) (by simp[Act.eval,Array.replicate]) ?_
 simp only[Bool.false_eq_true,if_false]
 refine wpS_of_wp (wp_skip ?_)
 cases c₀
 simp_all [bodyPostS,results,Tryz.results64]
theorem load_er13 (w:World)(g:Nat)(v:Value)(h:Blk w g 30 [v]):(loadVar 30 ⟨g,0,none⟩).run Tryz.prog w=.ok v w:=by
 have hc:w.cell? ⟨g,0,none⟩=some v:=h.cell 0
 simp[loadVar,go_sem,hc]
theorem guardRet (tmps:Array Value)(k:Value)(w1:World)(N:Nat)(R:Ending→World→Prop)
  (h2:tmps.getD 2 undef=.pointer (some ⟨N,0,none⟩)) (KE:Blk w1 N 30 [k]) (hR:R (.returned k) w1):
  bodyPostD Tryz.prog Tryz.f41 R .ret { tmps:=tmps,defers:=[{ target:=.fn (.func 64) #[.pointer (some ⟨N,0,none⟩)],args:=#[] }] } w1:=by
 refine leaves_cons (f:=64) (args:=#[.pointer (some ⟨N,0,none⟩)]) (by simp) (by simp[go_sem]) ?_
 refine(idle13 N w1).mono ?_
 rintro e u' w'' ⟨rfl,rfl,rfl⟩
 exact⟨_,results_cell1 (P:=Tryz.prog) rfl tmps w'' N _ h2 (load_er13 w'' N _ KE),hR⟩
theorem guardYes (f:Nat)(cap:Array Value)(w:World)(R:World→Prop)(hB:∀W,R W→Blk W w.heap.size 30 [.int .i64 0])(hf:∀args w,(callFunc f args).run Tryz.prog w=.ok (.enter f args) w)
  (hdo:Calls Tryz.prog f cap (w.alloc (.cells #[.int .i64 0] 30)) fun e w'=>e=.returned (.tuple #[])∧R w'):
  Calls Tryz.prog 41 #[.func (.func f) #[] cap] w fun e w'=>∃w1,R w1∧e=.returned (.int .i64 0)∧w'=w1.setCell ⟨w.heap.size,0,none⟩ (.int .i64 0):=by
 have hmf:∀(fn:Fn) (first cap:Array Value) (w:World),(Instr.makeFunc fn first cap).run Tryz.prog w=.ok (.func fn first cap) w:=fun _ _ _ _=>rfl
 go_enter_defers Tryz.func41,Tryz.ntmps41
 go_wp2_with (go_at_fn f;refine hdo.mono ?_;rintro x w1 ⟨rfl,hR⟩;have KE:=hB w1 hR;have q1:w1.cell? ⟨w.heap.size,0,none⟩=some (.int .i64 0):=KE.cell 0;have f1:=KE.frozen 0)
 exact guardRet _ _ _ w.heap.size _ rfl (KE.set 0 _) ⟨w1,hR,rfl,rfl⟩
theorem load_bo13 (w:World)(g:Nat)(v:Value)(h:Blk w g 4 [v]):(loadVar 4 ⟨g,0,none⟩).run Tryz.prog w=.ok v w:=by
 have hc:w.cell? ⟨g,0,none⟩=some v:=h.cell 0
 simp[loadVar,go_sem,hc]
theorem results_cct {P:Program}{fn:Func}{p u q:Tmp}{ty tu:TypeId}(h:fn.results=#[.cell p ty,.cell u tu,.tmp q])(tmps:Array Value)(w:World)(g g2:Nat)(x v:Value)
  (hp:tmps.getD p undef=.pointer (some ⟨g,0,none⟩)) (hl:(loadVar ty ⟨g,0,none⟩).run P w=.ok x w)
  (hp2:tmps.getD u undef=.pointer (some ⟨g2,0,none⟩)) (hl2:(loadVar tu ⟨g2,0,none⟩).run P w=.ok v w):
  (results fn tmps).run P w=.ok (.tuple #[x,v,tmps.getD q undef]) w:=by
 have q1:tmps[p]?.getD undef=.pointer (some ⟨g,0,none⟩):=by simpa using hp
 have q2:tmps[u]?.getD undef=.pointer (some ⟨g2,0,none⟩):=by simpa using hp2
 simp only[results,h]
 simp[Sem.run_bind,Result.andThen,q1,q2,asAddr,hl,hl2]
variable {fl:Nat}
def offK (p:Pg)(c:Nat):Nat:=max (2 * szK p c-szP p) (szP p-2 * szK p c)
theorem offK_leaf (l:List Et)(c:Nat):offK ⟨0,l,[]⟩ c=offC l c:=by
 unfold offK offC szP szK
 simp
theorem szK_tot {p:Pg}(hf:PgF p)(k:Nat)(hk:k≤p.es.length+p.ks.length):szK p k≤szP p:=by
 unfold szK szP
 split
 ·have:=szL_take_le p.es k;omega
 ·rename_i h0
  have:=hf.e0 (by omega)
  rw[this,List.length_nil] at hk
  omega
theorem codMiddle (at_:Int)(p:Pg)(ve vk:Value)(L:List Eq3)(w:World)(h:PgR fl w p ve vk L)(hf:PgF p)(hn:2≤p.es.length+p.ks.length):
  Calls Tryz.prog 182 #[.agg (pgc at_ p.lv ve vk).toArray] w fun e w'=>(∃c:Nat,e=.returned (.int .i64 (c:Int))∧0<c∧c<p.es.length+p.ks.length∧∀c',0<c'→c'<p.es.length+p.ks.length→offK p c≤offK p c')∧Below w.heap.size w w':=by
 obtain⟨ea,ec,ka,kc,rfl,rfl⟩:=h.forms
 have hY:Below w.heap.size w (w.alloc (.cells (pgc at_ p.lv (.slice ea p.es.length ec) (.slice ka p.ks.length kc)).toArray 133)):=(Below.refl _ w).alloc (Nat.le_refl _) _
 have kb:=Blk.new w 133 (pgc at_ p.lv (.slice ea p.es.length ec) (.slice ka p.ks.length kc))
 have HSz:=codSize13 at_ p _ _ L _ (h.below hY) hf
 have HL:Hid (∀W,Calls Tryz.prog 70 #[.agg (pgc at_ p.lv (.slice ea p.es.length ec) (.slice ka p.ks.length kc)).toArray] W fun e w'=>e=.returned (.int .i64 ((p.es.length+p.ks.length:Nat):Int))∧Below W.heap.size W w'):=fun W=>codLen13 at_ p.lv ea ka p.es.length ec p.ks.length kc W hf.n
 have HZ:Hid (∀W k,Below w.heap.size w W→k<p.es.length+p.ks.length→Calls Tryz.prog 199 #[.agg (pgc at_ p.lv (.slice ea p.es.length ec) (.slice ka p.ks.length kc)).toArray,.int .i64 ((k:Nat):Int)] W fun e w'=>(∃z:Nat,e=.returned (.int .i64 (z:Int))∧szK p (k+1)=szK p k+z∧z≤1000)∧Below W.heap.size W w'):=fun W k hW hk=>codSizeOf at_ p _ _ L k W (h.below hW) hf hk
 have HK0:Hid (szK p 0=0):=by unfold Hid szK;split<;>simp[szL]
 have HM:Hid (∀k,k≤p.es.length+p.ks.length→szK p k≤1000000):=fun k hk=>szK_le hf k hk
 have HTm:Hid (∀k,k≤p.es.length+p.ks.length→szK p k≤szP p):=fun k hk=>szK_tot hf k hk
 have hT:szP p≤1000000:=by rw[←szK_all hf];exact szK_le hf _ (Nat.le_refl _)
 have hnn:=hf.n
 have HY:=mkHid hY
 have HKb:=mkHid kb
 have HOf:Hid (∀c,offK p c=max (2 * szK p c-szP p) (szP p-2 * szK p c)):=fun c=>rfl
 unfold pgc at HSz kb HY HKb HZ HL ⊢
 generalize offK p=O at *
 generalize szP p=T at *
 generalize szK p=Sz at *
 have hl:=hf.lv
 clear h hf hY
 generalize p.lv=lv at *
 generalize p.es.length=n at *
 generalize p.ks.length=m at *
 generalize hq:n+m=q at *
 clear hq
 have c0:=kb.cell 0
 have c1:=kb.cell 1
 have c2:=kb.cell 2
 have c3:=kb.cell 3
 simp only[gZ0,gZ1] at c0 c1 c2 c3
 clear kb
 have hw1:IntKind.i64.wrap ((q:Int)-1)=((q-1:Nat):Int):=by rw[show (q:Int)-1=((q-1:Nat):Int) by omega];exact wrapi64_in _ (by omega) (by omega)
 obtain⟨q1,hq1⟩:∃q1,q-1=q1:=⟨_,rfl⟩
 rw[hq1] at hw1
 go_enter Tryz.func182,Tryz.ntmps182
 go_wp2_with fail
 refine HSz.mono ?_
 rintro e y1 ⟨rfl,hb1⟩
 have HB1:=mkHid (HY.out.trans (hb1.mono HY.out.size))
 have HK1:=mkHid (HKb.out.on hb1)
 have d0:=HK1.out.cell 0
 have d1:=HK1.out.cell 1
 have d2:=HK1.out.cell 2
 have d3:=HK1.out.cell 3
 simp only[gZ0,gZ1] at d0 d1 d2 d3
 clear hb1 c0 c1 c2 c3 HSz
 go_wp2_with fail
 refine(HL.out _).mono ?_
 rintro e y2 ⟨rfl,hb2⟩
 have HB2:=mkHid (HB1.out.trans (hb2.mono HB1.out.size))
 have HK2:=mkHid (HK1.out.on hb2)
 clear hb2 d0 d1 d2 d3 HB1 HK1
 go_wp2_with fail
 go_loopg [4,5,6,16] q1 (fun kx sl sb sm si wr=>∃(k best least:Nat),k≤q1∧q1-k≤kx∧si=.int .i64 (k:Int)∧sl=.int .i64 ((Sz k:Nat):Int)∧sb=.int .i64 (best:Int)∧sm=.int .i64 (least:Int)∧least≤3000000∧Hid (k=0→least=T+1)∧Hid (0<k→0<best∧best≤k∧least=O best∧∀c',0<c'→c'≤k→O best≤O c')∧Hid (Below w.heap.size w wr)∧Hid (Blk wr w.heap.size 133 [.int .i64 at_,.int .i64 (lv:Int),.slice ea n ec,.slice ka m kc]))
 case atStart=>exact⟨0,0,T+1,Nat.zero_le _,by omega,rfl,by rw[HK0.out];rfl,rfl,by go_num,by omega,fun _=>rfl,fun h=>absurd h (Nat.lt_irrefl 0),HB2,HK2⟩
 case round =>
  clear HB2 HK2
  obtain⟨k,best,least,hk,hkx,rfl,rfl,rfl,rfl,hle,HL0,HBs,HB,HK⟩:=hrel
  have d0:=HK.out.cell 0
  have d1:=HK.out.cell 1
  have d2:=HK.out.cell 2
  have d3:=HK.out.cell 3
  simp only[gZ0,gZ1] at d0 d1 d2 d3
  by_cases hlt:k<q1
  ·have hlt':(k:Int)<(q1:Int):=by omega
   have HC:=HZ.out wr k HB.out (by omega)
   have hSk:=HM.out k (by omega)
   go_wp2_with fail
   refine HC.mono ?_
   rintro e y3 ⟨⟨z,rfl,hz,hz2⟩,hb3⟩
   have HB3:=mkHid (HB.out.trans (hb3.mono HB.out.size))
   have HK3:=mkHid (HK.out.on hb3)
   obtain⟨s1,hs1⟩:∃s1,Sz (k+1)=s1:=⟨_,rfl⟩
   have HS1:=mkHid hs1
   have hz':((Sz k:Nat):Int)+(z:Int)=(s1:Int):=by omega
   obtain⟨o1,ho1⟩:∃o1,O (k+1)=o1:=⟨_,rfl⟩
   have hO:=HOf.out (k+1)
   rw[hs1,ho1] at hO
   have HO1:=mkHid ho1
   have hmx:max (2 * (s1:Int)-(T:Int)) ((T:Int)-2 * (s1:Int))=(o1:Int):=by omega
   have hs1b:s1≤1001000:=by omega
   have ho1b:o1≤3000000:=by omega
   clear HC hb3 hz hs1 ho1 hO d0 d1 d2 d3
   generalize ((Sz k:Nat):Int)=sk at *
   by_cases hol:o1≤least
   ·have hol':(o1:Int)≤(least:Int):=by omega
    have HBs2:Hid (0<k+1→0<k+1∧k+1≤k+1∧o1=O (k+1)∧∀c',0<c'→c'≤k+1→O (k+1)≤O c'):=fun _=>⟨by omega,Nat.le_refl _,HO1.out.symm,fun c' h1 h2=>by
     by_cases e:c'=k+1
     ·rw[e];exact Nat.le_refl _
     ·have h3:=HBs.out (by omega)
      have h4:=h3.2.2.2 c' h1 (by omega)
      have h5:=h3.2.2.1
      rw[HO1.out]
      omega⟩
    go_wp2_with fail
    go_roundg (q1-(k+1))
    case measure=>omega
    case rel=>exact⟨k+1,k+1,o1,by omega,Nat.le_refl _,by go_num,by rw[HS1.out],by go_num,rfl,by omega,fun h=>absurd h (by omega),HBs2,HB3,HK3⟩
   ·have hol':¬(o1:Int)≤(least:Int):=by omega
    have hk0:0<k:=by
     rcases Nat.eq_zero_or_pos k with h0|h0
     ·exfalso
      have h1:=HL0.out h0
      have h2:=HOf.out 1
      have h3:=HO1.out
      rw[h0] at h3
      have h4:=HM.out 1 (by omega)
      have h5:=HS1.out
      rw[h0] at h5
      rw[Nat.zero_add] at h3 h5
      rw[h3,h5] at h2
      have h6:=HTm.out 1 (by omega)
      rw[h5] at h6
      omega
     ·exact h0
    have HBs2:Hid (0<k+1→0<best∧best≤k+1∧least=O best∧∀c',0<c'→c'≤k+1→O best≤O c'):=fun _=>by
     have h3:=HBs.out hk0
     refine⟨h3.1,by omega,h3.2.2.1,fun c' h1 h2=>?_⟩
     by_cases e:c'=k+1
     ·rw[e,HO1.out];have:=h3.2.2.1;omega
     ·exact h3.2.2.2 c' h1 (by omega)
    go_wp2_with fail
    go_roundg (q1-(k+1))
    case measure=>omega
    case rel=>exact⟨k+1,best,least,by omega,Nat.le_refl _,by go_num,by rw[HS1.out],rfl,rfl,hle,fun h=>absurd h (by omega),HBs2,HB3,HK3⟩
  ·have hlt':¬(k:Int)<(q1:Int):=by omega
   have h3:=HBs.out (by omega)
   have HFn:Hid (0<best∧best<q∧∀c',0<c'→c'<q→O best≤O c'):=⟨h3.1,by omega,fun c' h1 h2=>h3.2.2.2 c' h1 (by omega)⟩
   clear h3
   go_wp2_with fail
   go_ret
   exact⟨⟨best,rfl,HFn.out⟩,HB.out⟩
end Go.Proofs.YtpecobmfabmpkaaGreatDoor
namespace Go.Proofs.YtpecobmfabmpkaaGreatDoor
open Go.RowKit
variable {fl:Nat}
theorem slNb (a:Option Addr)(n cap f t:Nat)(h1:f≤t)(h2:t≤cap)(w:World):(Instr.slice 50 (.slice a n cap) (some (.int .i64 (f:Int))) (some (.int .i64 (t:Int))) none).run Tryz.prog w=.ok (.slice (cutN a cap f) (t-f) (cap-f)) w:=by
 have he:Tryz.prog.elem 50=64:=by kernel_rfl
 have hz:(sizeOf 64).run Tryz.prog w=.ok 2 w:=by
  obtain⟨i0,hi,hz0,hz1,hz2⟩:=info_parts infoN
  simp[sizeOf,typeInfo,hi,hz1]
 rw[run_slice_lh w 50 _ n cap (by rw[he];exact Tryz.underlying50) .i64 .i64 (f:Int) (t:Int) (by omega) (by omega) (by omega),he,hz]
 simp only[Result.andThen,sliced,Int.toNat_natCast,cutN]
theorem RdN.sub {w:World}{a:Option Addr}{n cap:Nat}{L:List Eq3}(h:RdN fl w (.slice a n cap) L)(f t:Nat)(h1:f<t)(h2:t≤L.length):RdN fl w (.slice (cutN a cap f) (t-f) (cap-f)) ((L.drop f).take (t-f)):=by
 obtain⟨a',cap',e,hc,hr⟩:=h.form
 injection e with e1 e2 e3
 subst e1 e3
 have hl:((L.drop f).take (t-f)).length=t-f:=by rw[List.length_take,List.length_drop];omega
 refine⟨⟨cutN a cap f,cap-f,by rw[hl],by rw[hl];omega,fun hp=>?_⟩,fun x hx=>h.is x (List.mem_of_mem_drop (List.mem_of_mem_take hx))⟩
 obtain⟨g,off,c,fz,rfl,hg,hcs⟩:=hr (by omega)
 refine⟨g,off+f * 2,c,fz,?_,hg,fun i u hu=>?_⟩
 ·unfold cutN
  rw[if_neg (by omega)]
  simp[Addr.add_lit]
 ·rw[ets_take,ets_drop] at hu
  have hi:i<(t-f) * 2:=by
   have:=(List.getElem?_eq_some_iff.1 hu).1
   rw[List.length_take] at this;omega
  rw[List.getElem?_take_of_lt hi,List.getElem?_drop] at hu
  have:=hcs (f * 2+i) u hu
  rw[←Nat.add_assoc] at this
  exact this
theorem results_pp {P:Program}{fn:Func}{p u:Tmp}{ty tu:TypeId}(h:fn.results=#[.cell p ty,.cell u tu])(tmps:Array Value)(w:World)(g g2:Nat)(x v:Value)
  (hp:tmps.getD p undef=.pointer (some ⟨g,0,none⟩)) (hl:(loadVar ty ⟨g,0,none⟩).run P w=.ok x w)
  (hp2:tmps.getD u undef=.pointer (some ⟨g2,0,none⟩)) (hl2:(loadVar tu ⟨g2,0,none⟩).run P w=.ok v w):
  (results fn tmps).run P w=.ok (.tuple #[x,v]) w:=by
 have q1:tmps[p]?.getD undef=.pointer (some ⟨g,0,none⟩):=by simpa using hp
 have q2:tmps[u]?.getD undef=.pointer (some ⟨g2,0,none⟩):=by simpa using hp2
 simp only[results,h]
 simp[Sem.run_bind,Result.andThen,q1,q2,asAddr,hl,hl2]
theorem load_pg13 (w:World)(g:Nat)(c0 c1 c2 c3:Value)(h:Blk w g 133 [c0,c1,c2,c3]):(loadVar 133 ⟨g,0,none⟩).run Tryz.prog w=.ok (.agg #[c0,c1,c2,c3]) w :=
 run_loadVar_row w g 133 133 #[c0,c1,c2,c3] (0,0) _ h Tryz.underlying133 rfl pgSize
theorem codCut13 (w:World)(B:Nat)(at_:Int)(ea:Option Addr)(en ec:Nat)(vk:Value)(f t:Nat)(hB:Blk w B 133 [.int .i64 at_,.int .i64 0,.slice ea en ec,vk])(h1:f≤t)(h2:t≤ec):
  Calls Tryz.prog 181 #[.int .i64 (f:Int),.int .i64 (t:Int),.pointer (some ⟨B,0,none⟩)] w fun e w'=>e=.returned (.agg #[.int .i64 0,.int .i64 0,.slice (cutN ea ec f) (t-f) (ec-f),.slice none 0 0])∧Below w.heap.size w w':=by
 have hA:=(Below.refl _ w).alloc (Nat.le_refl _) (.cells #[.int .i64 0,.int .i64 0,.slice none 0 0,.slice none 0 0] 133)
 have HB1:=mkHid (hB.on hA)
 have HK:Hid (Blk (w.alloc (.cells #[.int .i64 0,.int .i64 0,.slice none 0 0,.slice none 0 0] 133)) w.heap.size 133 [.int .i64 0,.int .i64 0,.slice none 0 0,.slice none 0 0]):=Blk.new w _ _
 have c1:=HB1.out.cell 1
 have c2:=HB1.out.cell 2
 simp only[gZ0,gZ1] at c1 c2
 have hsl:=fun W=>slNb ea en ec f t h1 h2 W
 have HA:=mkHid hA
 clear hA hB
 generalize cutN ea ec f=ca at *
 generalize ec-f=cc at *
 generalize t-f=nn at *
 go_enter Tryz.func181,Tryz.ntmps181
 go_wp2_with fail
 refine bodyPost_ret (retPg rfl _ _ w.heap.size _ _ _ _ rfl (Blk.new w 133 [.int .i64 0,.int .i64 0,.slice ca nn cc,.slice none 0 0])) rfl ⟨rfl,(Below.refl _ w).alloc (Nat.le_refl _) _⟩
end Go.Proofs.YtpecobmfabmpkaaGreatDoor
