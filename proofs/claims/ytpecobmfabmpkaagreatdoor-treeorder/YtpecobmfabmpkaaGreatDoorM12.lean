/- Js8 JsA PjZ PsA PsB PsC PsD -/
import Derived.Test.YtpecobmfabmpkaaGreatDoorM11
import Derived.Lib.BitFns
set_option maxRecDepth 100000
set_option maxHeartbeats 2000000
namespace Go.Proofs.YtpecobmfabmpkaaGreatDoor
section
open Go.RowKit
theorem jrnOK:JrnOK JAt TAx where
 disk:=fun h=>h.d
 toJ:=fun ⟨_,_,h⟩=>h.ja
 turn:=fun h hk hd=>h.turn hk hd
 keepJ:=fun h hk=>h.keep hk
 keepT:=fun ⟨M,tr,h⟩ hk=>⟨M,tr,h.keep hk⟩
 mount:=fun w P base m p h hf hm=>codMount P base m p w h hf hm
 begin_:=fun w J P base m j h _ _=>(codBegin w J P base j h h.d.low).mono fun _ _ ⟨⟨T,M,h1,h2⟩,h3⟩=>⟨⟨T,h1,M,false,h2⟩,KP.of_below h3 h.d.low⟩
 write:=fun w T J P base m t j i ba bc b ⟨M,tr,h⟩ hl hf _ h0 h1 _ hB=>codTWrite w T J P base t j M tr i ba bc b h hl hf.n h0 h1 (hB w (KeepO.refl _ _) (Below.refl _ _))
 read:=fun w T J P base m t j i ⟨M,tr,h⟩ _ hf hm h0 h1 ho=>(codTRead w T J P base t j M tr i h (hf.few (by omega)) ho h0 h1).mono fun _ _ ⟨h2,h3⟩=>⟨h2,⟨M,tr,h.on h3⟩,KP.of_below h3 h.ja.d.low⟩
 commit:=fun w T J P base m t j h hl hf hm _=>codCommit w T J P base m t j h hf hm hl
 size:=fun w J P base j h=>(codJSize w J P base j h).mono fun _ _ ⟨h1,h2⟩=>⟨h1,by rw[h2];exact Below.refl _ _⟩
 jread:=fun w J P base m j i h hf hm _ _ ho=>codJRead w J P base j i h (hf.few (by omega)) ho
theorem and_all:∀y:Fin 256,∀r:Fin 8,decide (y.val &&& 2 ^ r.val=0) = !decide (y.val/2 ^ r.val%2=1):=by decide +kernel
theorem ne0_dec (y:Nat):(((y:Int) != 0):Bool) = !decide (y=0):=by
 by_cases h:y=0
 ·subst h;rfl
 ·rw[decide_eq_false h]
  have:(((y:Int)==0):Bool)=false:=beq_eq_false_iff_ne.2 (by omega)
  unfold bne
  rw[this]
theorem pow8 (r:Nat)(h:r<8):2 ^ r<256:=Nat.lt_of_lt_of_le (Nat.pow_lt_pow_right (by omega) h) (by decide)
theorem ret_u8 {x y:Int}(h:x=y):Ending.returned (.int .u8 x)=.returned (.int .u8 y):=by rw[h]
theorem pow_mod (r:Nat)(h:2 ^ r<256):((2:Int) ^ r%256)=((2 ^ r:Nat):Int):=by
 have e:((2:Int) ^ r)=((2 ^ r:Nat):Int):=by rw[Int.natCast_pow];rfl
 rw[e]
 generalize 2 ^ r=z at *
 omega
theorem pow_less (r:Nat)(h:2 ^ r<256):(((2:Int) ^ r-1)%256)=((2 ^ r-1:Nat):Int):=by
 have e:((2:Int) ^ r)=((2 ^ r:Nat):Int):=by rw[Int.natCast_pow];rfl
 have:=Nat.two_pow_pos r
 rw[e];omega
theorem codBit (k:Nat)(w:World)(hk:(k:Int)≤9223372036854775807):
  Calls Tryz.prog 170 #[.int .i64 (k:Int)] w fun e w'=>e=.returned (.int .u8 ((2 ^ (k%8):Nat):Int))∧w'=w:=by
 obtain⟨r,hr⟩:∃r,r=k%8:=⟨_,rfl⟩
 have hr8:r<8:=by omega
 have hr1:(k:Int).tmod 8=(r:Int):=by rw[Int.tmod_eq_emod_of_nonneg (by omega)];omega
 have HP:=mkHid (pow8 r hr8)
 rw[←hr]
 clear hr
 go_enter Tryz.func170,Tryz.ntmps170
 go_wp2_with fail
 go_ret
 exact⟨ret_u8 (pow_mod r HP.out),rfl⟩
theorem codOnes (x:UInt8)(w:World):
  Calls Tryz.prog 83 #[.int .u8 (x.toNat:Int)] w fun e w'=>e=.returned (.int .i64 (Lib.onesCount x.toNat:Int))∧w'=w:=by
 have e:((x.toNat:Int)).toNat=x.toNat:=by omega
 have hx:=x.toNat_lt
 have HV:=Lib.pop8_int (x.toNat:Int) (by omega) (by omega)
 rw[e] at HV
 have HV:=mkHid HV
 have h0:(0:Int)≤(x.toNat:Int):=by omega
 have h1:(x.toNat:Int)≤255:=by omega
 go_enter Tryz.func83,Tryz.ntmps83
 conv in (ByteArray.mk _)=>change Lib.pop8tab
 go_wp2
 go_ret
 exact⟨ret_i (by unfold wrap64;exact HV.out),rfl⟩
theorem codBelow (m:Nat)(w:World)(h0:1≤m)(hm:(m:Int)≤9223372036854775807):
  Calls Tryz.prog 84 #[.int .i64 (m:Int)] w fun e w'=>e=.returned (.int .u8 ((2 ^ min m 8-1:Nat):Int))∧w'=w:=by
 by_cases h8:8≤m
 ·have h8':(8:Int)≤(m:Int):=by omega
  rw[Nat.min_eq_right h8]
  go_enter Tryz.func84,Tryz.ntmps84
  go_wp2_with fail
  go_ret
  exact⟨rfl,rfl⟩
 ·have h8':¬(8:Int)≤(m:Int):=by omega
  rw[Nat.min_eq_left (by omega)]
  have HP:=mkHid (pow8 m (by omega))
  go_enter Tryz.func84,Tryz.ntmps84
  go_wp2_with fail
  go_ret
  exact⟨ret_u8 (pow_less m HP.out),rfl⟩
theorem codTaken (a:Option Addr)(len cap:Nat)(l:List UInt8)(i:Int)(w:World)(h:IsB w a len cap l)(h0 : -9223372036854775808≤i)(h1:i≤9223372036854775807):
  Calls Tryz.prog 155 #[.slice a len cap,.int .i64 i] w fun e w'=>e=.returned (.bool (takenL l i))∧∃m,w'=w.drewN m:=by
 have hmax:=h.max
 unfold maxLen at hmax
 have hle:=h.le
 have hlm:(len:Int)≤9223372036854775807:=by omega
 clear hmax hle
 have H:=mkHid h
 clear h
 by_cases hn:i<0
 ·have HV:Hid (false=takenL l i):=(takenL_neg l i hn).symm
  have hd:decide ((0:Int)≤i)=false:=decide_eq_false (by omega)
  go_enter Tryz.func155,Tryz.ntmps155
  go_wp2_with fail
  go_quiet (fail)
  go_wp2
  go_ret
  exact⟨ret_b HV.out,_,rfl⟩
 ·obtain⟨k,rfl⟩:∃k:Nat,i=(k:Int):=⟨i.toNat,by omega⟩
  have HT:Hid (takenL l (k:Int)=bitN l k):=takenL_nat l k
  have HBt:=fun W=>codBit k W h1
  obtain⟨q,hq⟩:∃q,q=k/8:=⟨_,rfl⟩
  obtain⟨r,hr⟩:∃r,r=k%8:=⟨_,rfl⟩
  rw[←hr] at HBt
  have hr8:r<8:=by omega
  have hk0:(0:Int)≤(k:Int):=by omega
  have hqm:(q:Int)≤9223372036854775807:=by omega
  have hq1:(k:Int).tdiv 8=(q:Int):=by rw[Int.tdiv_eq_ediv_of_nonneg (by omega)];omega
  have HQ:=mkHid hq
  have HR:=mkHid hr
  clear hq hr
  by_cases hlt:q<len
  ·have hlt':(q:Int)<(len:Int):=by omega
   obtain⟨b0,o0,rfl,hc0⟩:=H.out.cells (by omega)
   have g0:=hc0 q hlt
   clear hc0
   obtain⟨y,hy⟩:∃y:Nat,y=(nth l q).toNat &&& 2 ^ r:=⟨_,rfl⟩
   have HV:bits .and .u8 ((nth l q).toNat:Int) ((2 ^ r:Nat):Int)=(y:Int):=by
    have e:=bits_and8 (nth l q) (UInt8.ofNat (2 ^ r))
    rw[UInt8.toNat_and,UInt8.toNat_ofNat',Nat.mod_eq_of_lt (pow8 r hr8),←hy] at e
    exact e
   have HB:Hid ((!decide (y=0))=bitN l k):=by
    unfold Hid bitN
    have:=and_all ⟨(nth l q).toNat,(nth l q).toNat_lt⟩ ⟨r,hr8⟩
    simp only at this
    rw[hy,this,←HQ.out,←HR.out,Bool.not_not]
   clear hy
   generalize ((2 ^ r:Nat):Int)=br at *
   go_enter Tryz.func155,Tryz.ntmps155
   go_wp2_with fail
   go_quiet (first|(go_at_call 170;exact Calls.quiet_of_same (HBt _)))
   go_wp2
   go_ret
   refine⟨ret_b ?_,_,rfl⟩
   rw[HT.out,←HB.out]
   exact ne0_dec y
  ·have hlt':decide ((q:Int)<(len:Int))=false:=decide_eq_false (by omega)
   have HV:Hid (false=takenL l (k:Int)):=by
    unfold Hid
    rw[HT.out,bitN_behind l k (by have:=H.out.len_eq;have:=HQ.out;omega)]
   go_enter Tryz.func155,Tryz.ntmps155
   go_wp2_with fail
   go_quiet (fail)
   go_wp2
   go_ret
   exact⟨ret_b HV.out,_,rfl⟩
def popM (x:Nat):Nat→Nat
 | 0=>0
 | m+1=>popM x m+x/2 ^ m%2
theorem pop_all:∀x:Fin 256,∀m:Fin 9,Lib.onesCount (x.val%2 ^ m.val)=popM x.val m.val:=by decide +kernel
theorem cnt_byte (b:List UInt8)(k:Nat):∀m,m≤8→cntL b (8 * k+m)=cntL b (8 * k)+popM (nth b k).toNat m:=by
 intro m
 induction m with
 | zero=>intro _;rfl
 | succ m ih =>
  intro hm
  rw[←Nat.add_assoc,cntL,ih (by omega),popM,Nat.add_assoc]
  congr 2
  have e1:(8 * k+m)/8=k:=by omega
  have e2:(8 * k+m)%8=m:=by omega
  unfold bitN
  rw[e1,e2]
  by_cases h:(nth b k).toNat/2 ^ m%2=1
  ·rw[if_pos (decide_eq_true h),h]
  ·rw[if_neg (by rw[decide_eq_false h];simp)]
   omega
theorem cnt_ones (b:List UInt8)(k m:Nat)(hm:m≤8):Lib.onesCount ((nth b k) &&& UInt8.ofNat (2 ^ m-1)).toNat+cntL b (8 * k)=cntL b (8 * k+m):=by
 have h1:2 ^ m-1<256:=by
  have:2 ^ m≤2 ^ 8:=Nat.pow_le_pow_right (by omega) hm
  have:=Nat.two_pow_pos m
  omega
 rw[UInt8.toNat_and,UInt8.toNat_ofNat',Nat.mod_eq_of_lt h1,Nat.and_two_pow_sub_one_eq_mod,cnt_byte b k m hm]
 have:=pop_all ⟨(nth b k).toNat,(nth b k).toNat_lt⟩ ⟨m,by omega⟩
 simp only at this
 rw[this]
 omega
theorem codSCount (a:Option Addr)(len cap:Nat)(l:List UInt8)(n:Int)(w:World)(h:IsB w a len cap l)(hl:len≤10000)(h0 : -9223372036854775808≤n)(h1:n≤9223372036854775807):
  Calls Tryz.prog 55 #[.slice a len cap,.int .i64 n] w fun e w'=>e=.returned (.int .i64 (countL l n:Int))∧w'=w:=by
 have hlen:=h.len_eq
 have H:=mkHid h
 clear h
 go_enter Tryz.func55,Tryz.ntmps55
 go_wp2_with fail
 go_loopw [5,10] (fun o i wr=>wr=w∧∃k:Nat,k≤len∧i=.int .i64 (k:Int)∧o=.int .i64 (cntL l (min (8 * k) n.toNat):Int)) (fun _ i _=>len-(intOf i).toNat)
 case atStart=>exact⟨rfl,0,Nat.zero_le _,rfl,by simp[cntL]⟩
 case round =>
  obtain⟨rfl,k,hk,rfl,rfl⟩:=hrel
  have hcl:=cntL_le l (min (8 * k) n.toNat)
  by_cases hlt:k<len
  ·have hlt':(k:Int)<(len:Int):=by omega
   obtain⟨b0,o0,rfl,hc0⟩:=H.out.cells (by omega)
   have g0:=hc0 k hlt
   clear hc0
   by_cases hn:n≤8 * (k:Int)
   ·have HC:Hid (cntL l (min (8 * k) n.toNat)=countL l n):=by unfold Hid;rw[countL_all];congr 1;omega
    go_wp2_with fail
    go_ret
    exact⟨ret_i (by rw[←HC.out]),rfl⟩
   ·obtain⟨m,hm⟩:∃m:Nat,(m:Int)=n-8 * (k:Int):=⟨(n-8 * (k:Int)).toNat,by omega⟩
    have hm1:1≤m:=by omega
    have hmm:(m:Int)≤9223372036854775807:=by omega
    have e8:min (8 * k) n.toNat=8 * k:=by omega
    have e9:min (8 * (k+1)) n.toNat=8 * k+min m 8:=by omega
    have hcn:=cnt_ones l k (min m 8) (Nat.min_le_right _ _)
    rw[e8] at hcl ⊢
    have HBe:=codBelow m wr hm1 hmm
    rw[hm] at HBe
    have HX:bits .and .u8 ((nth l k).toNat:Int) ((2 ^ min m 8-1:Nat):Int)=((nth l k &&& UInt8.ofNat (2 ^ min m 8-1)).toNat:Int):=by
     have h1:2 ^ min m 8-1<256:=by
      have:2 ^ min m 8≤2 ^ 8:=Nat.pow_le_pow_right (by omega) (Nat.min_le_right _ _)
      have:=Nat.two_pow_pos (min m 8)
      omega
     rw[←bits_and8,UInt8.toNat_ofNat',Nat.mod_eq_of_lt h1]
    have HO:=codOnes (nth l k &&& UInt8.ofNat (2 ^ min m 8-1)) wr
    have hcl2:=cntL_le l (8 * k+min m 8)
    have HE9:=mkHid e9
    generalize nth l k &&& UInt8.ofNat (2 ^ min m 8-1)=z at *
    generalize ((2 ^ min m 8-1:Nat):Int)=be at *
    generalize Lib.onesCount z.toNat=oc at *
    generalize cntL l (8 * k)=c0 at *
    go_wp2_with (first
     | (go_at_call 84;refine HBe.mono ?_;rintro e y1 ⟨rfl,hy1⟩;obtain rfl:=hy1.symm)
     | (go_at_call 83;refine HO.mono ?_;rintro e y1 ⟨rfl,hy1⟩;obtain rfl:=hy1.symm))
    go_roundw
    case rel=>exact⟨trivial,k+1,by omega,by go_num,by rw[HE9.out,←hcn,Int.natCast_add,Int.add_comm]⟩
    case measure=>simp[intOf];omega
  ·have HC:Hid (cntL l (min (8 * k) n.toNat)=countL l n):=by unfold Hid countL;rw[hlen];congr 1;omega
   have hlt':¬(k:Int)<(len:Int):=by omega
   go_wp2_with fail
   go_ret
   exact⟨ret_i (by rw[←HC.out]),rfl⟩
structure SpAt (w:World)(S J P base:Nat)(t:Tl)(j:Jl)(T g c:Nat):Prop where
 ta:TAx w T J P base t j
 blk:Blk w S 84 [.pointer (some ⟨T,0,none⟩),.slice (some ⟨g,0,none⟩) 512 c,.int .i64 (j.p.n:Int)]
 low:base≤S
 own:OwnB w base (.slice (some ⟨g,0,none⟩) 512 c) (mapL t j)
def SpAx (w:World)(S J P base:Nat)(t:Tl)(j:Jl):Prop:=∃T g c,SpAt w S J P base t j T g c
theorem TAx.on {w w':World}{T J P base:Nat}{t:Tl}{j:Jl}(h:TAx w T J P base t j)(hb:Below w.heap.size w w'):TAx w' T J P base t j:=by
 obtain⟨M,tr,h⟩:=h
 exact⟨M,tr,h.on hb⟩
theorem TAx.lo {w:World}{T J P base:Nat}{t:Tl}{j:Jl}(h:TAx w T J P base t j):base≤w.heap.size:=by
 obtain⟨M,tr,h⟩:=h
 exact h.ja.d.low
theorem SpAt.on {w w':World}{S J P base:Nat}{t:Tl}{j:Jl}{T g c:Nat}(h:SpAt w S J P base t j T g c)(hb:Below w.heap.size w w'):SpAt w' S J P base t j T g c :=
 ⟨h.ta.on hb,h.blk.on hb,h.low,own_keepO (us:=[5]) (KeepO.of_below hb) h.own (by decide)⟩
theorem SpAt.drewN {w:World}{S J P base:Nat}{t:Tl}{j:Jl}{T g c:Nat}(h:SpAt w S J P base t j T g c)(m:Nat):SpAt (w.drewN m) S J P base t j T g c:=h.on (bel_drewN (Below.refl _ _) m)
theorem SpAx.keep {w w':World}{S J P base:Nat}{t:Tl}{j:Jl}(h:SpAx w S J P base t j)(hk:KeepT CT w w'):SpAx w' S J P base t j:=by
 obtain⟨T,g,c,h⟩:=h
 obtain⟨M,tr,ht⟩:=h.ta
 exact⟨T,g,c,⟨M,tr,ht.keep hk⟩,hk.blk h.blk (by decide),h.low,own_keepO (KeepO.ofT (us:=[5]) hk (by decide)) h.own (by decide)⟩
theorem SpAt.wrote {w w':World}{S J P base:Nat}{t t':Tl}{j:Jl}{T g c:Nat}(h:SpAt w S J P base t j T g c)(ht:TAx w' T J P base t' j)(hk:KP base w w')(hm:mapL t' j=mapL t j):SpAt w' S J P base t' j T g c :=
 ⟨ht,hk.o.blk h.blk (by decide),h.low,by rw[hm];exact own_keepO hk.o h.own (by decide)⟩
theorem SpAt.isB {w:World}{S J P base:Nat}{t:Tl}{j:Jl}{T g c:Nat}(h:SpAt w S J P base t j T g c)(hl:(mapL t j).length=512):IsB w (some ⟨g,0,none⟩) 512 c (mapL t j):=by
 obtain⟨a,cap,e,hI⟩:=h.own.isB
 injection e with e1 e2 e3
 subst e1 e3
 rw[hl] at hI
 exact hI
theorem own_blk {w:World}{g base:Nat}{b:List UInt8}(h:Blk w g 5 (bv b))(hb:b.length=512)(hg:base≤g):OwnB w base (.slice (some ⟨g,0,none⟩) 512 512) b:=by
 unfold OwnB
 rw[hb]
 exact⟨by rw[bv_length,hb],.inr ⟨g,512,(bv b).toArray,rfl,hg,h,Nat.le_refl _,by decide,by rw[List.size_toArray,bv_length,hb],by rw[List.toList_toArray,List.take_of_length_le (by rw[bv_length,hb];omega)]⟩⟩
theorem codReadU (P base:Nat)(p:Pl)(k:Nat)(w:World)(h:IsD0 w P base p)(hf:FewP p)(hoff:p.off=false)(hk:k<p.n):
  Calls Tryz.prog 62 #[.pointer (some ⟨P,0,none⟩),.int .i64 (k:Int)] w fun e w'=>(∃g,e=.returned (.tuple #[.slice (some ⟨g,0,none⟩) 512 512,.int .i64 0])∧w.heap.size≤g∧Blk w' g 5 (bv (p.rdB (k:Int))))∧(p.rdB (k:Int)).length=512∧Below w.heap.size w w':=by
 obtain⟨S,vC,arm,h⟩:=h
 have HR:=codReach P S p.n p.off (k:Int) w (h.blk.cell 0) (h.blk.cell 3)
 have HH:=mkHid h
 have HF:=mkHid hf
 clear h hf
 have hin:inR p.n (k:Int)=true:=decide_eq_true ⟨by omega,by omega⟩
 rw[hoff,if_neg (by simp),hin,if_pos rfl] at HR
 have HE:Hid (p.rdB (k:Int)=p.ca.foldl Pl.put p.st k):=by unfold Hid Pl.rdB;simp[hoff,hin]
 have HL:Hid ((p.ca.foldl Pl.put p.st k).length=512):=fold_len512 _ _ p.n k hk (fun g hg=>(HF.out.at_ g hg).2) HH.out.len
 have HLa:=codLatest (fun _=>False) P base S vC arm p k w HH.out HF.out hk
 generalize p.ca.foldl Pl.put p.st k=bb at *
 clear hoff hin hk
 go_enter Tryz.func62,Tryz.ntmps62
 go_wp2_with fail
 refine HR.mono ?_
 rintro e w1 ⟨rfl,hw1⟩
 obtain rfl:=hw1.symm
 go_wp2_with fail
 refine HLa.mono ?_
 rintro e w2 ⟨rfl,hb2⟩
 have HB2:=mkHid hb2
 clear hb2
 go_wp2_with fail
 refine(codBytes bb w2 HL.out).mono ?_
 rintro e w3 ⟨g,rfl,hg3,hB3,hb3⟩
 have HB3:=mkHid (And.intro hg3 (And.intro hB3 hb3))
 clear hg3 hB3 hb3
 go_wp2_with fail
 go_ret2
 refine⟨⟨g,rfl,Nat.le_trans HB2.out.size HB3.out.1,?_⟩,?_,HB2.out.trans (HB3.out.2.2.mono HB2.out.size)⟩
 ·rw[HE.out];exact HB3.out.2.1
 ·rw[HE.out];exact HL.out
theorem codJReadU (w:World)(J P base:Nat)(j:Jl)(h:JAt w J P base j)(hf:FewP j.p)(ho:j.p.off=false)(hn:49<j.p.n):
  Calls Tryz.prog 36 #[.pointer (some ⟨J,0,none⟩),.int .i64 49] w fun e w'=>(∃g,e=.returned (.tuple #[.slice (some ⟨g,0,none⟩) 512 512,.int .i64 0])∧w.heap.size≤g∧Blk w' g 5 (bv (mapL ⟨[],false⟩ j)))∧(mapL ⟨[],false⟩ j).length=512∧Below w.heap.size w w':=by
 have HZ:=codJSize w J P base j h
 have HA:=codInArea 49 j.p.n w
 have c0:w.cell? ⟨J,0,none⟩=some (.pointer (some ⟨P,0,none⟩)):=h.blk.cell 0
 have HR:=codReadU P base j.p 49 w h.d hf ho hn
 have HJ:=mkHid h
 clear h
 have ha:areaI j.p.n 49=true:=by unfold areaI;exact decide_eq_true (by omega)
 have HE:Hid (mapL ⟨[],false⟩ j=j.p.rdB ((49:Nat):Int)):=by
  unfold Hid mapL Tl.rdB
  show (if areaI j.p.n 49=false then [] else j.p.rdB 49)=_
  rw[ha]
  rfl
 rw[ha] at HA
 have HH:=codHeed0 J
 clear ha
 generalize j.p.n=n at *
 generalize j.p.rdB ((49:Nat):Int)=bb at *
 go_enter Tryz.func36,Tryz.ntmps36
 go_wp2_with fail
 refine HZ.mono ?_
 rintro e w1 ⟨rfl,rfl⟩
 go_wp2_with fail
 refine HA.mono ?_
 rintro e w2 ⟨rfl,hw2⟩
 obtain rfl:=hw2.symm
 go_wp2_with fail
 refine HR.mono ?_
 rintro e w3 ⟨⟨g,rfl,hg,hB⟩,hl,hb3⟩
 have HB:=mkHid hB
 clear hB
 go_wp2_with fail
 refine(HH w3).mono ?_
 rintro e w4 ⟨⟨y,rfl⟩,rfl⟩
 go_wp2_with fail
 go_ret2
 exact⟨⟨g,rfl,hg,by rw[HE.out];exact HB.out⟩,by rw[HE.out];exact hl,hb3⟩
theorem codOpen (w:World)(J P base m:Nat)(j:Jl)(h:JAt w J P base j)(hf:Fit ⟨[],false⟩ j m):
  Calls Tryz.prog 10 #[.pointer (some ⟨J,0,none⟩)] w fun e w'=>(∃S,e=.returned (.tuple #[.pointer (some ⟨S,0,none⟩),.int .i64 0])∧SpAx w' S J P base ⟨[],false⟩ j)∧KS base w w':=by
 have HLo:=mkHid h.d.low
 have HRd:=codJReadU w J P base j h (hf.few.few (by have:=hf.m;omega)) hf.good.off (by have:=hf.few.n0;omega)
 have HBg:=fun W (hW:Below w.heap.size w W)=>codBegin W J P base j (h.on hW) (Nat.le_trans HLo.out hW.size)
 have HSz:=fun W (hW:Below w.heap.size w W)=>codJSize W J P base j (h.on hW)
 clear h
 go_enter Tryz.func10,Tryz.ntmps10
 go_wp2_with fail
 refine HRd.mono ?_
 rintro e w1 ⟨⟨g,rfl,hg,hB⟩,hl,hb1⟩
 have HB1:=mkHid hb1
 have HG:=mkHid hB
 have HL:=mkHid hl
 have HGe:=mkHid hg
 clear hB hl hb1 hg HRd
 go_wp2_with fail
 refine(HBg w1 HB1.out).mono ?_
 rintro e w2 ⟨⟨T,M,rfl,hT⟩,hb2⟩
 have HB2:=mkHid (HB1.out.trans (hb2.mono HB1.out.size))
 have HT:=mkHid hT
 have HG2:=mkHid (Blk.on HG.out hb2)
 have HZ:=HSz w2 HB2.out
 clear hT hb2 HBg HSz HG
 go_wp2_with fail
 refine HZ.mono ?_
 rintro e w3 ⟨rfl,hw3⟩
 obtain rfl:=hw3.symm
 clear HZ
 go_wp2_with fail
 go_ret2
 have hA:Below w2.heap.size w2 (w2.alloc (.cells #[.pointer (some ⟨T,0,none⟩),.slice (some ⟨g,0,none⟩) 512 512,.int .i64 (j.p.n:Int)] 84)):=(Below.refl _ w2).alloc (Nat.le_refl _) _
 exact⟨⟨w2.heap.size,rfl,T,g,512,⟨M,false,HT.out.on hA⟩,Blk.new w2 _ [_,_,_],Nat.le_trans HLo.out HB2.out.size,own_blk (Blk.on HG2.out hA) HL.out (Nat.le_trans HLo.out HGe.out)⟩,KS.of_below (HB2.out.trans (hA.mono HB2.out.size)) HLo.out⟩
theorem codSRead (w:World)(S J P base m:Nat)(t:Tl)(j:Jl)(i:Int)(h:SpAx w S J P base t j)(hf:Fit t j m)(h0 : -9223372036854775808≤i)(h1:i≤9223372036854775807):
  Calls Tryz.prog 101 #[.pointer (some ⟨S,0,none⟩),.int .i64 i] w fun e w'=>(∃v,e=.returned (.tuple #[v,.int .i64 (spRdE t j i)])∧IsV w' v (spRdB t j i))∧SpAx w' S J P base t j∧KS base w w':=by
 obtain⟨T,g,c,h⟩:=h
 have HH:=mkHid h
 have c0:w.cell? ⟨S,0,none⟩=some (.pointer (some ⟨T,0,none⟩)):=h.blk.cell 0
 have HR:=jrnOK.read w T J P base m t j i h.ta hf.len hf.few hf.m h0 h1 hf.good.off
 clear h
 by_cases hi:i<50
 ·have HE:Hid ((50:Int)=spRdE t j i∧[]=spRdB t j i):=by unfold Hid spRdE spRdB;rw[if_pos hi,if_pos hi];exact⟨rfl,rfl⟩
  clear HR
  go_enter Tryz.func101,Tryz.ntmps101
  go_wp2_with fail
  go_ret2
  exact⟨⟨.slice none 0 0,by rw[←HE.out.1];rfl,by rw[←HE.out.2];exact⟨none,0,rfl,isB_none _⟩⟩,⟨T,g,c,HH.out⟩,KS.of_below (Below.refl _ _) HH.out.ta.lo⟩
 ·have HE:Hid (t.rdE j i=spRdE t j i∧t.rdB j i=spRdB t j i):=by unfold Hid spRdE spRdB;rw[if_neg hi,if_neg hi];exact⟨rfl,rfl⟩
  go_enter Tryz.func101,Tryz.ntmps101
  go_wp2_with fail
  refine HR.mono ?_
  rintro e w1 ⟨⟨v,rfl,hv⟩,ht,hk⟩
  go_wp2_with fail
  go_ret2
  exact⟨⟨v,by rw[←HE.out.1];rfl,by rw[←HE.out.2];exact hv⟩,⟨T,g,c,HH.out.wrote ht hk rfl⟩,KS.ofP hk⟩
theorem codSWrite (w:World)(S J P base m:Nat)(t:Tl)(j:Jl)(i:Int)(ba:Option Addr)(bc:Nat)(b:List UInt8)(h:SpAx w S J P base t j)(hf:Fit t j m)(h0 : -9223372036854775808≤i)(h1:i≤9223372036854775807)(hl:b.length≤140737488351232)(hB:∀W,KeepO [5] w W→Below base w W→IsB W ba b.length bc b):
  Calls Tryz.prog 33 #[.pointer (some ⟨S,0,none⟩),.int .i64 i,.slice ba b.length bc] w fun e w'=>e=.returned (.int .i64 (spWrE t j i b))∧SpAx w' S J P base (spWr t j i b) j∧KS base w w':=by
 obtain⟨T,g,c,h⟩:=h
 have HH:=mkHid h
 have c0:w.cell? ⟨S,0,none⟩=some (.pointer (some ⟨T,0,none⟩)):=h.blk.cell 0
 have HR:=jrnOK.write w T J P base m t j i ba bc b h.ta hf.len hf.few hf.m h0 h1 hl hB
 clear h hB
 by_cases hi:i<50
 ·have HE:Hid ((50:Int)=spWrE t j i b∧t=spWr t j i b):=by unfold Hid spWrE spWr;rw[if_pos hi,if_pos hi];exact⟨rfl,rfl⟩
  clear HR
  generalize b.length=bl at *
  go_enter Tryz.func33,Tryz.ntmps33
  go_wp2_with fail
  go_ret
  exact⟨ret_i HE.out.1,by rw[←HE.out.2];exact⟨T,g,c,HH.out⟩,KS.of_below (Below.refl _ _) HH.out.ta.lo⟩
 ·have HE:Hid (t.wrE j i b=spWrE t j i b∧t.write j i b=spWr t j i b):=by unfold Hid spWrE spWr;rw[if_neg hi,if_neg hi];exact⟨rfl,rfl⟩
  have HM:Hid (mapL (t.write j i b) j=mapL t j):=map_other (by omega)
  generalize b.length=bl at *
  go_enter Tryz.func33,Tryz.ntmps33
  go_wp2_with fail
  refine HR.mono ?_
  rintro e w1 ⟨rfl,ht,hk⟩
  go_wp2_with fail
  go_ret
  exact⟨ret_i HE.out.1,by rw[←HE.out.2];exact⟨T,g,c,HH.out.wrote ht hk HM.out⟩,KS.ofP hk⟩
theorem codSCommit (w:World)(S J P base m:Nat)(t:Tl)(j:Jl)(h:SpAx w S J P base t j)(hf:Fit t j m):
  Calls Tryz.prog 26 #[.pointer (some ⟨S,0,none⟩)] w fun e w'=>e=.returned (.int .i64 (cmE t j))∧JAt w' J P base (cmJ t j)∧KS base w w':=by
 obtain⟨T,g,c,h⟩:=h
 have c0:w.cell? ⟨S,0,none⟩=some (.pointer (some ⟨T,0,none⟩)):=h.blk.cell 0
 have HR:=jrnOK.commit w T J P base m t j h.ta hf.len hf.few hf.m hf.seq
 clear h hf
 go_enter Tryz.func26,Tryz.ntmps26
 go_wp2_with fail
 refine HR.mono ?_
 rintro e w1 ⟨rfl,ht,hk⟩
 go_wp2_with fail
 go_ret
 exact⟨rfl,jrnOK.toJ ht,KS.ofP hk⟩
def lsAns (t:Tl)(j:Jl):Value:=if tkK t j=j.p.n then .tuple #[.int .i64 0,.bool false] else .tuple #[.int .i64 (tkK t j:Int),.bool true]
theorem lsNo {t:Tl}{j:Jl}(h:tkK t j=j.p.n):lsAns t j=.tuple #[.int .i64 0,.bool false]:=if_pos h
theorem lsYes {t:Tl}{j:Jl}{x:Nat}(h:tkK t j=x)(hx:x<j.p.n):lsAns t j=.tuple #[.int .i64 (x:Int),.bool true]:=by
 unfold lsAns;rw[if_neg (by omega),h]
theorem TAx.keepS {w w':World}{T J P base:Nat}{t:Tl}{j:Jl}(h:TAx w T J P base t j)(hk:KeepT [84] w w'):TAx w' T J P base t j:=by
 obtain⟨M,tr,h⟩:=h
 exact⟨M,tr,⟨hk.blk h.ja.blk (by decide),h.ja.low,h.ja.d.keep hk (by decide) (by decide) (by decide),h.ja.seq⟩,hk.blk h.blk (by decide),h.low,h.lowM,ownM_keep h.own hk,h.sort,h.ok,h.over⟩
theorem write_no {t:Tl}{j:Jl}{i:Int}{b:List UInt8}(h:¬t.wrE j i b=0):t.write j i b=t:=if_neg h
theorem codLeast (w:World)(S J P base m:Nat)(t:Tl)(j:Jl)(T g c:Nat)(h:SpAt w S J P base t j T g c)(hf:Fit t j m):
  Calls Tryz.prog 137 #[.pointer (some ⟨S,0,none⟩)] w fun e w'=>e=.returned (lsAns t j)∧∃m,w'=w.drewN m:=by
 have hn0:=hf.few.n0
 have hn1:=hf.few.n
 have hl:=(map_ok hf.few hf.good.off hf.lens).2
 have HI:Hid (∀q,IsB (w.drewN q) (some ⟨g,0,none⟩) 512 c (mapL t j)):=fun q=>(h.isB hl).drewN q
 have HC:∀q,(w.drewN q).cell? ⟨S,1,none⟩=some (.slice (some ⟨g,0,none⟩) 512 c)∧(w.drewN q).cell? ⟨S,2,none⟩=some (.int .i64 (j.p.n:Int)):=fun q=>⟨(h.drewN q).blk.cell 1,(h.drewN q).blk.cell 2⟩
 clear h hf hl
 go_enter Tryz.func137,Tryz.ntmps137
 go_wp2_with fail
 go_loopw [4] (fun i wr=>∃d q:Nat,wr=w.drewN q∧51+d≤j.p.n∧i=.int .i64 ((51+d:Nat):Int)∧Hid (∀x,51≤x→x<51+d→bitN (mapL t j) x=true)) (fun i _=>j.p.n-(intOf i).toNat)
 case atStart=>exact⟨0,0,rfl,by omega,rfl,fun x h1 h2=>absurd h2 (by omega)⟩
 case round =>
  obtain⟨d,q,rfl,hd,rfl,HA⟩:=hrel
  obtain⟨c1,c2⟩:=HC q
  obtain⟨x,hx⟩:∃x,x=51+d:=⟨_,rfl⟩
  rw[←hx]
  by_cases hlt:x<j.p.n
  ·have hlt':(x:Int)<(j.p.n:Int):=by omega
   have HT:=codTaken (some ⟨g,0,none⟩) 512 c (mapL t j) (x:Int) (w.drewN q) (HI.out q) (by omega) (by omega)
   rw[takenL_nat] at HT
   have HX:=mkHid hx
   have hx51:51≤x:=by omega
   cases hb:bitN (mapL t j) x with
   | true =>
    rw[hb] at HT
    have HA1:Hid (∀z,51≤z→z<51+(d+1)→bitN (mapL t j) z=true):=fun z h1 h2=>by
     by_cases e:z=x
     ·rw[e];exact hb
     ·exact HA.out z h1 (by omega)
    clear hb hx
    go_wp2_with (go_at_call 155;refine HT.mono ?_;rintro e y2 ⟨rfl,q2,rfl⟩)
    go_roundw
    case rel=>exact⟨d+1,q+q2,rfl,by have:=HX.out;omega,by rw[HX.out];go_num,HA1⟩
    case measure=>simp[intOf];omega
   | false =>
    rw[hb] at HT
    have HK:Hid (tkK t j=x):=tkI_hit _ _ x hx51 hlt (fun z h1 h2=>HA.out z h1 (by omega)) hb
    clear hb hx HA HX
    go_wp2_with (go_at_call 155;refine HT.mono ?_;rintro e y2 ⟨rfl,q2,rfl⟩)
    go_ret2
    refine⟨?_,q+q2,by first|rfl|exact World.drewN_drewN ..⟩
    rw[lsYes HK.out hlt]
    rfl
  ·have hlt':¬(x:Int)<(j.p.n:Int):=by omega
   have HK:Hid (tkK t j=j.p.n):=tkI_none _ _ (by omega) (fun z h1 h2=>HA.out z h1 (by omega))
   go_wp2_with fail
   go_ret2
   refine⟨?_,q,rfl⟩
   rw[lsNo HK.out]
   rfl
theorem codTurn (w:World)(S J P base m:Nat)(t:Tl)(j:Jl)(k:Nat)(h:SpAx w S J P base t j)(hf:Fit t j m)(hk:k<j.p.n):
  Calls Tryz.prog 138 #[.pointer (some ⟨S,0,none⟩),.int .i64 (k:Int)] w fun e w'=>e=.returned (.int .i64 (t.wrE j 49 (flipL (mapL t j) k)))∧SpAx w' S J P base (t.write j 49 (flipL (mapL t j) k)) j∧KS base w w':=by
 obtain⟨T,g,c,h⟩:=h
 have hn1:=hf.few.n
 have hl:=(map_ok hf.few hf.good.off hf.lens).2
 have HH:=mkHid h
 have c1:w.cell? ⟨S,1,none⟩=some (.slice (some ⟨g,0,none⟩) 512 c):=h.blk.cell 1
 have HCl:=cClone (some ⟨g,0,none⟩) 512 c (mapL t j) w (h.isB hl) (by omega)
 have HBt:=fun W=>codBit k W (by omega)
 have HL:=mkHid hl
 clear h hl
 obtain⟨q,hq⟩:∃q,q=k/8:=⟨_,rfl⟩
 obtain⟨r,hr⟩:∃r,r=k%8:=⟨_,rfl⟩
 rw[←hr] at HBt
 have hr8:r<8:=by omega
 have hq5:q<512:=by omega
 have hq1:(k:Int).tdiv 8=(q:Int):=by rw[Int.tdiv_eq_ediv_of_nonneg (by omega)];omega
 have HF:Hid (flipL (mapL t j) k=(mapL t j).set q (nth (mapL t j) q ^^^ UInt8.ofNat (2 ^ r))):=by unfold Hid flipL;rw[hq,hr]
 have HX:bits BinOp.xor IntKind.u8 ((nth (mapL t j) q).toNat:Int) ((2 ^ r:Nat):Int)=((nth (mapL t j) q ^^^ UInt8.ofNat (2 ^ r)).toNat:Int):=by
  rw[←bits_xor8,UInt8.toNat_ofNat',Nat.mod_eq_of_lt (pow8 r hr8)]
 have hwq:IntKind.i64.wrap (q:Int)=(q:Int):=by rw[IntKind.wrap_i64];omega
 have hq5':(q:Int)<512:=by omega
 clear hq hr
 have HWr:∀(W:World) (g1 cap1:Nat),Hid (TAx W T J P base t j)→Hid (OwnB W w.heap.size (.slice (some ⟨g1,0,none⟩) 512 cap1) (flipL (mapL t j) k)) →
   Calls Tryz.prog 56 #[.pointer (some ⟨T,0,none⟩),.int .i64 49,.slice (some ⟨g1,0,none⟩) 512 cap1] W fun e w'=>e=.returned (.int .i64 (t.wrE j 49 (flipL (mapL t j) k)))∧Hid (TAx w' T J P base (t.write j 49 (flipL (mapL t j) k)) j)∧Hid (KP base W w'):=fun W g1 cap1 hT hO=>by
  have HW:=jrnOK.write W T J P base m t j 49 (some ⟨g1,0,none⟩) cap1 (flipL (mapL t j) k) hT.out hf.len hf.few hf.m (by omega) (by omega) (by rw[flipL_length,HL.out];omega) (fun W hK _=>own_isB (own_keepO hK hO.out (by decide)))
  rw[flipL_length,HL.out] at HW
  exact HW
 have HFm:Hid (t.wrE j 49 (flipL (mapL t j) k)=0→mapL (t.write j 49 (flipL (mapL t j) k)) j=flipL (mapL t j) k):=map_write
 have HFn:Hid (¬t.wrE j 49 (flipL (mapL t j) k)=0→t.write j 49 (flipL (mapL t j) k)=t):=write_no
 generalize flipL (mapL t j) k=F at *
 generalize hT':t.write j 49 F=t' at *
 generalize t.wrE j 49 F=E at *
 clear hT'
 go_enter Tryz.func138,Tryz.ntmps138
 go_wp2_with fail
 refine HCl.mono ?_
 rintro e w1 ⟨v,rfl,hv,hb1⟩
 have HV:=mkHid hv
 have HB1:=mkHid hb1
 clear hv hb1 HCl
 obtain⟨g1,cap1,rfl,hg1,hg2⟩:=World.ownsRow.form HV.out (by rw[HL.out];omega)
 rw[HL.out] at HV ⊢
 have c5:=HV.out.cellAt HL.out q hq5
 have f5:=HV.out.frozenAt HL.out q
 have HY:=mkHid (HV.out.set HL.out q (nth (mapL t j) q ^^^ UInt8.ofNat (2 ^ r)))
 rw[←HF.out] at HY
 have HBY:Hid (Below w.heap.size w (w1.setCell ⟨g1,q,none⟩ (.int .u8 ((nth (mapL t j) q ^^^ UInt8.ofNat (2 ^ r)).toNat:Int)))):=HB1.out.trans ((Below.refl _ w1).setCell (p:=⟨g1,q,none⟩) hg1 _)
 clear HF HV HB1
 generalize nth (mapL t j) q ^^^ UInt8.ofNat (2 ^ r)=z at *
 generalize ((2 ^ r:Nat):Int)=br at *
 go_wp2_with fail
 refine wp_region_noPanic ?_
 refine wp_region_held_drew (S:=fun _=>True) (by kernel_rfl) trivial (fun hHeld=>?_)
 refine takeH (some 12) (i:=0) (v:=?_) rfl (by kernel_rfl) (by kernel_rfl) (by kernel_rfl) (fun _ _ _ h=>h) (Or.inl ⟨by rfl,?_⟩) hHeld rfl ?_
 rotate_left
 ·intro w hSw;go_simp;with_reducible rfl
 (try simp only[Act.put,sIx,sZ0,sZ1])
 refine takeH (some 13) (i:=1) (v:=?_) rfl (by kernel_rfl) (by kernel_rfl) (by kernel_rfl) (fun _ _ _ h=>h) (Or.inl ⟨by rfl,?_⟩) hHeld rfl ?_
 rotate_left
 ·intro w hSw;go_simp;with_reducible rfl
 (try simp only[Act.put,sIx,sZ0,sZ1])
 refine takeH (some 14) (i:=2) (v:=.int .i64 (q:Int)) rfl (by kernel_rfl) (by kernel_rfl) (by kernel_rfl) (fun _ _ _ h=>h) (Or.inl ⟨by rfl,?_⟩) hHeld rfl ?_
 ·intro w hSw;go_simp
 (try simp only[Act.put,sIx,sZ0,sZ1])
 refine takeH (some 15) (i:=3) (v:=?_) rfl (by kernel_rfl) (by kernel_rfl) (by kernel_rfl) (fun _ _ _ h=>h) (Or.inl ⟨by rfl,?_⟩) hHeld rfl ?_
 rotate_left
 ·intro w hSw;go_simp;with_reducible rfl
 (try simp only[Act.put,sIx,sZ0,sZ1])
 refine takeH (some 17) (i:=5) (v:=?_) rfl (by kernel_rfl) (by kernel_rfl) (by kernel_rfl) (fun _ _ _ h=>h) (Or.inl ⟨by rfl,?_⟩) hHeld rfl ?_
 rotate_left
 ·intro w hSw;go_simp;with_reducible rfl
 (try simp only[Act.put,sIx,sZ0,sZ1])
 refine wpAnyH_ready (rs:=[4,6]) (by kernel_rfl) (by simp) ?_
 refine AllReadyH.cons rfl (fun K hK=>?_) (AllReadyH.cons rfl (fun K hK=>?_) AllReadyH.nil)
 ·skip
  go_simp
  refine hK.out _ _ trivial (fun hHeld=>?_)
  (try simp only[Act.put,sIx,sZ0,sZ1])
  clear hK K
  refine wpAnyH_ready (rs:=[6]) (by kernel_rfl) (by simp) (AllReadyH.cons rfl (fun K hK=>?_) AllReadyH.nil)
  go_simp
  go_wp2_with (go_at_call 170;refine(HBt _).mono ?_;rintro e x ⟨rfl,hx⟩;obtain rfl:=hx.symm)
  refine hK.out _ _ trivial (fun hHeld=>?_)
  (try simp only[Act.put,sIx,sZ0,sZ1])
  clear hK K
  refine takeH (some 19) (i:=7) (v:=?_) rfl (by kernel_rfl) (by kernel_rfl) (by kernel_rfl) (fun _ _ _ h=>h) (Or.inl ⟨by rfl,?_⟩) hHeld rfl ?_
  rotate_left
  ·intro w hSw;go_simp;with_reducible rfl
  (try simp only[Act.put,sIx,sZ0,sZ1])
  refine takeH (some 20) (i:=8) (v:=?_) rfl (by kernel_rfl) (by kernel_rfl) (by kernel_rfl) (fun _ _ _ h=>h) (Or.inl ⟨by rfl,?_⟩) hHeld rfl ?_
  rotate_left
  ·intro w hSw;go_simp;with_reducible rfl
  (try simp only[Act.put,sIx,sZ0,sZ1])
  refine wpAnyH_ready (rs:=[9]) (by kernel_rfl) (by simp) (AllReadyH.cons rfl (fun K hK=>?_) AllReadyH.nil)
  go_simp
  refine hK.out _ _ trivial (fun hHeld=>?_)
  (try simp only[Act.put,sIx,sZ0,sZ1])
  clear hK K
  refine wpAnyH_done (by kernel_rfl) ?_ _
  refine NoPanic.normal ?_
  have HO:Hid (OwnB (w1.setCell ⟨g1,q,none⟩ (.int .u8 (z.toNat:Int))).drew w.heap.size (.slice (some ⟨g1,0,none⟩) 512 cap1) (F)):=HY.out.heap rfl
  have HB:Hid (Below w.heap.size w (w1.setCell ⟨g1,q,none⟩ (.int .u8 (z.toNat:Int))).drew):=HBY.out.drew
  clear HY HBY HX c5 f5
  generalize (w1.setCell ⟨g1,q,none⟩ (.int .u8 (z.toNat:Int))).drew=Y at *
  have HS:=mkHid (HH.out.on HB.out)
  have c0:Y.cell? ⟨S,0,none⟩=some (.pointer (some ⟨T,0,none⟩)):=HS.out.blk.cell 0
  have HW:=HWr Y g1 cap1 (mkHid HS.out.ta) HO
  have HLo:=mkHid HS.out.ta.lo
  have HLw:=mkHid HH.out.ta.lo
  go_wp2_with fail
  refine HW.mono ?_
  rintro e y2 ⟨rfl,HT2,HK2⟩
  have HB2:=mkHid (HK2.out.o.blk HS.out.blk (by decide))
  have d1:y2.cell? ⟨S,1,none⟩=some (.slice (some ⟨g,0,none⟩) 512 c):=HB2.out.cell 1
  have f1:y2.frozen? ⟨S,1,none⟩=false:=HB2.out.frozen 1
  clear HW c0
  by_cases hz:E=0
  ·subst hz
   go_wp2_with fail
   go_ret
   have hKT:KeepT [84] y2 (y2.setCell ⟨S,1,none⟩ (.slice (some ⟨g1,0,none⟩) 512 cap1)):=(KeepT.refl _ _).set HB2.out (by decide) 1 _
   refine⟨rfl,⟨T,g1,cap1,HT2.out.keepS hKT,HB2.out.set 1 _,HS.out.low,?_⟩,?_⟩
   ·rw[HFm.out (by first|rfl|trivial)]
    exact own_keepO (KeepO.ofT (us:=[5]) hKT (by decide)) (own_base (own_keepO HK2.out.o HO.out (by decide)) HLw.out) (by decide)
   ·exact(KS.of_below HB.out HLw.out).trans ((KS.ofP HK2.out).trans ⟨KeepO.ofT hKT (by decide),(Below.refl _ _).setCell (p:=⟨S,1,none⟩) HS.out.low _⟩)
  ·go_wp2_with fail
   go_ret
   have e1:=HFn.out hz
   subst e1
   exact⟨rfl,⟨T,g,c,HS.out.wrote HT2.out HK2.out rfl⟩,(KS.of_below HB.out HLw.out).trans (KS.ofP HK2.out)⟩
 ·skip
  go_simp
  go_wp2_with (go_at_call 170;refine(HBt _).mono ?_;rintro e x ⟨rfl,hx⟩;obtain rfl:=hx.symm)
  refine hK.out _ _ trivial (fun hHeld=>?_)
  (try simp only[Act.put,sIx,sZ0,sZ1])
  clear hK K
  refine wpAnyH_ready (rs:=[4]) (by kernel_rfl) (by simp) (AllReadyH.cons rfl (fun K hK=>?_) AllReadyH.nil)
  go_simp
  refine hK.out _ _ trivial (fun hHeld=>?_)
  (try simp only[Act.put,sIx,sZ0,sZ1])
  clear hK K
  refine takeH (some 19) (i:=7) (v:=?_) rfl (by kernel_rfl) (by kernel_rfl) (by kernel_rfl) (fun _ _ _ h=>h) (Or.inl ⟨by rfl,?_⟩) hHeld rfl ?_
  rotate_left
  ·intro w hSw;go_simp;with_reducible rfl
  (try simp only[Act.put,sIx,sZ0,sZ1])
  refine takeH (some 20) (i:=8) (v:=?_) rfl (by kernel_rfl) (by kernel_rfl) (by kernel_rfl) (fun _ _ _ h=>h) (Or.inl ⟨by rfl,?_⟩) hHeld rfl ?_
  rotate_left
  ·intro w hSw;go_simp;with_reducible rfl
  (try simp only[Act.put,sIx,sZ0,sZ1])
  refine wpAnyH_ready (rs:=[9]) (by kernel_rfl) (by simp) (AllReadyH.cons rfl (fun K hK=>?_) AllReadyH.nil)
  go_simp
  refine hK.out _ _ trivial (fun hHeld=>?_)
  (try simp only[Act.put,sIx,sZ0,sZ1])
  clear hK K
  refine wpAnyH_done (by kernel_rfl) ?_ _
  refine NoPanic.normal ?_
  have HO:Hid (OwnB (w1.setCell ⟨g1,q,none⟩ (.int .u8 (z.toNat:Int))).drew w.heap.size (.slice (some ⟨g1,0,none⟩) 512 cap1) (F)):=HY.out.heap rfl
  have HB:Hid (Below w.heap.size w (w1.setCell ⟨g1,q,none⟩ (.int .u8 (z.toNat:Int))).drew):=HBY.out.drew
  clear HY HBY HX c5 f5
  generalize (w1.setCell ⟨g1,q,none⟩ (.int .u8 (z.toNat:Int))).drew=Y at *
  have HS:=mkHid (HH.out.on HB.out)
  have c0:Y.cell? ⟨S,0,none⟩=some (.pointer (some ⟨T,0,none⟩)):=HS.out.blk.cell 0
  have HW:=HWr Y g1 cap1 (mkHid HS.out.ta) HO
  have HLo:=mkHid HS.out.ta.lo
  have HLw:=mkHid HH.out.ta.lo
  go_wp2_with fail
  refine HW.mono ?_
  rintro e y2 ⟨rfl,HT2,HK2⟩
  have HB2:=mkHid (HK2.out.o.blk HS.out.blk (by decide))
  have d1:y2.cell? ⟨S,1,none⟩=some (.slice (some ⟨g,0,none⟩) 512 c):=HB2.out.cell 1
  have f1:y2.frozen? ⟨S,1,none⟩=false:=HB2.out.frozen 1
  clear HW c0
  by_cases hz:E=0
  ·subst hz
   go_wp2_with fail
   go_ret
   have hKT:KeepT [84] y2 (y2.setCell ⟨S,1,none⟩ (.slice (some ⟨g1,0,none⟩) 512 cap1)):=(KeepT.refl _ _).set HB2.out (by decide) 1 _
   refine⟨rfl,⟨T,g1,cap1,HT2.out.keepS hKT,HB2.out.set 1 _,HS.out.low,?_⟩,?_⟩
   ·rw[HFm.out (by first|rfl|trivial)]
    exact own_keepO (KeepO.ofT (us:=[5]) hKT (by decide)) (own_base (own_keepO HK2.out.o HO.out (by decide)) HLw.out) (by decide)
   ·exact(KS.of_below HB.out HLw.out).trans ((KS.ofP HK2.out).trans ⟨KeepO.ofT hKT (by decide),(Below.refl _ _).setCell (p:=⟨S,1,none⟩) HS.out.low _⟩)
  ·go_wp2_with fail
   go_ret
   have e1:=HFn.out hz
   subst e1
   exact⟨rfl,⟨T,g,c,HS.out.wrote HT2.out HK2.out rfl⟩,(KS.of_below HB.out HLw.out).trans (KS.ofP HK2.out)⟩
theorem tk_rng (t:Tl)(j:Jl)(hn:51≤j.p.n):tkK t j=j.p.n∨(51≤tkK t j∧tkK t j<j.p.n):=by
 unfold tkK tkI
 have:∀(f i:Nat),i≤tkGo (mapL t j) f i∧tkGo (mapL t j) f i≤i+f:=by
  intro f
  induction f with
  | zero=>intro i;exact⟨Nat.le_refl _,Nat.le_refl _⟩
  | succ f ih =>
   intro i
   rw[tkGo]
   split
   ·have:=ih (i+1);omega
   ·omega
 have:=this (j.p.n-51) 51
 omega
theorem zlen:zero512.length=512:=by unfold zero512;exact List.length_replicate
theorem cnt_free (b:List UInt8)(d:Nat):cntL b (51+d)+freeL b d=cntL b 51+d:=by
 induction d with
 | zero=>rfl
 | succ d ih =>
  rw[←Nat.add_assoc,cntL,freeL]
  split<;>omega
theorem free_count (b:List UInt8)(n:Nat)(h:51≤n):(n:Int)-51-((countL b (n:Int):Int)-(countL b 51:Int))=(freeL b (n-51):Int)∧countL b 51≤51∧countL b (n:Int)≤n:=by
 obtain⟨d,rfl⟩:∃d,n=51+d:=⟨n-51,by omega⟩
 have e0:51+d-51=d:=by omega
 have e1:((51+d:Nat):Int).toNat=51+d:=Int.toNat_natCast _
 have e2:(51:Int).toNat=51:=by omega
 have hc:=cnt_free b d
 have hl:=cntL_le b 51
 have hm:=cntL_le b (51+d)
 rw[countL_all,countL_all,e0,e1,e2]
 generalize cntL b (51+d)=x at *
 generalize cntL b 51=y at *
 generalize freeL b d=z at *
 omega
theorem codTake (w:World)(S J P base m:Nat)(t:Tl)(j:Jl)(h:SpAx w S J P base t j)(hf:Fit t j m):
  Calls Tryz.prog 98 #[.pointer (some ⟨S,0,none⟩)] w fun e w'=>e=.returned (.tuple #[.int .i64 (tkV t j:Int),.int .i64 (tkE t j)])∧SpAx w' S J P base (tkT t j) j∧KS base w w':=by
 obtain⟨T,g,c,h⟩:=h
 have HH:=mkHid h
 have HLw:=mkHid h.ta.lo
 have HLe:=codLeast w S J P base m t j T g c h hf
 have hn0:=hf.few.n0
 have hn1:=hf.few.n
 clear h
 rcases tk_rng t j (by omega) with hK|⟨k0,k1⟩
 ·rw[lsNo hK] at HLe
  have HO:=mkHid (tk_full hK)
  go_enter Tryz.func98,Tryz.ntmps98
  go_wp2_with fail
  refine HLe.mono ?_
  rintro e w1 ⟨rfl,q,rfl⟩
  go_wp2_with fail
  go_ret2
  exact⟨by rw[HO.out.1,HO.out.2.1];rfl,by rw[HO.out.2.2];exact⟨T,g,c,HH.out.drewN q⟩,KS.of_below (bel_drewN (Below.refl _ _) q) HLw.out⟩
 ·obtain⟨x,hx⟩:∃x,tkK t j=x:=⟨_,rfl⟩
  rw[hx] at k0 k1
  rw[lsYes hx k1] at HLe
  go_enter Tryz.func98,Tryz.ntmps98
  go_wp2_with fail
  refine HLe.mono ?_
  rintro e w1 ⟨rfl,q,rfl⟩
  go_upto_region 6 with fail
  have HA:=mkHid (HH.out.drewN q)
  have HBA:Hid (Below w.heap.size w (w.drewN q)):=bel_drewN (Below.refl _ _) q
  generalize w.drewN q=y2 at *
  have c0:y2.cell? ⟨S,0,none⟩=some (.pointer (some ⟨T,0,none⟩)):=HA.out.blk.cell 0
  obtain⟨w4,hrun4,hob4,hbb4⟩:=make_run512 y2.drew
  have Hrun:=mkHid hrun4
  clear hrun4
  refine wp_region_noPanic ?_
  refine wp_region_held_drew (S:=fun w'=>w'.cell? ⟨S,0,none⟩=some (.pointer (some ⟨T,0,none⟩))) (by kernel_rfl) c0 (fun hHeld=>?_)
  refine takeH (some 17) (i:=0) (v:=?_) rfl (by kernel_rfl) (by kernel_rfl) (by kernel_rfl) (fun _ _ _ h=>h) (Or.inl ⟨by rfl,?_⟩) hHeld rfl ?_
  rotate_left
  ·intro w hSw;go_simp;with_reducible rfl
  (try simp only[Act.put,sIx,sZ0,sZ1])
  refine takeH (some 18) (i:=1) (v:=?_) rfl (by kernel_rfl) (by kernel_rfl) (by kernel_rfl) (fun _ _ _ h=>h) (Or.inl ⟨by rfl,?_⟩) hHeld rfl ?_
  rotate_left
  ·intro w hSw;go_simp;with_reducible rfl
  (try simp only[Act.put,sIx,sZ0,sZ1])
  refine takeH (some 19) (i:=2) (v:=?_) rfl (by kernel_rfl) (by kernel_rfl) (by kernel_rfl) (fun _ _ _ h=>h) (Or.inl ⟨by rfl,?_⟩) hHeld rfl ?_
  rotate_left
  ·intro w hSw;go_simp;with_reducible rfl
  (try simp only[Act.put,sIx,sZ0,sZ1])
  refine takeH (some 20) (i:=3) (v:=?_) rfl (by kernel_rfl) (by kernel_rfl) (by kernel_rfl) (fun _ _ _ h=>h) (Or.inl ⟨by rfl,?_⟩) hHeld rfl ?_
  rotate_left
  ·intro w hSw;go_simp;with_reducible rfl
  (try simp only[Act.put,sIx,sZ0,sZ1])
  refine takeH (some 21) (i:=4) (v:=?_) rfl (by kernel_rfl) (by kernel_rfl) (by kernel_rfl) (fun _ _ _ h=>h) (Or.inl ⟨by rfl,?_⟩) hHeld rfl ?_
  rotate_left
  ·intro w hSw;go_simp;with_reducible rfl
  (try simp only[Act.put,sIx,sZ0,sZ1])
  refine wpAnyH_ready (rs:=[5]) (by kernel_rfl) (by simp) (AllReadyH.cons rfl (fun K hK=>?_) AllReadyH.nil)
  go_simp
  rw[Hrun.out]
  go_simp
  have HV4:=mkHid hob4
  have HB4:Hid (Below y2.heap.size y2 w4):=((Below.refl _ y2).drew).trans hbb4
  have HS4:=mkHid (HA.out.on HB4.out)
  clear hob4 hbb4 Hrun
  refine hK.out _ _ (HS4.out.blk.cell 0) (fun hHeld=>?_)
  (try simp only[Act.put,sIx,sZ0,sZ1])
  clear hK K
  obtain⟨za,zc,hze,hzI⟩:=HV4.out.isB
  have HW:=jrnOK.write w4 T J P base m t j (x:Int) za zc zero512 HS4.out.ta hf.len hf.few hf.m (by omega) (by omega) (by rw[zlen];omega) (fun W hK _=>by
   obtain⟨a2,c2,e2,h2⟩:=(show OwnB W _ _ _ from own_keepO hK HV4.out (by decide)).isB
   rw[hze] at e2
   injection e2 with i1 i2 i3
   subst i1 i3
   exact h2)
  rw[←hze] at HW
  clear hzI
  refine wpAnyH_ready (rs:=[6]) (by kernel_rfl) (by simp) (AllReadyH.cons rfl (fun K hK=>?_) AllReadyH.nil)
  go_simp
  go_wp2_with (go_at_call 56;refine HW.mono ?_;rintro e y5 ⟨rfl,ht5,hk5⟩)
  have HS5:Hid (SpAt y5 S J P base (tkT1 t j x) j T g c):=HS4.out.wrote ht5 hk5 (map_other (by omega))
  refine hK.out _ _ (HS5.out.blk.cell 0) (fun hHeld=>?_)
  (try simp only[Act.put,sIx,sZ0,sZ1])
  clear hK K HW
  refine takeH (some 6) (i:=7) (v:=?_) rfl (by kernel_rfl) (by kernel_rfl) (by kernel_rfl) (fun _ _ _ h=>h) (Or.inl ⟨by rfl,?_⟩) hHeld rfl ?_
  rotate_left
  ·intro w hSw;go_simp;with_reducible rfl
  (try simp only[Act.put,sIx,sZ0,sZ1])
  refine wpAnyH_done (by kernel_rfl) ?_ _
  refine NoPanic.normal ?_
  have HK5:=mkHid ((KS.of_below (HBA.out.trans (HB4.out.mono HBA.out.size)) HLw.out).trans (KS.ofP hk5))
  have HE1:Hid (tkE1 t j x=t.wrE j (x:Int) zero512):=rfl
  clear ht5 hk5 HB4 HS4 HV4 hHeld c0 HA HBA
  have HF1:Hid (Fit (tkT1 t j x) j m):=hf.write _ _
  generalize t.wrE j (x:Int) zero512=E1 at *
  by_cases hz:E1=0
  ·subst hz
   have HSt:=codTurn y5 S J P base m (tkT1 t j x) j x ⟨T,g,c,HS5.out⟩ HF1.out k1
   have HE2:Hid (tkE2 t j x=(tkT1 t j x).wrE j 49 (flipL (mapL (tkT1 t j x) j) x)):=rfl
   have HT2:Hid (tkT2 t j x=(tkT1 t j x).write j 49 (flipL (mapL (tkT1 t j x) j) x)):=rfl
   generalize (tkT1 t j x).wrE j 49 (flipL (mapL (tkT1 t j x) j) x)=E2 at *
   generalize (tkT1 t j x).write j 49 (flipL (mapL (tkT1 t j x) j) x)=T2 at *
   by_cases hz2:E2=0
   ·subst hz2
    have HO:=mkHid (tk_yes hx k1 HE1.out HE2.out)
    go_wp2_with (go_at_call 138;refine HSt.mono ?_;rintro e y6 ⟨rfl,hs6,hk6⟩)
    go_ret2
    exact⟨by rw[HO.out.1,HO.out.2.1];rfl,by rw[HO.out.2.2,HT2.out];exact hs6,HK5.out.trans hk6⟩
   ·have HO:=mkHid (tk_no2 hx k1 HE1.out (by rw[HE2.out];exact hz2))
    go_wp2_with (go_at_call 138;refine HSt.mono ?_;rintro e y6 ⟨rfl,hs6,hk6⟩)
    go_ret2
    exact⟨by rw[HO.out.1,HO.out.2.1,HE2.out];rfl,by rw[HO.out.2.2,HT2.out];exact hs6,HK5.out.trans hk6⟩
  ·have HO:=mkHid (tk_no1 hx k1 (by rw[HE1.out];exact hz))
   go_wp2_with fail
   go_ret2
   exact⟨by rw[HO.out.1,HO.out.2.1,HE1.out];rfl,by rw[HO.out.2.2];exact⟨T,g,c,HS5.out⟩,HK5.out⟩
theorem codGive (w:World)(S J P base m:Nat)(t:Tl)(j:Jl)(i:Int)(h:SpAx w S J P base t j)(hf:Fit t j m)(h0 : -9223372036854775808≤i)(h1:i≤9223372036854775807):
  Calls Tryz.prog 108 #[.pointer (some ⟨S,0,none⟩),.int .i64 i] w fun e w'=>e=.returned (.int .i64 (gvE t j i))∧SpAx w' S J P base (gvT t j i) j∧KS base w w':=by
 obtain⟨T,g,c,h⟩:=h
 have HH:=mkHid h
 have HLw:=mkHid h.ta.lo
 have c1:w.cell? ⟨S,1,none⟩=some (.slice (some ⟨g,0,none⟩) 512 c):=h.blk.cell 1
 have c2:w.cell? ⟨S,2,none⟩=some (.int .i64 (j.p.n:Int)):=h.blk.cell 2
 have hn0:=hf.few.n0
 have hn1:=hf.few.n
 have hl:=(map_ok hf.few hf.good.off hf.lens).2
 have HI:Hid (IsB w (some ⟨g,0,none⟩) 512 c (mapL t j)):=h.isB hl
 clear h
 by_cases hi:i<51
 ·have HE:Hid ((50:Int)=gvE t j i∧t=gvT t j i):=by unfold Hid gvE gvT;rw[if_pos (.inl hi),if_pos (.inl hi)];exact⟨rfl,rfl⟩
  go_enter Tryz.func108,Tryz.ntmps108
  go_wp2_with fail
  go_ret
  exact⟨ret_i HE.out.1,by rw[←HE.out.2];exact⟨T,g,c,HH.out⟩,KS.of_below (Below.refl _ _) HLw.out⟩
 by_cases hn:(j.p.n:Int)≤i
 ·have HE:Hid ((50:Int)=gvE t j i∧t=gvT t j i):=by unfold Hid gvE gvT;rw[if_pos (.inr (.inl hn)),if_pos (.inr (.inl hn))];exact⟨rfl,rfl⟩
  go_enter Tryz.func108,Tryz.ntmps108
  go_wp2_with fail
  go_ret
  exact⟨ret_i HE.out.1,by rw[←HE.out.2];exact⟨T,g,c,HH.out⟩,KS.of_below (Below.refl _ _) HLw.out⟩
 obtain⟨k,rfl⟩:∃k:Nat,i=(k:Int):=⟨i.toNat,by omega⟩
 have HG:Hid (gvNo t j (k:Int)↔takenL (mapL t j) (k:Int)=false):=by
  unfold Hid gvNo
  exact⟨fun h=>by rcases h with h|h|h;exact absurd h hi;exact absurd h hn;exact h,fun h=>.inr (.inr h)⟩
 have HTk:=codTaken (some ⟨g,0,none⟩) 512 c (mapL t j) (k:Int) w HI.out h0 h1
 have HTu:=fun q=>codTurn (w.drewN q) S J P base m t j k ⟨T,g,c,HH.out.drewN q⟩ hf (by omega)
 have HE:Hid (gvE t j (k:Int)=(if takenL (mapL t j) (k:Int)=false then 50 else t.wrE j 49 (flipL (mapL t j) k))∧gvT t j (k:Int)=(if takenL (mapL t j) (k:Int)=false then t else t.write j 49 (flipL (mapL t j) k))):=by
  unfold Hid gvE gvT
  have e:(k:Int).toNat=k:=by omega
  rw[e]
  by_cases h:takenL (mapL t j) (k:Int)=false
  ·rw[if_pos (HG.out.2 h),if_pos (HG.out.2 h),if_pos h,if_pos h];exact⟨rfl,rfl⟩
  ·rw[if_neg (fun x=>h (HG.out.1 x)),if_neg (fun x=>h (HG.out.1 x)),if_neg h,if_neg h];exact⟨rfl,rfl⟩
 clear HG hl HI
 cases ht:takenL (mapL t j) (k:Int) with
 | false =>
  rw[ht] at HTk HE
  have HE1:Hid ((50:Int)=gvE t j (k:Int)∧t=gvT t j (k:Int)):=⟨HE.out.1.symm,HE.out.2.symm⟩
  clear HE ht HTu
  go_enter Tryz.func108,Tryz.ntmps108
  go_wp2_with fail
  refine HTk.mono ?_
  rintro e w1 ⟨rfl,q,rfl⟩
  go_wp2_with fail
  go_ret
  exact⟨ret_i HE1.out.1,by rw[←HE1.out.2];exact⟨T,g,c,HH.out.drewN q⟩,KS.of_below (bel_drewN (Below.refl _ _) q) HLw.out⟩
 | true =>
  rw[ht] at HTk HE
  have HE1:Hid (t.wrE j 49 (flipL (mapL t j) k)=gvE t j (k:Int)∧t.write j 49 (flipL (mapL t j) k)=gvT t j (k:Int)):=⟨HE.out.1.symm,HE.out.2.symm⟩
  clear HE ht
  go_enter Tryz.func108,Tryz.ntmps108
  go_wp2_with fail
  refine HTk.mono ?_
  rintro e w1 ⟨rfl,q,rfl⟩
  go_wp2_with fail
  refine(HTu q).mono ?_
  rintro e w2 ⟨rfl,hs,hk⟩
  go_wp2_with fail
  go_ret
  exact⟨ret_i HE1.out.1,by rw[←HE1.out.2];exact hs,(KS.of_below (bel_drewN (Below.refl _ _) q) HLw.out).trans hk⟩
theorem codFree (w:World)(S J P base m:Nat)(t:Tl)(j:Jl)(h:SpAx w S J P base t j)(hf:Fit t j m):
  Calls Tryz.prog 27 #[.pointer (some ⟨S,0,none⟩)] w fun e w'=>e=.returned (.int .i64 (freeL (mapL t j) (j.p.n-51):Int))∧SpAx w' S J P base t j∧KS base w w':=by
 obtain⟨T,g,c,h⟩:=h
 have HH:=mkHid h
 have HLw:=mkHid h.ta.lo
 have c1:w.cell? ⟨S,1,none⟩=some (.slice (some ⟨g,0,none⟩) 512 c):=h.blk.cell 1
 have c2:w.cell? ⟨S,2,none⟩=some (.int .i64 (j.p.n:Int)):=h.blk.cell 2
 have hn0:=hf.few.n0
 have hn1:=hf.few.n
 have hl:=(map_ok hf.few hf.good.off hf.lens).2
 have HCn:∀q,Calls Tryz.prog 55 #[.slice (some ⟨g,0,none⟩) 512 c,.int .i64 (j.p.n:Int)] (w.drewN q) fun e w'=>e=.returned (.int .i64 (countL (mapL t j) (j.p.n:Int):Int))∧w'=w.drewN q:=fun q=>codSCount (some ⟨g,0,none⟩) 512 c (mapL t j) _ _ ((h.isB hl).drewN q) (by omega) (by omega) (by omega)
 have HC5:∀q,Calls Tryz.prog 55 #[.slice (some ⟨g,0,none⟩) 512 c,.int .i64 51] (w.drewN q) fun e w'=>e=.returned (.int .i64 (countL (mapL t j) 51:Int))∧w'=w.drewN q:=fun q=>codSCount (some ⟨g,0,none⟩) 512 c (mapL t j) _ _ ((h.isB hl).drewN q) (by omega) (by omega) (by omega)
 obtain⟨hv,hv1,hv2⟩:=free_count (mapL t j) j.p.n (by omega)
 clear h hl
 generalize countL (mapL t j) (j.p.n:Int)=C1 at *
 generalize countL (mapL t j) 51=C2 at *
 generalize freeL (mapL t j) (j.p.n-51)=fr at *
 go_enter Tryz.func27,Tryz.ntmps27
 go_wp2_with fail
 go_quiet (first
  | (go_at_call_of 55 (Value.int IntKind.i64 51);exact Calls.quiet_of_same (HC5 _))
  | (go_at_call_of 55 (Value.int IntKind.i64 (j.p.n:Int));exact Calls.quiet_of_same (HCn _)))
 have d2:(w.drewN nq).cell? ⟨S,2,none⟩=some (.int .i64 (j.p.n:Int)):=(HH.out.drewN nq).blk.cell 2
 go_wp2_with fail
 go_ret
 refine⟨ret_i (by omega),⟨T,g,c,HH.out.drewN nq⟩,KS.of_below (bel_drewN (Below.refl _ _) nq) HLw.out⟩
end
end Go.Proofs.YtpecobmfabmpkaaGreatDoor
