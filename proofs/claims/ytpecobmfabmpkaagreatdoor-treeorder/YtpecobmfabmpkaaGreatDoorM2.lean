/- Add Pad Sum Sched Mix Spec256 Begin Mix256 Digest Sha256 Jr0 RefCan OwnW RefBits RefPad RefWords AppK RefSha Jr1 Jr5 Jr2 Jr3 Rdr5 RefRdr RefRdr2 RefRdr4 RefRdr5 RefRdr5b -/
import Derived.Test.YtpecobmfabmpkaaGreatDoorM1
import Derived.Laws.CopyOwn
set_option maxRecDepth 20000
set_option maxHeartbeats 4000000
namespace Go.Proofs.YtpecobmfabmpkaaGreatDoor
section
open Go.RowKit
theorem oneLoadH {P:Program}{md:Region.Mode}{ops:Array Oper}{Q:Exit→Act→World→Prop}{S:World→Prop}{fuel:Nat}{listed:Array Bool}{a:Act}{w:World}(i:Nat)(d:Option Tmp){oi:Oper}(hi:ops[i]?=some oi)
  (hr:Region.ready md ops listed=[i]) (hw:Region.wanted oi (yielded ops a.tmps)=true) (ty:TypeId) (x:Operand) (ho:oi.op=.load ty x)
  (b o:Nat) (hx:a.eval x=.pointer (some ⟨b,o,none⟩)) (cs:List Value) (ds:TypeDesc) (hc:w.rangeAt b o cs) (hu:P.underlying ty=some ds) (hd:ds.isRow=true) (hsz:(P.info? ty).map (·.size)=some cs.length) (hdst:oi.dst=d) (hS:S w)
  (h:wpAnyH P md ops Q S fuel (listed.setIfInBounds i true) (a.put d (.agg cs.toArray)) w):wpAnyH P md ops Q S (fuel+1) listed a w:=by
 subst hdst
 exact oneH i hi hr hw (wp_load_mid ty x ho b o hx cs ds hc hu hd hsz ⟨hS,h⟩)
theorem oneStoreH {P:Program}{md:Region.Mode}{ops:Array Oper}{Q:Exit→Act→World→Prop}{S:World→Prop}{fuel:Nat}{listed:Array Bool}{a:Act}{w:World}(i:Nat){oi:Oper}(hi:ops[i]?=some oi)
  (hr:Region.ready md ops listed=[i]) (hw:Region.wanted oi (yielded ops a.tmps)=true) (ty:TypeId) (x y:Operand) (ho:oi.op=.store ty x y)
  (b o:Nat) (cs:List Value) (hx:a.eval x=.pointer (some ⟨b,o,none⟩)) (hy:a.eval y=.agg cs.toArray) (ht:w.there b o cs.length) (hsz:(P.info? ty).map (·.size)=some cs.length) (h1:∀v∈cs,v.oneCell'=true) (hdst:oi.dst=none) (hS:S (w.setCells b o cs))
  (h:wpAnyH P md ops Q S fuel (listed.setIfInBounds i true) a (w.setCells b o cs)):wpAnyH P md ops Q S (fuel+1) listed a w:=by
 refine oneH i hi hr hw (wp_store_mid ty x y ho b o cs.toArray hx hy (by simpa using ht) (by simpa using hsz) (all_oneCell_toArray h1) ?_)
 rw[hdst]
 exact⟨hS,h⟩
theorem oneCallH {P:Program}{md:Region.Mode}{ops:Array Oper}{Q:Exit→Act→World→Prop}{S:World→Prop}{fuel:Nat}{listed:Array Bool}{a:Act}{w:World}(i:Nat)(d:Option Tmp){oi:Oper}(hi:ops[i]?=some oi)
  (hr:Region.ready md ops listed=[i]) (hw:Region.wanted oi (yielded ops a.tmps)=true) (f:Nat) (args:Array Value)
  (he:(execOp a.eval oi).run P w=.ok (.enter f args) w) (hdst:oi.dst=d) (R:Value→World→Prop)
  (hc:Calls P f args w fun e w'=>∃v,e=.returned v∧R v w')
  (h:∀v w',R v w'→S w'∧wpAnyH P md ops Q S fuel (listed.setIfInBounds i true) (a.put d v) w'):wpAnyH P md ops Q S (fuel+1) listed a w:=by
 subst hdst
 refine oneH i hi hr hw ?_
 unfold Oper.wp
 rw[he]
 simp only[Oper.upon]
 refine hc.mono ?_
 rintro e w' ⟨v,rfl,hR⟩
 exact h v w' hR
def MixOK (mf:Nat)(mix:List UInt32→List UInt8→List UInt32):Prop :=
 (∀ws bl,(mix ws bl).length=8)∧(∀args w,(callFunc mf args).run Tryz.prog w=.ok (.enter mf args) w)∧∀ws bl w,ws.length=8→bl.length=64→Calls Tryz.prog mf #[.agg (wv ws).toArray,.agg (bv bl).toArray] w fun e w'=>e=.returned (.agg (wv (mix ws bl)).toArray)∧Below w.heap.size w w'
def sliceLen:Value→Nat | .slice _ k _=>k|_=>0
theorem slA (G o p:Nat)(hp:p<64)(w:World):(Instr.sliceAt 228 (.pointer (some ⟨G,o,none⟩)) (some (.int .i64 (p:Int))) none none).run Tryz.prog w=.ok (.slice (some ⟨G,o+p,none⟩) (64-p) (64-p)) w:=by
 have he:Tryz.prog.elem 228=5:=by kernel_rfl
 have hn:Tryz.prog.arrayLen 228=64:=by kernel_rfl
 have hz:(sizeOf 5).run Tryz.prog w=.ok 1 w:=by
  obtain⟨i0,hi,hz0,hz1,hz2⟩:=info_parts info8
  simp[sizeOf,typeInfo,hi,hz1]
 rw[run_sliceAt_array_l w 228 ⟨G,o,none⟩ (by rw[he,hn];exact Tryz.underlying228) .i64 (p:Int) (by omega) (by rw[hn];omega),he,hn,hz]
 simp only[Result.andThen,slicedAt,Int.toNat_natCast,Nat.mul_one,Addr.add_lit]
 rw[if_neg (by omega)]
attribute [local go_sem ↓] slA slB
theorem infoR8:(Tryz.prog.info? 5).map (·.size)=some 1:=by kernel_rfl
theorem digAdd (mf:Nat)(mix:List UInt32→List UInt8→List UInt32)(start:List UInt32)(hok:MixOK mf mix)(kc:List Value)(hk:kc.length=10)(hf:kc[9]?=some (.func (.func mf) #[] #[]))
  (G T:Nat) (ws:List UInt32) (buf:List UInt8) (A0 l:List UInt8) (a:Option Addr) (len cap:Nat) (w:World)
  (hw8:ws.length=8) (hb:Blk w G T (rc kc ws buf A0.length)) (hi:Inv mix start A0 A0.length ws buf) (hl:IsB w a len cap l) (hG:0<len→∀b off,a=some ⟨b,off,none⟩→b≠G) (hn:A0.length+len<9223372036854775808):
  Calls Tryz.prog 167 #[.pointer (some ⟨G,0,none⟩),.slice a len cap] w fun e w'=>e=.returned (.tuple #[])∧∃ws' buf',ws'.length=8∧Blk w' G T (rc kc ws' buf' (A0.length+len))∧Inv mix start (A0++l) (A0.length+len) ws' buf'∧w.grownBy w' (some G):=by
 obtain⟨n,hN⟩:∃n,n=A0.length:=⟨_,rfl⟩
 rw[←hN] at hb hi hn ⊢
 have HN:Hid (n=A0.length):=hN
 clear hN
 have c82:=(hb.cell 82).trans (rc_taken kc ws buf n hk hw8 hi.size)
 have f82:=hb.frozen 82
 have HB:Hid (Blk w G T (rc kc ws buf n)):=hb
 have HI:Hid (Inv mix start A0 n ws buf):=hi
 have HL:Hid (IsB w a len cap l):=hl
 have hle:=hl.le
 have hmx:=hl.max
 unfold maxLen at hmx
 clear hb hi hl
 go_enter Tryz.func167,Tryz.ntmps167
 go_wp2
 have H0:Hid (Blk (w.setCell ⟨G,82,none⟩ (.int .u64 ((n:Int)+(len:Int)))) G T (rc kc ws buf (n+len))):=by
  have:=HB.out.set 82 (.int .u64 ((n+len:Nat):Int))
  rw[rc_setTaken kc ws buf n (n+len) hk hw8 HI.out.size] at this
  unfold Hid;rw[show ((n:Int)+(len:Int))=((n+len:Nat):Int) by omega];exact this
 have H1:Hid (w.grownBy (w.setCell ⟨G,82,none⟩ (.int .u64 ((n:Int)+(len:Int)))) (some G)):=
  ⟨rfl,rfl,rfl,by simp[World.setCell],fun k _ hk=>Below.heap_setCell _ _ _ _ (fun e=>hk (by rw[e]))⟩
 have H2:Hid (IsB (w.setCell ⟨G,82,none⟩ (.int .u64 ((n:Int)+(len:Int)))) a len cap l):=
  ⟨HL.out.len_eq,HL.out.le,HL.out.max,HL.out.nil,fun hp=>by
   obtain⟨b,off,e,hc⟩:=HL.out.cells hp
   exact⟨b,off,e,fun i hi=>by rw[World.cell?_setCell_other _ _ _ _ (fun e'=>hG hp b off e (by injection e' with e1;exact e1.symm))];exact hc i hi⟩⟩
 have HE:Hid (l.length=len):=HL.out.len_eq
 clear c82 f82 HB HL
 go_loopw [1,4] (fun v i wr=>∃(c p:Nat) (a':Option Addr) (cap':Nat) (ws':List UInt32) (buf':List UInt8),c≤len∧Hid ((n+c)%64=p)∧p<64∧v=.slice a' (len-c) cap'∧i=.int .i64 (p:Int)∧Hid (IsB wr a' (len-c) cap' (l.drop c))∧(0<len-c→∀b off,a'=some ⟨b,off,none⟩→b≠G)∧Hid (ws'.length=8)∧Blk wr G T (rc kc ws' buf' (n+len))∧Hid (Inv mix start (A0++l) (n+c) ws' buf')∧w.grownBy wr (some G))
  (fun v _ _=>sliceLen v)
 case atStart=>exact⟨0,n%64,a,cap,ws,buf,by omega,rfl,Nat.mod_lt _ (by decide),rfl,by go_num,H2.out,hG,hw8,H0.out,HI.out.more (by rw[HN.out];exact Nat.le_refl _) l,H1.out⟩
 case round =>
  clear H0 H1 H2 HI hG hw8
  obtain⟨c,p,a',cap',ws',buf',hc,hp,hp64,rfl,rfl,hl',hG',hw8',hB,hI,hg⟩:=hrel
  obtain⟨r,hr⟩:∃r,len-c=r:=⟨_,rfl⟩
  rw[hr] at hl' hG' ⊢
  have Hr:Hid (len-c=r):=hr
  clear hr
  by_cases hr0:0<r
  ·obtain⟨b,off,rfl,hcell⟩:=hl'.out.cells hr0
   have hbG:=hG' hr0 b off rfl
   obtain⟨m,hm1,hm2,hm3,hm4⟩:∃m,m≤r∧m≤64-p∧0<m∧Nat.min r (64-p)=m:=⟨Nat.min r (64-p),Nat.min_le_left _ _,Nat.min_le_right _ _,by show 0<min r (64-p);omega,rfl⟩
   obtain⟨x,hx⟩:∃x,x=(l.drop c).take m:=⟨_,rfl⟩
   have hxl:x.length=m:=by rw[hx,List.length_take,hl'.out.len_eq];omega
   have HX:Hid (x=(l.drop c).take m):=hx
   have hcs:∀j v,(bv x)[j]?=some v→wr.cell? ((⟨b,off,none⟩:Addr).add j)=some v:=by
    intro j v hj
    have hjl:j<x.length:=by
     rcases Nat.lt_or_ge j x.length with h|h
     ·exact h
     ·rw[List.getElem?_eq_none (by rw[bv_length];exact h)] at hj;cases hj
    rw[bv_at x j hjl] at hj
    rw[Addr.add_lit,hcell j (by omega),←hj,hx,nth_take _ _ _ (by omega)]
   have hrun:(Builtin.copy_ #[33,33] 3 #[.slice (some ⟨G,18+p,none⟩) (64-p) (64-p),.slice (some ⟨b,off,none⟩) r cap']).run Tryz.prog wr=.ok (.int .i64 (m:Int)) (wr.setRow G (rc kc ws' (spl buf' p x) (n+len)).toArray):=by
    have h:=run_copy_row (P:=Tryz.prog) wr 33 33 3 5 G (18+p) (64-p) (64-p) ⟨b,off,none⟩ r cap' _ T (bv x) Tryz.underlying33 infoR8 hB (by rw[bv_length,hxl,hm4]) hcs (by rw[bv_length,List.size_toArray,rc_length kc ws' buf' (n+len) hk hw8'.out hI.out.size];omega) (bv_one x)
    rw[h]
    have hrc:=rc_copy kc ws' buf' (n+len) p x hk hw8'.out hI.out.size (by omega)
    rw[List.append_assoc]
    show Result.ok _ (wr.setRow G ((rc kc ws' buf' (n+len)).take (18+p)++(bv x++(rc kc ws' buf' (n+len)).drop (18+p+(bv x).length))).toArray)=_
    rw[hrc,bv_length,hxl];rfl
   have B2:Hid (Blk (wr.setRow G (rc kc ws' (spl buf' p x) (n+len)).toArray) G T (rc kc ws' (spl buf' p x) (n+len))):=hB.row _
   have g2:Hid (w.grownBy (wr.setRow G (rc kc ws' (spl buf' p x) (n+len)).toArray) (some G)):=
    ⟨hg.os,hg.tape,hg.output,by have:=hg.size;simpa [World.setRow] using this,fun k hk0 hk1=>by rw[setRow_other _ _ _ _ (fun e=>hk1 (by rw[e]))];exact hg.block k hk0 hk1⟩
   have L2:Hid (IsB (wr.setRow G (rc kc ws' (spl buf' p x) (n+len)).toArray) (cutA b off cap' m) (r-m) (cap'-m) (l.drop (c+m))):=by
    have hle':=hl'.out.le
    refine⟨by rw[List.length_drop,HE.out];have:=Hr.out;omega,by omega,by have:=hl'.out.max;omega,fun e=>(by unfold cutA at e;cases e),fun hp=>⟨b,off+m,by unfold cutA;rw[if_neg (by omega)],fun i hi=>?_⟩⟩
    rw[cell_setRow_other _ _ _ _ hbG,Nat.add_assoc,hcell (m+i) (by omega),nth_drop,nth_drop,Nat.add_assoc]
   have hcut:∀b' off',cutA b off cap' m=some ⟨b',off',none⟩→b'≠G:=by
    intro b' off' e
    unfold cutA at e
    split at e<;>(injection e with e;injection e with e1 _;rw[←e1];exact hbG)
   have hA:((A0++l).drop (n+c)).take m=x:=by
    rw[hx,HN.out,List.drop_append,List.drop_eq_nil_of_le (by omega),List.nil_append]
    congr 2;omega
   have hAl:n+c+m≤(A0++l).length:=by rw[List.length_append,HE.out,←HN.out];have:=Hr.out;omega
   have I1:Hid (p+m<64→Inv mix start (A0++l) (n+(c+m)) ws' (spl buf' p x)):=by
    intro h
    have:=hI.out.part (m:=m) hAl (by rw[hp.out];exact h)
    rw[hA,hp.out,Nat.add_assoc] at this;exact this
   have I2:Hid (p+m=64→Inv mix start (A0++l) (n+(c+m)) (mix ws' (spl buf' p x)) (spl buf' p x)):=by
    intro h
    have:=hI.out.full (m:=m) hAl (by rw[hp.out];exact h)
    rw[hA,hp.out,Nat.add_assoc] at this;exact this
   have hsz2:Hid ((spl buf' p x).length=64):=by unfold Hid;rw[spl_length _ _ _ (by rw[hI.out.size];omega)];exact hI.out.size
   clear hcs hcell hB hg hI hx hA hAl hxl
   by_cases hfull:p+m=64
   ·have heq:((p:Int)+(m:Int)==64)=true:=by simp;omega
    have hpm:(p:Int)+(m:Int)=64:=by omega
    go_wp2
    obtain⟨bf,hbf⟩:∃bf,bf=spl buf' p x:=⟨_,rfl⟩
    rw[←hbf] at B2 g2 L2 I2 hsz2 hrun ⊢
    refine wp_named (fun w2=>Blk w2 G T (rc kc ws' bf (n+len))∧IsB w2 (cutA b off cap' m) (r-m) (cap'-m) (l.drop (c+m))∧w.grownBy w2 (some G)) ⟨B2.out,L2.out,g2.out⟩ ?_
    clear B2 L2 g2 hrun hbf I1
    rintro w2 ⟨B2,L2,g2⟩
    have r9:=(B2.cell 9).trans ((rc_kind kc ws' bf (n+len) 9 hk (by omega)).trans hf)
    have rw8:w2.rangeAt G 10 (wv ws'):=B2.range 10 _ (fun j v hj=>by
     have hjl:j<ws'.length:=by
      rcases Nat.lt_or_ge j ws'.length with h|h
      ·exact h
      ·rw[List.getElem?_eq_none (by rw[wv_length];exact h)] at hj;cases hj
     rw[wv_at ws' j hjl] at hj
     rw[rc_word kc ws' bf (n+len) j hk hw8'.out (by have:=hw8'.out;omega)];exact hj)
    have rb64:w2.rangeAt G 18 (bv bf):=B2.range 18 _ (fun j v hj=>by
     have hjl:j<bf.length:=by
      rcases Nat.lt_or_ge j bf.length with h|h
      ·exact h
      ·rw[List.getElem?_eq_none (by rw[bv_length];exact h)] at hj;cases hj
     rw[bv_at bf j hjl] at hj
     rw[rc_byte kc ws' bf (n+len) j hk hw8'.out hsz2.out (by have:=hsz2.out;omega)];exact hj)
    have th8:w2.there G 10 8:=B2.there 10 8 (by rw[rc_length kc ws' bf (n+len) hk hw8'.out hsz2.out];omega)
    have hu35:=Tryz.underlying224
    have hi35:(Tryz.prog.info? 224).map (·.size)=some (wv ws').length:=by rw[wv_length,hw8'.out];kernel_rfl
    have hi35':(Tryz.prog.info? 224).map (·.size)=some (wv (mix ws' bf)).length:=by rw[wv_length,hok.1];kernel_rfl
    have hu51:=Tryz.underlying228
    have hi51:(Tryz.prog.info? 228).map (·.size)=some (bv bf).length:=by rw[bv_length,hsz2.out];kernel_rfl
    have hl35:(wv ws').length=8:=by rw[wv_length,hw8'.out]
    have hl35':(wv (mix ws' bf)).length=8:=by rw[wv_length,hok.1]
    have hl51:(bv bf).length=64:=by rw[bv_length,hsz2.out]
    have ho35:=wv_one ws'
    have ho35':=wv_one (mix ws' bf)
    have ho51:=bv_one bf
    have HB2:Hid (Blk w2 G T (rc kc ws' bf (n+len))):=B2
    have HL2:Hid (IsB w2 (cutA b off cap' m) (r-m) (cap'-m) (l.drop (c+m))):=L2
    clear B2 L2
    refine wp_region_noPanic ?_
    refine wp_region_held_drew (S:=fun w'=>w'.cell? ⟨G,9,none⟩=some (.func (.func mf) #[] #[])∧w'.rangeAt G 18 (bv bf)∧w'.there G 10 8) (by kernel_rfl) ⟨r9,rb64,th8⟩ (fun hHeld=>?_)
    refine takeH (some 40) (i:=0) (v:=?_) rfl (by kernel_rfl) (by kernel_rfl) (by kernel_rfl) (fun _ _ _ h=>h) (Or.inl ⟨by rfl,?_⟩) hHeld rfl ?_
    rotate_left
    ·intro w hSw;obtain⟨hS1,hS2,hS3⟩:=hSw;go_simp;with_reducible rfl
    simp only[Act.put,sIx,sZ0,sZ1]
    refine takeH (some 41) (i:=1) (v:=?_) rfl (by kernel_rfl) (by kernel_rfl) (by kernel_rfl) (fun _ _ _ h=>h) (Or.inl ⟨by rfl,?_⟩) hHeld rfl ?_
    rotate_left
    ·intro w hSw;obtain⟨hS1,hS2,hS3⟩:=hSw;go_simp;with_reducible rfl
    simp only[Act.put,sIx,sZ0,sZ1]
    refine takeH (some 42) (i:=2) (v:=?_) rfl (by kernel_rfl) (by kernel_rfl) (by kernel_rfl) (fun _ _ _ h=>h) (Or.inl ⟨by rfl,?_⟩) hHeld rfl ?_
    rotate_left
    ·intro w hSw;obtain⟨hS1,hS2,hS3⟩:=hSw;go_simp;with_reducible rfl
    simp only[Act.put,sIx,sZ0,sZ1]
    refine takeH (some 43) (i:=3) (v:=?_) rfl (by kernel_rfl) (by kernel_rfl) (by kernel_rfl) (fun _ _ _ h=>h) (Or.inl ⟨by rfl,?_⟩) hHeld rfl ?_
    rotate_left
    ·intro w hSw;obtain⟨hS1,hS2,hS3⟩:=hSw;go_simp;with_reducible rfl
    simp only[Act.put,sIx,sZ0,sZ1]
    refine takeH (some 44) (i:=4) (v:=?_) rfl (by kernel_rfl) (by kernel_rfl) (by kernel_rfl) (fun _ _ _ h=>h) (Or.inl ⟨by rfl,?_⟩) hHeld rfl ?_
    rotate_left
    ·intro w hSw;obtain⟨hS1,hS2,hS3⟩:=hSw;go_simp;with_reducible rfl
    simp only[Act.put,sIx,sZ0,sZ1]
    refine takeH (some 45) (i:=5) (v:=?_) rfl (by kernel_rfl) (by kernel_rfl) (by kernel_rfl) (fun _ _ _ h=>h) (Or.inl ⟨by rfl,?_⟩) hHeld rfl ?_
    rotate_left
    ·intro w hSw;obtain⟨hS1,hS2,hS3⟩:=hSw;go_simp;with_reducible rfl
    simp only[Act.put,sIx,sZ0,sZ1]
    refine takeH (some 46) (i:=6) (v:=?_) rfl (by kernel_rfl) (by kernel_rfl) (by kernel_rfl) (fun _ _ _ h=>h) (Or.inl ⟨by rfl,?_⟩) hHeld rfl ?_
    rotate_left
    ·intro w hSw;obtain⟨hS1,hS2,hS3⟩:=hSw;go_simp;with_reducible rfl
    simp only[Act.put,sIx,sZ0,sZ1]
    refine takeH (some 47) (i:=7) (v:=?_) rfl (by kernel_rfl) (by kernel_rfl) (by kernel_rfl) (fun _ _ _ h=>h) (Or.inl ⟨by rfl,?_⟩) hHeld rfl ?_
    rotate_left
    ·intro w hSw;obtain⟨hS1,hS2,hS3⟩:=hSw;go_simp;with_reducible rfl
    simp only[Act.put,sIx,sZ0,sZ1]
    refine takeH (some 48) (i:=8) (v:=?_) rfl (by kernel_rfl) (by kernel_rfl) (by kernel_rfl) (fun _ _ _ h=>h) (Or.inl ⟨by rfl,?_⟩) hHeld rfl ?_
    rotate_left
    ·intro w hSw;obtain⟨hS1,hS2,hS3⟩:=hSw;go_simp;with_reducible rfl
    simp only[Act.put,sIx,sZ0,sZ1]
    refine takeH (some 50) (i:=10) (v:=?_) rfl (by kernel_rfl) (by kernel_rfl) (by kernel_rfl) (fun _ _ _ h=>h) (Or.inl ⟨by rfl,?_⟩) hHeld rfl ?_
    rotate_left
    ·intro w hSw;obtain⟨hS1,hS2,hS3⟩:=hSw;go_simp;with_reducible rfl
    simp only[Act.put,sIx,sZ0,sZ1]
    refine takeH (some 51) (i:=11) (v:=?_) rfl (by kernel_rfl) (by kernel_rfl) (by kernel_rfl) (fun _ _ _ h=>h) (Or.inl ⟨by rfl,?_⟩) hHeld rfl ?_
    rotate_left
    ·intro w hSw;obtain⟨hS1,hS2,hS3⟩:=hSw;go_simp;with_reducible rfl
    simp only[Act.put,sIx,sZ0,sZ1]
    refine takeH (some 52) (i:=12) (v:=?_) rfl (by kernel_rfl) (by kernel_rfl) (by kernel_rfl) (fun _ _ _ h=>h) (Or.inl ⟨by rfl,?_⟩) hHeld rfl ?_
    rotate_left
    ·intro w hSw;obtain⟨hS1,hS2,hS3⟩:=hSw;go_simp;with_reducible rfl
    simp only[Act.put,sIx,sZ0,sZ1]
    refine takeH (some 53) (i:=13) (v:=.agg (bv bf).toArray) rfl (by kernel_rfl) (by kernel_rfl) (by kernel_rfl) (fun _ _ _ h=>h) (yieldsIf_load_mid (by rfl) _ _ rfl G 18 rfl (bv bf) _ (fun w h=>h.2.1) hu51 rfl hi51) hHeld rfl ?_
    simp only[Act.put,sIx,sZ0,sZ1]
    refine oneLoadH 9 (some 49) rfl (by kernel_rfl) (by rfl) _ _ rfl G 10 rfl (wv ws') _ rw8 hu35 rfl hi35 rfl hHeld ?_
    simp only[Act.put,sIx,sZ0,sZ1]
    refine oneCallH 14 (some 54) rfl (by kernel_rfl) (by rfl) mf #[.agg (wv ws').toArray,.agg (bv bf).toArray] ?_ rfl (fun v w3=>v=.agg (wv (mix ws' bf)).toArray∧Below w2.heap.size w2 w3) ?_ ?_
    ·have hcf:=hok.2.1 #[.agg (wv ws').toArray,.agg (bv bf).toArray] w2.drew
     go_simp
    ·exact(hok.2.2 ws' bf w2.drew hw8'.out hsz2.out).mono (by rintro e w3 ⟨rfl,h⟩;exact⟨_,rfl,rfl,⟨h.os,h.tape,h.output,h.size,h.block⟩⟩)
    rintro v w3 ⟨rfl,bel3⟩
    have B3:=HB2.out.on bel3
    have r9':=(B3.cell 9).trans ((rc_kind kc ws' bf (n+len) 9 hk (by omega)).trans hf)
    have th8':w3.there G 10 8:=B3.there 10 8 (by rw[rc_length kc ws' bf (n+len) hk hw8'.out hsz2.out];omega)
    have rb64':w3.rangeAt G 18 (bv bf):=fun j v hj=>by rw[bel3.cell (p:=⟨G,18+j,none⟩) HB2.out.lt];exact rb64 j v hj
    refine⟨⟨r9',rb64',th8'⟩,?_⟩
    simp only[Act.put,sIx,sZ0,sZ1]
    have hHeld:w3.cell? ⟨G,9,none⟩=some (.func (.func mf) #[] #[])∧w3.rangeAt G 18 (bv bf)∧w3.there G 10 8:=⟨r9',rb64',th8'⟩
    refine takeH (some 55) (i:=15) (v:=?_) rfl (by kernel_rfl) (by kernel_rfl) (by kernel_rfl) (fun _ _ _ h=>h) (Or.inl ⟨by rfl,?_⟩) hHeld rfl ?_
    rotate_left
    ·intro w hSw;obtain⟨hS1,hS2,hS3⟩:=hSw;go_simp;with_reducible rfl
    simp only[Act.put,sIx,sZ0,sZ1]
    refine takeH (some 56) (i:=16) (v:=?_) rfl (by kernel_rfl) (by kernel_rfl) (by kernel_rfl) (fun _ _ _ h=>h) (Or.inl ⟨by rfl,?_⟩) hHeld rfl ?_
    rotate_left
    ·intro w hSw;obtain⟨hS1,hS2,hS3⟩:=hSw;go_simp;with_reducible rfl
    simp only[Act.put,sIx,sZ0,sZ1]
    have B4:=Blk.setCells (wv (mix ws' bf)) 10 w3 _ (by rw[hl35',rc_length kc ws' bf (n+len) hk hw8'.out hsz2.out];omega) B3
    rw[hl35',rc_words kc ws' (mix ws' bf) bf (n+len) hk hw8'.out] at B4
    have hb4:(mix ws' bf).length=8:=hok.1 _ _
    refine oneStoreH 17 rfl (by kernel_rfl) (by rfl) _ _ _ rfl G 10 (wv (mix ws' bf)) rfl rfl (by rw[hl35'];exact th8') hi35' (wv_one _) rfl ⟨?_,?_,?_⟩ ?_
    ·exact(B4.cell 9).trans ((rc_kind kc (mix ws' bf) bf (n+len) 9 hk (by omega)).trans hf)
    ·exact World.rangeAt_setCells_apart rb64' _ _ _ (.inr (.inr (by rw[hl35'];omega)))
    ·exact World.there_setCells th8' _ _ _
    refine wpAnyH_done (by kernel_rfl) ?_ _
    refine NoPanic.normal ?_
    go_wp2
    go_roundw
    case rel=>exact⟨c+m,0,cutA b off cap' m,cap'-m,mix ws' bf,bf,by have:=Hr.out;omega,by have:=hp.out;unfold Hid;omega,by omega,by have:=Hr.out;rw[show len-(c+m)=r-m by omega],rfl,by have:=Hr.out;rw[show len-(c+m)=r-m by omega];exact(HL2.out.below bel3 rfl).setCells G 10 _ (fun _=>hcut),fun _=>hcut,hb4,B4,I2.out hfull,gb_setCells (gb_below g2 bel3) 10 _⟩
    case measure=>simp[sliceLen];omega
   ·have hne:((p:Int)+(m:Int)==64)=false:=by simp;omega
    go_wp2
    go_roundw
    case rel=>exact⟨c+m,p+m,cutA b off cap' m,cap'-m,ws',spl buf' p x,by have:=Hr.out;omega,by have:=hp.out;unfold Hid;omega,by omega,by have:=Hr.out;rw[show len-(c+m)=r-m by omega],by go_num,by have:=Hr.out;rw[show len-(c+m)=r-m by omega];exact L2.out,fun _=>hcut,hw8',B2.out,I1.out (by omega),g2.out⟩
    case measure=>simp[sliceLen];omega
  ·have hr00:r=0:=by omega
   subst hr00
   have hcl:c=len:=by have:=Hr.out;omega
   go_wp2
   go_end0
   refine⟨rfl,ws',buf',hw8'.out,hB,?_,hg⟩
   have:=hI.out
   rw[hcl] at this;exact this
end
section
def zN (n:Nat):Nat:=(119-n%64)%64
theorem zN_lt (n:Nat):zN n<64:=Nat.mod_lt _ (by decide)
theorem zN_wrap (n:Nat):IntKind.u64.wrap (55-(n:Int))%64=(zN n:Int):=by
 unfold zN
 simp[IntKind.wrap,IntKind.signed,IntKind.bits]
 omega
theorem zN_tmod (n:Nat):(IntKind.u64.wrap (55-(n:Int))).tmod 64=(zN n:Int):=by
 rw[Int.tmod_eq_emod_of_nonneg (by simp[IntKind.wrap,IntKind.signed,IntKind.bits];omega)];exact zN_wrap n
def be (N i:Nat):UInt8:=UInt8.ofNat (N/2 ^ (56-8 * i))
def be8 (N:Nat):List UInt8:=(List.range 8).map (be N)
def padOf (n:Nat):List UInt8:=128::(List.replicate (zN n) 0++be8 (n * 8))
theorem padOf_length (n:Nat):(padOf n).length=1+zN n+8:=by simp[padOf,be8];omega
theorem nth_set (l:List UInt8)(i k:Nat)(x:UInt8)(h:i<l.length):nth (l.set i x) k=if k=i then x else nth l k:=by
 unfold nth
 rw[List.getD_eq_getElem?_getD,List.getD_eq_getElem?_getD,List.getElem?_set]
 by_cases e:i=k
 ·subst e;simp[h]
 ·rw[if_neg e,if_neg (fun e'=>e e'.symm)]
theorem nth_replicate (n k:Nat):nth (List.replicate n 0) k=0:=by
 unfold nth;rw[List.getD_eq_getElem?_getD,List.getElem?_replicate];split<;>rfl
theorem nth_range (f:Nat→UInt8)(n k:Nat)(h:k<n):nth ((List.range n).map f) k=f k:=by
 rw[nth_eq _ _ (by simpa using h)];simp
def pl (z N:Nat):Nat→List UInt8
 | 0=>(List.replicate 72 0).set 0 128
 | j+1=>(pl z N j).set (1+z+j) (be N j)
theorem pl_length (z N:Nat):∀j,(pl z N j).length=72
 | 0=>by simp[pl]
 | j+1=>by rw[pl,List.length_set];exact pl_length z N j
theorem pl_nth (z N:Nat)(hz:z<64):∀j,j≤8→∀i,i<72→nth (pl z N j) i=if i=0 then 128 else if 1+z≤i∧i<1+z+j then be N (i-(1+z)) else 0
 | 0,_,i,hi=>by
  rw[pl,nth_set _ _ _ _ (by simp),nth_replicate]
  by_cases e:i=0
  ·rw[if_pos e,if_pos e]
  ·rw[if_neg e,if_neg e,if_neg (by omega)]
 | j+1,hj,i,hi=>by
  rw[pl,nth_set _ _ _ _ (by rw[pl_length];omega),pl_nth z N hz j (by omega) i hi]
  by_cases e:i=1+z+j
  ·rw[if_pos e,if_neg (by omega),if_pos (by omega)]
   congr 1;omega
  ·rw[if_neg e]
   by_cases e0:i=0
   ·rw[if_pos e0,if_pos e0]
   ·rw[if_neg e0,if_neg e0]
    by_cases e1:1+z≤i∧i<1+z+j
    ·rw[if_pos e1,if_pos (by omega)]
    ·rw[if_neg e1,if_neg (by omega)]
theorem pl_take (n:Nat):(pl (zN n) (n * 8) 8).take (1+zN n+8)=padOf n:=by
 have hz:=zN_lt n
 refine extNth _ _ (by rw[List.length_take,pl_length,padOf_length];omega) fun i hi=>?_
 rw[List.length_take,pl_length] at hi
 rw[nth_take _ _ _ (by omega),pl_nth _ _ hz 8 (by omega) i (by omega)]
 unfold padOf
 by_cases e0:i=0
 ·subst e0;rw[if_pos rfl];rfl
 ·rw[if_neg e0]
  obtain⟨k,rfl⟩:∃k,i=k+1:=⟨i-1,by omega⟩
  have:nth (128::(List.replicate (zN n) 0++be8 (n * 8))) (k+1)=nth (List.replicate (zN n) 0++be8 (n * 8)) k:=by simp[nth]
  rw[this]
  by_cases e1:k<zN n
  ·rw[if_neg (by omega),nth_append_left _ _ _ (by simpa using e1),nth_replicate]
  ·rw[if_pos (by omega),nth_append_right _ _ _ (by simpa using e1),List.length_replicate]
   unfold be8
   rw[nth_range _ _ _ (by omega)]
   congr 1;omega
def dgW (ws:List UInt32)(i:Nat):UInt8:=UInt8.ofNat ((nthW ws (i/4)).toNat/2 ^ (24-8 * (i%4)))
def outB (ws:List UInt32)(k:Nat):List UInt8:=(List.range k).map (dgW ws)
theorem outB_length (ws:List UInt32)(k:Nat):(outB ws k).length=k:=by simp[outB]
theorem outB_succ (ws:List UInt32)(k:Nat):outB ws (k+1)=outB ws k++[dgW ws k]:=by
 unfold outB;rw[List.range_succ,List.map_append];rfl
def outF (ws:List UInt32)(n k:Nat):List UInt8:=outB ws k++List.replicate (n-k) 0
theorem outF_length (ws:List UInt32)(n k:Nat)(h:k≤n):(outF ws n k).length=n:=by simp[outF,outB_length];omega
theorem outF_set (ws:List UInt32)(n k:Nat)(h:k<n):(outF ws n k).set k (dgW ws k)=outF ws n (k+1):=by
 unfold outF
 obtain⟨m,hm⟩:∃m,n-k=m+1:=⟨n-k-1,by omega⟩
 have hm':n-(k+1)=m:=by omega
 rw[hm,hm',outB_succ,List.set_append_right _ _ (by rw[outB_length];exact Nat.le_refl _),outB_length,Nat.sub_self,List.replicate_succ,List.set_cons_zero,List.append_assoc]
 rfl
def hashL (mix:List UInt32→List UInt8→List UInt32)(start:List UInt32)(size:Nat)(A:List UInt8):List UInt8 :=
 outB (ab mix start (A++padOf A.length) ((A.length+(1+zN A.length+8))/64)) size
theorem be_val (n i:Nat):(n:Int) * 8/2 ^ (56-8 * i)%256=((be (n * 8) i).toNat:Int):=by
 unfold be;rw[UInt8.toNat_ofNat',Int.natCast_emod,Int.natCast_ediv,Int.natCast_mul,Int.natCast_pow];rfl
theorem dgW_val (ws:List UInt32)(i:Nat):((nthW ws (i/4)).toNat:Int)/2 ^ (24-8 * (i%4))%256=((dgW ws i).toNat:Int):=by
 unfold dgW;rw[UInt8.toNat_ofNat',Int.natCast_emod,Int.natCast_ediv,Int.natCast_pow];rfl
end
section
open Go.RowKit
theorem zero72:(Tryz.prog.info? 257).map (·.zero)=some (some (.agg (bv (List.replicate 72 0)).toArray)):=by kernel_rfl
theorem zv72 (w:World):(zeroValue 257).run Tryz.prog w=.ok (.agg (bv (List.replicate 72 0)).toArray) w:=by
 have h:=zero72
 cases hq:Tryz.prog.info? 257 with
 | none=>rw[hq] at h;cases h
 | some i =>
  rw[hq] at h
  have hz:i.zero=some (.agg (bv (List.replicate 72 0)).toArray):=by simpa using h
  simp[zeroValue,typeInfo,hq,hz]
theorem slP (G z:Nat)(hz:z<64)(w:World):(Instr.sliceAt 257 (.pointer (some ⟨G,0,none⟩)) none (some (.int .i64 (1+(z:Int)+8))) none).run Tryz.prog w=.ok (.slice (some ⟨G,0,none⟩) (1+z+8) 72) w:=by
 have he:Tryz.prog.elem 257=5:=by kernel_rfl
 have hn:Tryz.prog.arrayLen 257=72:=by kernel_rfl
 have hz1:(sizeOf 5).run Tryz.prog w=.ok 1 w:=by
  obtain⟨i0,hi,hz0,hz1,hz2⟩:=info_parts info8
  simp[sizeOf,typeInfo,hi,hz1]
 rw[run_sliceAt_array_h w 257 ⟨G,0,none⟩ (by rw[he,hn];exact Tryz.underlying257) .i64 (1+(z:Int)+8) (by omega) (by rw[hn];omega),he,hn,hz1]
 have e:(1+(z:Int)+8).toNat=1+z+8:=by omega
 simp only[Result.andThen,slicedAt,e]
 rfl
attribute [local go_sem ↓] zv72 slP
theorem digSum (mf:Nat)(mix:List UInt32→List UInt8→List UInt32)(start:List UInt32)(hok:MixOK mf mix)(size:Nat)(hsz:size≤32)(kc:List Value)(hk:kc.length=10)(hf:kc[9]?=some (.func (.func mf) #[] #[]))(hk0:kc[0]?=some (.int .i64 (size:Int)))
  (ws:List UInt32) (buf:List UInt8) (A:List UInt8) (w:World) (hw8:ws.length=8) (hi:Inv mix start A A.length ws buf) (hn:A.length<4294967296):
  Calls Tryz.prog 168 #[.agg (rc kc ws buf A.length).toArray] w fun e w'=>∃v,e=.returned v∧OwnB w' w.heap.size v (hashL mix start size A)∧Below w.heap.size w w':=by
 obtain⟨n,hN⟩:∃n,n=A.length:=⟨_,rfl⟩
 rw[←hN] at hi hn ⊢
 have HN:Hid (n=A.length):=hN
 clear hN
 have HI:Hid (Inv mix start A n ws buf):=hi
 have HB:Hid (Blk (w.alloc (.cells (rc kc ws buf n).toArray 230)) w.heap.size 230 (rc kc ws buf n)):=Blk.new w _ _
 have c82:(w.alloc (.cells (rc kc ws buf n).toArray 230)).cell? ⟨w.heap.size,82,none⟩=some (.int .u64 (n:Int)):=(HB.out.cell 82).trans (rc_taken kc ws buf n hk hw8 hi.size)
 have hz:=zN_tmod n
 have hz64:=zN_lt n
 generalize hzz:zN n=z at *
 have HZ:Hid (zN n=z):=hzz
 clear hzz hi
 go_enter Tryz.func168,Tryz.ntmps168
 go_wp2
 go_loopw [18] (fun c wr=>∃j:Nat,j≤8∧c=.int .i64 j∧Blk wr w.heap.size 230 (rc kc ws buf n)∧Blk wr (w.heap.size+1) 257 (bv (pl z (n * 8) j))∧Below w.heap.size w wr) (fun c _=>8-(intOf c).toNat)
 case atStart=>exact⟨0,by omega,rfl,(Blk.newAt w _ _ _ _ rfl rfl).alloc _,Blk.newAt _ _ _ _ (bv (pl z (n * 8) 0)) (by simp) rfl,((Below.refl _ _).alloc (Nat.le_refl _) _).alloc (by simp) _⟩
 case round =>
  clear c82 HB
  obtain⟨j,hj,rfl,b0,b1,hbel⟩:=hrel
  by_cases hlt:j<8
  ·have hc:=(b1.cell (1+z+j)).trans (bv_at _ (1+z+j) (by rw[pl_length];omega))
   have ff:=b1.frozen (1+z+j)
   have HV:Hid ((n:Int) * 8/2 ^ (56-8 * j)%256=((be (n * 8) j).toNat:Int)):=be_val n j
   have HS:Hid (Blk (wr.setCell ⟨w.heap.size+1,1+z+j,none⟩ (.int .u8 ((be (n * 8) j).toNat:Int))) (w.heap.size+1) 257 (bv (pl z (n * 8) (j+1)))):=by
    have:=b1.set (1+z+j) (.int .u8 ((be (n * 8) j).toNat:Int))
    have e:(bv (pl z (n * 8) j)).set (1+z+j) (.int .u8 ((be (n * 8) j).toNat:Int))=bv (pl z (n * 8) (j+1)):=by rw[pl];unfold bv;rw[List.map_set]
    rw[e] at this;exact this
   have H0:Hid (Blk wr w.heap.size 230 (rc kc ws buf n)):=b0
   clear b0 b1
   have h1:1+(z:Int)+(j:Int)<72:=by omega
   have h2:(0:Int)≤1+(z:Int)+(j:Int):=by omega
   have h3:(0:Int)≤56-8 * (j:Int):=by omega
   have h4:56-8 * (j:Int)≤64:=by omega
   go_wp2
   go_roundw
   case rel=>exact⟨j+1,by omega,by go_num,H0.out.other _ _ (by show w.heap.size≠w.heap.size+1;omega),by rw[HV.out];exact HS.out,hbel.setCell (by show w.heap.size≤w.heap.size+1;omega) _⟩
   case measure=>simp[intOf];omega
  ·have b1:Blk wr (w.heap.size+1) 257 (bv (pl z (n * 8) 8)):=by
    have e:j=8:=by omega
    subst e;exact b1
   have HP:Hid (IsB wr (some ⟨w.heap.size+1,0,none⟩) (1+z+8) 72 (padOf n)):=by
    refine⟨by rw[padOf_length,HZ.out],by omega,by decide,fun e=>(by cases e),fun _=>⟨w.heap.size+1,0,rfl,fun i hi=>?_⟩⟩
    rw[Nat.zero_add,b1.cell,bv_at _ _ (by rw[pl_length];omega),←pl_take n,HZ.out,nth_take _ _ _ (by omega)]
   have HB2:Hid (Blk wr w.heap.size 230 (rc kc ws buf n)):=b0
   clear b0 b1
   go_wp2_with fail
   have hadd:=digAdd mf mix start hok kc hk hf w.heap.size 230 ws buf A (padOf n) (some ⟨w.heap.size+1,0,none⟩) (1+z+8) 72 wr hw8 (by rw[←HN.out];exact HB2.out) (by rw[←HN.out];exact HI.out) HP.out (fun _ b off e=>by injection e with e;injection e with e1 _;omega) (by rw[←HN.out];omega)
   rw[←HN.out] at hadd
   refine hadd.mono ?_
   rintro e w3 ⟨rfl,ws',buf',hw8',b3,hI3,hg3⟩
   have hbel3:Below w.heap.size w w3:=hbel.grown hg3 hbel.size (fun k hk=>by injection hk with hk;omega)
   have HW:Hid (ws'=ab mix start (A++padOf n) ((n+(1+z+8))/64)):=hI3.words
   have hb3:Hid (buf'.length=64):=hI3.size
   clear hadd hI3 hg3 hbel HB2 HP
   have c0:w3.cell? ⟨w.heap.size,0,none⟩=some (.int .i64 (size:Int)):=(b3.cell 0).trans ((rc_kind kc ws' buf' _ 0 hk (by omega)).trans hk0)
   go_wp2_with (at_make;refine make_full8 _ rfl _ _ rfl w.heap.size .i64 .i64 _ _ size rfl rfl rfl rfl (by omega) hbel3.size ?_;intro w4 hown4 hgrow4)
   have b4:Blk w4 w.heap.size 230 (rc kc ws' buf' (n+(1+z+8))):=by
    unfold Blk;rw[hgrow4.block _ b3.lt (by intro e;cases e)];exact b3
   have hbel4:Below w.heap.size w w4:=hbel3.grown hgrow4 hbel3.size (fun k hk=>by cases hk)
   have hG3:w.heap.size<w3.heap.size:=b3.lt
   clear b3 hbel3 hgrow4 c0 hlt hj hz
   generalize hg3:w3.heap.size=g3 at *
   clear hg3
   go_loopw [44] (fun c wr=>∃k:Nat,k≤size∧c=.int .i64 k∧Blk wr w.heap.size 230 (rc kc ws' buf' (n+(1+z+8)))∧OwnB wr w.heap.size (.slice (some ⟨g3,0,none⟩) size size) (outF ws' size k)∧Below w.heap.size w wr) (fun c _=>size-(intOf c).toNat)
   case atStart=>exact⟨0,Nat.zero_le _,rfl,b4,hown4,hbel4⟩
   case round =>
    clear b4 hown4 hbel4
    obtain⟨k,hk',rfl,b5,hown5,hbel5⟩:=hrel
    by_cases hlt:k<size
    ·have cw:=(b5.cell (10+k/4)).trans (rc_word kc ws' buf' _ (k/4) hk hw8' (by omega))
     have co:=hown5.cellAt (outF_length ws' size k hk') k hlt
     have fo:=hown5.frozenAt (outF_length ws' size k hk') k
     have HS:Hid (OwnB (wr.setCell ⟨g3,k,none⟩ (.int .u8 ((dgW ws' k).toNat:Int))) w.heap.size (.slice (some ⟨g3,0,none⟩) size size) (outF ws' size (k+1))):=by
      have:=hown5.set (outF_length ws' size k hk') k (dgW ws' k)
      rw[outF_set ws' size k hlt] at this;exact this
     have HV:Hid (((nthW ws' (k/4)).toNat:Int)/2 ^ (24-8 * (k%4))%256=((dgW ws' k).toNat:Int)):=dgW_val ws' k
     have H5:Hid (Blk wr w.heap.size 230 (rc kc ws' buf' (n+(1+z+8)))):=b5
     clear b5 hown5
     have e1:(k:Int)/4<8:=by omega
     have e2:(0:Int)≤(k:Int)/4:=by omega
     have e3:(0:Int)≤24-8 * ((k:Int)%4):=by omega
     have e4:24-8 * ((k:Int)%4)≤32:=by omega
     have e5:(k:Int)<(size:Int):=by omega
     go_wp2
     go_roundw
     case rel=>exact⟨k+1,by omega,by go_num,H5.out.other _ _ (by show w.heap.size≠g3;omega),by rw[HV.out];exact HS.out,hbel5.setCell (by show w.heap.size≤g3;omega) _⟩
     case measure=>simp[intOf];omega
    ·have HK:Hid (outF ws' size k=hashL mix start size A):=by
      have e:k=size:=by omega
      subst e
      unfold Hid outF hashL
      rw[Nat.sub_self,←HN.out,HZ.out,←HW.out];simp
     rw[HK.out] at hown5
     go_wp2
     go_ret
     exact⟨_,rfl,hown5,hbel5⟩
end
section
open Go.RowKit
def wn (bl:List UInt8)(i:Nat):Nat→Nat
 | 0=>0
 | j+1=>wn bl i j * 256+(nth bl (4 * i+j)).toNat
theorem wn_lt (bl:List UInt8)(i:Nat):∀j,wn bl i j<256 ^ j
 | 0=>by simp[wn]
 | j+1=>by
  have h1:=wn_lt bl i j
  have h2:=(nth bl (4 * i+j)).toNat_lt
  rw[wn,Nat.pow_succ];omega
theorem wn_lt24 (bl:List UInt8)(i j:Nat)(h:j≤3):wn bl i j<16777216 :=
 Nat.lt_of_lt_of_le (wn_lt bl i j) (Nat.pow_le_pow_right (by omega) h:256 ^ j≤256 ^ 3)
def wd (bl:List UInt8)(i:Nat):UInt32:=UInt32.ofNat (wn bl i 4)
theorem wd_nat (bl:List UInt8)(i:Nat):((wd bl i).toNat:Int)=(wn bl i 4:Int):=by
 have h:=wn_lt bl i 4
 unfold wd;rw[UInt32.toNat_ofNat',Nat.mod_eq_of_lt (by simpa using h)]
theorem or_nat (x b:Nat)(hx:x<16777216)(hb:b<256):bits .or .u32 ((x:Int) * 256%4294967296) (b:Int)=((x * 256+b:Nat):Int):=by
 have e1:((x:Int) * 256%4294967296)=((UInt32.ofNat (x * 256)).toNat:Int):=by rw[UInt32.toNat_ofNat'];omega
 have e2:((b:Int))=((UInt32.ofNat b).toNat:Int):=by rw[UInt32.toNat_ofNat'];omega
 rw[e1,e2,bits_or32,UInt32.toNat_or,UInt32.toNat_ofNat',UInt32.toNat_ofNat',Nat.mod_eq_of_lt (by omega:x * 256<2 ^ 32),Nat.mod_eq_of_lt (by omega:b<2 ^ 32)]
 have:256 * x+b=256 * x ||| b:=Nat.two_pow_add_eq_or_of_lt (i:=8) hb x
 rw[Nat.mul_comm x 256,←this]
theorem blk_cell {w:World}{B t:Nat}{cs:List Value}(hb:w.heap[B]?=some (.cells cs.toArray t (0,0)))(j:Nat):w.cell? ⟨B,j,none⟩=cs[j]?:=by
 rw[cell_of_row w B j _ _ _ hb];simp
theorem digWord (bl:List UInt8)(hl:bl.length=64)(i:Nat)(hi:i<16)(w:World):
  Calls Tryz.prog 242 #[.agg (bv bl).toArray,.int .i64 (i:Int)] w fun e w'=>e=.returned (.int .u32 ((wd bl i).toNat:Int))∧Below w.heap.size w w':=by
 have HL:Hid (bl.length=64):=hl
 clear hl
 go_enter Tryz.func242,Tryz.ntmps242
 go_wp2
 go_loopw [5,7] (fun v c wr=>∃j:Nat,j≤4∧c=.int .i64 j∧v=.int .u32 (wn bl i j:Int)∧wr.heap[w.heap.size]?=some (.cells (bv bl).toArray 228 (0,0))∧Below w.heap.size w wr) (fun _ c _=>4-(intOf c).toNat)
 case atStart=>exact⟨0,by omega,rfl,rfl,heap_alloc_new w _,(Below.refl _ _).alloc (Nat.le_refl _) _⟩
 case round =>
  obtain⟨j,hj,rfl,rfl,hb,hbel⟩:=hrel
  by_cases hlt:j<4
  ·have hc:=(blk_cell hb (4 * i+j)).trans (bv_at bl (4 * i+j) (by rw[HL.out];omega))
   have H:Hid (bits .or .u32 ((wn bl i j:Int) * 256%4294967296) ((nth bl (4 * i+j)).toNat:Int)=(wn bl i (j+1):Int)):=
    or_nat (wn bl i j) _ (wn_lt24 bl i j (by omega)) (nth bl (4 * i+j)).toNat_lt
   have hu:((nth bl (4 * i+j)).toNat:Int)<256:=by have:=(nth bl (4 * i+j)).toNat_lt;omega
   have hlt':4 * (i:Int)+(j:Int)<64:=by omega
   have hge:(0:Int)≤4 * (i:Int)+(j:Int):=by omega
   have HB:Hid (wr.heap[w.heap.size]?=some (.cells (bv bl).toArray 228 (0,0))):=hb
   clear hb
   go_wp2
   go_roundw
   case rel=>exact⟨j+1,by omega,by go_num,by rw[H.out],HB.out,hbel⟩
   case measure=>simp[intOf];omega
  ·have:j=4:=by omega
   subst this
   go_wp2
   go_ret
   exact⟨ret_int32 (wd_nat bl i).symm,hbel⟩
def sig0 (x:UInt32):UInt32:=xor32 (xor32 (rot x 7) (rot x 18)) (shr32 x 3)
def sig1 (x:UInt32):UInt32:=xor32 (xor32 (rot x 17) (rot x 19)) (shr32 x 10)
def nextW (p:List UInt32)(n:Nat):UInt32:=add32 (add32 (add32 (nthW p (n-16)) (sig0 (nthW p (n-15)))) (nthW p (n-7))) (sig1 (nthW p (n-2)))
def wl (bl:List UInt8):Nat→List UInt32
 | 0=>[]
 | n+1=>wl bl n++[if n<16 then wd bl n else nextW (wl bl n) n]
theorem wl_length (bl:List UInt8):∀n,(wl bl n).length=n
 | 0=>rfl
 | n+1=>by rw[wl,List.length_append,wl_length bl n];rfl
def wfill (bl:List UInt8)(n:Nat):List UInt32:=wl bl n++List.replicate (64-n) 0
theorem wfill_length (bl:List UInt8)(n:Nat)(h:n≤64):(wfill bl n).length=64:=by
 unfold wfill;rw[List.length_append,wl_length,List.length_replicate];omega
theorem wfill_set (bl:List UInt8)(n:Nat)(h:n<64)(x:UInt32)(hx:x=if n<16 then wd bl n else nextW (wl bl n) n):(wfill bl n).set n x=wfill bl (n+1):=by
 unfold wfill
 obtain⟨m,hm⟩:∃m,64-n=m+1:=⟨64-n-1,by omega⟩
 have hm':64-(n+1)=m:=by omega
 rw[hm,hm',wl,List.set_append_right _ _ (by rw[wl_length];exact Nat.le_refl _),wl_length,Nat.sub_self,List.replicate_succ,List.set_cons_zero,List.append_assoc,hx]
 rfl
theorem wfill_at (bl:List UInt8)(n i:Nat)(h:i<n):nthW (wfill bl n) i=nthW (wl bl n) i:=by
 have h1:i<(wl bl n).length:=by rw[wl_length];exact h
 rw[nthW_eq _ _ h1,nthW_eq _ _ (by unfold wfill;rw[List.length_append];omega)]
 unfold wfill
 rw[List.getElem_append_left h1]
theorem wfill_cell (bl:List UInt8)(n i:Nat)(hn:n≤64)(h:i<n):(wv (wfill bl n))[i]?=some (.int .u32 ((nthW (wl bl n) i).toNat:Int)):=by
 rw[wv_at _ _ (by rw[wfill_length bl n hn];omega),wfill_at bl n i h]
theorem infoA8:(Tryz.prog.info? 228).map (·.size)=some 64:=by kernel_rfl
theorem infoA32:(Tryz.prog.info? 283).map (·.size)=some 64:=by kernel_rfl
attribute [local go_sem] w_add w_addw w_xor w_and w_not w_shr3 w_shr10
theorem digSched (bl:List UInt8)(hl:bl.length=64)(w:World):
  Calls Tryz.prog 224 #[.agg (bv bl).toArray] w fun e w'=>e=.returned (.agg (wv (wl bl 64)).toArray)∧Below w.heap.size w w':=by
 have HL:Hid (bl.length=64):=hl
 have hsz:Hid ((Tryz.prog.info? 228).map (·.size)=some (bv bl).toArray.size):=by unfold Hid;rw[infoA8,List.size_toArray,bv_length,hl]
 clear hl
 go_enter Tryz.func224,Tryz.ntmps224
 go_wp2
 go_loopw [9] (fun c wr=>∃j:Nat,j≤16∧c=.int .i64 j∧Blk wr w.heap.size 228 (bv bl)∧Blk wr (w.heap.size+1) 283 (wv (List.replicate 64 0))∧Blk wr (w.heap.size+2) 283 (wv (wfill bl j))∧Below w.heap.size w wr) (fun c _=>16-(intOf c).toNat)
 case atStart=>exact⟨0,by omega,rfl,((Blk.newAt w _ _ _ (bv bl) rfl rfl).alloc _).alloc _,(Blk.newAt _ _ _ _ (wv (List.replicate 64 0)) (by simp) rfl).alloc _,Blk.newAt _ _ _ _ (wv (wfill bl 0)) (by simp) rfl,(((Below.refl _ _).alloc (Nat.le_refl _) _).alloc (by simp) _).alloc (by simp;omega) _⟩
 case round =>
  obtain⟨j,hj,rfl,b0,b1,b2,hbel⟩:=hrel
  by_cases hlt:j<16
  ·have hlt':(j:Int)<64:=by omega
   go_wp2_with (refine wpList_load_row rfl _ _ rfl _ rfl _ _ _ _ b0 Tryz.underlying228 rfl hsz.out ?_)
   refine(digWord bl HL.out j hlt _).mono ?_
   rintro e w1 ⟨rfl,bel1⟩
   have l0:=b0.lt
   have l1:=b1.lt
   have l2:=b2.lt
   have b0':=b0.below bel1 l0
   have b1':=b1.below bel1 l1
   have b2':=b2.below bel1 l2
   have hc:=(b2'.cell j).trans (wv_at _ j (by rw[wfill_length bl j (by omega)];omega))
   have hf:=b2'.frozen j
   have HS:Hid (Blk (w1.setCell ⟨w.heap.size+2,j,none⟩ (.int .u32 ((wd bl j).toNat:Int))) (w.heap.size+2) 283 (wv (wfill bl (j+1)))):=by
    have:=b2'.set j (.int .u32 ((wd bl j).toNat:Int))
    rw[←wv_set,wfill_set bl j (by omega) _ (by rw[if_pos hlt])] at this;exact this
   have bel1':=hbel.trans (bel1.mono hbel.size)
   have H0:Hid (Blk w1 w.heap.size 228 (bv bl)):=b0'
   have H1:Hid (Blk w1 (w.heap.size+1) 283 (wv (List.replicate 64 0))):=b1'
   clear b0 b1 b2 b0' b1' b2' hbel bel1
   go_wp2
   go_roundw
   case rel=>exact⟨j+1,by omega,by go_num,H0.out.other _ _ (by show w.heap.size≠w.heap.size+2;omega),H1.out.other _ _ (by show w.heap.size+1≠w.heap.size+2;omega),HS.out,bel1'.setCell (by show w.heap.size≤w.heap.size+2;omega) _⟩
   case measure=>simp[intOf];omega
  ·have b2:Blk wr (w.heap.size+2) 283 (wv (wfill bl 16)):=by
    have e:j=16:=by omega
    rw[←e];exact b2
   go_wp2
   clear hlt hj
   go_loopw [18] (fun c wr=>∃t:Nat,16≤t∧t≤64∧c=.int .i64 ((t:Int)-16)∧Blk wr (w.heap.size+1) 283 (wv (List.replicate 64 0))∧Blk wr (w.heap.size+2) 283 (wv (wfill bl t))∧Below w.heap.size w wr) (fun c _=>48-(intOf c).toNat)
   case atStart=>exact⟨16,by omega,by omega,rfl,b1,b2,hbel⟩
   case round =>
    clear b0 b1 b2 hbel
    obtain⟨t,ht,ht',rfl,b1,b2,hbel⟩:=hrel
    by_cases hlt:t<64
    ·have hr:∀i,i<t→_:=fun i hi=>(b2.cell i).trans (wfill_cell bl t i (by omega) hi)
     have c15:=hr (t-15) (by omega)
     have c2:=hr (t-2) (by omega)
     have c16:=hr (t-16) (by omega)
     have c7:=hr (t-7) (by omega)
     clear hr
     have g0:(t:Int)-16<48:=by omega
     have g1:(0:Int)≤(t:Int)-16:=by omega
     have g2:(t:Int)-16<64:=by omega
     have g3:(0:Int)≤(t:Int)-15:=by omega
     have g4:(t:Int)-15<64:=by omega
     have g5:(0:Int)≤(t:Int)-7:=by omega
     have g6:(t:Int)-7<64:=by omega
     have g7:(0:Int)≤(t:Int)-2:=by omega
     have g8:(t:Int)-2<64:=by omega
     have g9:(t:Int)<64:=by omega
     go_wp2
     go_quiet ((go_at_call 225;exact Calls.quiet_of_same (digRightI _ _ (by decide) (by decide) _)))
     have c2:(wr.drewN nq).cell? _=_:=c2
     have c16:(wr.drewN nq).cell? _=_:=c16
     have c7:(wr.drewN nq).cell? _=_:=c7
     have b1:Blk (wr.drewN nq) _ _ _:=b1
     have b2:Blk (wr.drewN nq) _ _ _:=b2
     have hbel:Below _ _ (wr.drewN nq):=bel_drewN hbel _
     clear c15
     generalize wr.drewN nq=w2 at *
     go_wp2
     go_quiet ((go_at_call 225;exact Calls.quiet_of_same (digRightI _ _ (by decide) (by decide) _)))
     have c16:(w2.drewN nq).cell? _=_:=c16
     have c7:(w2.drewN nq).cell? _=_:=c7
     have b1:Blk (w2.drewN nq) _ _ _:=b1
     have b2:Blk (w2.drewN nq) _ _ _:=b2
     have hbel:Below _ _ (w2.drewN nq):=bel_drewN hbel _
     clear c2
     generalize w2.drewN nq=w3 at *
     have cz:=(b2.cell t).trans (wv_at _ t (by rw[wfill_length bl _ (by omega)];omega))
     have fz:=b2.frozen t
     have HN:Hid (nextW (wl bl t) t=add32 (add32 (add32 (nthW (wl bl t) (t-16)) (xor32 (xor32 (rot (nthW (wl bl t) (t-15)) 7) (rot (nthW (wl bl t) (t-15)) 18)) (shr32 (nthW (wl bl t) (t-15)) 3))) (nthW (wl bl t) (t-7))) (xor32 (xor32 (rot (nthW (wl bl t) (t-2)) 17) (rot (nthW (wl bl t) (t-2)) 19)) (shr32 (nthW (wl bl t) (t-2)) 10))):=rfl
     have HS:Hid (∀w4:World,w4.heap=w3.heap→Blk (w4.setCell ⟨w.heap.size+2,t,none⟩ (.int .u32 ((nextW (wl bl t) t).toNat:Int))) (w.heap.size+2) 283 (wv (wfill bl (t+1)))):=by
      intro w4 e
      have b3:Blk w4 (w.heap.size+2) 283 (wv (wfill bl t)):=by unfold Blk;rw[e];exact b2
      have:=b3.set t (.int .u32 ((nextW (wl bl t) t).toNat:Int))
      rw[←wv_set,wfill_set bl t (by omega) _ (by rw[if_neg (by omega)])] at this;exact this
     have H1:Hid (Blk w3 (w.heap.size+1) 283 (wv (List.replicate 64 0))):=b1
     clear b1 b2
     obtain⟨p,hp⟩:∃p,t-16=p:=⟨_,rfl⟩
     obtain⟨q,hq⟩:∃q,t-7=q:=⟨_,rfl⟩
     rw[hp] at c16 HN
     rw[hq] at c7 HN
     have q16:IntKind.i64.wrap ((t:Int)-16)=(p:Int):=by rw[wrapi64_in _ (by omega) (by omega)];omega
     have q7:IntKind.i64.wrap ((t:Int)-7)=(q:Int):=by rw[wrapi64_in _ (by omega) (by omega)];omega
     have p1:(p:Int)<64:=by omega
     have p2:(q:Int)<64:=by omega
     have n1:¬(t=p):=by omega
     have n2:¬(t=q):=by omega
     clear hp hq
     go_wp2
     go_region_held3 (fun w'=>w'.cell? ⟨w.heap.size+2,p,none⟩=some (.int .u32 ((nthW (wl bl t) p).toNat:Int))∧w'.cell? ⟨w.heap.size+2,q,none⟩=some (.int .u32 ((nthW (wl bl t) q).toNat:Int))) (first|exact⟨keepc c16 (addr_ne n1),keepc c7 (addr_ne n2)⟩|go_keep) (fail)
     clear q16 q7
     go_wp2
     go_roundw
     case rel=>exact⟨t+1,by omega,by omega,by go_num,H1.out.other _ _ (by show w.heap.size+1≠w.heap.size+2;omega),by rw[←HN.out];exact HS.out _ rfl,hbel.drew.setCell (by show w.heap.size≤w.heap.size+2;omega) _⟩
     case measure=>simp[intOf];omega
    ·have hs2:Hid ((Tryz.prog.info? 283).map (·.size)=some (wv (wfill bl t)).toArray.size):=by unfold Hid;rw[infoA32,List.size_toArray,wv_length,wfill_length bl t ht']
     have hs3:Hid ((wv (List.replicate 64 0)).toArray.size=(wv (wfill bl t)).toArray.size):=by unfold Hid;rw[List.size_toArray,List.size_toArray,wv_length,wv_length,wfill_length bl t ht',List.length_replicate]
     have HF:Hid (wfill bl t=wl bl 64):=by
      have e:t=64:=by omega
      unfold Hid wfill;rw[e];simp
     have hge:¬((t:Int)-16<48):=by omega
     go_wp2_with (first|(refine wpList_load_row rfl _ _ rfl _ rfl _ _ _ _ b2 Tryz.underlying283 rfl hs2.out ?_)|(refine wpList_store_row rfl _ _ _ rfl _ _ rfl rfl _ _ b1 hs2.out hs3.out (wv_all _) ?_))
     refine bodyPost_ret (v:=.agg (wv (wfill bl t)).toArray) ?_ rfl ⟨by rw[HF.out],bel_row hbel (by omega) _⟩
     exact results_cell_row Tryz.results224 _ _ _ _ _ _ _ rfl (b1.row (wv (wfill bl t))) Tryz.underlying283 rfl hs2.out
end
section
open Go.RowKit
def kL:List UInt32:=[
 0x428a2f98,0x71374491,0xb5c0fbcf,0xe9b5dba5,0x3956c25b,0x59f111f1,0x923f82a4,0xab1c5ed5,
 0xd807aa98,0x12835b01,0x243185be,0x550c7dc3,0x72be5d74,0x80deb1fe,0x9bdc06a7,0xc19bf174,
 0xe49b69c1,0xefbe4786,0x0fc19dc6,0x240ca1cc,0x2de92c6f,0x4a7484aa,0x5cb0a9dc,0x76f988da,
 0x983e5152,0xa831c66d,0xb00327c8,0xbf597fc7,0xc6e00bf3,0xd5a79147,0x06ca6351,0x14292967,
 0x27b70a85,0x2e1b2138,0x4d2c6dfc,0x53380d13,0x650a7354,0x766a0abb,0x81c2c92e,0x92722c85,
 0xa2bfe8a1,0xa81a664b,0xc24b8b70,0xc76c51a3,0xd192e819,0xd6990624,0xf40e3585,0x106aa070,
 0x19a4c116,0x1e376c08,0x2748774c,0x34b0bcb5,0x391c0cb3,0x4ed8aa4a,0x5b9cca4f,0x682e6ff3,
 0x748f82ee,0x78a5636f,0x84c87814,0x8cc70208,0x90befffa,0xa4506ceb,0xbef9a3f7,0xc67178f2]
theorem digRounds (w:World):
  Calls Tryz.prog 223 #[] w fun e w'=>e=.returned (.agg (wv kL).toArray)∧Below w.heap.size w w':=by
 have b0:Blk (w.alloc (.cells (wv (List.replicate 64 0)).toArray 283)) w.heap.size 283 (wv (List.replicate 64 0)):=Blk.new w _ _
 go_enter Tryz.func223,Tryz.ntmps223
 go_wp2_with (refine wpList_store_row rfl _ _ _ rfl _ (wv kL).toArray rfl rfl _ _ b0 infoA32 rfl (wv_all _) ?_)
 refine bodyPost_ret (v:=.agg (wv kL).toArray) ?_ rfl ⟨rfl,bel_row ((Below.refl _ _).alloc (Nat.le_refl _) _) (Nat.le_refl _) _⟩
 exact results_cell_row Tryz.results223 _ _ _ _ _ _ _ rfl (b0.row (wv kL)) Tryz.underlying283 rfl infoA32
end
section
structure S8 where
 a:UInt32
 b:UInt32
 c:UInt32
 d:UInt32
 e:UInt32
 f:UInt32
 g:UInt32
 h:UInt32
def S8.list (s:S8):List UInt32:=[s.a,s.b,s.c,s.d,s.e,s.f,s.g,s.h]
def S8.of (l:List UInt32):S8:=⟨nthW l 0,nthW l 1,nthW l 2,nthW l 3,nthW l 4,nthW l 5,nthW l 6,nthW l 7⟩
def t1 (s:S8)(k w:UInt32):UInt32 :=
 add32 (add32 (add32 (add32 s.h (xor32 (xor32 (rot s.e 6) (rot s.e 11)) (rot s.e 25))) (xor32 (and32 s.e s.f) (and32 (not32 s.e) s.g))) k) w
def t2 (s:S8):UInt32 :=
 add32 (xor32 (xor32 (rot s.a 2) (rot s.a 13)) (rot s.a 22)) (xor32 (xor32 (and32 s.a s.b) (and32 s.a s.c)) (and32 s.b s.c))
def stepS (s:S8)(k w:UInt32):S8:=⟨add32 (t1 s k w) (t2 s),s.a,s.b,s.c,add32 s.d (t1 s k w),s.e,s.f,s.g⟩
def runS (s:S8)(ws:List UInt32):Nat→S8
 | 0=>s
 | n+1=>stepS (runS s ws n) (nthW kL n) (nthW ws n)
def addS (s r:S8):S8:=⟨add32 s.a r.a,add32 s.b r.b,add32 s.c r.c,add32 s.d r.d,add32 s.e r.e,add32 s.f r.f,add32 s.g r.g,add32 s.h r.h⟩
def mixS (s:S8)(bl:List UInt8):S8:=addS s (runS s (wl bl 64) 64)
theorem runS_succ (s:S8)(ws:List UInt32)(n:Nat):runS s ws (n+1)=stepS (runS s ws n) (nthW kL n) (nthW ws n):=rfl
end
section
open Go.RowKit
def kcOf (size:Int)(s:S8)(mf:Nat):List Value:=.int .i64 size::(wv s.list++[.func (.func mf) #[] #[]])
def zeros83:List Value:=rc (.int .i64 0::(wv (List.replicate 8 0)++[.nilFunc])) (List.replicate 8 0) (List.replicate 64 0) 0
theorem zero83:(Tryz.prog.info? 230).map (·.zero)=some (some (.agg zeros83.toArray)):=by kernel_rfl
theorem zv83 (w:World):(zeroValue 230).run Tryz.prog w=.ok (.agg zeros83.toArray) w:=by
 have h:=zero83
 cases hq:Tryz.prog.info? 230 with
 | none=>rw[hq] at h;cases h
 | some i =>
  rw[hq] at h
  have hz:i.zero=some (.agg zeros83.toArray):=by simpa using h
  simp[zeroValue,typeInfo,hq,hz]
attribute [local go_sem ↓] zv83
theorem info83:(Tryz.prog.info? 230).map (·.size)=some 83:=by kernel_rfl
theorem info10:(Tryz.prog.info? 227).map (·.size)=some 10:=by kernel_rfl
theorem oneCells83 (size:Int)(s:S8)(mf:Nat):∀u∈rc (kcOf size s mf) s.list (List.replicate 64 0) 0,u.oneCell'=true:=by
 intro u hu
 unfold rc kcOf at hu
 rcases List.mem_append.1 hu with h|h
 ·rcases List.mem_cons.1 h with rfl|h
  ·rfl
  ·rcases List.mem_append.1 h with h|h
   ·exact wv_one _ u h
   ·rcases List.mem_cons.1 h with rfl|h
    ·rfl
    ·cases h
 ·rcases List.mem_append.1 h with h|h
  ·exact wv_one _ u h
  ·rcases List.mem_append.1 h with h|h
   ·exact bv_one _ u h
   ·rcases List.mem_cons.1 h with rfl|h
    ·rfl
    ·cases h
theorem list_build {P:Program}{ops:Array Oper}{rest:List Oper}{o:Oper}{a:Act}{w:World}{Q:Exit→Act→World→Prop}(hgd:o.guard=none)(t:TypeId)(parts:Array (Nat × Operand))(ho:o.op=.build t parts)
  (vals:List (Nat × Value)) (hv:(parts.map fun (i,x)=>(i,a.eval x)).toList=vals) (cells:Array Value) (hb:P.built t vals=some cells)
  (h:wpList P ops Q rest (a.put o.dst (.agg cells)) w):wpList P ops Q (o::rest) a w :=
 wpList_plain hgd fun _ hK=>wp_build t parts ho (by rw[hv,hb];rfl) (by rw[hv,hb];exact hK _ _ h)
theorem digBegin (size:Int)(s:S8)(mf:Nat)(w:World):
  Calls Tryz.prog 166 #[.agg (kcOf size s mf).toArray] w fun e w'=>e=.returned (.agg (rc (kcOf size s mf) s.list (List.replicate 64 0) 0).toArray)∧Below w.heap.size w w':=by
 have Bk:Blk ((w.alloc (.cells (kcOf size s mf).toArray 227)).alloc (.cells zeros83.toArray 230)) w.heap.size 227 (kcOf size s mf):=(Blk.new w _ _).alloc _
 have Bz:Blk ((w.alloc (.cells (kcOf size s mf).toArray 227)).alloc (.cells zeros83.toArray 230)) (w.heap.size+1) 230 zeros83:=Blk.newAt _ _ _ _ _ (by simp) rfl
 have hr:((w.alloc (.cells (kcOf size s mf).toArray 227)).alloc (.cells zeros83.toArray 230)).rangeAt w.heap.size 1 (wv s.list):=Bk.range 1 _ (fun j v hj=>by
  have:(kcOf size s mf)[1+j]?=(wv s.list++[.func (.func mf) #[] #[]])[j]?:=by rw[Nat.add_comm];rfl
  rw[this,List.getElem?_append_left (List.getElem?_eq_some_iff.1 hj).1];exact hj)
 have hb:Tryz.prog.built 230 [(0,.agg (kcOf size s mf).toArray),(1,.agg (wv s.list).toArray)]=some (rc (kcOf size s mf) s.list (List.replicate 64 0) 0).toArray:=by kernel_rfl
 go_enter Tryz.func166,Tryz.ntmps166
 have hst:(rc (kcOf size s mf) s.list (List.replicate 64 0) 0).toArray.size=83:=rfl
 go_wp2_with (first|(refine wpList_load_row rfl 227 _ rfl _ rfl _ _ _ _ Bk Tryz.underlying227 rfl info10 ?_)|(refine wpList_load_mid rfl 224 _ rfl w.heap.size 1 rfl (wv s.list) _ hr Tryz.underlying224 rfl (by kernel_rfl) ?_)|(refine list_build rfl 230 _ rfl [(0,.agg (kcOf size s mf).toArray),(1,.agg (wv s.list).toArray)] (by simp only[List.map_toArray,List.map_cons,List.map_nil];rfl) (rc (kcOf size s mf) s.list (List.replicate 64 0) 0).toArray hb ?_)|(refine wpList_store_row rfl 230 _ _ rfl (w.heap.size+1) (rc (kcOf size s mf) s.list (List.replicate 64 0) 0).toArray rfl rfl _ _ Bz info83 rfl (all_oneCell_toArray (oneCells83 size s mf)) ?_))
 refine bodyPost_ret (v:=.agg (rc (kcOf size s mf) s.list (List.replicate 64 0) 0).toArray) ?_ rfl ⟨rfl,bel_row (((Below.refl _ _).alloc (Nat.le_refl _) _).alloc (by simp) _) (by omega) _⟩
 exact results_cell_row Tryz.results166 _ _ _ _ _ _ _ rfl (Bz.row (rc (kcOf size s mf) s.list (List.replicate 64 0) 0)) Tryz.underlying230 rfl info83
end
section
open Go.RowKit
attribute [local go_sem] w_add w_addw w_xor w_and w_not w_notm w_shr3 w_shr10
theorem infoA8w:(Tryz.prog.info? 224).map (·.size)=some 8:=by kernel_rfl
theorem digMix256 (s:S8)(bl:List UInt8)(hl:bl.length=64)(w:World):
  Calls Tryz.prog 193 #[.agg (wv s.list).toArray,.agg (bv bl).toArray] w fun e w'=>e=.returned (.agg (wv (mixS s bl).list).toArray)∧Below w.heap.size w w':=by
 have HL:Hid (bl.length=64):=hl
 have hsz:Hid ((Tryz.prog.info? 228).map (·.size)=some (bv bl).toArray.size):=by unfold Hid;rw[infoA8,List.size_toArray,bv_length,hl]
 have hs64:Hid ((Tryz.prog.info? 283).map (·.size)=some (wv (wl bl 64)).toArray.size):=by unfold Hid;rw[infoA32,List.size_toArray,wv_length,wl_length]
 have hs65:Hid ((wv (List.replicate 64 0)).toArray.size=(wv (wl bl 64)).toArray.size):=by unfold Hid;rw[List.size_toArray,List.size_toArray,wv_length,wv_length,wl_length,List.length_replicate]
 clear hl
 go_enter Tryz.func193,Tryz.ntmps193
 go_wp2_with fail
 refine(digRounds _).mono ?_
 rintro e w1 ⟨rfl,bel1⟩
 have Bs:Blk w1 w.heap.size 224 (wv s.list):=(((Blk.newAt w _ _ _ (wv s.list) rfl rfl).alloc _).alloc _).below bel1 (by simp;omega)
 have Bb:Blk w1 (w.heap.size+1) 228 (bv bl):=((Blk.newAt _ _ _ _ (bv bl) (by simp) rfl).alloc _).below bel1 (by simp)
 have Br:Blk w1 (w.heap.size+2) 224 (wv (List.replicate 8 0)):=(Blk.newAt _ _ _ _ (wv (List.replicate 8 0)) (by simp) rfl).below bel1 (by simp)
 have hbel:Below w.heap.size w w1:=((((Below.refl _ _).alloc (Nat.le_refl _) _).alloc (by simp) _).alloc (by simp;omega) _).trans (bel1.mono (by simp;omega))
 clear bel1
 have z1:w.heap.size+2<w1.heap.size:=Br.lt
 have Bk0:Blk (w1.alloc (.cells (wv (List.replicate 64 0)).toArray 283)) w1.heap.size 283 (wv (List.replicate 64 0)):=Blk.new w1 _ _
 have n1:w.heap.size+1≠w1.heap.size:=by omega
 go_wp2_with (first|(refine wpList_store_row rfl _ _ _ rfl _ (wv kL).toArray rfl rfl _ _ Bk0 infoA32 rfl (wv_all _) ?_)|(refine wpList_load_row rfl _ _ rfl _ rfl _ _ _ _ ((Bb.alloc _).rowOther _ _ n1) Tryz.underlying228 rfl hsz.out ?_))
 refine(digSched bl HL.out _).mono ?_
 rintro e w3 ⟨rfl,bel3⟩
 have n0:w.heap.size≠w1.heap.size:=by omega
 have n2:w.heap.size+2≠w1.heap.size:=by omega
 have Bs3:Blk w3 _ _ _:=((Bs.alloc _).rowOther _ _ n0).on bel3
 have Br3:Blk w3 _ _ _:=((Br.alloc _).rowOther _ _ n2).on bel3
 have Bk3:Blk w3 _ _ _:=(Bk0.row (wv kL)).on bel3
 have hbel3:Below w.heap.size w w3:=(bel_row (hbel.alloc hbel.size _) (g:=w1.heap.size) (by omega) (wv kL).toArray).trans (bel3.mono (by simp[World.setRow];omega))
 clear bel3 Bs Bb Br Bk0 hbel n0 n1 n2
 have m0:w.heap.size≠w3.heap.size:=by have:=Bs3.lt;omega
 have m2:w.heap.size+2≠w3.heap.size:=by have:=Br3.lt;omega
 have m1:w1.heap.size≠w3.heap.size:=by have:=Bk3.lt;omega
 have Bw0:Blk (w3.alloc (.cells (wv (List.replicate 64 0)).toArray 283)) w3.heap.size 283 (wv (List.replicate 64 0)):=Blk.new w3 _ _
 go_wp2_with (refine wpList_store_row rfl _ _ _ rfl _ (wv (wl bl 64)).toArray rfl rfl _ _ Bw0 hs64.out hs65.out (wv_all _) ?_)
 refine wp_named (fun w4=>Blk w4 w.heap.size 224 (wv s.list)∧Blk w4 (w.heap.size+2) 224 (wv (List.replicate 8 0))∧Blk w4 w1.heap.size 283 (wv kL)∧Blk w4 w3.heap.size 283 (wv (wl bl 64))∧Below w.heap.size w w4)
  ⟨(Bs3.alloc _).rowOther _ _ m0,(Br3.alloc _).rowOther _ _ m2,(Bk3.alloc _).rowOther _ _ m1,Bw0.row (wv (wl bl 64)),bel_row (hbel3.alloc hbel3.size _) (by have:=hbel3.size;omega) _⟩ ?_
 clear Bs3 Br3 Bk3 Bw0 hbel3
 rintro w4 ⟨Bs,Br,Bk,Bw,hbel⟩
 generalize hg3:w3.heap.size=g3 at *
 clear hg3 hs65
 have c0:w4.cell? ⟨w.heap.size,0,none⟩=some (.int .u32 (s.a.toNat:Int)):=Bs.cell 0
 have c1:w4.cell? ⟨w.heap.size,1,none⟩=some (.int .u32 (s.b.toNat:Int)):=Bs.cell 1
 have c2:w4.cell? ⟨w.heap.size,2,none⟩=some (.int .u32 (s.c.toNat:Int)):=Bs.cell 2
 have c3:w4.cell? ⟨w.heap.size,3,none⟩=some (.int .u32 (s.d.toNat:Int)):=Bs.cell 3
 go_quiet (fail)
 have Bs:Blk (w4.drewN nq) _ _ _:=Bs
 have Br:Blk (w4.drewN nq) _ _ _:=Br
 have Bk:Blk (w4.drewN nq) _ _ _:=Bk
 have Bw:Blk (w4.drewN nq) _ _ _:=Bw
 have hbel:Below _ _ (w4.drewN nq):=bel_drewN hbel nq
 clear c0 c1 c2 c3
 generalize w4.drewN nq=w5 at *
 have c4:w5.cell? ⟨w.heap.size,4,none⟩=some (.int .u32 (s.e.toNat:Int)):=Bs.cell 4
 have c5:w5.cell? ⟨w.heap.size,5,none⟩=some (.int .u32 (s.f.toNat:Int)):=Bs.cell 5
 have c6:w5.cell? ⟨w.heap.size,6,none⟩=some (.int .u32 (s.g.toNat:Int)):=Bs.cell 6
 have c7:w5.cell? ⟨w.heap.size,7,none⟩=some (.int .u32 (s.h.toNat:Int)):=Bs.cell 7
 go_wp2
 go_quiet (fail)
 have Bs:Blk (w5.drewN nq) _ _ _:=Bs
 have Br:Blk (w5.drewN nq) _ _ _:=Br
 have Bk:Blk (w5.drewN nq) _ _ _:=Bk
 have Bw:Blk (w5.drewN nq) _ _ _:=Bw
 have hbel:Below _ _ (w5.drewN nq):=bel_drewN hbel nq
 clear c4 c5 c6 c7
 generalize w5.drewN nq=w6 at *
 go_wp2
 go_loopw [7,8,9,10,11,12,13,14,41] (fun a b c d e f g h i wr=>∃t:Nat,t≤64∧i=.int .i64 t∧a=.int .u32 ((runS s (wl bl 64) t).a.toNat:Int)∧b=.int .u32 ((runS s (wl bl 64) t).b.toNat:Int)∧c=.int .u32 ((runS s (wl bl 64) t).c.toNat:Int)∧d=.int .u32 ((runS s (wl bl 64) t).d.toNat:Int)∧e=.int .u32 ((runS s (wl bl 64) t).e.toNat:Int)∧f=.int .u32 ((runS s (wl bl 64) t).f.toNat:Int)∧g=.int .u32 ((runS s (wl bl 64) t).g.toNat:Int)∧h=.int .u32 ((runS s (wl bl 64) t).h.toNat:Int)∧Blk wr w.heap.size 224 (wv s.list)∧Blk wr (w.heap.size+2) 224 (wv (List.replicate 8 0))∧Blk wr w1.heap.size 283 (wv kL)∧Blk wr g3 283 (wv (wl bl 64))∧Below w.heap.size w wr)
  (fun _ _ _ _ _ _ _ _ i _=>64-(intOf i).toNat)
 case atStart=>exact⟨0,by omega,rfl,rfl,rfl,rfl,rfl,rfl,rfl,rfl,rfl,Bs,Br,Bk,Bw,hbel⟩
 case round =>
  clear Bs Br Bk Bw hbel
  obtain⟨t,ht,rfl,rfl,rfl,rfl,rfl,rfl,rfl,rfl,rfl,Bs,Br,Bk,Bw,hbel⟩:=hrel
  by_cases hlt:t<64
  ·have HR:Hid (runS s (wl bl 64) (t+1)=stepS (runS s (wl bl 64) t) (nthW kL t) (nthW (wl bl 64) t)):=runS_succ _ _ _
   generalize runS s (wl bl 64) t=r at *
   have ck:=(Bk.cell t).trans (wv_at kL t hlt)
   have cw:=(Bw.cell t).trans (wv_at (wl bl 64) t (by rw[wl_length];exact hlt))
   have hlt':(t:Int)<64:=by omega
   go_wp2_with (go_at_call 225;refine(digRightI _ _ (by decide) (by decide) _).mono ?_;rintro e w' ⟨rfl,hww⟩;rw[hww];clear hww w')
   go_quiet (fail)
   have Bs:Blk (wr.drewN nq) _ _ _:=Bs
   have Br:Blk (wr.drewN nq) _ _ _:=Br
   have Bk:Blk (wr.drewN nq) _ _ _:=Bk
   have Bw:Blk (wr.drewN nq) _ _ _:=Bw
   have hbel:Below _ _ (wr.drewN nq):=bel_drewN hbel nq
   clear ck cw
   generalize wr.drewN nq=w7 at *
   go_wp2_with (go_at_call 225;refine(digRightI _ _ (by decide) (by decide) _).mono ?_;rintro e w' ⟨rfl,hww⟩;rw[hww];clear hww w')
   go_roundw
   case rel=>exact⟨t+1,by omega,by go_num,by rw[HR.out];rfl,by rw[HR.out];rfl,by rw[HR.out];rfl,by rw[HR.out];rfl,by rw[HR.out];rfl,by rw[HR.out];rfl,by rw[HR.out];rfl,by rw[HR.out];rfl,Bs,Br,Bk,Bw,hbel⟩
   case measure=>simp[intOf];omega
  ·have HM:Hid (mixS s bl=addS s (runS s (wl bl 64) t)):=by
    have e:t=64:=by omega
    unfold Hid mixS;rw[e]
   have hge:¬((t:Int)<64):=by omega
   generalize runS s (wl bl 64) t=r at *
   have c0:wr.cell? ⟨w.heap.size,0,none⟩=some (.int .u32 (s.a.toNat:Int)):=Bs.cell 0
   have c1:wr.cell? ⟨w.heap.size,1,none⟩=some (.int .u32 (s.b.toNat:Int)):=Bs.cell 1
   have c2:wr.cell? ⟨w.heap.size,2,none⟩=some (.int .u32 (s.c.toNat:Int)):=Bs.cell 2
   have c3:wr.cell? ⟨w.heap.size,3,none⟩=some (.int .u32 (s.d.toNat:Int)):=Bs.cell 3
   have c4:wr.cell? ⟨w.heap.size,4,none⟩=some (.int .u32 (s.e.toNat:Int)):=Bs.cell 4
   have c5:wr.cell? ⟨w.heap.size,5,none⟩=some (.int .u32 (s.f.toNat:Int)):=Bs.cell 5
   have c6:wr.cell? ⟨w.heap.size,6,none⟩=some (.int .u32 (s.g.toNat:Int)):=Bs.cell 6
   have c7:wr.cell? ⟨w.heap.size,7,none⟩=some (.int .u32 (s.h.toNat:Int)):=Bs.cell 7
   go_wp2_with (refine wpList_store_row rfl _ _ _ rfl _ (wv (addS s r).list).toArray rfl rfl _ _ Br infoA8w rfl (wv_all _) ?_)
   refine bodyPost_ret (v:=.agg (wv (addS s r).list).toArray) ?_ rfl ⟨by rw[HM.out],bel_row hbel (by omega) _⟩
   exact results_cell_row Tryz.results193 _ _ _ _ _ _ _ rfl (Br.row (wv (addS s r).list)) Tryz.underlying224 rfl infoA8w
end
section
open Go.RowKit
attribute [local go_sem ↓] zv83
end
section
open Go.RowKit
def s256:S8:=⟨0x6a09e667,0xbb67ae85,0x3c6ef372,0xa54ff53a,0x510e527f,0x9b05688c,0x1f83d9ab,0x5be0cd19⟩
def mix256L (ws:List UInt32)(bl:List UInt8):List UInt32:=(mixS (S8.of ws) bl).list
theorem list8 (ws:List UInt32)(h:ws.length=8):(S8.of ws).list=ws:=by
 match ws,h with
 | [_,_,_,_,_,_,_,_],_=>rfl
theorem callf {f:Nat}{fn:Func}(hf:Tryz.prog.funcs[f]?=some fn)(hn:(fn.name == "runtime.NumGoroutine")=false)(hb:fn.body.isNone=false)(args:Array Value)(w:World):(callFunc f args).run Tryz.prog w=.ok (.enter f args) w:=by
 have h1:fn.name≠"runtime.NumGoroutine":=by simpa using hn
 have h2:fn.body≠none:=by intro e;rw[e] at hb;cases hb
 simp[callFunc,hf,h1,h2]
theorem mixOK256:MixOK 193 mix256L:=by
 refine⟨fun _ _=>rfl,fun args w=>?_,fun ws bl w h8 h64=>?_⟩
 ·exact callf Tryz.func193 (by kernel_rfl) (by kernel_rfl) args w
 ·have:=digMix256 (S8.of ws) bl h64 w
  rw[list8 ws h8] at this
  exact this
def sha256L (A:List UInt8):List UInt8:=hashL mix256L s256.list 32 A
theorem sha256L_length (l:List UInt8):(sha256L l).length=32:=by unfold sha256L hashL;rw[outB_length]
theorem oneKc (size:Int)(s:S8)(mf:Nat):∀u∈kcOf size s mf,u.oneCell'=true:=by
 intro u h
 unfold kcOf at h
 rcases List.mem_cons.1 h with rfl|h
 ·rfl
 ·rcases List.mem_append.1 h with h|h
  ·exact wv_one _ u h
  ·rcases List.mem_cons.1 h with rfl|h
   ·rfl
   ·cases h
theorem digKind256 (w:World):
  Calls Tryz.prog 165 #[] w fun e w'=>e=.returned (.agg (kcOf (32:Nat) s256 193).toArray)∧Below w.heap.size w w':=by
 have Bz:Blk (w.alloc (.cells (.int .i64 0::(wv (List.replicate 8 0)++[.nilFunc])).toArray 227)) w.heap.size 227 (.int .i64 0::(wv (List.replicate 8 0)++[.nilFunc])):=Blk.new w _ _
 go_enter Tryz.func165,Tryz.ntmps165
 go_wp2_with (refine wpList_store_row rfl 227 _ _ rfl w.heap.size (kcOf (32:Nat) s256 193).toArray rfl rfl _ _ Bz info10 rfl (all_oneCell_toArray (oneKc _ _ _)) ?_)
 refine bodyPost_ret (v:=.agg (kcOf (32:Nat) s256 193).toArray) ?_ rfl ⟨rfl,bel_row ((Below.refl _ _).alloc (Nat.le_refl _) _) (Nat.le_refl _) _⟩
 exact results_cell_row Tryz.results165 _ _ _ _ _ _ _ rfl (Bz.row (kcOf (32:Nat) s256 193)) Tryz.underlying227 rfl info10
abbrev Qs:=List (Nat × List UInt8)
def steleB:List UInt8:=[115,116,101,108,101]
def headTo (seq:Nat)(l:Qs)(k:Nat):List UInt8:=(l.take k).foldl (fun b g=>uintL b g.1) (listL (uintL (textL [] steleB) seq) (l.length:Int))
def headJ (seq:Nat)(l:Qs):List UInt8:=headTo seq l l.length
def sumJ (seq:Nat)(l:Qs):List UInt8:=sha256L (l.foldl (fun b g=>b++g.2) (headJ seq l))
def preJ (seq:Nat)(l:Qs):List UInt8:=bytesL (headJ seq l) (sumJ seq l)
def sealJ (seq:Nat)(l:Qs):List UInt8:=preJ seq l++List.replicate (512-(preJ seq l).length) 0
theorem takeQs (l:Qs)(k:Nat)(h:k<l.length):l.take (k+1)=l.take k++[l.getD k (0,[])]:=by
 rw[List.getD_eq_getElem?_getD,List.getElem?_eq_getElem h,←List.take_append_getElem h];rfl
theorem headTo_zero (seq:Nat)(l:Qs):headTo seq l 0=listL (uintL (textL [] steleB) seq) (l.length:Int):=rfl
theorem headTo_succ (seq:Nat)(l:Qs)(k:Nat)(h:k<l.length):headTo seq l (k+1)=uintL (headTo seq l k) (l.getD k (0,[])).1:=by
 unfold headTo;rw[takeQs l k h,List.foldl_append];rfl
theorem uintL_length (l:List UInt8)(n:Nat):(uintL l n).length=l.length+9:=by
 unfold uintL behL;rw[List.length_append,List.length_cons,beL_length]
theorem headTo_length (seq:Nat)(l:Qs)(k:Nat)(hk:k≤l.length):(headTo seq l k).length=24+9 * k:=by
 induction k with
 | zero =>
  rw[headTo_zero]
  unfold listL behL
  rw[List.length_append,List.length_cons,beL_length,uintL_length]
  unfold textL behL
  simp[beL_length,steleB]
 | succ k ih=>rw[headTo_succ _ _ _ (by omega),uintL_length,ih (by omega)];omega
theorem headJ_length (seq:Nat)(l:Qs):(headJ seq l).length=24+9 * l.length:=headTo_length seq l _ (Nat.le_refl _)
theorem sealJ_length (seq:Nat)(l:Qs)(h:(preJ seq l).length≤512):(sealJ seq l).length=512:=by
 unfold sealJ;rw[List.length_append,List.length_replicate];omega
def heldGo (p:Pl):Nat→Nat→List UInt8→Bool→Qs→Option (Qs × Bool)
 | 0,_,_,bad,l=>some (l,bad)
 | k+1,i,r,bad,l =>
  if (rdUint r bad).2.2=true∨(rdUint r bad).1<49∨p.n≤(rdUint r bad).1 then none
  else heldGo p k (i+1) (rdUint r bad).2.1 (rdUint r bad).2.2 (l++[((rdUint r bad).1,p.rdB ((1+i:Nat):Int))])
def hdName (b:List UInt8):List UInt8 × List UInt8 × Bool:=rdSome 115 b false
def hdSeq (b:List UInt8):Nat × List UInt8 × Bool:=rdUint (hdName b).2.1 (hdName b).2.2
def hdN (b:List UInt8):Nat × List UInt8 × Bool:=rdList (hdSeq b).2.1 (hdSeq b).2.2 48
def heldEnd (b:List UInt8):Option (Qs × Bool)→Option (Nat × Qs)
 | none=>none
 | some (l,bad)=>if bad=true∨(hdName b).1≠steleB∨sealJ (hdSeq b).1 l≠b then none else some ((hdSeq b).1,l)
def heldB (p:Pl)(b:List UInt8):Option (Nat × Qs):=heldEnd b (heldGo p (hdN b).1 0 (hdN b).2.1 (hdN b).2.2 [])
def heldJ (p:Pl):Option (Nat × Qs):=if p.rdE 0≠0 then none else heldB p (p.rdB 0)
def stepsP:Pl→Qs→Pl
 | p,[]=>p.flush
 | p,g::l=>if p.wrE (g.1:Int) g.2=0 then stepsP (p.write (g.1:Int) g.2) l else p.write (g.1:Int) g.2
def stepsE:Pl→Qs→Int
 | p,[]=>p.flE
 | p,g::l=>if p.wrE (g.1:Int) g.2=0 then stepsE (p.write (g.1:Int) g.2) l else p.wrE (g.1:Int) g.2
def mountP (p:Pl):Pl:=if p.rdE 0≠0 then p else match heldJ p with|none=>p|some (_,l)=>stepsP p l
def mountE (p:Pl):Int:=if p.rdE 0≠0 then p.rdE 0 else match heldJ p with|none=>0|some (_,l)=>stepsE p l
def mountS (p:Pl):Nat:=match heldJ p with|none=>0|some (s,_)=>s
def areaI (n:Nat)(i:Int):Bool:=decide (49≤i∧i<n)
structure Jl where
 p:Pl
 seq:Nat
 dead:Bool
structure Tl where
 l:Qs
 over:Bool
def putQ:Qs→Nat→List UInt8→Qs
 | [],i,b=>[(i,b)]
 | g::l,i,b=>if g.1<i then g::putQ l i b else if g.1=i then (i,b):: l else (i,b):: g::l
def hitQ:Qs→Nat→Bool
 | [],_=>false
 | g::l,i=>if g.1<i then hitQ l i else g.1==i
namespace Tl
def wrE (t:Tl)(j:Jl)(i:Int)(b:List UInt8):Int :=
 if t.over=true∨j.dead=true then 51 else if areaI j.p.n i=false then 50 else if b.length≠512 then 1 else if hitQ t.l i.toNat=false∧48≤t.l.length then 44 else 0
def write (t:Tl)(j:Jl)(i:Int)(b:List UInt8):Tl:=if t.wrE j i b=0 then { t with l:=putQ t.l i.toNat b } else t
def find (l:Qs)(i:Int):Option (List UInt8):=(l.find? fun g=>((g.1:Int)==i)).map (·.2)
def rdE (t:Tl)(j:Jl)(i:Int):Int:=match find t.l i with|some _=>0|none=>if areaI j.p.n i=false then 50 else j.p.rdE i
def rdB (t:Tl)(j:Jl)(i:Int):List UInt8:=match find t.l i with|some b=>b|none=>if areaI j.p.n i=false then [] else j.p.rdB i
def slots (l:Qs):Nat→Qs
 | _=>(l.zipIdx 1).map fun x=>(x.2,x.1.2)
end Tl
attribute [local go_sem ↓] Go.wp_at_zero Go.wp_at_succ
end
section
open Go.RowKit
attribute [local go_sem ↓] Go.wp_at_zero Go.wp_at_succ
end
section
open Go.RowKit
attribute [local go_sem ↓] Go.wp_at_zero Go.wp_at_succ
end
section
open Go.RowKit
attribute [local go_sem ↓] Go.wp_at_zero Go.wp_at_succ
end
section
open Go.RowKit
attribute [local go_sem] w_add w_addw w_xor w_and w_not w_notm w_shr3 w_shr10
theorem slC (b off len cap t:Nat)(ht:t+64≤cap)(w:World):(Instr.slice 33 (.slice (some ⟨b,off,none⟩) len cap) (some (.int .i64 (t:Int))) (some (.int .i64 ((t:Int)+64))) none).run Tryz.prog w=.ok (.slice (some ⟨b,off+t,none⟩) 64 (cap-t)) w:=by
 have he:Tryz.prog.elem 33=5:=by kernel_rfl
 have hz:(sizeOf 5).run Tryz.prog w=.ok 1 w:=by
  obtain⟨i0,hi,hz0,hz1,hz2⟩:=info_parts info8
  simp[sizeOf,typeInfo,hi,hz1]
 rw[run_slice_lh w 33 _ len cap (by rw[he];exact Tryz.underlying33) .i64 .i64 (t:Int) ((t:Int)+64) (by omega) (by omega) (by omega),he,hz]
 have e:((t:Int)+64).toNat=t+64:=by omega
 simp only[Result.andThen,sliced,Int.toNat_natCast,Nat.mul_one,Option.map_some,Addr.add_lit,e]
 rw[if_neg (by omega)]
 have e2:t+64-t=64:=by omega
 rw[e2]
attribute [local go_sem ↓] slC
end
section
open Go.RowKit
theorem drop_cons (l:Qs)(k:Nat)(h:k<l.length):l.drop k=l.getD k (0,[]):: l.drop (k+1):=by
 rw[List.getD_eq_getElem?_getD,List.getElem?_eq_getElem h,List.drop_eq_getElem_cons h];rfl
theorem preJ_length (seq:Nat)(l:Qs):(preJ seq l).length=61+9 * l.length:=by
 unfold preJ bytesL behL sumJ
 rw[List.length_append,List.length_append,List.length_cons,beL_length,headJ_length,sha256L_length];omega
attribute [local go_sem ↓] Go.wp_at_zero Go.wp_at_succ slo1
theorem rdSome_ok {mark:UInt8}{l:List UInt8}{br:Bool}(h:okB l br mark=true):rdSome mark l br=((l.drop 5).take (numTo l 4),l.drop (5+numTo l 4),false):=by unfold rdSome;rw[h];rfl
theorem rdSome_no {mark:UInt8}{l:List UInt8}{br:Bool}(h:okB l br mark=false):rdSome mark l br=([],l,true):=by unfold rdSome;rw[h];rfl
theorem cText (B:Nat)(l:List UInt8)(br:Bool)(w:World)(h:IsR w B l br):
  Calls Tryz.prog 87 #[.pointer (some ⟨B,0,none⟩)] w fun e w'=>e=.returned (.string ⟨(rdSome 115 l br).1.toArray⟩)∧IsR w' B (rdSome 115 l br).2.1 (rdSome 115 l br).2.2∧w.grownBy w' (some B):=by
 have H:Hid (IsR w B l br):=h
 clear h
 cases hok:okB l br 115
 ·have HO:Hid (okB l br 115=false):=hok
  rw[rdSome_no hok]
  clear hok
  go_enter Tryz.func87,Tryz.ntmps87
  go_wp2_with fail
  refine(cbodyNo B l br 115 w H.out (by decide) HO.out).mono ?_
  rintro e w1 ⟨rfl,hr,hg⟩
  have hcv:=conv_isB w1 none 0 0 [] (isB_none w1)
  go_wp2_with fail
  go_ret
  exact⟨rfl,hr,hg⟩
 ·have HO:Hid (okB l br 115=true):=hok
  rw[rdSome_ok hok]
  clear hok
  have hnum:=numTo_lt4 l
  go_enter Tryz.func87,Tryz.ntmps87
  go_wp2_with fail
  refine(cbodyOk B l br 115 w H.out HO.out).mono ?_
  rintro e w1 ⟨b,off,cap,rfl,hne,hi,hr,hg⟩
  have hcv:=conv_isB w1 _ _ _ _ hi
  clear hi
  obtain⟨t,ht⟩:∃t,(l.drop 5).take (numTo l 4)=t:=⟨_,rfl⟩
  have HT:Hid ((l.drop 5).take (numTo l 4)=t):=ht
  rw[ht] at hcv
  clear ht
  have HR:Hid (IsR w1 B (l.drop (5+numTo l 4)) false):=hr
  clear hr
  go_wp2_with fail
  go_ret
  exact⟨by show _=Ending.returned (.string ⟨((l.drop 5).take (numTo l 4)).toArray⟩);rw[HT.out];rfl,HR.out,hg⟩
end
section
open Go.RowKit
attribute [local go_sem ↓] Go.wp_at_zero Go.wp_at_succ
end
section
open Go.RowKit
attribute [local go_sem ↓] Go.wp_at_zero Go.wp_at_succ
end
section
open Go.RowKit
attribute [local go_sem ↓] Go.wp_at_zero Go.wp_at_succ
end
section
open Go.RowKit
attribute [local go_sem ↓] Go.wp_at_zero Go.wp_at_succ slLH
end
section
open Go.RowKit
attribute [local go_sem ↓] Go.wp_at_zero Go.wp_at_succ
end
end Go.Proofs.YtpecobmfabmpkaaGreatDoor
