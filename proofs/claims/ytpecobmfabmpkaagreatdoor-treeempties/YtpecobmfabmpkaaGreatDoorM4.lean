/- Mix Spec256 Begin Mix256 Digest Sha256 Jr0 RefCan OwnW RefBits RefPad RefWords AppK RefSha Jr1 Jr5 Jr2 Jr3 Rdr5 RefRdr RefRdr2 RefRdr4 RefRdr5 RefRdr5b RefSame -/
import Derived.Test.YtpecobmfabmpkaaGreatDoorM3
set_option maxRecDepth 20000
set_option maxHeartbeats 2000000
namespace Go.Proofs.YtpecobmfabmpkaaGreatDoor
open Go.RowKit
def kL:List UInt32:=[
 0x428a2f98,0x71374491,0xb5c0fbcf,0xe9b5dba5,0x3956c25b,0x59f111f1,0x923f82a4,0xab1c5ed5,
 0xd807aa98,0x12835b01,0x243185be,0x550c7dc3,0x72be5d74,0x80deb1fe,0x9bdc06a7,0xc19bf174,
 0xe49b69c1,0xefbe4786,0x0fc19dc6,0x240ca1cc,0x2de92c6f,0x4a7484aa,0x5cb0a9dc,0x76f988da,
 0x983e5152,0xa831c66d,0xb00327c8,0xbf597fc7,0xc6e00bf3,0xd5a79147,0x06ca6351,0x14292967,
 0x27b70a85,0x2e1b2138,0x4d2c6dfc,0x53380d13,0x650a7354,0x766a0abb,0x81c2c92e,0x92722c85,
 0xa2bfe8a1,0xa81a664b,0xc24b8b70,0xc76c51a3,0xd192e819,0xd6990624,0xf40e3585,0x106aa070,
 0x19a4c116,0x1e376c08,0x2748774c,0x34b0bcb5,0x391c0cb3,0x4ed8aa4a,0x5b9cca4f,0x682e6ff3,
 0x748f82ee,0x78a5636f,0x84c87814,0x8cc70208,0x90befffa,0xa4506ceb,0xbef9a3f7,0xc67178f2]
theorem digRounds (w:World):
  Calls Tryz.prog 223 #[] w fun e w'=>e=.returned (.agg (wv kL).toArray)∧Below w.heap.size w w':=by
 have b0:Blk (w.alloc (.cells (wv (List.replicate 64 0)).toArray 283)) w.heap.size 283 (wv (List.replicate 64 0)):=Blk.new w _ _
 go_enter Tryz.func223,Tryz.ntmps223
 go_wp2_with (refine wpList_store_row rfl _ _ _ rfl _ (wv kL).toArray rfl rfl _ _ b0 infoA32 rfl (wv_all _) ?_)
 refine bodyPost_ret (v:=.agg (wv kL).toArray) ?_ rfl ⟨rfl,bel_row ((Below.refl _ _).alloc (Nat.le_refl _) _) (Nat.le_refl _) _⟩
 exact results_cell_row Tryz.results223 _ _ _ _ _ _ _ rfl (b0.row (wv kL)) Tryz.underlying283 rfl infoA32
end Go.Proofs.YtpecobmfabmpkaaGreatDoor
namespace Go.Proofs.YtpecobmfabmpkaaGreatDoor
structure S8 where
 a:UInt32
 b:UInt32
 c:UInt32
 d:UInt32
 e:UInt32
 f:UInt32
 g:UInt32
 h:UInt32
def S8.list (s:S8):List UInt32:=[s.a,s.b,s.c,s.d,s.e,s.f,s.g,s.h]
def S8.of (l:List UInt32):S8:=⟨nthW l 0,nthW l 1,nthW l 2,nthW l 3,nthW l 4,nthW l 5,nthW l 6,nthW l 7⟩
def t1 (s:S8)(k w:UInt32):UInt32 :=
 add32 (add32 (add32 (add32 s.h (xor32 (xor32 (rot s.e 6) (rot s.e 11)) (rot s.e 25))) (xor32 (and32 s.e s.f) (and32 (not32 s.e) s.g))) k) w
def t2 (s:S8):UInt32 :=
 add32 (xor32 (xor32 (rot s.a 2) (rot s.a 13)) (rot s.a 22)) (xor32 (xor32 (and32 s.a s.b) (and32 s.a s.c)) (and32 s.b s.c))
def stepS (s:S8)(k w:UInt32):S8:=⟨add32 (t1 s k w) (t2 s),s.a,s.b,s.c,add32 s.d (t1 s k w),s.e,s.f,s.g⟩
def runS (s:S8)(ws:List UInt32):Nat→S8
 | 0=>s
 | n+1=>stepS (runS s ws n) (nthW kL n) (nthW ws n)
def addS (s r:S8):S8:=⟨add32 s.a r.a,add32 s.b r.b,add32 s.c r.c,add32 s.d r.d,add32 s.e r.e,add32 s.f r.f,add32 s.g r.g,add32 s.h r.h⟩
def mixS (s:S8)(bl:List UInt8):S8:=addS s (runS s (wl bl 64) 64)
theorem runS_succ (s:S8)(ws:List UInt32)(n:Nat):runS s ws (n+1)=stepS (runS s ws n) (nthW kL n) (nthW ws n):=rfl
end Go.Proofs.YtpecobmfabmpkaaGreatDoor
namespace Go.Proofs.YtpecobmfabmpkaaGreatDoor
open Go.RowKit
def kcOf (size:Int)(s:S8)(mf:Nat):List Value:=.int .i64 size::(wv s.list++[.func (.func mf) #[] #[]])
def zeros83:List Value:=rc (.int .i64 0::(wv (List.replicate 8 0)++[.nilFunc])) (List.replicate 8 0) (List.replicate 64 0) 0
theorem zero83:(Tryz.prog.info? 230).map (·.zero)=some (some (.agg zeros83.toArray)):=by kernel_rfl
theorem zv83 (w:World):(zeroValue 230).run Tryz.prog w=.ok (.agg zeros83.toArray) w:=by
 have h:=zero83
 cases hq:Tryz.prog.info? 230 with
 | none=>rw[hq] at h;cases h
 | some i =>
  rw[hq] at h
  have hz:i.zero=some (.agg zeros83.toArray):=by simpa using h
  simp[zeroValue,typeInfo,hq,hz]
attribute [local go_sem ↓] zv83
theorem info83:(Tryz.prog.info? 230).map (·.size)=some 83:=by kernel_rfl
theorem info10:(Tryz.prog.info? 227).map (·.size)=some 10:=by kernel_rfl
theorem oneCells83 (size:Int)(s:S8)(mf:Nat):∀u∈rc (kcOf size s mf) s.list (List.replicate 64 0) 0,u.oneCell'=true:=by
 intro u hu
 unfold rc kcOf at hu
 rcases List.mem_append.1 hu with h|h
 ·rcases List.mem_cons.1 h with rfl|h
  ·rfl
  ·rcases List.mem_append.1 h with h|h
   ·exact wv_one _ u h
   ·rcases List.mem_cons.1 h with rfl|h
    ·rfl
    ·cases h
 ·rcases List.mem_append.1 h with h|h
  ·exact wv_one _ u h
  ·rcases List.mem_append.1 h with h|h
   ·exact bv_one _ u h
   ·rcases List.mem_cons.1 h with rfl|h
    ·rfl
    ·cases h
theorem list_build {P:Program}{ops:Array Oper}{rest:List Oper}{o:Oper}{a:Act}{w:World}{Q:Exit→Act→World→Prop}(hgd:o.guard=none)(t:TypeId)(parts:Array (Nat × Operand))(ho:o.op=.build t parts)
  (vals:List (Nat × Value)) (hv:(parts.map fun (i,x)=>(i,a.eval x)).toList=vals) (cells:Array Value) (hb:P.built t vals=some cells)
  (h:wpList P ops Q rest (a.put o.dst (.agg cells)) w):wpList P ops Q (o::rest) a w :=
 wpList_plain hgd fun _ hK=>wp_build t parts ho (by rw[hv,hb];rfl) (by rw[hv,hb];exact hK _ _ h)
theorem digBegin (size:Int)(s:S8)(mf:Nat)(w:World):
  Calls Tryz.prog 166 #[.agg (kcOf size s mf).toArray] w fun e w'=>e=.returned (.agg (rc (kcOf size s mf) s.list (List.replicate 64 0) 0).toArray)∧Below w.heap.size w w':=by
 have Bk:Blk ((w.alloc (.cells (kcOf size s mf).toArray 227)).alloc (.cells zeros83.toArray 230)) w.heap.size 227 (kcOf size s mf):=(Blk.new w _ _).alloc _
 have Bz:Blk ((w.alloc (.cells (kcOf size s mf).toArray 227)).alloc (.cells zeros83.toArray 230)) (w.heap.size+1) 230 zeros83:=Blk.newAt _ _ _ _ _ (by simp) rfl
 have hr:((w.alloc (.cells (kcOf size s mf).toArray 227)).alloc (.cells zeros83.toArray 230)).rangeAt w.heap.size 1 (wv s.list):=Bk.range 1 _ (fun j v hj=>by
  have:(kcOf size s mf)[1+j]?=(wv s.list++[.func (.func mf) #[] #[]])[j]?:=by rw[Nat.add_comm];rfl
  rw[this,List.getElem?_append_left (List.getElem?_eq_some_iff.1 hj).1];exact hj)
 have hb:Tryz.prog.built 230 [(0,.agg (kcOf size s mf).toArray),(1,.agg (wv s.list).toArray)]=some (rc (kcOf size s mf) s.list (List.replicate 64 0) 0).toArray:=by kernel_rfl
 go_enter Tryz.func166,Tryz.ntmps166
 have hst:(rc (kcOf size s mf) s.list (List.replicate 64 0) 0).toArray.size=83:=rfl
 go_wp2_with (first|(refine wpList_load_row rfl 227 _ rfl _ rfl _ _ _ _ Bk Tryz.underlying227 rfl info10 ?_)|(refine wpList_load_mid rfl 224 _ rfl w.heap.size 1 rfl (wv s.list) _ hr Tryz.underlying224 rfl (by kernel_rfl) ?_)|(refine list_build rfl 230 _ rfl [(0,.agg (kcOf size s mf).toArray),(1,.agg (wv s.list).toArray)] (by simp only[List.map_toArray,List.map_cons,List.map_nil];rfl) (rc (kcOf size s mf) s.list (List.replicate 64 0) 0).toArray hb ?_)|(refine wpList_store_row rfl 230 _ _ rfl (w.heap.size+1) (rc (kcOf size s mf) s.list (List.replicate 64 0) 0).toArray rfl rfl _ _ Bz info83 rfl (all_oneCell_toArray (oneCells83 size s mf)) ?_))
 refine bodyPost_ret (v:=.agg (rc (kcOf size s mf) s.list (List.replicate 64 0) 0).toArray) ?_ rfl ⟨rfl,bel_row (((Below.refl _ _).alloc (Nat.le_refl _) _).alloc (by simp) _) (by omega) _⟩
 exact results_cell_row Tryz.results166 _ _ _ _ _ _ _ rfl (Bz.row (rc (kcOf size s mf) s.list (List.replicate 64 0) 0)) Tryz.underlying230 rfl info83
end Go.Proofs.YtpecobmfabmpkaaGreatDoor
namespace Go.Proofs.YtpecobmfabmpkaaGreatDoor
open Go.RowKit
attribute [local go_sem] w_add w_addw w_xor w_and w_not w_notm w_shr3 w_shr10
theorem infoA8w:(Tryz.prog.info? 224).map (·.size)=some 8:=by kernel_rfl
theorem digMix256 (s:S8)(bl:List UInt8)(hl:bl.length=64)(w:World):
  Calls Tryz.prog 193 #[.agg (wv s.list).toArray,.agg (bv bl).toArray] w fun e w'=>e=.returned (.agg (wv (mixS s bl).list).toArray)∧Below w.heap.size w w':=by
 have HL:Hid (bl.length=64):=hl
 have hsz:Hid ((Tryz.prog.info? 228).map (·.size)=some (bv bl).toArray.size):=by unfold Hid;rw[infoA8,List.size_toArray,bv_length,hl]
 have hs64:Hid ((Tryz.prog.info? 283).map (·.size)=some (wv (wl bl 64)).toArray.size):=by unfold Hid;rw[infoA32,List.size_toArray,wv_length,wl_length]
 have hs65:Hid ((wv (List.replicate 64 0)).toArray.size=(wv (wl bl 64)).toArray.size):=by unfold Hid;rw[List.size_toArray,List.size_toArray,wv_length,wv_length,wl_length,List.length_replicate]
 clear hl
 go_enter Tryz.func193,Tryz.ntmps193
 go_wp2_with fail
 refine(digRounds _).mono ?_
 rintro e w1 ⟨rfl,bel1⟩
 have Bs:Blk w1 w.heap.size 224 (wv s.list):=(((Blk.newAt w _ _ _ (wv s.list) rfl rfl).alloc _).alloc _).below bel1 (by simp;omega)
 have Bb:Blk w1 (w.heap.size+1) 228 (bv bl):=((Blk.newAt _ _ _ _ (bv bl) (by simp) rfl).alloc _).below bel1 (by simp)
 have Br:Blk w1 (w.heap.size+2) 224 (wv (List.replicate 8 0)):=(Blk.newAt _ _ _ _ (wv (List.replicate 8 0)) (by simp) rfl).below bel1 (by simp)
 have hbel:Below w.heap.size w w1:=((((Below.refl _ _).alloc (Nat.le_refl _) _).alloc (by simp) _).alloc (by simp;omega) _).trans (bel1.mono (by simp;omega))
 clear bel1
 have z1:w.heap.size+2<w1.heap.size:=Br.lt
 have Bk0:Blk (w1.alloc (.cells (wv (List.replicate 64 0)).toArray 283)) w1.heap.size 283 (wv (List.replicate 64 0)):=Blk.new w1 _ _
 have n1:w.heap.size+1≠w1.heap.size:=by omega
 go_wp2_with (first|(refine wpList_store_row rfl _ _ _ rfl _ (wv kL).toArray rfl rfl _ _ Bk0 infoA32 rfl (wv_all _) ?_)|(refine wpList_load_row rfl _ _ rfl _ rfl _ _ _ _ ((Bb.alloc _).rowOther _ _ n1) Tryz.underlying228 rfl hsz.out ?_))
 refine(digSched bl HL.out _).mono ?_
 rintro e w3 ⟨rfl,bel3⟩
 have n0:w.heap.size≠w1.heap.size:=by omega
 have n2:w.heap.size+2≠w1.heap.size:=by omega
 have Bs3:Blk w3 _ _ _:=((Bs.alloc _).rowOther _ _ n0).on bel3
 have Br3:Blk w3 _ _ _:=((Br.alloc _).rowOther _ _ n2).on bel3
 have Bk3:Blk w3 _ _ _:=(Bk0.row (wv kL)).on bel3
 have hbel3:Below w.heap.size w w3:=(bel_row (hbel.alloc hbel.size _) (g:=w1.heap.size) (by omega) (wv kL).toArray).trans (bel3.mono (by simp[World.setRow];omega))
 clear bel3 Bs Bb Br Bk0 hbel n0 n1 n2
 have m0:w.heap.size≠w3.heap.size:=by have:=Bs3.lt;omega
 have m2:w.heap.size+2≠w3.heap.size:=by have:=Br3.lt;omega
 have m1:w1.heap.size≠w3.heap.size:=by have:=Bk3.lt;omega
 have Bw0:Blk (w3.alloc (.cells (wv (List.replicate 64 0)).toArray 283)) w3.heap.size 283 (wv (List.replicate 64 0)):=Blk.new w3 _ _
 go_wp2_with (refine wpList_store_row rfl _ _ _ rfl _ (wv (wl bl 64)).toArray rfl rfl _ _ Bw0 hs64.out hs65.out (wv_all _) ?_)
 refine wp_named (fun w4=>Blk w4 w.heap.size 224 (wv s.list)∧Blk w4 (w.heap.size+2) 224 (wv (List.replicate 8 0))∧Blk w4 w1.heap.size 283 (wv kL)∧Blk w4 w3.heap.size 283 (wv (wl bl 64))∧Below w.heap.size w w4)
  ⟨(Bs3.alloc _).rowOther _ _ m0,(Br3.alloc _).rowOther _ _ m2,(Bk3.alloc _).rowOther _ _ m1,Bw0.row (wv (wl bl 64)),bel_row (hbel3.alloc hbel3.size _) (by have:=hbel3.size;omega) _⟩ ?_
 clear Bs3 Br3 Bk3 Bw0 hbel3
 rintro w4 ⟨Bs,Br,Bk,Bw,hbel⟩
 generalize hg3:w3.heap.size=g3 at *
 clear hg3 hs65
 have c0:w4.cell? ⟨w.heap.size,0,none⟩=some (.int .u32 (s.a.toNat:Int)):=Bs.cell 0
 have c1:w4.cell? ⟨w.heap.size,1,none⟩=some (.int .u32 (s.b.toNat:Int)):=Bs.cell 1
 have c2:w4.cell? ⟨w.heap.size,2,none⟩=some (.int .u32 (s.c.toNat:Int)):=Bs.cell 2
 have c3:w4.cell? ⟨w.heap.size,3,none⟩=some (.int .u32 (s.d.toNat:Int)):=Bs.cell 3
 go_quiet (fail)
 have Bs:Blk (w4.drewN nq) _ _ _:=Bs
 have Br:Blk (w4.drewN nq) _ _ _:=Br
 have Bk:Blk (w4.drewN nq) _ _ _:=Bk
 have Bw:Blk (w4.drewN nq) _ _ _:=Bw
 have hbel:Below _ _ (w4.drewN nq):=bel_drewN hbel nq
 clear c0 c1 c2 c3
 generalize w4.drewN nq=w5 at *
 have c4:w5.cell? ⟨w.heap.size,4,none⟩=some (.int .u32 (s.e.toNat:Int)):=Bs.cell 4
 have c5:w5.cell? ⟨w.heap.size,5,none⟩=some (.int .u32 (s.f.toNat:Int)):=Bs.cell 5
 have c6:w5.cell? ⟨w.heap.size,6,none⟩=some (.int .u32 (s.g.toNat:Int)):=Bs.cell 6
 have c7:w5.cell? ⟨w.heap.size,7,none⟩=some (.int .u32 (s.h.toNat:Int)):=Bs.cell 7
 go_wp2
 go_quiet (fail)
 have Bs:Blk (w5.drewN nq) _ _ _:=Bs
 have Br:Blk (w5.drewN nq) _ _ _:=Br
 have Bk:Blk (w5.drewN nq) _ _ _:=Bk
 have Bw:Blk (w5.drewN nq) _ _ _:=Bw
 have hbel:Below _ _ (w5.drewN nq):=bel_drewN hbel nq
 clear c4 c5 c6 c7
 generalize w5.drewN nq=w6 at *
 go_wp2
 go_loopw [7,8,9,10,11,12,13,14,41] (fun a b c d e f g h i wr=>∃t:Nat,t≤64∧i=.int .i64 t∧a=.int .u32 ((runS s (wl bl 64) t).a.toNat:Int)∧b=.int .u32 ((runS s (wl bl 64) t).b.toNat:Int)∧c=.int .u32 ((runS s (wl bl 64) t).c.toNat:Int)∧d=.int .u32 ((runS s (wl bl 64) t).d.toNat:Int)∧e=.int .u32 ((runS s (wl bl 64) t).e.toNat:Int)∧f=.int .u32 ((runS s (wl bl 64) t).f.toNat:Int)∧g=.int .u32 ((runS s (wl bl 64) t).g.toNat:Int)∧h=.int .u32 ((runS s (wl bl 64) t).h.toNat:Int)∧Blk wr w.heap.size 224 (wv s.list)∧Blk wr (w.heap.size+2) 224 (wv (List.replicate 8 0))∧Blk wr w1.heap.size 283 (wv kL)∧Blk wr g3 283 (wv (wl bl 64))∧Below w.heap.size w wr)
  (fun _ _ _ _ _ _ _ _ i _=>64-(intOf i).toNat)
 case atStart=>exact⟨0,by omega,rfl,rfl,rfl,rfl,rfl,rfl,rfl,rfl,rfl,Bs,Br,Bk,Bw,hbel⟩
 case round =>
  clear Bs Br Bk Bw hbel
  obtain⟨t,ht,rfl,rfl,rfl,rfl,rfl,rfl,rfl,rfl,rfl,Bs,Br,Bk,Bw,hbel⟩:=hrel
  by_cases hlt:t<64
  ·have HR:Hid (runS s (wl bl 64) (t+1)=stepS (runS s (wl bl 64) t) (nthW kL t) (nthW (wl bl 64) t)):=runS_succ _ _ _
   generalize runS s (wl bl 64) t=r at *
   have ck:=(Bk.cell t).trans (wv_at kL t hlt)
   have cw:=(Bw.cell t).trans (wv_at (wl bl 64) t (by rw[wl_length];exact hlt))
   have hlt':(t:Int)<64:=by omega
   go_wp2_with (go_at_call 225;refine(digRightI _ _ (by decide) (by decide) _).mono ?_;rintro e w' ⟨rfl,hww⟩;rw[hww];clear hww w')
   go_quiet (fail)
   have Bs:Blk (wr.drewN nq) _ _ _:=Bs
   have Br:Blk (wr.drewN nq) _ _ _:=Br
   have Bk:Blk (wr.drewN nq) _ _ _:=Bk
   have Bw:Blk (wr.drewN nq) _ _ _:=Bw
   have hbel:Below _ _ (wr.drewN nq):=bel_drewN hbel nq
   clear ck cw
   generalize wr.drewN nq=w7 at *
   go_wp2_with (go_at_call 225;refine(digRightI _ _ (by decide) (by decide) _).mono ?_;rintro e w' ⟨rfl,hww⟩;rw[hww];clear hww w')
   go_roundw
   case rel=>exact⟨t+1,by omega,by go_num,by rw[HR.out];rfl,by rw[HR.out];rfl,by rw[HR.out];rfl,by rw[HR.out];rfl,by rw[HR.out];rfl,by rw[HR.out];rfl,by rw[HR.out];rfl,by rw[HR.out];rfl,Bs,Br,Bk,Bw,hbel⟩
   case measure=>simp[intOf];omega
  ·have HM:Hid (mixS s bl=addS s (runS s (wl bl 64) t)):=by
    have e:t=64:=by omega
    unfold Hid mixS;rw[e]
   have hge:¬((t:Int)<64):=by omega
   generalize runS s (wl bl 64) t=r at *
   have c0:wr.cell? ⟨w.heap.size,0,none⟩=some (.int .u32 (s.a.toNat:Int)):=Bs.cell 0
   have c1:wr.cell? ⟨w.heap.size,1,none⟩=some (.int .u32 (s.b.toNat:Int)):=Bs.cell 1
   have c2:wr.cell? ⟨w.heap.size,2,none⟩=some (.int .u32 (s.c.toNat:Int)):=Bs.cell 2
   have c3:wr.cell? ⟨w.heap.size,3,none⟩=some (.int .u32 (s.d.toNat:Int)):=Bs.cell 3
   have c4:wr.cell? ⟨w.heap.size,4,none⟩=some (.int .u32 (s.e.toNat:Int)):=Bs.cell 4
   have c5:wr.cell? ⟨w.heap.size,5,none⟩=some (.int .u32 (s.f.toNat:Int)):=Bs.cell 5
   have c6:wr.cell? ⟨w.heap.size,6,none⟩=some (.int .u32 (s.g.toNat:Int)):=Bs.cell 6
   have c7:wr.cell? ⟨w.heap.size,7,none⟩=some (.int .u32 (s.h.toNat:Int)):=Bs.cell 7
   go_wp2_with (refine wpList_store_row rfl _ _ _ rfl _ (wv (addS s r).list).toArray rfl rfl _ _ Br infoA8w rfl (wv_all _) ?_)
   refine bodyPost_ret (v:=.agg (wv (addS s r).list).toArray) ?_ rfl ⟨by rw[HM.out],bel_row hbel (by omega) _⟩
   exact results_cell_row Tryz.results193 _ _ _ _ _ _ _ rfl (Br.row (wv (addS s r).list)) Tryz.underlying224 rfl infoA8w
end Go.Proofs.YtpecobmfabmpkaaGreatDoor
namespace Go.Proofs.YtpecobmfabmpkaaGreatDoor
open Go.RowKit
attribute [local go_sem ↓] zv83
end Go.Proofs.YtpecobmfabmpkaaGreatDoor
namespace Go.Proofs.YtpecobmfabmpkaaGreatDoor
open Go.RowKit
def s256:S8:=⟨0x6a09e667,0xbb67ae85,0x3c6ef372,0xa54ff53a,0x510e527f,0x9b05688c,0x1f83d9ab,0x5be0cd19⟩
def mix256L (ws:List UInt32)(bl:List UInt8):List UInt32:=(mixS (S8.of ws) bl).list
theorem list8 (ws:List UInt32)(h:ws.length=8):(S8.of ws).list=ws:=by
 match ws,h with
 | [_,_,_,_,_,_,_,_],_=>rfl
theorem callf {f:Nat}{fn:Func}(hf:Tryz.prog.funcs[f]?=some fn)(hn:(fn.name == "runtime.NumGoroutine")=false)(hb:fn.body.isNone=false)(args:Array Value)(w:World):(callFunc f args).run Tryz.prog w=.ok (.enter f args) w:=by
 have h1:fn.name≠"runtime.NumGoroutine":=by simpa using hn
 have h2:fn.body≠none:=by intro e;rw[e] at hb;cases hb
 simp[callFunc,hf,h1,h2]
theorem mixOK256:MixOK 193 mix256L:=by
 refine⟨fun _ _=>rfl,fun args w=>?_,fun ws bl w h8 h64=>?_⟩
 ·exact callf Tryz.func193 (by kernel_rfl) (by kernel_rfl) args w
 ·have:=digMix256 (S8.of ws) bl h64 w
  rw[list8 ws h8] at this
  exact this
def sha256L (A:List UInt8):List UInt8:=hashL mix256L s256.list 32 A
theorem sha256L_length (l:List UInt8):(sha256L l).length=32:=by unfold sha256L hashL;rw[outB_length]
theorem oneKc (size:Int)(s:S8)(mf:Nat):∀u∈kcOf size s mf,u.oneCell'=true:=by
 intro u h
 unfold kcOf at h
 rcases List.mem_cons.1 h with rfl|h
 ·rfl
 ·rcases List.mem_append.1 h with h|h
  ·exact wv_one _ u h
  ·rcases List.mem_cons.1 h with rfl|h
   ·rfl
   ·cases h
theorem digKind256 (w:World):
  Calls Tryz.prog 165 #[] w fun e w'=>e=.returned (.agg (kcOf (32:Nat) s256 193).toArray)∧Below w.heap.size w w':=by
 have Bz:Blk (w.alloc (.cells (.int .i64 0::(wv (List.replicate 8 0)++[.nilFunc])).toArray 227)) w.heap.size 227 (.int .i64 0::(wv (List.replicate 8 0)++[.nilFunc])):=Blk.new w _ _
 go_enter Tryz.func165,Tryz.ntmps165
 go_wp2_with (refine wpList_store_row rfl 227 _ _ rfl w.heap.size (kcOf (32:Nat) s256 193).toArray rfl rfl _ _ Bz info10 rfl (all_oneCell_toArray (oneKc _ _ _)) ?_)
 refine bodyPost_ret (v:=.agg (kcOf (32:Nat) s256 193).toArray) ?_ rfl ⟨rfl,bel_row ((Below.refl _ _).alloc (Nat.le_refl _) _) (Nat.le_refl _) _⟩
 exact results_cell_row Tryz.results165 _ _ _ _ _ _ _ rfl (Bz.row (kcOf (32:Nat) s256 193)) Tryz.underlying227 rfl info10
abbrev Qs:=List (Nat × List UInt8)
def steleB:List UInt8:=[115,116,101,108,101]
def headTo (seq:Nat)(l:Qs)(k:Nat):List UInt8:=(l.take k).foldl (fun b g=>uintL b g.1) (listL (uintL (textL [] steleB) seq) (l.length:Int))
def headJ (seq:Nat)(l:Qs):List UInt8:=headTo seq l l.length
def sumJ (seq:Nat)(l:Qs):List UInt8:=sha256L (l.foldl (fun b g=>b++g.2) (headJ seq l))
def preJ (seq:Nat)(l:Qs):List UInt8:=bytesL (headJ seq l) (sumJ seq l)
def sealJ (seq:Nat)(l:Qs):List UInt8:=preJ seq l++List.replicate (512-(preJ seq l).length) 0
theorem takeQs (l:Qs)(k:Nat)(h:k<l.length):l.take (k+1)=l.take k++[l.getD k (0,[])]:=by
 rw[List.getD_eq_getElem?_getD,List.getElem?_eq_getElem h,←List.take_append_getElem h];rfl
theorem headTo_zero (seq:Nat)(l:Qs):headTo seq l 0=listL (uintL (textL [] steleB) seq) (l.length:Int):=rfl
theorem headTo_succ (seq:Nat)(l:Qs)(k:Nat)(h:k<l.length):headTo seq l (k+1)=uintL (headTo seq l k) (l.getD k (0,[])).1:=by
 unfold headTo;rw[takeQs l k h,List.foldl_append];rfl
theorem uintL_length (l:List UInt8)(n:Nat):(uintL l n).length=l.length+9:=by
 unfold uintL behL;rw[List.length_append,List.length_cons,beL_length]
theorem headTo_length (seq:Nat)(l:Qs)(k:Nat)(hk:k≤l.length):(headTo seq l k).length=24+9 * k:=by
 induction k with
 | zero =>
  rw[headTo_zero]
  unfold listL behL
  rw[List.length_append,List.length_cons,beL_length,uintL_length]
  unfold textL behL
  simp[beL_length,steleB]
 | succ k ih=>rw[headTo_succ _ _ _ (by omega),uintL_length,ih (by omega)];omega
theorem headJ_length (seq:Nat)(l:Qs):(headJ seq l).length=24+9 * l.length:=headTo_length seq l _ (Nat.le_refl _)
theorem sealJ_length (seq:Nat)(l:Qs)(h:(preJ seq l).length≤512):(sealJ seq l).length=512:=by
 unfold sealJ;rw[List.length_append,List.length_replicate];omega
def heldGo (p:Pl):Nat→Nat→List UInt8→Bool→Qs→Option (Qs × Bool)
 | 0,_,_,bad,l=>some (l,bad)
 | k+1,i,r,bad,l =>
  if (rdUint r bad).2.2=true∨(rdUint r bad).1<49∨p.n≤(rdUint r bad).1 then none
  else heldGo p k (i+1) (rdUint r bad).2.1 (rdUint r bad).2.2 (l++[((rdUint r bad).1,p.rdB ((1+i:Nat):Int))])
def hdName (b:List UInt8):List UInt8 × List UInt8 × Bool:=rdSome 115 b false
def hdSeq (b:List UInt8):Nat × List UInt8 × Bool:=rdUint (hdName b).2.1 (hdName b).2.2
def hdN (b:List UInt8):Nat × List UInt8 × Bool:=rdList (hdSeq b).2.1 (hdSeq b).2.2 48
def heldEnd (b:List UInt8):Option (Qs × Bool)→Option (Nat × Qs)
 | none=>none
 | some (l,bad)=>if bad=true∨(hdName b).1≠steleB∨sealJ (hdSeq b).1 l≠b then none else some ((hdSeq b).1,l)
def heldB (p:Pl)(b:List UInt8):Option (Nat × Qs):=heldEnd b (heldGo p (hdN b).1 0 (hdN b).2.1 (hdN b).2.2 [])
def heldJ (p:Pl):Option (Nat × Qs):=if p.rdE 0≠0 then none else heldB p (p.rdB 0)
def stepsP:Pl→Qs→Pl
 | p,[]=>p.flush
 | p,g::l=>if p.wrE (g.1:Int) g.2=0 then stepsP (p.write (g.1:Int) g.2) l else p.write (g.1:Int) g.2
def stepsE:Pl→Qs→Int
 | p,[]=>p.flE
 | p,g::l=>if p.wrE (g.1:Int) g.2=0 then stepsE (p.write (g.1:Int) g.2) l else p.wrE (g.1:Int) g.2
def mountP (p:Pl):Pl:=if p.rdE 0≠0 then p else match heldJ p with|none=>p|some (_,l)=>stepsP p l
def mountE (p:Pl):Int:=if p.rdE 0≠0 then p.rdE 0 else match heldJ p with|none=>0|some (_,l)=>stepsE p l
def mountS (p:Pl):Nat:=match heldJ p with|none=>0|some (s,_)=>s
def areaI (n:Nat)(i:Int):Bool:=decide (49≤i∧i<n)
structure Jl where
 p:Pl
 seq:Nat
 dead:Bool
structure Tl where
 l:Qs
 over:Bool
def putQ:Qs→Nat→List UInt8→Qs
 | [],i,b=>[(i,b)]
 | g::l,i,b=>if g.1<i then g::putQ l i b else if g.1=i then (i,b):: l else (i,b):: g::l
def hitQ:Qs→Nat→Bool
 | [],_=>false
 | g::l,i=>if g.1<i then hitQ l i else g.1==i
namespace Tl
def wrE (t:Tl)(j:Jl)(i:Int)(b:List UInt8):Int :=
 if t.over=true∨j.dead=true then 51 else if areaI j.p.n i=false then 50 else if b.length≠512 then 1 else if hitQ t.l i.toNat=false∧48≤t.l.length then 44 else 0
def write (t:Tl)(j:Jl)(i:Int)(b:List UInt8):Tl:=if t.wrE j i b=0 then { t with l:=putQ t.l i.toNat b } else t
def find (l:Qs)(i:Int):Option (List UInt8):=(l.find? fun g=>((g.1:Int)==i)).map (·.2)
def rdE (t:Tl)(j:Jl)(i:Int):Int:=match find t.l i with|some _=>0|none=>if areaI j.p.n i=false then 50 else j.p.rdE i
def rdB (t:Tl)(j:Jl)(i:Int):List UInt8:=match find t.l i with|some b=>b|none=>if areaI j.p.n i=false then [] else j.p.rdB i
def slots (l:Qs):Nat→Qs
 | _=>(l.zipIdx 1).map fun x=>(x.2,x.1.2)
end Tl
attribute [local go_sem ↓] Go.wp_at_zero Go.wp_at_succ
end Go.Proofs.YtpecobmfabmpkaaGreatDoor
namespace Go.Proofs.YtpecobmfabmpkaaGreatDoor
open Go.RowKit
attribute [local go_sem ↓] Go.wp_at_zero Go.wp_at_succ
end Go.Proofs.YtpecobmfabmpkaaGreatDoor
namespace Go.Proofs.YtpecobmfabmpkaaGreatDoor
open Go.RowKit
attribute [local go_sem ↓] Go.wp_at_zero Go.wp_at_succ
end Go.Proofs.YtpecobmfabmpkaaGreatDoor
namespace Go.Proofs.YtpecobmfabmpkaaGreatDoor
open Go.RowKit
attribute [local go_sem ↓] Go.wp_at_zero Go.wp_at_succ
end Go.Proofs.YtpecobmfabmpkaaGreatDoor
namespace Go.Proofs.YtpecobmfabmpkaaGreatDoor
open Go.RowKit
attribute [local go_sem] w_add w_addw w_xor w_and w_not w_notm w_shr3 w_shr10
theorem slC (b off len cap t:Nat)(ht:t+64≤cap)(w:World):(Instr.slice 33 (.slice (some ⟨b,off,none⟩) len cap) (some (.int .i64 (t:Int))) (some (.int .i64 ((t:Int)+64))) none).run Tryz.prog w=.ok (.slice (some ⟨b,off+t,none⟩) 64 (cap-t)) w:=by
 have he:Tryz.prog.elem 33=5:=by kernel_rfl
 have hz:(sizeOf 5).run Tryz.prog w=.ok 1 w:=by
  obtain⟨i0,hi,hz0,hz1,hz2⟩:=info_parts info8
  simp[sizeOf,typeInfo,hi,hz1]
 rw[run_slice_lh w 33 _ len cap (by rw[he];exact Tryz.underlying33) .i64 .i64 (t:Int) ((t:Int)+64) (by omega) (by omega) (by omega),he,hz]
 have e:((t:Int)+64).toNat=t+64:=by omega
 simp only[Result.andThen,sliced,Int.toNat_natCast,Nat.mul_one,Option.map_some,Addr.add_lit,e]
 rw[if_neg (by omega)]
 have e2:t+64-t=64:=by omega
 rw[e2]
attribute [local go_sem ↓] slC
end Go.Proofs.YtpecobmfabmpkaaGreatDoor
namespace Go.Proofs.YtpecobmfabmpkaaGreatDoor
open Go.RowKit
theorem drop_cons (l:Qs)(k:Nat)(h:k<l.length):l.drop k=l.getD k (0,[]):: l.drop (k+1):=by
 rw[List.getD_eq_getElem?_getD,List.getElem?_eq_getElem h,List.drop_eq_getElem_cons h];rfl
theorem preJ_length (seq:Nat)(l:Qs):(preJ seq l).length=61+9 * l.length:=by
 unfold preJ bytesL behL sumJ
 rw[List.length_append,List.length_append,List.length_cons,beL_length,headJ_length,sha256L_length];omega
attribute [local go_sem ↓] Go.wp_at_zero Go.wp_at_succ slo1
theorem rdSome_ok {mark:UInt8}{l:List UInt8}{br:Bool}(h:okB l br mark=true):rdSome mark l br=((l.drop 5).take (numTo l 4),l.drop (5+numTo l 4),false):=by unfold rdSome;rw[h];rfl
theorem rdSome_no {mark:UInt8}{l:List UInt8}{br:Bool}(h:okB l br mark=false):rdSome mark l br=([],l,true):=by unfold rdSome;rw[h];rfl
theorem cText (B:Nat)(l:List UInt8)(br:Bool)(w:World)(h:IsR w B l br):
  Calls Tryz.prog 87 #[.pointer (some ⟨B,0,none⟩)] w fun e w'=>e=.returned (.string ⟨(rdSome 115 l br).1.toArray⟩)∧IsR w' B (rdSome 115 l br).2.1 (rdSome 115 l br).2.2∧w.grownBy w' (some B):=by
 have H:Hid (IsR w B l br):=h
 clear h
 cases hok:okB l br 115
 ·have HO:Hid (okB l br 115=false):=hok
  rw[rdSome_no hok]
  clear hok
  go_enter Tryz.func87,Tryz.ntmps87
  go_wp2_with fail
  refine(cbodyNo B l br 115 w H.out (by decide) HO.out).mono ?_
  rintro e w1 ⟨rfl,hr,hg⟩
  have hcv:=conv_isB w1 none 0 0 [] (isB_none w1)
  go_wp2_with fail
  go_ret
  exact⟨rfl,hr,hg⟩
 ·have HO:Hid (okB l br 115=true):=hok
  rw[rdSome_ok hok]
  clear hok
  have hnum:=numTo_lt4 l
  go_enter Tryz.func87,Tryz.ntmps87
  go_wp2_with fail
  refine(cbodyOk B l br 115 w H.out HO.out).mono ?_
  rintro e w1 ⟨b,off,cap,rfl,hne,hi,hr,hg⟩
  have hcv:=conv_isB w1 _ _ _ _ hi
  clear hi
  obtain⟨t,ht⟩:∃t,(l.drop 5).take (numTo l 4)=t:=⟨_,rfl⟩
  have HT:Hid ((l.drop 5).take (numTo l 4)=t):=ht
  rw[ht] at hcv
  clear ht
  have HR:Hid (IsR w1 B (l.drop (5+numTo l 4)) false):=hr
  clear hr
  go_wp2_with fail
  go_ret
  exact⟨by show _=Ending.returned (.string ⟨((l.drop 5).take (numTo l 4)).toArray⟩);rw[HT.out];rfl,HR.out,hg⟩
end Go.Proofs.YtpecobmfabmpkaaGreatDoor
namespace Go.Proofs.YtpecobmfabmpkaaGreatDoor
open Go.RowKit
attribute [local go_sem ↓] Go.wp_at_zero Go.wp_at_succ
end Go.Proofs.YtpecobmfabmpkaaGreatDoor
namespace Go.Proofs.YtpecobmfabmpkaaGreatDoor
open Go.RowKit
attribute [local go_sem ↓] Go.wp_at_zero Go.wp_at_succ
end Go.Proofs.YtpecobmfabmpkaaGreatDoor
namespace Go.Proofs.YtpecobmfabmpkaaGreatDoor
open Go.RowKit
attribute [local go_sem ↓] Go.wp_at_zero Go.wp_at_succ
end Go.Proofs.YtpecobmfabmpkaaGreatDoor
namespace Go.Proofs.YtpecobmfabmpkaaGreatDoor
open Go.RowKit
attribute [local go_sem ↓] Go.wp_at_zero Go.wp_at_succ slLH
end Go.Proofs.YtpecobmfabmpkaaGreatDoor
namespace Go.Proofs.YtpecobmfabmpkaaGreatDoor
open Go.RowKit
attribute [local go_sem ↓] Go.wp_at_zero Go.wp_at_succ
end Go.Proofs.YtpecobmfabmpkaaGreatDoor
namespace Go.Proofs.YtpecobmfabmpkaaGreatDoor
open Go.RowKit
end Go.Proofs.YtpecobmfabmpkaaGreatDoor
