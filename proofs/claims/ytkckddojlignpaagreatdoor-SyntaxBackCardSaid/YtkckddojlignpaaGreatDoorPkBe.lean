/- A part of the proof, packed: see the last text of this claim. -/
import Derived.Test.YtkckddojlignpaaGreatDoorPkBb
import Derived.Test.YtkckddojlignpaaGreatDoorPkBc
import Derived.Test.YtkckddojlignpaaGreatDoorPkBd
import Derived.Lib.FrozenHead
set_option maxHeartbeats 20000000
set_option maxRecDepth 100000
namespace Go.Proofs.YtkckddojlignpaaGreatDoor
open Go.RowKit
theorem qop{w:World}(h:GLw w):(loadVar 164 ⟨1,0,none⟩).run Tryz.prog w = .ok (.agg opsArr) w:=by
 obtain⟨t,fr,h1⟩:=h.g1;exact run_loadVar_row w 1 t _ opsArr fr _ h1 Tryz.underlying164 rfl (by kernel_rfl)
def q3o(k:Int):List (List UInt8×Int)->List UInt8
 |[]=>[]
 |o :: l=>if o.2=k then o.1 else q3o k l
theorem qit{k:Int}{i:Nat}{s:List UInt8}{c:Int}(h:openL[i]?=some (s,c)):q3o k (openL.drop i)=if c=k then s else q3o k (openL.drop (i+1)):=by
 have hi:i < openL.length:=(List.getElem?_eq_some_iff.1 h).1;rw[List.drop_eq_getElem_cons hi,(List.getElem?_eq_some_iff.1 h).2];rfl
def zq(k:Int):List UInt8:=q3o k openL
def q1k(k:Int):List (List UInt8×Int×Nat)->Option (List UInt8×Nat)
 |[]=>none
 |o :: l=>if o.2.1=k then some (o.1,o.2.2) else q1k k l
theorem qis{k:Int}{i:Nat}{s:List UInt8}{c:Int}{b:Nat}(h:opsL[i]?=some (s,c,b)):q1k k (opsL.drop i)=if c=k then some (s,b) else q1k k (opsL.drop (i+1)):=by
 have hi:i < opsL.length:=(List.getElem?_eq_some_iff.1 h).1;rw[List.drop_eq_getElem_cons hi,(List.getElem?_eq_some_iff.1 h).2];rfl
def q0z(k:Int):Option (List UInt8×Nat):=q1k k opsL
def qch(k:Int):Option (List UInt8×Nat)->Value
 |some (s,b)=>.tuple #[.agg #[S_ s,.int .i64 k,.int .i64 (b:Nat)],.bool true]
 |none=>.tuple #[.agg #[.string ⟨#[]⟩,.int .i64 0,.int .i64 0],.bool false]
theorem qbb(k:Int)(s:ByteArray)(a:Option Addr)(n cap:Nat)(w:World)(h:GLw w)(_h2:2<=w.heap.size) :
  Calls Tryz.prog 203 #[.agg #[.int .i64 k,.string s,.slice a n cap]] w fun e w'=>e = .returned (S_ (zq k))/\Below w.heap.size w w':=by
 have hb0:=(Below.refl w.heap.size w).alloc (q5 _) (.cells #[.int .i64 k,.string s,.slice a n cap] 25);have hl:=qfz (h.keep fun b hb hl=>hb0.block b hl);have R0:=qh (Row3.new w (.int .i64 k) (.string s) (.slice a n cap));obtain⟨V,hV⟩:∃ V,zq k=V:=⟨_,rfl⟩;rw[hV];have HV:=qh hV;have HB:=qh hb0;have Hl:=qh hl;clear h hl hV hb0;go_enter Tryz.func203,Tryz.ntmps203
 go_wp2_with (refine ym rfl _ _ rfl Hl.out ?_)
 obtain⟨W,hW⟩:∃ W,w.alloc (.cells #[.int .i64 k,.string s,.slice a n cap] 25)=W:=⟨_,rfl⟩;rw[hW]at R0 HB;rw[hW];clear hW Hl
 go_loopw [6] (fun v6 wr=>∃ i:Nat,i<=20/\v6 = .int .i64 i/\Hid (q3o k (openL.drop i)=V)/\Hid (Below W.heap.size W wr)) (fun v6 _=>20 - (intOf v6).toNat)
 case atStart=>exact⟨0,qp _,rfl,HV,Below.refl _ _⟩
 case round =>
  obtain⟨i,hi,rfl,hrun,hbl⟩:=hrel
  by_cases hlt:i < 20
  ·have hlt':(i:Int) < 20:=by omega
   obtain⟨t,c,hget,hidx⟩:=qbo i hlt wr;have Hidx:=qh hidx;have Hst:=qh (qit (k:=k) hget);have hm1:(i:Int)+1<=20:=by omega
   have R1:=qh (R0.out.below hbl.out R0.out.lt);have R2:=qh (R1.out.alloc (.cells #[S_ t,.int .i64 c] 160));obtain⟨⟨n0,n1,n2⟩,_⟩:=R2.out.cells;clear hidx hget
   by_cases hs:c=k
   ·have HF:=qh (hrun.out.symm.trans (Hst.out.trans (qa hs)))
    have hs':((c:Int)==k)=true:=by rw[beq_iff_eq];exact hs
    clear hs;unfold S_ at Hidx n0 n1 n2
    go_wp2_with (refine xi rfl _ _ _ rfl rfl rfl Hidx.out ?_)
    go_ret;exact⟨by rw[HF.out];rfl,HB.out.trans ((hbl.out.alloc hbl.out.size _).mono (by have:=R0.out.lt;omega))⟩
   ·have HF:=qh ((Hst.out.trans (q7 hs)).symm.trans hrun.out)
    have hs':((c:Int)==k)=false:=by rw[q9];exact hs
    clear hs;unfold S_ at Hidx n0 n1 n2
    go_wp2_with (refine xi rfl _ _ _ rfl rfl rfl Hidx.out ?_)
    go_roundw
    case rel=>exact⟨i+1,hlt,by push_cast;rfl,HF,hbl.out.alloc hbl.out.size _⟩
    case measure=>simp[intOf];omega
  ·have hlt':¬ ((i:Int) < 20):=by omega
   obtain rfl:i=20:=by omega
   have HF:Hid ([]=V):=qh hrun.out;go_wp2;go_ret;exact⟨by rw[<-HF.out];rfl,HB.out.trans (hbl.out.mono (by have:=R0.out.lt;omega))⟩
def RowO(W:World)(b:Nat)(v0 v1 v2:Value):Prop:=W.heap[b]?=some (.cells #[v0,v1,v2] 163 (0,0))
section
variable {W:World} {b:Nat} {v0 v1 v2:Value}
theorem RowO.cells(h:RowO W b v0 v1 v2):(W.cell? ⟨b,0,none⟩=some v0/\W.cell? ⟨b,1,none⟩=some v1/\W.cell? ⟨b,2,none⟩=some v2)/\W.frozen? ⟨b,0,none⟩=false/\W.frozen? ⟨b,1,none⟩=false/\W.frozen? ⟨b,2,none⟩=false:=by
 have h0:W.heap[b]?=some (.cells #[v0,v1,v2] 163 (0,0)):=h;exact⟨⟨qk _ _ _ _ _ _ h0,qk _ _ _ _ _ _ h0,qk _ _ _ _ _ _ h0⟩,by simp[World.frozen?,h0],by simp[World.frozen?,h0],by simp[World.frozen?,h0]⟩
theorem RowO.lt(h:RowO W b v0 v1 v2):b < W.heap.size:=za h
theorem RowO.alloc(h:RowO W b v0 v1 v2)(o:Obj):RowO (W.alloc o) b v0 v1 v2:=(Below.heap_alloc _ _ _ h.lt).trans h
theorem RowO.below{W':World}{n:Nat}(h:RowO W b v0 v1 v2)(hb:Below n W W')(hn:b < n):RowO W' b v0 v1 v2:=(hb.block b hn).trans h
theorem RowO.put(h:RowO W b v0 v1 v2)(u0 u1 u2:Value):RowO (((W.setCell ⟨b,0,none⟩ u0).setCell ⟨b,1,none⟩ u1).setCell ⟨b,2,none⟩ u2) b u0 u1 u2:=by
 have h0:W.heap[b]?=some (.cells #[v0,v1,v2] 163 (0,0)):=h;exact(xl (xl (xl h0))).trans rfl
theorem qg0{fn:Func}{t u:Nat}{a:Act}{R:Ending->World->Prop}{v:Value}(h:RowO W b v0 v1 v2)(hr:fn.results=#[ResultVar.cell t 163,ResultVar.tmp u])(hv:(a.tmps[u]?).getD undef=v)(hd:a.defers=[])(ha:(a.tmps[t]?).getD undef = .pointer (some ⟨b,0,none⟩))
  (hR:R (.returned (.tuple #[.agg #[v0,v1,v2],v])) W):bodyPost Tryz.prog fn R .ret a W:=by
 obtain⟨⟨c0,c1,c2⟩,_⟩:=h.cells;exact bodyPost_ret (v:=.tuple #[.agg #[v0,v1,v2],v]) (by simp[results,hr,go_sem,ha,hv,c0,c1,c2]) hd hR
end
theorem q45(k:Int)(s:ByteArray)(a:Option Addr)(n cap:Nat)(w:World)(h:GLw w)(_h2:2<=w.heap.size) :
  Calls Tryz.prog 205 #[.agg #[.int .i64 k,.string s,.slice a n cap]] w fun e w'=>e = .returned (qch k (q0z k))/\Below w.heap.size w w':=by
 obtain⟨W,hW⟩:∃ W,(w.alloc (.cells #[.int .i64 k,.string s,.slice a n cap] 25)).alloc (.cells #[.string ⟨#[]⟩,.int .i64 0,.int .i64 0] 163)=W:=⟨_,rfl⟩;have hb0:=((Below.refl w.heap.size w).alloc (q5 _) (.cells #[.int .i64 k,.string s,.slice a n cap] 25)).alloc (by simp) (.cells #[.string ⟨#[]⟩,.int .i64 0,.int .i64 0] 163);have hl:=qop (h.keep fun b hb hl=>hb0.block b hl);have R0:=qh ((Row3.new w (.int .i64 k) (.string s) (.slice a n cap)).alloc (.cells #[.string ⟨#[]⟩,.int .i64 0,.int .i64 0] 163));have O0:Hid (RowO W (w.heap.size+1) (.string ⟨#[]⟩) (.int .i64 0) (.int .i64 0)):=qh (by rw[<-hW];exact x6 (by simp));obtain⟨V,hV⟩:∃ V,q0z k=V:=⟨_,rfl⟩;rw[hV];have HV:=qh hV;have HB:=qh hb0;have Hl:=qh hl;have HW:=qh hW;clear h hl hV hb0 hW;go_enter Tryz.func205,Tryz.ntmps205
 go_wp2_with (refine ym rfl _ _ rfl Hl.out ?_)
 rw[HW.out]at R0 HB;rw[HW.out];clear HW Hl
 go_loopw [7] (fun v6 wr=>∃ i:Nat,i<=8/\v6 = .int .i64 i/\Hid (q1k k (opsL.drop i)=V)/\Hid (Below W.heap.size W wr)) (fun v6 _=>8 - (intOf v6).toNat)
 case atStart=>exact⟨0,qp _,rfl,HV,Below.refl _ _⟩
 case round =>
  obtain⟨i,hi,rfl,hrun,hbl⟩:=hrel;have O1:=qh (O0.out.below hbl.out O0.out.lt)
  by_cases hlt:i < 8
  ·have hlt':(i:Int) < 8:=by omega
   obtain⟨t,c,b,hget,hne,hidx⟩:=qe0 i hlt wr;have Hidx:=qh hidx;have Hst:=qh (qis (k:=k) hget);have hm1:(i:Int)+1<=8:=by omega
   have R1:=qh (R0.out.below hbl.out R0.out.lt);have R2:=qh (R1.out.alloc (.cells #[S_ t,.int .i64 c,.int .i64 (b:Nat)] 163));have O2:=qh (O1.out.alloc (.cells #[S_ t,.int .i64 c,.int .i64 (b:Nat)] 163));obtain⟨⟨n0,n1,n2⟩,_⟩:=R2.out.cells;obtain⟨⟨o0,o1,o2⟩,p0,p1,p2⟩:=O2.out.cells;clear hidx hget hne
   by_cases hs:c=k
   ·have HF:=qh (hrun.out.symm.trans (Hst.out.trans (qa hs)))
    have hs':((c:Int)==k)=true:=by rw[beq_iff_eq];exact hs
    have Hs:=qh hs;clear hs;unfold S_ at Hidx n0 n1 n2 O2 o0 o1 o2 p0 p1 p2
    go_wp2_with (refine xi rfl _ _ _ rfl rfl rfl Hidx.out ?_)
    refine qg0 (O2.out.put _ _ _) Tryz.results205 rfl rfl rfl ?_;exact⟨by rw[HF.out,<-Hs.out];rfl,y4 (HB.out.trans ((hbl.out.alloc hbl.out.size _).mono (by have:=R0.out.lt;omega))) (by omega) _ _ _⟩
   ·have HF:=qh ((Hst.out.trans (q7 hs)).symm.trans hrun.out)
    have hs':((c:Int)==k)=false:=by rw[q9];exact hs
    clear hs;unfold S_ at Hidx n0 n1 n2 O2 o0 o1 o2 p0 p1 p2
    go_wp2_with (refine xi rfl _ _ _ rfl rfl rfl Hidx.out ?_)
    go_roundw
    case rel=>exact⟨i+1,hlt,by push_cast;rfl,HF,hbl.out.alloc hbl.out.size _⟩
    case measure=>simp[intOf];omega
  ·have hlt':¬ ((i:Int) < 8):=by omega
   obtain rfl:i=8:=by omega
   have HF:Hid (none=V):=qh hrun.out;obtain⟨⟨o0,o1,o2⟩,p0,p1,p2⟩:=O1.out.cells;go_wp2;refine qg0 (O1.out.put _ _ _) Tryz.results205 rfl rfl rfl ?_;exact⟨by rw[<-HF.out];rfl,y4 (HB.out.trans (hbl.out.mono (by have:=R0.out.lt;omega))) (by omega) _ _ _⟩
abbrev Tx:=List UInt8
theorem zr(l:Tx):bs ⟨l.toArray⟩=l:=rfl
def q01(k:Int)(bind:Nat)(more:Bool):Bool:=(match q0z k with|some (_,b)=>decide (b < bind)|none=>false)||((decide (k=18)||decide (k=19)) && more)
def qab(k:Int)(f:Bool->Tx)(bind:Nat)(more:Bool):Tx:=if q01 k bind more then 40 :: (f false++[41]) else f more
def q1w(l:List Nd)(ks:List (Bool->Tx))(i bind:Nat)(more:Bool):Tx:=match l[i]?,ks[i]? with
 |some (.mk k _ _),some f=>qab k f bind more
 |_,_=>[]
def qax(x:Nd)(f:Bool->Tx):Tx:=match x with| .mk k s l=>if k=17\/0 < l.length then 40 :: (f false++[41]) else bs s
def kq(s:ByteArray)(l:List Nd)(ks:List (Bool->Tx)):Tx:=bs s++((if 1 < l.length then [58,32]++q1w l ks 0 6 false else [])++([46,32]++q1w l ks (l.length - 1) 0 false))
def yz(k:Int):Tx:=match q0z k with|some (s,_)=>s|none=>[]
def xe(k:Int):Nat:=match q0z k with|some (_,b)=>b|none=>0
def q0i(b:Nat):Nat:=if b=0 then 0 else b+1
def vg(b:Nat):Nat:=if b=0 then 1 else b
def qa2(k:Int)(s:ByteArray)(l:List Nd)(ks:List (Bool->Tx))(more:Bool):Tx :=
 if k=15\/k=16 then bs s++(l.zip ks).flatMap fun p=>32 :: qax p.1 p.2
 else if k=17 then zq k++kq s l ks
 else if k=18\/k=19 then(zq k++[32])++kq s l ks
 else if k=20\/k=21 then zq k
 else if k=29 then zq k++q1w l ks 0 5 more
 else if k=30 then zq k++(q1w l ks 0 0 false++[125])
 else q1w l ks 0 (q0i (xe k)) true++(([32]++(yz k++[32]))++q1w l ks 1 (vg (xe k)) more)
mutual
def Nd.bare:Nd->Bool->Tx
 | .mk k s l=>fun more=>qa2 k s l (Nd.bareL l) more
def Nd.bareL:List Nd->List (Bool->Tx)
 |[]=>[]
 |a :: l=>Nd.bare a :: Nd.bareL l
end
theorem q74:∀ l:List Nd,Nd.bareL l=l.map Nd.bare
 |[]=>by simp only[Nd.bareL,List.map_nil]
 |a :: l=>by simp only[Nd.bareL,List.map_cons];rw[q74 l]
def Nd.kd:Nd->Int| .mk k _ _=>k
def Nd.txt(t:Nd)(bind:Nat)(more:Bool):Tx:=qab t.kd t.bare bind more
def Nd.arg(t:Nd):Tx:=qax t t.bare
theorem q1d{l:List Nd}{i:Nat}(h:i < l.length)(bind:Nat)(more:Bool):q1w l (Nd.bareL l) i bind more=(l[i]).txt bind more:=by
 unfold q1w;rw[q74,qj h,List.getElem?_map,qj h];generalize l[i]=x
 cases x;rfl
theorem q61:∀ l:List Nd,(l.zip (l.map Nd.bare)).flatMap (fun p=>32 :: qax p.1 p.2)=l.flatMap fun x=>32 :: x.arg
 |[]=>rfl
 |a :: l=>by simp only[List.map_cons,List.zip_cons_cons,List.flatMap_cons];rw[q61 l];rfl
theorem q73{k:Int}(h:k=15\/k=16)(s:ByteArray)(l:List Nd)(more:Bool):(Nd.mk k s l).bare more=bs s++l.flatMap fun x=>32 :: x.arg:=by
 simp only[Nd.bare,qa2];rw[qa h,q74,q61]
def jv(k:Int)(n:Nat):Bool:=decide (k=15)||(decide (k=16)||((decide (17<=k) && decide (k<=19) && (decide (n=1)||decide (n=2)))||(decide (k=20)||(decide (k=21)||(((decide (k=29)||decide (k=30)) && decide (1<=n))||((decide (22<=k) && decide (k<=28)||decide (k=31)) && decide (2<=n)))))))
mutual
def Nd.okP:Nd->Bool
 | .mk k s l=>jv k l.length && (decide (s.size<=64) && Nd.okL l)
def Nd.okL:List Nd->Bool
 |[]=>true
 |a :: l=>a.okP && Nd.okL l
end
theorem qam:∀ {l:List Nd} (_:Nd.okL l=true) (i:Nat) (h:i < l.length),(l[i]).okP=true
 |a :: l,ho,0,_=>by simp only[Nd.okL,qd]at ho;exact ho.1
 |a :: l,ho,i+1,h=>by
  simp only[Nd.okL,qd]at ho;simpa using qam ho.2 i (by simpa using h)
theorem PrW.later{B b:Nat}{l:List UInt8}{w w':World}(h:PrW B b l w)(hb:Below w.heap.size w w'):PrW B b l w':=by
 rcases h with ⟨h1,v,h2,h3,h4⟩|⟨h1,v,h2,h3,h4⟩
 ·exact .inl ⟨h1,v,(hb.block _ (za h2)).trans h2,zi h3 fun k _ hk _=>hb.block _ hk,h4⟩
 ·exact .inr ⟨h1,v,(hb.block _ (za h2)).trans h2,zi h3 fun k _ hk _=>hb.block _ hk,h4⟩
theorem Wr.of{B b:Nat}{w w':World}(hb:Below w.heap.size w w')(hB:B<=w.heap.size):Wr B b w w':=⟨hb.mono hB,fun k _ e1 _ _=>(hb.block k (za e1)).trans e1⟩
theorem Wr.later{B b:Nat}{w w1 w':World}(h:Wr B b w w1)(hb:Below w1.heap.size w1 w')(hB:B<=w1.heap.size):Wr B b w w':=h.trans (Wr.of hb hB)
theorem Wr.rowO{B b:Nat}{w w':World}(h:Wr B b w w'){X:Nat}{v0 v1 v2:Value}(r:RowO w X v0 v1 v2)(hX:X≠b):RowO w' X v0 v1 v2 :=
 h.kp X _ r (fun e=>hX (zc e)) (fun c fz e=>absurd (Obj.cells.inj e).2.1 (by decide))
structure PrI(w0:World)(b:Nat)(l:Tx)(w:World):Prop where
 p:PrW w0.heap.size b l w
 bl:Below w0.heap.size w0 w
 gl:GLw w0
 two:2<=w0.heap.size
theorem PrI.size{w0:World}{b:Nat}{l:Tx}{w:World}(h:PrI w0 b l w):w0.heap.size<=w.heap.size:=h.bl.size
theorem PrI.alloc{w0:World}{b:Nat}{l:Tx}{w:World}(h:PrI w0 b l w)(o:Obj):PrI w0 b l (w.alloc o):=⟨h.p.alloc o,h.bl.alloc h.size o,h.gl,h.two⟩
theorem PrI.later{w0:World}{b:Nat}{l:Tx}{w w':World}(h:PrI w0 b l w)(hb:Below w.heap.size w w'):PrI w0 b l w':=⟨h.p.later hb,h.bl.trans (hb.mono h.size),h.gl,h.two⟩
theorem PrI.next{w0:World}{b:Nat}{l l':Tx}{w w':World}(h:PrI w0 b l w)(hp:PrW w0.heap.size b l' w')(hw:Wr w0.heap.size b w w'):PrI w0 b l' w':=⟨hp,h.bl.trans hw.bl,h.gl,h.two⟩
theorem PrI.glw{w0:World}{b:Nat}{l:Tx}{w:World}(h:PrI w0 b l w):GLw w:=h.gl.keep fun k _ hl=>h.bl.block k hl
theorem PrI.two'{w0:World}{b:Nat}{l:Tx}{w:World}(h:PrI w0 b l w):2<=w.heap.size:=ql h.two h.size
theorem PrI.tree{w0:World}{b:Nat}{l:Tx}{w:World}(h:PrI w0 b l w){t:Nd}{v0 v1 v2:Value}(ht:NdR w0 t v0 v1 v2):NdR w t v0 v1 v2:=ht.later h.bl
theorem PrI.cell{w0:World}{b:Nat}{l:Tx}{w:World}(h:PrI w0 b l w){p:Addr}{v:Value}(hc:w0.cell? p=some v):w.cell? p=some v:=(h.bl.cell (World.block_lt_of_cell? w0 p hc)).trans hc
def PrO(w0:World)(b:Nat)(l:Tx)(w:World)(T:Tx)(e:Ending)(w':World):Prop:=e = .returned (.tuple #[])/\PrI w0 b (l++T) w'/\Wr w0.heap.size b w w'
theorem qmv{w0:World}{b:Nat}{l:Tx}{w:World}(h:PrI w0 b l w)(L:List ByteArray)(hL:L.length<=1000)(hlen:l.length+(xn L).length<=100000000) :
  Calls Tryz.prog 157 #[.pointer (some ⟨b,0,none⟩),.slice (some ⟨w.heap.size,0,none⟩) L.length L.length] (w.alloc (.cells (L.map Value.string).toArray 9)) (PrO w0 b l w (xn L)):=by
 refine(qos w0.heap.size b w.heap.size l L L.length L.length _ (h.alloc _).p (h.alloc _).size rfl hL hlen (by have:=h.p.lt;omega) (qm w _)).mono ?_;rintro e w'⟨rfl,h1,h2⟩;have hw:=((Wr.refl w0.heap.size b w).alloc h.size _).trans h2;exact⟨rfl,h.next h1 hw,hw⟩
theorem xr{w0:World}{b:Nat}{l:Tx}{w:World}(h:PrI w0 b l w)(n:Nat)(hn:n=w.heap.size)(s:ByteArray)(hlen:l.length+(bs s).length<=100000000) :
  Calls Tryz.prog 157 #[.pointer (some ⟨b,0,none⟩),.slice (some ⟨n,0,none⟩) 1 1] (w.alloc (.cells #[.string s] 9)) (PrO w0 b l w (bs s)):=by
 subst hn;have:=qmv h [s] (by simp) (by simpa[xn]using hlen);simpa[xn]using this
theorem put2{w0:World}{b:Nat}{l:Tx}{w:World}(h:PrI w0 b l w)(n:Nat)(hn:n=w.heap.size)(s t:ByteArray)(hlen:l.length+(bs s++bs t).length<=100000000) :
  Calls Tryz.prog 157 #[.pointer (some ⟨b,0,none⟩),.slice (some ⟨n,0,none⟩) 2 2] (w.alloc (.cells #[.string s,.string t] 9)) (PrO w0 b l w (bs s++bs t)):=by
 subst hn;have:=qmv h [s,t] (by simp) (by simpa[xn]using hlen);simpa[xn]using this
theorem put3{w0:World}{b:Nat}{l:Tx}{w:World}(h:PrI w0 b l w)(n:Nat)(hn:n=w.heap.size)(s t u:ByteArray)(hlen:l.length+(bs s++(bs t++bs u)).length<=100000000) :
  Calls Tryz.prog 157 #[.pointer (some ⟨b,0,none⟩),.slice (some ⟨n,0,none⟩) 3 3] (w.alloc (.cells #[.string s,.string t,.string u] 9)) (PrO w0 b l w (bs s++(bs t++bs u))):=by
 subst hn;have:=qmv h [s,t,u] (by simp) (by simpa[xn]using hlen);simpa[xn]using this
def qa7(w0:World)(b:Nat)(t:Nd):Prop:=∀ (v0 v1 v2:Value) (more:Bool) (l:Tx) (w:World),NdR w0 t v0 v1 v2->PrI w0 b l w->l.length+(t.bare more).length<=100000000 ->
 Calls Tryz.prog 206 #[.pointer (some ⟨b,0,none⟩),.agg #[v0,v1,v2],.bool more] w (PrO w0 b l w (t.bare more))
def q7e(w0:World)(b:Nat)(t:Nd):Prop:=∀ (v0 v1 v2:Value) (bind:Nat) (more:Bool) (l:Tx) (w:World),bind<=8->NdR w0 t v0 v1 v2->PrI w0 b l w->l.length+(t.txt bind more).length<=100000000 ->
 Calls Tryz.prog 158 #[.pointer (some ⟨b,0,none⟩),.agg #[v0,v1,v2],.int .i64 bind,.bool more] w (PrO w0 b l w (t.txt bind more))
def qoh(w0:World)(b:Nat)(t:Nd):Prop:=∀ (v0 v1 v2:Value) (l:Tx) (w:World),NdR w0 t v0 v1 v2->PrI w0 b l w->l.length+t.arg.length<=100000000 ->
 Calls Tryz.prog 226 #[.pointer (some ⟨b,0,none⟩),.agg #[v0,v1,v2]] w (PrO w0 b l w t.arg)
theorem qfr{w0:World}{b:Nat}{t:Nd}(hb:qa7 w0 b t):qoh w0 b t:=by
 intro v0 v1 v2 l w ht hp hlen;obtain⟨k,s,kl,a,cap,rfl,rfl,rfl,rfl,hs,hl⟩:=ht.form;obtain⟨W,hW⟩:∃ W,w.alloc (.cells #[.int .i64 k,.string s,.slice a kl.length cap] 25)=W:=⟨_,rfl⟩;have R0':Row3 W w.heap.size (.int .i64 k) (.string s) (.slice a kl.length cap):=by rw[<-hW];exact Row3.new _ _ _ _
 have P0:=qh (hW▸hp.alloc (.cells #[.int .i64 k,.string s,.slice a kl.length cap] 25));have K0:=qh (hW▸(Wr.refl w0.heap.size b w).alloc hp.size (.cells #[.int .i64 k,.string s,.slice a kl.length cap] 25));have hne:w.heap.size≠b:=by have:=hp.p.lt;omega
 have HW:=qh hW;have R0:=qh R0';obtain⟨⟨n0,n1,n2⟩,_⟩:=R0'.cells;have HN:=qh ht;have HL:=qh hlen;unfold maxLen at hl;obtain⟨T,hT⟩:∃ T,(Nd.mk k s kl).arg=T:=⟨_,rfl⟩;rw[hT]at HL;rw[hT];have HT:=qh hT;clear ht hlen hT hW R0' hp
 by_cases hc:k=17\/0 < kl.length
 ·have HE:Hid (T=40 :: ((Nd.mk k s kl).bare false++[41])):=qh (HT.out.symm.trans (qa hc))
  have hlen1:l.length+((Nd.mk k s kl).bare false).length+2<=100000000:=by
   have:=HL.out;rw[HE.out]at this;simp only[qi,qc,qo]at this;omega
  have C1:=qh (fun w' (h:PrI w0 b l w') n (hn:n=w'.heap.size)=>xr h n hn ⟨#[40]⟩ (by simp[bs];omega));have C2:=qh (fun w' (h:PrI w0 b (l++bs ⟨#[40]⟩) w')=>hb _ _ _ false _ w' HN.out h (by simp[bs];omega));have C3:=qh (fun w' (h:PrI w0 b ((l++bs ⟨#[40]⟩)++(Nd.mk k s kl).bare false) w') n (hn:n=w'.heap.size)=>xr h n hn ⟨#[41]⟩ (by simp[bs];omega));have HE2:Hid (T=bs ⟨#[40]⟩++((Nd.mk k s kl).bare false++bs ⟨#[41]⟩)):=HE;clear hlen1 HE;obtain⟨A,hA⟩:∃ A,(k==17)=A:=⟨_,rfl⟩
  have hAl:Hid (A=false->0 < kl.length):=qh (fun e=>by
   rcases hc with h|h
   ·rw[h]at hA;subst e;exact absurd hA (by decide)
   ·exact h)
  clear hc
  cases A with
  |true =>
   go_enter Tryz.func226,Tryz.ntmps226
   go_upto_region 1 with fail
   rw[HW.out]
   go_wp2_with fail
   refine(C1.out _ P0.out _ (by first|rfl|simp only[q6])).mono ?_;rintro e w1⟨rfl,pp,kk⟩;have P1:=qh pp;have K1:=qh (K0.out.trans kk);have R1:=qh (kk.row3 R0.out hne);clear pp kk C1 n0 n1 n2;obtain⟨⟨n0,n1,n2⟩,_⟩:=R1.out.cells
   go_wp2_with fail
   refine(C2.out _ P1.out).mono ?_;rintro e w2⟨rfl,pp,kk⟩;have P2:=qh pp;have K2:=qh (K1.out.trans kk);have R2:=qh (kk.row3 R1.out hne);clear pp kk C2 n0 n1 n2;obtain⟨⟨n0,n1,n2⟩,_⟩:=R2.out.cells
   go_wp2_with fail
   refine(C3.out _ P2.out _ (by first|rfl|simp only[q6])).mono ?_;rintro e w3⟨rfl,pp,kk⟩;have P3:=qh pp;have K3:=qh (K2.out.trans kk);have R3:=qh (kk.row3 R2.out hne);clear pp kk C3 n0 n1 n2;go_wp2;go_end0;exact⟨rfl,by rw[HE2.out];simpa only[qe,zr]using P3.out,K3.out⟩
  |false =>
   have j0:=hAl.out rfl;have i0:(0:Int) < (kl.length:Int):=by omega
   go_enter Tryz.func226,Tryz.ntmps226
   go_upto_region 1 with fail
   rw[HW.out]
   go_wp2_with fail
   refine(C1.out _ P0.out _ (by first|rfl|simp only[q6])).mono ?_;rintro e w1⟨rfl,pp,kk⟩;have P1:=qh pp;have K1:=qh (K0.out.trans kk);have R1:=qh (kk.row3 R0.out hne);clear pp kk C1 n0 n1 n2;obtain⟨⟨n0,n1,n2⟩,_⟩:=R1.out.cells
   go_wp2_with fail
   refine(C2.out _ P1.out).mono ?_;rintro e w2⟨rfl,pp,kk⟩;have P2:=qh pp;have K2:=qh (K1.out.trans kk);have R2:=qh (kk.row3 R1.out hne);clear pp kk C2 n0 n1 n2;obtain⟨⟨n0,n1,n2⟩,_⟩:=R2.out.cells
   go_wp2_with fail
   refine(C3.out _ P2.out _ (by first|rfl|simp only[q6])).mono ?_;rintro e w3⟨rfl,pp,kk⟩;have P3:=qh pp;have K3:=qh (K2.out.trans kk);have R3:=qh (kk.row3 R2.out hne);clear pp kk C3 n0 n1 n2;go_wp2;go_end0;exact⟨rfl,by rw[HE2.out];simpa only[qe,zr]using P3.out,K3.out⟩
 ·have HE:Hid (T=bs s):=qh (HT.out.symm.trans (q7 hc))
  have hlen1:l.length+(bs s).length<=100000000:=by
   have:=HL.out
   rwa [HE.out]at this
  have C1:=qh (fun w' (h:PrI w0 b l w') n (hn:n=w'.heap.size)=>xr h n hn s hlen1);have hA:(k==17)=false:=by rw[q9];exact fun e=>hc (.inl e)
  have j0:¬ (0 < kl.length):=fun e=>hc (.inr e)
  have j0':decide (0 < kl.length)=false:=by simpa using j0
  have i0:¬ ((0:Int) < (kl.length:Int)):=by omega
  clear hlen1 hc;go_enter Tryz.func226,Tryz.ntmps226
  go_upto_region 1 with fail
  rw[HW.out]
  go_wp2_with fail
  refine(C1.out _ P0.out _ (by first|rfl|simp only[q6])).mono ?_;rintro e w1⟨rfl,pp,kk⟩;have P1:=qh pp;have K1:=qh (K0.out.trans kk);have R1:=qh (kk.row3 R0.out hne);clear pp kk C1 n0 n1 n2;go_wp2;go_end0;exact⟨rfl,by rw[HE.out];simpa only[qe,zr]using P1.out,K1.out⟩
theorem qg9{w0:World}{b:Nat}{t:Nd}(hb:qa7 w0 b t):q7e w0 b t:=by
 intro v0 v1 v2 bind more l w hbd ht hp hlen;obtain⟨k,s,kl,a,cap,rfl,rfl,rfl,rfl,hs,hl⟩:=ht.form;obtain⟨W,hW⟩:∃ W,w.alloc (.cells #[.int .i64 k,.string s,.slice a kl.length cap] 25)=W:=⟨_,rfl⟩;have R0':Row3 W w.heap.size (.int .i64 k) (.string s) (.slice a kl.length cap):=by rw[<-hW];exact Row3.new _ _ _ _
 have P0:=qh (hW▸hp.alloc (.cells #[.int .i64 k,.string s,.slice a kl.length cap] 25));have K0:=qh (hW▸(Wr.refl w0.heap.size b w).alloc hp.size (.cells #[.int .i64 k,.string s,.slice a kl.length cap] 25));have hne:w.heap.size≠b:=by have:=hp.p.lt;omega
 have HW:=qh hW;have R0:=qh R0';obtain⟨⟨n0,n1,n2⟩,_⟩:=R0'.cells;have HN:=qh ht;have HL:=qh hlen;unfold maxLen at hl;obtain⟨T,hT⟩:∃ T,(Nd.mk k s kl).txt bind more=T:=⟨_,rfl⟩;rw[hT]at HL;rw[hT];have HT:=qh hT;have CO:=qh (fun w' (h:PrI w0 b l w')=>q45 k s a kl.length cap w' h.glw h.two');clear ht hlen hT hW R0' hp;obtain⟨pr,hpr⟩:∃ pr,q01 k bind more=pr:=⟨_,rfl⟩;have HPR:=qh hpr;clear hpr;have HE1:Hid (pr=true->T=bs ⟨#[40]⟩++((Nd.mk k s kl).bare false++bs ⟨#[41]⟩)):=qh (fun e=>HT.out.symm.trans (qa (HPR.out.trans e)));have HE0:Hid (pr=false->T=(Nd.mk k s kl).bare more):=qh (fun e=>HT.out.symm.trans (q7 (by rw[Nd.kd,HPR.out,e];decide)));have C1:=qh (fun(e:pr=true) w' (h:PrI w0 b l w') n (hn:n=w'.heap.size)=>xr h n hn ⟨#[40]⟩ (by have:=HL.out;rw[HE1.out e]at this;simp[bs]at this ⊢;omega));have C2:=qh (fun(e:pr=true) w' (h:PrI w0 b (l++bs ⟨#[40]⟩) w')=>hb _ _ _ false _ w' HN.out h (by have:=HL.out;rw[HE1.out e]at this;simp[bs]at this ⊢;omega));have C3:=qh (fun(e:pr=true) w' (h:PrI w0 b ((l++bs ⟨#[40]⟩)++(Nd.mk k s kl).bare false) w') n (hn:n=w'.heap.size)=>xr h n hn ⟨#[41]⟩ (by have:=HL.out;rw[HE1.out e]at this;simp[bs]at this ⊢;omega));have C4:=qh (fun(e:pr=false) w' (h:PrI w0 b l w')=>hb _ _ _ more _ w' HN.out h (by have:=HL.out;rwa [HE0.out e]at this));clear HT HL;unfold q01 at HPR;obtain⟨A,hA⟩:∃ A,(k==18)=A:=⟨_,rfl⟩;obtain⟨B,hB⟩:∃ B,(k==19)=B:=⟨_,rfl⟩;have hA':decide (k=18)=A:=hA;have hB':decide (k=19)=B:=hB;rw[hA',hB']at HPR;clear hA' hB';obtain⟨op,hop⟩:∃ op,q0z k=op:=⟨_,rfl⟩;rw[hop]at HPR CO;clear hop;rcases op with _|⟨sg,bd⟩
 ·unfold qch at CO
  cases A with
  |true =>
   cases more with
   |true =>
    have hq:pr=true:=by rw[<-HPR.out];simp
    go_enter Tryz.func158,Tryz.ntmps158
    go_upto_region 1 with fail
    rw[HW.out]
    go_wp2_with fail
    refine(CO.out _ P0.out).mono ?_;rintro e w1⟨rfl,bb⟩;have P1:=qh (P0.out.later bb);have K1:=qh (K0.out.later bb P0.out.size);have R1:=qh (R0.out.below bb R0.out.lt);clear bb CO n0 n1 n2;obtain⟨⟨n0,n1,n2⟩,_⟩:=R1.out.cells;have D1:=qh (C1.out hq);have D2:=qh (C2.out hq);have D3:=qh (C3.out hq);clear C1 C2 C3;have P1o:=qh (P1.out.alloc (.cells #[.string ⟨#[]⟩,.int .i64 0,.int .i64 0] 163));have K1o:=qh (K1.out.alloc P1.out.size (.cells #[.string ⟨#[]⟩,.int .i64 0,.int .i64 0] 163));have R1o:=qh (R1.out.alloc (.cells #[.string ⟨#[]⟩,.int .i64 0,.int .i64 0] 163));clear n0 n1 n2 P1 K1 R1;obtain⟨⟨n0,n1,n2⟩,_⟩:=R1o.out.cells;have P1:=P1o;have K1:=K1o;have R1:=R1o;clear P1o K1o R1o
    go_wp2_with fail
    refine(D1.out _ P1.out _ (by first|rfl|simp only[q6])).mono ?_;rintro e w2⟨rfl,pp,kk⟩;have P2:=qh pp;have K2:=qh (K1.out.trans kk);have R2:=qh (kk.row3 R1.out hne);clear pp kk D1 n0 n1 n2;obtain⟨⟨n0,n1,n2⟩,_⟩:=R2.out.cells
    go_wp2_with fail
    refine(D2.out _ P2.out).mono ?_;rintro e w3⟨rfl,pp,kk⟩;have P3:=qh pp;have K3:=qh (K2.out.trans kk);have R3:=qh (kk.row3 R2.out hne);clear pp kk D2 n0 n1 n2;obtain⟨⟨n0,n1,n2⟩,_⟩:=R3.out.cells
    go_wp2_with fail
    refine(D3.out _ P3.out _ (by first|rfl|simp only[q6])).mono ?_;rintro e w4⟨rfl,pp,kk⟩;have P4:=qh pp;have K4:=qh (K3.out.trans kk);have R4:=qh (kk.row3 R3.out hne);clear pp kk D3 n0 n1 n2;go_wp2;go_end0;exact⟨rfl,by rw[HE1.out hq];simpa only[qe,zr]using P4.out,K4.out⟩
   |false =>
    have hq:pr=false:=by rw[<-HPR.out];simp
    go_enter Tryz.func158,Tryz.ntmps158
    go_upto_region 1 with fail
    rw[HW.out]
    go_wp2_with fail
    refine(CO.out _ P0.out).mono ?_;rintro e w1⟨rfl,bb⟩;have P1:=qh (P0.out.later bb);have K1:=qh (K0.out.later bb P0.out.size);have R1:=qh (R0.out.below bb R0.out.lt);clear bb CO n0 n1 n2;obtain⟨⟨n0,n1,n2⟩,_⟩:=R1.out.cells;have D4:=qh (C4.out hq);clear C1 C2 C3 C4;have P1o:=qh (P1.out.alloc (.cells #[.string ⟨#[]⟩,.int .i64 0,.int .i64 0] 163));have K1o:=qh (K1.out.alloc P1.out.size (.cells #[.string ⟨#[]⟩,.int .i64 0,.int .i64 0] 163));have R1o:=qh (R1.out.alloc (.cells #[.string ⟨#[]⟩,.int .i64 0,.int .i64 0] 163));clear n0 n1 n2 P1 K1 R1;obtain⟨⟨n0,n1,n2⟩,_⟩:=R1o.out.cells;have P1:=P1o;have K1:=K1o;have R1:=R1o;clear P1o K1o R1o
    go_wp2_with fail
    refine(D4.out _ P1.out).mono ?_;rintro e w2⟨rfl,pp,kk⟩;have P2:=qh pp;have K2:=qh (K1.out.trans kk);have R2:=qh (kk.row3 R1.out hne);clear pp kk D4 n0 n1 n2;go_wp2;go_end0;exact⟨rfl,by rw[HE0.out hq];simpa only[qe,zr]using P2.out,K2.out⟩
  |false =>
   cases B with
   |true =>
    cases more with
    |true =>
     have hq:pr=true:=by rw[<-HPR.out];simp
     go_enter Tryz.func158,Tryz.ntmps158
     go_upto_region 1 with fail
     rw[HW.out]
     go_wp2_with fail
     refine(CO.out _ P0.out).mono ?_;rintro e w1⟨rfl,bb⟩;have P1:=qh (P0.out.later bb);have K1:=qh (K0.out.later bb P0.out.size);have R1:=qh (R0.out.below bb R0.out.lt);clear bb CO n0 n1 n2;obtain⟨⟨n0,n1,n2⟩,_⟩:=R1.out.cells;have D1:=qh (C1.out hq);have D2:=qh (C2.out hq);have D3:=qh (C3.out hq);clear C1 C2 C3;have P1o:=qh (P1.out.alloc (.cells #[.string ⟨#[]⟩,.int .i64 0,.int .i64 0] 163));have K1o:=qh (K1.out.alloc P1.out.size (.cells #[.string ⟨#[]⟩,.int .i64 0,.int .i64 0] 163));have R1o:=qh (R1.out.alloc (.cells #[.string ⟨#[]⟩,.int .i64 0,.int .i64 0] 163));clear n0 n1 n2 P1 K1 R1;obtain⟨⟨n0,n1,n2⟩,_⟩:=R1o.out.cells;have P1:=P1o;have K1:=K1o;have R1:=R1o;clear P1o K1o R1o
     go_wp2_with fail
     refine(D1.out _ P1.out _ (by first|rfl|simp only[q6])).mono ?_;rintro e w2⟨rfl,pp,kk⟩;have P2:=qh pp;have K2:=qh (K1.out.trans kk);have R2:=qh (kk.row3 R1.out hne);clear pp kk D1 n0 n1 n2;obtain⟨⟨n0,n1,n2⟩,_⟩:=R2.out.cells
     go_wp2_with fail
     refine(D2.out _ P2.out).mono ?_;rintro e w3⟨rfl,pp,kk⟩;have P3:=qh pp;have K3:=qh (K2.out.trans kk);have R3:=qh (kk.row3 R2.out hne);clear pp kk D2 n0 n1 n2;obtain⟨⟨n0,n1,n2⟩,_⟩:=R3.out.cells
     go_wp2_with fail
     refine(D3.out _ P3.out _ (by first|rfl|simp only[q6])).mono ?_;rintro e w4⟨rfl,pp,kk⟩;have P4:=qh pp;have K4:=qh (K3.out.trans kk);have R4:=qh (kk.row3 R3.out hne);clear pp kk D3 n0 n1 n2;go_wp2;go_end0;exact⟨rfl,by rw[HE1.out hq];simpa only[qe,zr]using P4.out,K4.out⟩
    |false =>
     have hq:pr=false:=by rw[<-HPR.out];simp
     go_enter Tryz.func158,Tryz.ntmps158
     go_upto_region 1 with fail
     rw[HW.out]
     go_wp2_with fail
     refine(CO.out _ P0.out).mono ?_;rintro e w1⟨rfl,bb⟩;have P1:=qh (P0.out.later bb);have K1:=qh (K0.out.later bb P0.out.size);have R1:=qh (R0.out.below bb R0.out.lt);clear bb CO n0 n1 n2;obtain⟨⟨n0,n1,n2⟩,_⟩:=R1.out.cells;have D4:=qh (C4.out hq);clear C1 C2 C3 C4;have P1o:=qh (P1.out.alloc (.cells #[.string ⟨#[]⟩,.int .i64 0,.int .i64 0] 163));have K1o:=qh (K1.out.alloc P1.out.size (.cells #[.string ⟨#[]⟩,.int .i64 0,.int .i64 0] 163));have R1o:=qh (R1.out.alloc (.cells #[.string ⟨#[]⟩,.int .i64 0,.int .i64 0] 163));clear n0 n1 n2 P1 K1 R1;obtain⟨⟨n0,n1,n2⟩,_⟩:=R1o.out.cells;have P1:=P1o;have K1:=K1o;have R1:=R1o;clear P1o K1o R1o
     go_wp2_with fail
     refine(D4.out _ P1.out).mono ?_;rintro e w2⟨rfl,pp,kk⟩;have P2:=qh pp;have K2:=qh (K1.out.trans kk);have R2:=qh (kk.row3 R1.out hne);clear pp kk D4 n0 n1 n2;go_wp2;go_end0;exact⟨rfl,by rw[HE0.out hq];simpa only[qe,zr]using P2.out,K2.out⟩
   |false =>
    have hq:pr=false:=by rw[<-HPR.out];simp
    go_enter Tryz.func158,Tryz.ntmps158
    go_upto_region 1 with fail
    rw[HW.out]
    go_wp2_with fail
    refine(CO.out _ P0.out).mono ?_;rintro e w1⟨rfl,bb⟩;have P1:=qh (P0.out.later bb);have K1:=qh (K0.out.later bb P0.out.size);have R1:=qh (R0.out.below bb R0.out.lt);clear bb CO n0 n1 n2;obtain⟨⟨n0,n1,n2⟩,_⟩:=R1.out.cells;have D4:=qh (C4.out hq);clear C1 C2 C3 C4;have P1o:=qh (P1.out.alloc (.cells #[.string ⟨#[]⟩,.int .i64 0,.int .i64 0] 163));have K1o:=qh (K1.out.alloc P1.out.size (.cells #[.string ⟨#[]⟩,.int .i64 0,.int .i64 0] 163));have R1o:=qh (R1.out.alloc (.cells #[.string ⟨#[]⟩,.int .i64 0,.int .i64 0] 163));clear n0 n1 n2 P1 K1 R1;obtain⟨⟨n0,n1,n2⟩,_⟩:=R1o.out.cells;have P1:=P1o;have K1:=K1o;have R1:=R1o;clear P1o K1o R1o
    go_wp2_with fail
    refine(D4.out _ P1.out).mono ?_;rintro e w2⟨rfl,pp,kk⟩;have P2:=qh pp;have K2:=qh (K1.out.trans kk);have R2:=qh (kk.row3 R1.out hne);clear pp kk D4 n0 n1 n2;go_wp2;go_end0;exact⟨rfl,by rw[HE0.out hq];simpa only[qe,zr]using P2.out,K2.out⟩
 ·unfold qch S_ at CO
  have hno:w.heap.size+0=w.heap.size:=rfl
  by_cases hbl:bd < bind
  ·have ibl:(bd:Int) < (bind:Int):=by omega
   have hq:pr=true:=by rw[<-HPR.out];simp[hbl]
   clear HPR hno C4
   cases A with
   |true =>
    go_enter Tryz.func158,Tryz.ntmps158
    go_upto_region 1 with fail
    rw[HW.out]
    go_wp2_with fail
    refine(CO.out _ P0.out).mono ?_;rintro e w1⟨rfl,bb⟩;have P1:=qh (P0.out.later bb);have K1:=qh (K0.out.later bb P0.out.size);have R1:=qh (R0.out.below bb R0.out.lt);clear bb CO n0 n1 n2;obtain⟨⟨n0,n1,n2⟩,_⟩:=R1.out.cells;have D1:=qh (C1.out hq);have D2:=qh (C2.out hq);have D3:=qh (C3.out hq);clear C1 C2 C3;have P1o:=qh (P1.out.alloc (.cells #[.string ⟨sg.toArray⟩,.int .i64 k,.int .i64 (bd:Nat)] 163));have K1o:=qh (K1.out.alloc P1.out.size (.cells #[.string ⟨sg.toArray⟩,.int .i64 k,.int .i64 (bd:Nat)] 163));have R1o:=qh (R1.out.alloc (.cells #[.string ⟨sg.toArray⟩,.int .i64 k,.int .i64 (bd:Nat)] 163));clear n0 n1 n2 P1 K1 R1;obtain⟨⟨n0,n1,n2⟩,_⟩:=R1o.out.cells;have P1:=P1o;have K1:=K1o;have R1:=R1o;clear P1o K1o R1o
    go_wp2_with fail
    refine(D1.out _ P1.out _ (by first|rfl|simp only[q6])).mono ?_;rintro e w2⟨rfl,pp,kk⟩;have P2:=qh pp;have K2:=qh (K1.out.trans kk);have R2:=qh (kk.row3 R1.out hne);clear pp kk D1 n0 n1 n2;obtain⟨⟨n0,n1,n2⟩,_⟩:=R2.out.cells
    go_wp2_with fail
    refine(D2.out _ P2.out).mono ?_;rintro e w3⟨rfl,pp,kk⟩;have P3:=qh pp;have K3:=qh (K2.out.trans kk);have R3:=qh (kk.row3 R2.out hne);clear pp kk D2 n0 n1 n2;obtain⟨⟨n0,n1,n2⟩,_⟩:=R3.out.cells
    go_wp2_with fail
    refine(D3.out _ P3.out _ (by first|rfl|simp only[q6])).mono ?_;rintro e w4⟨rfl,pp,kk⟩;have P4:=qh pp;have K4:=qh (K3.out.trans kk);have R4:=qh (kk.row3 R3.out hne);clear pp kk D3 n0 n1 n2;go_wp2;go_end0;exact⟨rfl,by rw[HE1.out hq];simpa only[qe,zr]using P4.out,K4.out⟩
   |false =>
    cases B with
    |true =>
     go_enter Tryz.func158,Tryz.ntmps158
     go_upto_region 1 with fail
     rw[HW.out]
     go_wp2_with fail
     refine(CO.out _ P0.out).mono ?_;rintro e w1⟨rfl,bb⟩;have P1:=qh (P0.out.later bb);have K1:=qh (K0.out.later bb P0.out.size);have R1:=qh (R0.out.below bb R0.out.lt);clear bb CO n0 n1 n2;obtain⟨⟨n0,n1,n2⟩,_⟩:=R1.out.cells;have D1:=qh (C1.out hq);have D2:=qh (C2.out hq);have D3:=qh (C3.out hq);clear C1 C2 C3;have P1o:=qh (P1.out.alloc (.cells #[.string ⟨sg.toArray⟩,.int .i64 k,.int .i64 (bd:Nat)] 163));have K1o:=qh (K1.out.alloc P1.out.size (.cells #[.string ⟨sg.toArray⟩,.int .i64 k,.int .i64 (bd:Nat)] 163));have R1o:=qh (R1.out.alloc (.cells #[.string ⟨sg.toArray⟩,.int .i64 k,.int .i64 (bd:Nat)] 163));clear n0 n1 n2 P1 K1 R1;obtain⟨⟨n0,n1,n2⟩,_⟩:=R1o.out.cells;have P1:=P1o;have K1:=K1o;have R1:=R1o;clear P1o K1o R1o
     go_wp2_with fail
     refine(D1.out _ P1.out _ (by first|rfl|simp only[q6])).mono ?_;rintro e w2⟨rfl,pp,kk⟩;have P2:=qh pp;have K2:=qh (K1.out.trans kk);have R2:=qh (kk.row3 R1.out hne);clear pp kk D1 n0 n1 n2;obtain⟨⟨n0,n1,n2⟩,_⟩:=R2.out.cells
     go_wp2_with fail
     refine(D2.out _ P2.out).mono ?_;rintro e w3⟨rfl,pp,kk⟩;have P3:=qh pp;have K3:=qh (K2.out.trans kk);have R3:=qh (kk.row3 R2.out hne);clear pp kk D2 n0 n1 n2;obtain⟨⟨n0,n1,n2⟩,_⟩:=R3.out.cells
     go_wp2_with fail
     refine(D3.out _ P3.out _ (by first|rfl|simp only[q6])).mono ?_;rintro e w4⟨rfl,pp,kk⟩;have P4:=qh pp;have K4:=qh (K3.out.trans kk);have R4:=qh (kk.row3 R3.out hne);clear pp kk D3 n0 n1 n2;go_wp2;go_end0;exact⟨rfl,by rw[HE1.out hq];simpa only[qe,zr]using P4.out,K4.out⟩
    |false =>
     go_enter Tryz.func158,Tryz.ntmps158
     go_upto_region 1 with fail
     rw[HW.out]
     go_wp2_with fail
     refine(CO.out _ P0.out).mono ?_;rintro e w1⟨rfl,bb⟩;have P1:=qh (P0.out.later bb);have K1:=qh (K0.out.later bb P0.out.size);have R1:=qh (R0.out.below bb R0.out.lt);clear bb CO n0 n1 n2;obtain⟨⟨n0,n1,n2⟩,_⟩:=R1.out.cells;have D1:=qh (C1.out hq);have D2:=qh (C2.out hq);have D3:=qh (C3.out hq);clear C1 C2 C3;have P1o:=qh (P1.out.alloc (.cells #[.string ⟨sg.toArray⟩,.int .i64 k,.int .i64 (bd:Nat)] 163));have K1o:=qh (K1.out.alloc P1.out.size (.cells #[.string ⟨sg.toArray⟩,.int .i64 k,.int .i64 (bd:Nat)] 163));have R1o:=qh (R1.out.alloc (.cells #[.string ⟨sg.toArray⟩,.int .i64 k,.int .i64 (bd:Nat)] 163));clear n0 n1 n2 P1 K1 R1;obtain⟨⟨n0,n1,n2⟩,_⟩:=R1o.out.cells;have P1:=P1o;have K1:=K1o;have R1:=R1o;clear P1o K1o R1o
     go_wp2_with fail
     refine(D1.out _ P1.out _ (by first|rfl|simp only[q6])).mono ?_;rintro e w2⟨rfl,pp,kk⟩;have P2:=qh pp;have K2:=qh (K1.out.trans kk);have R2:=qh (kk.row3 R1.out hne);clear pp kk D1 n0 n1 n2;obtain⟨⟨n0,n1,n2⟩,_⟩:=R2.out.cells
     go_wp2_with fail
     refine(D2.out _ P2.out).mono ?_;rintro e w3⟨rfl,pp,kk⟩;have P3:=qh pp;have K3:=qh (K2.out.trans kk);have R3:=qh (kk.row3 R2.out hne);clear pp kk D2 n0 n1 n2;obtain⟨⟨n0,n1,n2⟩,_⟩:=R3.out.cells
     go_wp2_with fail
     refine(D3.out _ P3.out _ (by first|rfl|simp only[q6])).mono ?_;rintro e w4⟨rfl,pp,kk⟩;have P4:=qh pp;have K4:=qh (K3.out.trans kk);have R4:=qh (kk.row3 R3.out hne);clear pp kk D3 n0 n1 n2;go_wp2;go_end0;exact⟨rfl,by rw[HE1.out hq];simpa only[qe,zr]using P4.out,K4.out⟩
  ·have ibl:¬ (bd:Int) < (bind:Int):=by omega
   cases A with
   |true =>
    cases more with
    |true =>
     have hq:pr=true:=by rw[<-HPR.out];simp
     go_enter Tryz.func158,Tryz.ntmps158
     go_upto_region 1 with fail
     rw[HW.out]
     go_wp2_with fail
     refine(CO.out _ P0.out).mono ?_;rintro e w1⟨rfl,bb⟩;have P1:=qh (P0.out.later bb);have K1:=qh (K0.out.later bb P0.out.size);have R1:=qh (R0.out.below bb R0.out.lt);clear bb CO n0 n1 n2;obtain⟨⟨n0,n1,n2⟩,_⟩:=R1.out.cells;have D1:=qh (C1.out hq);have D2:=qh (C2.out hq);have D3:=qh (C3.out hq);clear C1 C2 C3;have P1o:=qh (P1.out.alloc (.cells #[.string ⟨sg.toArray⟩,.int .i64 k,.int .i64 (bd:Nat)] 163));have K1o:=qh (K1.out.alloc P1.out.size (.cells #[.string ⟨sg.toArray⟩,.int .i64 k,.int .i64 (bd:Nat)] 163));have R1o:=qh (R1.out.alloc (.cells #[.string ⟨sg.toArray⟩,.int .i64 k,.int .i64 (bd:Nat)] 163));clear n0 n1 n2 P1 K1 R1;obtain⟨⟨n0,n1,n2⟩,_⟩:=R1o.out.cells;have P1:=P1o;have K1:=K1o;have R1:=R1o;clear P1o K1o R1o
     go_wp2_with fail
     refine(D1.out _ P1.out _ (by first|rfl|simp only[q6])).mono ?_;rintro e w2⟨rfl,pp,kk⟩;have P2:=qh pp;have K2:=qh (K1.out.trans kk);have R2:=qh (kk.row3 R1.out hne);clear pp kk D1 n0 n1 n2;obtain⟨⟨n0,n1,n2⟩,_⟩:=R2.out.cells
     go_wp2_with fail
     refine(D2.out _ P2.out).mono ?_;rintro e w3⟨rfl,pp,kk⟩;have P3:=qh pp;have K3:=qh (K2.out.trans kk);have R3:=qh (kk.row3 R2.out hne);clear pp kk D2 n0 n1 n2;obtain⟨⟨n0,n1,n2⟩,_⟩:=R3.out.cells
     go_wp2_with fail
     refine(D3.out _ P3.out _ (by first|rfl|simp only[q6])).mono ?_;rintro e w4⟨rfl,pp,kk⟩;have P4:=qh pp;have K4:=qh (K3.out.trans kk);have R4:=qh (kk.row3 R3.out hne);clear pp kk D3 n0 n1 n2;go_wp2;go_end0;exact⟨rfl,by rw[HE1.out hq];simpa only[qe,zr]using P4.out,K4.out⟩
    |false =>
     have hq:pr=false:=by rw[<-HPR.out];simp[hbl]
     go_enter Tryz.func158,Tryz.ntmps158
     go_upto_region 1 with fail
     rw[HW.out]
     go_wp2_with fail
     refine(CO.out _ P0.out).mono ?_;rintro e w1⟨rfl,bb⟩;have P1:=qh (P0.out.later bb);have K1:=qh (K0.out.later bb P0.out.size);have R1:=qh (R0.out.below bb R0.out.lt);clear bb CO n0 n1 n2;obtain⟨⟨n0,n1,n2⟩,_⟩:=R1.out.cells;have D4:=qh (C4.out hq);clear C1 C2 C3 C4;have P1o:=qh (P1.out.alloc (.cells #[.string ⟨sg.toArray⟩,.int .i64 k,.int .i64 (bd:Nat)] 163));have K1o:=qh (K1.out.alloc P1.out.size (.cells #[.string ⟨sg.toArray⟩,.int .i64 k,.int .i64 (bd:Nat)] 163));have R1o:=qh (R1.out.alloc (.cells #[.string ⟨sg.toArray⟩,.int .i64 k,.int .i64 (bd:Nat)] 163));clear n0 n1 n2 P1 K1 R1;obtain⟨⟨n0,n1,n2⟩,_⟩:=R1o.out.cells;have P1:=P1o;have K1:=K1o;have R1:=R1o;clear P1o K1o R1o
     go_wp2_with fail
     refine(D4.out _ P1.out).mono ?_;rintro e w2⟨rfl,pp,kk⟩;have P2:=qh pp;have K2:=qh (K1.out.trans kk);have R2:=qh (kk.row3 R1.out hne);clear pp kk D4 n0 n1 n2;go_wp2;go_end0;exact⟨rfl,by rw[HE0.out hq];simpa only[qe,zr]using P2.out,K2.out⟩
   |false =>
    cases B with
    |true =>
     cases more with
     |true =>
      have hq:pr=true:=by rw[<-HPR.out];simp
      go_enter Tryz.func158,Tryz.ntmps158
      go_upto_region 1 with fail
      rw[HW.out]
      go_wp2_with fail
      refine(CO.out _ P0.out).mono ?_;rintro e w1⟨rfl,bb⟩;have P1:=qh (P0.out.later bb);have K1:=qh (K0.out.later bb P0.out.size);have R1:=qh (R0.out.below bb R0.out.lt);clear bb CO n0 n1 n2;obtain⟨⟨n0,n1,n2⟩,_⟩:=R1.out.cells;have D1:=qh (C1.out hq);have D2:=qh (C2.out hq);have D3:=qh (C3.out hq);clear C1 C2 C3;have P1o:=qh (P1.out.alloc (.cells #[.string ⟨sg.toArray⟩,.int .i64 k,.int .i64 (bd:Nat)] 163));have K1o:=qh (K1.out.alloc P1.out.size (.cells #[.string ⟨sg.toArray⟩,.int .i64 k,.int .i64 (bd:Nat)] 163));have R1o:=qh (R1.out.alloc (.cells #[.string ⟨sg.toArray⟩,.int .i64 k,.int .i64 (bd:Nat)] 163));clear n0 n1 n2 P1 K1 R1;obtain⟨⟨n0,n1,n2⟩,_⟩:=R1o.out.cells;have P1:=P1o;have K1:=K1o;have R1:=R1o;clear P1o K1o R1o
      go_wp2_with fail
      refine(D1.out _ P1.out _ (by first|rfl|simp only[q6])).mono ?_;rintro e w2⟨rfl,pp,kk⟩;have P2:=qh pp;have K2:=qh (K1.out.trans kk);have R2:=qh (kk.row3 R1.out hne);clear pp kk D1 n0 n1 n2;obtain⟨⟨n0,n1,n2⟩,_⟩:=R2.out.cells
      go_wp2_with fail
      refine(D2.out _ P2.out).mono ?_;rintro e w3⟨rfl,pp,kk⟩;have P3:=qh pp;have K3:=qh (K2.out.trans kk);have R3:=qh (kk.row3 R2.out hne);clear pp kk D2 n0 n1 n2;obtain⟨⟨n0,n1,n2⟩,_⟩:=R3.out.cells
      go_wp2_with fail
      refine(D3.out _ P3.out _ (by first|rfl|simp only[q6])).mono ?_;rintro e w4⟨rfl,pp,kk⟩;have P4:=qh pp;have K4:=qh (K3.out.trans kk);have R4:=qh (kk.row3 R3.out hne);clear pp kk D3 n0 n1 n2;go_wp2;go_end0;exact⟨rfl,by rw[HE1.out hq];simpa only[qe,zr]using P4.out,K4.out⟩
     |false =>
      have hq:pr=false:=by rw[<-HPR.out];simp[hbl]
      go_enter Tryz.func158,Tryz.ntmps158
      go_upto_region 1 with fail
      rw[HW.out]
      go_wp2_with fail
      refine(CO.out _ P0.out).mono ?_;rintro e w1⟨rfl,bb⟩;have P1:=qh (P0.out.later bb);have K1:=qh (K0.out.later bb P0.out.size);have R1:=qh (R0.out.below bb R0.out.lt);clear bb CO n0 n1 n2;obtain⟨⟨n0,n1,n2⟩,_⟩:=R1.out.cells;have D4:=qh (C4.out hq);clear C1 C2 C3 C4;have P1o:=qh (P1.out.alloc (.cells #[.string ⟨sg.toArray⟩,.int .i64 k,.int .i64 (bd:Nat)] 163));have K1o:=qh (K1.out.alloc P1.out.size (.cells #[.string ⟨sg.toArray⟩,.int .i64 k,.int .i64 (bd:Nat)] 163));have R1o:=qh (R1.out.alloc (.cells #[.string ⟨sg.toArray⟩,.int .i64 k,.int .i64 (bd:Nat)] 163));clear n0 n1 n2 P1 K1 R1;obtain⟨⟨n0,n1,n2⟩,_⟩:=R1o.out.cells;have P1:=P1o;have K1:=K1o;have R1:=R1o;clear P1o K1o R1o
      go_wp2_with fail
      refine(D4.out _ P1.out).mono ?_;rintro e w2⟨rfl,pp,kk⟩;have P2:=qh pp;have K2:=qh (K1.out.trans kk);have R2:=qh (kk.row3 R1.out hne);clear pp kk D4 n0 n1 n2;go_wp2;go_end0;exact⟨rfl,by rw[HE0.out hq];simpa only[qe,zr]using P2.out,K2.out⟩
    |false =>
     have hq:pr=false:=by rw[<-HPR.out];simp[hbl]
     go_enter Tryz.func158,Tryz.ntmps158
     go_upto_region 1 with fail
     rw[HW.out]
     go_wp2_with fail
     refine(CO.out _ P0.out).mono ?_;rintro e w1⟨rfl,bb⟩;have P1:=qh (P0.out.later bb);have K1:=qh (K0.out.later bb P0.out.size);have R1:=qh (R0.out.below bb R0.out.lt);clear bb CO n0 n1 n2;obtain⟨⟨n0,n1,n2⟩,_⟩:=R1.out.cells;have D4:=qh (C4.out hq);clear C1 C2 C3 C4;have P1o:=qh (P1.out.alloc (.cells #[.string ⟨sg.toArray⟩,.int .i64 k,.int .i64 (bd:Nat)] 163));have K1o:=qh (K1.out.alloc P1.out.size (.cells #[.string ⟨sg.toArray⟩,.int .i64 k,.int .i64 (bd:Nat)] 163));have R1o:=qh (R1.out.alloc (.cells #[.string ⟨sg.toArray⟩,.int .i64 k,.int .i64 (bd:Nat)] 163));clear n0 n1 n2 P1 K1 R1;obtain⟨⟨n0,n1,n2⟩,_⟩:=R1o.out.cells;have P1:=P1o;have K1:=K1o;have R1:=R1o;clear P1o K1o R1o
     go_wp2_with fail
     refine(D4.out _ P1.out).mono ?_;rintro e w2⟨rfl,pp,kk⟩;have P2:=qh pp;have K2:=qh (K1.out.trans kk);have R2:=qh (kk.row3 R1.out hne);clear pp kk D4 n0 n1 n2;go_wp2;go_end0;exact⟨rfl,by rw[HE0.out hq];simpa only[qe,zr]using P2.out,K2.out⟩
theorem q71{w0:World}{b:Nat}(k:Int)(s:ByteArray)(kl:List Nd)(h12:kl.length=1\/kl.length=2)(hk:∀ i (h:i < kl.length),q7e w0 b kl[i])(v0 v1 v2:Value)(l:Tx)(w:World)(ht:NdR w0 (.mk k s kl) v0 v1 v2)(hp:PrI w0 b l w)
  (hlen:l.length+(kq s kl (Nd.bareL kl)).length<=100000000):Calls Tryz.prog 227 #[.pointer (some ⟨b,0,none⟩),.agg #[v0,v1,v2]] w (PrO w0 b l w (kq s kl (Nd.bareL kl))):=by
 obtain⟨_,_,_,a,cap,hform,rfl,rfl,rfl,hs,hl⟩:=ht.form
 cases hform;obtain⟨L,hL⟩:∃ L,kl.length=L:=⟨_,rfl⟩;rw[hL]at ht hl;rw[hL];obtain⟨W,hW⟩:∃ W,w.alloc (.cells #[.int .i64 k,.string s,.slice a L cap] 25)=W:=⟨_,rfl⟩;have R0':Row3 W w.heap.size (.int .i64 k) (.string s) (.slice a L cap):=by rw[<-hW];exact Row3.new _ _ _ _
 have P0:=qh (hW▸hp.alloc (.cells #[.int .i64 k,.string s,.slice a L cap] 25));have K0:=qh (hW▸(Wr.refl w0.heap.size b w).alloc hp.size (.cells #[.int .i64 k,.string s,.slice a L cap] 25));have hne:w.heap.size≠b:=by have:=hp.p.lt;omega
 have HN:=qh ht;have HL:=qh hlen;unfold maxLen at hl;obtain⟨T,hT⟩:∃ T,kq s kl (Nd.bareL kl)=T:=⟨_,rfl⟩;rw[hT]at HL;rw[hT];rw[hL]at h12;rcases h12 with rfl|rfl
 ·obtain⟨bb,o,k0',s0',l0',a0',c0',rfl,e0,x00,x01,x02,r0⟩:=ht.kid 0 (by omega)
  simp only[Nat.zero_mul,Nat.add_zero]at x00 x01 x02;have X0:=qh (And.intro x00 (And.intro x01 x02));obtain⟨Y0,hY0⟩:∃ Y,(kl[0]'(by omega)).txt 0 false=Y:=⟨_,rfl⟩
  have hE:T=bs s++(bs ⟨#[46,32]⟩++Y0):=by
   rw[<-hT,kq,q7 (by omega),<-hY0];have h1:kl.length - 1=0:=by omega
   rw[h1,q1d (by omega)];rfl
  have hlen2:l.length+(bs s).length+2+Y0.length<=100000000:=by
   have:=HL.out;rw[hE]at this;simp[bs]at this ⊢;omega
  have C1:=qh (fun w' (h:PrI w0 b l w') n (hn:n=w'.heap.size)=>xr h n hn s (by simp[bs]at hlen2 ⊢;omega));have C3:=qh (fun w' (h:PrI w0 b (l++bs s) w') n (hn:n=w'.heap.size)=>xr h n hn ⟨#[46,32]⟩ (by simp[bs]at hlen2 ⊢;omega))
  have C4:Hid (∀ (z:Int),z=((0:Nat):Int)->∀ w',PrI w0 b ((l++bs s)++bs ⟨#[46,32]⟩) w'->Calls Tryz.prog 158 #[.pointer (some ⟨b,0,none⟩),.agg #[.int .i64 k0',.string s0',.slice a0' l0'.length c0'],.int .i64 z,.bool false] w' (PrO w0 b ((l++bs s)++bs ⟨#[46,32]⟩) w' Y0)):=qh (fun z hz w' h=>by
   subst hz;have hl9:List.length ((l++bs s)++bs ⟨#[46,32]⟩)+Y0.length<=100000000:=by(try simp[bs]at hlen2 ⊢);omega
   rw[<-hY0]at hl9 ⊢
   exact hk 0 (by omega) _ _ _ (0) false _ w' (by omega) (e0▸r0) h hl9)
  have HE:=qh hE;have HW:=qh hW;have R0:=qh R0';obtain⟨⟨n0,n1,n2⟩,_⟩:=R0'.cells;clear hT hlen hlen2 hE hW R0' hp hk ht HN HL hY0 x00 x01 x02 r0 e0 hL;go_enter Tryz.func227,Tryz.ntmps227
  go_upto_region 1 with fail
  rw[HW.out];have y00:=P0.out.cell X0.out.1;have y01:=P0.out.cell X0.out.2.1;have y02:=P0.out.cell X0.out.2.2;have yb0:=qg y00
  go_wp2_with fail
  refine(C1.out _ P0.out _ (by first|rfl|simp only[q6])).mono ?_;rintro e w1⟨rfl,pp,kk⟩;have P1:=qh pp;have K1:=qh (K0.out.trans kk);have R1:=qh (kk.row3 R0.out hne);clear pp kk C1 n0 n1 n2 y00 y01 y02 yb0;obtain⟨⟨n0,n1,n2⟩,_⟩:=R1.out.cells;have y00:=P1.out.cell X0.out.1;have y01:=P1.out.cell X0.out.2.1;have y02:=P1.out.cell X0.out.2.2;have yb0:=qg y00
  go_wp2_with fail
  refine(C3.out _ P1.out _ (by first|rfl|simp only[q6])).mono ?_;rintro e w2⟨rfl,pp,kk⟩;have P2:=qh pp;have K2:=qh (K1.out.trans kk);have R2:=qh (kk.row3 R1.out hne);clear pp kk C3 n0 n1 n2 y00 y01 y02 yb0;obtain⟨⟨n0,n1,n2⟩,_⟩:=R2.out.cells;have y00:=P2.out.cell X0.out.1;have y01:=P2.out.cell X0.out.2.1;have y02:=P2.out.cell X0.out.2.2;have yb0:=qg y00
  go_wp2_with fail
  refine(C4.out _ (by first|rfl|(push_cast;rfl)) _ P2.out).mono ?_;rintro e w3⟨rfl,pp,kk⟩;have P3:=qh pp;have K3:=qh (K2.out.trans kk);have R3:=qh (kk.row3 R2.out hne);clear pp kk C4 n0 n1 n2 y00 y01 y02 yb0;go_wp2;go_end0;exact⟨rfl,by rw[HE.out];simpa only[qe,zr]using P3.out,K3.out⟩
 ·obtain⟨bb,o,k0',s0',l0',a0',c0',rfl,e0,x00,x01,x02,r0⟩:=ht.kid 0 (by omega)
  simp only[Nat.zero_mul,Nat.add_zero]at x00 x01 x02;have X0:=qh (And.intro x00 (And.intro x01 x02));obtain⟨bb1,o1',k1',s1',l1',a1',c1',hbo1,e1,x10,x11,x12,r1⟩:=ht.kid 1 (by omega);obtain⟨rfl,rfl⟩:bb=bb1/\o=o1':=by simpa using hbo1
  simp only[Nat.one_mul]at x10 x11 x12;have X1:=qh (And.intro x10 (And.intro x11 x12));obtain⟨Y0,hY0⟩:∃ Y,(kl[0]'(by omega)).txt 6 false=Y:=⟨_,rfl⟩;obtain⟨Y1,hY1⟩:∃ Y,(kl[1]'(by omega)).txt 0 false=Y:=⟨_,rfl⟩
  have hE:T=bs s++((bs ⟨#[58,32]⟩++Y0)++(bs ⟨#[46,32]⟩++Y1)):=by
   rw[<-hT,kq,qa (by omega),<-hY0,<-hY1];have h1:kl.length - 1=1:=by omega
   rw[h1,q1d (by omega),q1d (by omega)];rfl
  have hlen2:l.length+(bs s).length+2+Y0.length+2+Y1.length<=100000000:=by
   have:=HL.out;rw[hE]at this;simp[bs]at this ⊢;omega
  have C1:=qh (fun w' (h:PrI w0 b l w') n (hn:n=w'.heap.size)=>xr h n hn s (by simp[bs]at hlen2 ⊢;omega));have C3:=qh (fun w' (h:PrI w0 b (l++bs s) w') n (hn:n=w'.heap.size)=>xr h n hn ⟨#[58,32]⟩ (by simp[bs]at hlen2 ⊢;omega))
  have C4:Hid (∀ (z:Int),z=((6:Nat):Int)->∀ w',PrI w0 b ((l++bs s)++bs ⟨#[58,32]⟩) w'->Calls Tryz.prog 158 #[.pointer (some ⟨b,0,none⟩),.agg #[.int .i64 k0',.string s0',.slice a0' l0'.length c0'],.int .i64 z,.bool false] w' (PrO w0 b ((l++bs s)++bs ⟨#[58,32]⟩) w' Y0)):=qh (fun z hz w' h=>by
   subst hz;have hl9:List.length ((l++bs s)++bs ⟨#[58,32]⟩)+Y0.length<=100000000:=by(try simp[bs]at hlen2 ⊢);omega
   rw[<-hY0]at hl9 ⊢
   exact hk 0 (by omega) _ _ _ (6) false _ w' (by omega) (e0▸r0) h hl9)
  have C5:=qh (fun w' (h:PrI w0 b (((l++bs s)++bs ⟨#[58,32]⟩)++Y0) w') n (hn:n=w'.heap.size)=>xr h n hn ⟨#[46,32]⟩ (by simp[bs]at hlen2 ⊢;omega))
  have C6:Hid (∀ (z:Int),z=((0:Nat):Int)->∀ w',PrI w0 b ((((l++bs s)++bs ⟨#[58,32]⟩)++Y0)++bs ⟨#[46,32]⟩) w'->Calls Tryz.prog 158 #[.pointer (some ⟨b,0,none⟩),.agg #[.int .i64 k1',.string s1',.slice a1' l1'.length c1'],.int .i64 z,.bool false] w' (PrO w0 b ((((l++bs s)++bs ⟨#[58,32]⟩)++Y0)++bs ⟨#[46,32]⟩) w' Y1)):=qh (fun z hz w' h=>by
   subst hz;have hl9:List.length ((((l++bs s)++bs ⟨#[58,32]⟩)++Y0)++bs ⟨#[46,32]⟩)+Y1.length<=100000000:=by(try simp[bs]at hlen2 ⊢);omega
   rw[<-hY1]at hl9 ⊢
   exact hk 1 (by omega) _ _ _ (0) false _ w' (by omega) (e1▸r1) h hl9)
  have HE:=qh hE;have HW:=qh hW;have R0:=qh R0';obtain⟨⟨n0,n1,n2⟩,_⟩:=R0'.cells;clear hT hlen hlen2 hE hW R0' hp hk ht HN HL hY0 hY1 x00 x01 x02 x10 x11 x12 r0 r1 e0 e1 hL hbo1;go_enter Tryz.func227,Tryz.ntmps227
  go_upto_region 1 with fail
  rw[HW.out];have y00:=P0.out.cell X0.out.1;have y01:=P0.out.cell X0.out.2.1;have y02:=P0.out.cell X0.out.2.2;have yb0:=qg y00;have y10:=P0.out.cell X1.out.1;have y11:=P0.out.cell X1.out.2.1;have y12:=P0.out.cell X1.out.2.2;have yb1:=qg y10
  go_wp2_with fail
  refine(C1.out _ P0.out _ (by first|rfl|simp only[q6])).mono ?_;rintro e w1⟨rfl,pp,kk⟩;have P1:=qh pp;have K1:=qh (K0.out.trans kk);have R1:=qh (kk.row3 R0.out hne);clear pp kk C1 n0 n1 n2 y00 y01 y02 yb0 y10 y11 y12 yb1;obtain⟨⟨n0,n1,n2⟩,_⟩:=R1.out.cells;have y00:=P1.out.cell X0.out.1;have y01:=P1.out.cell X0.out.2.1;have y02:=P1.out.cell X0.out.2.2;have yb0:=qg y00;have y10:=P1.out.cell X1.out.1;have y11:=P1.out.cell X1.out.2.1;have y12:=P1.out.cell X1.out.2.2;have yb1:=qg y10
  go_wp2_with fail
  refine(C3.out _ P1.out _ (by first|rfl|simp only[q6])).mono ?_;rintro e w2⟨rfl,pp,kk⟩;have P2:=qh pp;have K2:=qh (K1.out.trans kk);have R2:=qh (kk.row3 R1.out hne);clear pp kk C3 n0 n1 n2 y00 y01 y02 yb0 y10 y11 y12 yb1;obtain⟨⟨n0,n1,n2⟩,_⟩:=R2.out.cells;have y00:=P2.out.cell X0.out.1;have y01:=P2.out.cell X0.out.2.1;have y02:=P2.out.cell X0.out.2.2;have yb0:=qg y00;have y10:=P2.out.cell X1.out.1;have y11:=P2.out.cell X1.out.2.1;have y12:=P2.out.cell X1.out.2.2;have yb1:=qg y10
  go_wp2_with fail
  refine(C4.out _ (by first|rfl|(push_cast;rfl)) _ P2.out).mono ?_;rintro e w3⟨rfl,pp,kk⟩;have P3:=qh pp;have K3:=qh (K2.out.trans kk);have R3:=qh (kk.row3 R2.out hne);clear pp kk C4 n0 n1 n2 y00 y01 y02 yb0 y10 y11 y12 yb1;obtain⟨⟨n0,n1,n2⟩,_⟩:=R3.out.cells;have y00:=P3.out.cell X0.out.1;have y01:=P3.out.cell X0.out.2.1;have y02:=P3.out.cell X0.out.2.2;have yb0:=qg y00;have y10:=P3.out.cell X1.out.1;have y11:=P3.out.cell X1.out.2.1;have y12:=P3.out.cell X1.out.2.2;have yb1:=qg y10
  go_wp2_with fail
  refine(C5.out _ P3.out _ (by first|rfl|simp only[q6])).mono ?_;rintro e w4⟨rfl,pp,kk⟩;have P4:=qh pp;have K4:=qh (K3.out.trans kk);have R4:=qh (kk.row3 R3.out hne);clear pp kk C5 n0 n1 n2 y00 y01 y02 yb0 y10 y11 y12 yb1;obtain⟨⟨n0,n1,n2⟩,_⟩:=R4.out.cells;have y00:=P4.out.cell X0.out.1;have y01:=P4.out.cell X0.out.2.1;have y02:=P4.out.cell X0.out.2.2;have yb0:=qg y00;have y10:=P4.out.cell X1.out.1;have y11:=P4.out.cell X1.out.2.1;have y12:=P4.out.cell X1.out.2.2;have yb1:=qg y10
  go_wp2_with fail
  refine(C6.out _ (by first|rfl|(push_cast;rfl)) _ P4.out).mono ?_;rintro e w5⟨rfl,pp,kk⟩;have P5:=qh pp;have K5:=qh (K4.out.trans kk);have R5:=qh (kk.row3 R4.out hne);clear pp kk C6 n0 n1 n2 y00 y01 y02 yb0 y10 y11 y12 yb1;go_wp2;go_end0;exact⟨rfl,by rw[HE.out];simpa only[qe,zr]using P5.out,K5.out⟩
theorem qow{k:Int}{sg:List UInt8}{bd:Nat}(h:q0z k=some (sg,bd)):bd<=6:=by
 unfold q0z opsL at h;simp only[q1k]at h
 repeat' split at h
 all_goals first|(cases h;decide)|cases h
theorem qkn{k:Int}(h:(22<=k/\k<=28)\/k=31):∃ sg bd,q0z k=some (sg,bd):=by
 have:k=22\/k=23\/k=24\/k=25\/k=26\/k=27\/k=28\/k=31:=by omega
 rcases this with rfl|rfl|rfl|rfl|rfl|rfl|rfl|rfl <;> exact⟨_,_,rfl⟩
theorem qm0{w0:World}{b:Nat}(k:Int)(s:ByteArray)(kl:List Nd)(h2:2<=kl.length)(sg:List UInt8)(bd:Nat)(hop:q0z k=some (sg,bd))(hk:∀ i (h:i < kl.length),q7e w0 b kl[i])(v0 v1 v2:Value)(more:Bool)(l:Tx)(w:World)(ht:NdR w0 (.mk k s kl) v0 v1 v2)(hp:PrI w0 b l w)(T:Tx)
  (hT:q1w kl (Nd.bareL kl) 0 (q0i bd) true++(([32]++(sg++[32]))++q1w kl (Nd.bareL kl) 1 (vg bd) more)=T) (hlen:l.length+T.length<=100000000):Calls Tryz.prog 228 #[.pointer (some ⟨b,0,none⟩),.agg #[v0,v1,v2],.bool more] w (PrO w0 b l w T):=by
 have hbd:=qow hop;obtain⟨_,_,_,a,cap,hform,rfl,rfl,rfl,hs,hl⟩:=ht.form
 cases hform;obtain⟨L,hL⟩:∃ L,kl.length=L:=⟨_,rfl⟩;rw[hL]at ht hl;rw[hL];obtain⟨W,hW⟩:∃ W,w.alloc (.cells #[.int .i64 k,.string s,.slice a L cap] 25)=W:=⟨_,rfl⟩;have R0':Row3 W w.heap.size (.int .i64 k) (.string s) (.slice a L cap):=by rw[<-hW];exact Row3.new _ _ _ _
 have P0:=qh (hW▸hp.alloc (.cells #[.int .i64 k,.string s,.slice a L cap] 25));have K0:=qh (hW▸(Wr.refl w0.heap.size b w).alloc hp.size (.cells #[.int .i64 k,.string s,.slice a L cap] 25));have hne:w.heap.size≠b:=by have:=hp.p.lt;omega
 have HN:=qh ht;unfold maxLen at hl;have i0:(0:Int) < (L:Int):=by omega
 have i1:(1:Int) < (L:Int):=by omega
 have j0:0 < L:=by omega
 have j1:1 < L:=by omega
 obtain⟨bb,o,k0',s0',l0',a0',c0',rfl,eK0,x00,x01,x02,r0⟩:=ht.kid 0 (by omega);simp only[Nat.zero_mul,Nat.add_zero]at x00 x01 x02;have X0:=qh (And.intro x00 (And.intro x01 x02));obtain⟨bb1,o1',k1',s1',l1',a1',c1',hbo1,eK1,x10,x11,x12,r1⟩:=ht.kid 1 (by omega);obtain⟨rfl,rfl⟩:bb=bb1/\o=o1':=by simpa using hbo1
 simp only[Nat.one_mul]at x10 x11 x12;have X1:=qh (And.intro x10 (And.intro x11 x12));obtain⟨Y0,hY0⟩:∃ Y,(kl[0]'(by omega)).txt (q0i bd) true=Y:=⟨_,rfl⟩;obtain⟨Y1,hY1⟩:∃ Y,(kl[1]'(by omega)).txt (vg bd) more=Y:=⟨_,rfl⟩
 have hE:T=Y0++((bs ⟨#[32]⟩++(bs ⟨sg.toArray⟩++bs ⟨#[32]⟩))++Y1):=by
  rw[<-hT,<-hY0,<-hY1,q1d (by omega),q1d (by omega)];rfl
 have hlen2:l.length+Y0.length+sg.length+2+Y1.length<=100000000:=by
  have:=hlen;rw[hE]at this;simp[bs]at this ⊢;omega
 have CO:Hid (∀ w',PrI w0 b l w'->_):=qh (fun w' (h:PrI w0 b l w')=>q45 k s (some ⟨bb,o,none⟩) L cap w' h.glw h.two');rw[hop]at CO;unfold qch S_ at CO;have C3:=qh (fun w' (h:PrI w0 b (l++Y0) w') n (hn:n=w'.heap.size)=>put3 h n hn ⟨#[32]⟩ ⟨sg.toArray⟩ ⟨#[32]⟩ (by simp[bs]at hlen2 ⊢;omega));have HE:=qh hE;have HW:=qh hW;have R0:=qh R0'
 by_cases hb0:bd=0
 ·have e0:((bd:Int)==0)=true:=by rw[hb0];rfl
  have hlb:q0i bd=bd:=by rw[hb0];rfl
  have hrb:vg bd=bd+1:=by rw[hb0];rfl
  rw[hlb]at hY0;rw[hrb]at hY1
  have C4:Hid (∀ (z:Int),z=((bd:Nat):Int)->∀ w',PrI w0 b l w'->Calls Tryz.prog 158 #[.pointer (some ⟨b,0,none⟩),.agg #[.int .i64 k0',.string s0',.slice a0' l0'.length c0'],.int .i64 z,.bool true] w' (PrO w0 b l w' Y0)):=qh (fun z hz w' h=>by
   subst hz;have hl9:List.length l+Y0.length<=100000000:=by(try simp[bs]at hlen2 ⊢);omega
   rw[<-hY0]at hl9 ⊢
   exact hk 0 (by omega) _ _ _ (bd) true _ w' (by omega) (eK0▸r0) h hl9)
  have C5:Hid (∀ (z:Int),z=((bd+1:Nat):Int)->∀ w',PrI w0 b ((l++Y0)++(bs ⟨#[32]⟩++(bs ⟨sg.toArray⟩++bs ⟨#[32]⟩))) w'->Calls Tryz.prog 158 #[.pointer (some ⟨b,0,none⟩),.agg #[.int .i64 k1',.string s1',.slice a1' l1'.length c1'],.int .i64 z,.bool more] w' (PrO w0 b ((l++Y0)++(bs ⟨#[32]⟩++(bs ⟨sg.toArray⟩++bs ⟨#[32]⟩))) w' Y1)):=qh (fun z hz w' h=>by
   subst hz;have hl9:List.length ((l++Y0)++(bs ⟨#[32]⟩++(bs ⟨sg.toArray⟩++bs ⟨#[32]⟩)))+Y1.length<=100000000:=by(try simp[bs]at hlen2 ⊢);omega
   rw[<-hY1]at hl9 ⊢
   exact hk 1 (by omega) _ _ _ (bd+1) more _ w' (by omega) (eK1▸r1) h hl9)
  obtain⟨⟨n0,n1,n2⟩,_⟩:=R0'.cells;clear hT hlen hlen2 hE hW R0' hp hk ht HN hY0 hY1 x00 x01 x02 x10 x11 x12 r0 r1 eK0 eK1 hL hbo1 hlb hrb hb0 h2 hop;go_enter Tryz.func228,Tryz.ntmps228
  go_upto_region 1 with fail
  rw[HW.out];have y00:=P0.out.cell X0.out.1;have y01:=P0.out.cell X0.out.2.1;have y02:=P0.out.cell X0.out.2.2;have yb0:=qg y00;have y10:=P0.out.cell X1.out.1;have y11:=P0.out.cell X1.out.2.1;have y12:=P0.out.cell X1.out.2.2;have yb1:=qg y10
  go_wp2_with fail
  refine(CO.out _ P0.out).mono ?_;rintro e w1⟨rfl,bb⟩;have P1:=qh (P0.out.later bb);have K1:=qh (K0.out.later bb P0.out.size);have R1:=qh (R0.out.below bb R0.out.lt);clear bb CO n0 n1 n2 y00 y01 y02 yb0 y10 y11 y12 yb1;obtain⟨⟨n0,n1,n2⟩,_⟩:=R1.out.cells;have y00:=P1.out.cell X0.out.1;have y01:=P1.out.cell X0.out.2.1;have y02:=P1.out.cell X0.out.2.2;have yb0:=qg y00;have y10:=P1.out.cell X1.out.1;have y11:=P1.out.cell X1.out.2.1;have y12:=P1.out.cell X1.out.2.2;have yb1:=qg y10;have P1o:=qh (P1.out.alloc (.cells #[.string ⟨sg.toArray⟩,.int .i64 k,.int .i64 (bd:Nat)] 163));have K1o:=qh (K1.out.alloc P1.out.size (.cells #[.string ⟨sg.toArray⟩,.int .i64 k,.int .i64 (bd:Nat)] 163));have R1o:=qh (R1.out.alloc (.cells #[.string ⟨sg.toArray⟩,.int .i64 k,.int .i64 (bd:Nat)] 163));have O1:Hid (RowO (w1.alloc (.cells #[.string ⟨sg.toArray⟩,.int .i64 k,.int .i64 (bd:Nat)] 163)) w1.heap.size _ _ _):=qh (qm w1 _);have hno:w1.heap.size≠b:=by have:=P1.out.p.lt;omega
  clear n0 n1 n2 y00 y01 y02 yb0 y10 y11 y12 yb1 P1 K1 R1;have P1:=P1o;have K1:=K1o;have R1:=R1o;clear P1o K1o R1o;obtain⟨⟨n0,n1,n2⟩,_⟩:=R1.out.cells;have y00:=P1.out.cell X0.out.1;have y01:=P1.out.cell X0.out.2.1;have y02:=P1.out.cell X0.out.2.2;have yb0:=qg y00;have y10:=P1.out.cell X1.out.1;have y11:=P1.out.cell X1.out.2.1;have y12:=P1.out.cell X1.out.2.2;have yb1:=qg y10;obtain⟨⟨o0,o1,o2⟩,p0,p1,p2⟩:=O1.out.cells
  go_wp2_with fail
  go_quiet (fail)
  generalize hQ:World.drewN _ _=w2;have P2:Hid (PrI w0 b _ w2):=qh (by rw[<-hQ];exact P1.out.later (below_drewN (Below.refl _ _) _));have K2:Hid (Wr w0.heap.size b w w2):=qh (by rw[<-hQ];exact K1.out.later (below_drewN (Below.refl _ _) _) P1.out.size);have R2:Hid (Row3 w2 w.heap.size _ _ _):=qh (by rw[<-hQ];exact R1.out);have O2:Hid (RowO w2 _ _ _ _):=qh (by rw[<-hQ];exact O1.out);clear hQ n0 n1 n2 y00 y01 y02 yb0 y10 y11 y12 yb1 o0 o1 o2 p0 p1 p2;obtain⟨⟨n0,n1,n2⟩,_⟩:=R2.out.cells;have y00:=P2.out.cell X0.out.1;have y01:=P2.out.cell X0.out.2.1;have y02:=P2.out.cell X0.out.2.2;have yb0:=qg y00;have y10:=P2.out.cell X1.out.1;have y11:=P2.out.cell X1.out.2.1;have y12:=P2.out.cell X1.out.2.2;have yb1:=qg y10;obtain⟨⟨o0,o1,o2⟩,p0,p1,p2⟩:=O2.out.cells
  go_wp2_with fail
  go_quiet (fail)
  generalize hQ:World.drewN _ _=w3;have P3:Hid (PrI w0 b _ w3):=qh (by rw[<-hQ];exact P2.out.later (below_drewN (Below.refl _ _) _));have K3:Hid (Wr w0.heap.size b w w3):=qh (by rw[<-hQ];exact K2.out.later (below_drewN (Below.refl _ _) _) P2.out.size);have R3:Hid (Row3 w3 w.heap.size _ _ _):=qh (by rw[<-hQ];exact R2.out);have O3:Hid (RowO w3 _ _ _ _):=qh (by rw[<-hQ];exact O2.out);clear hQ n0 n1 n2 y00 y01 y02 yb0 y10 y11 y12 yb1 o0 o1 o2 p0 p1 p2;obtain⟨⟨n0,n1,n2⟩,_⟩:=R3.out.cells;have y00:=P3.out.cell X0.out.1;have y01:=P3.out.cell X0.out.2.1;have y02:=P3.out.cell X0.out.2.2;have yb0:=qg y00;have y10:=P3.out.cell X1.out.1;have y11:=P3.out.cell X1.out.2.1;have y12:=P3.out.cell X1.out.2.2;have yb1:=qg y10;obtain⟨⟨o0,o1,o2⟩,p0,p1,p2⟩:=O3.out.cells
  go_wp2_with fail
  refine(C4.out _ (by first|rfl|(push_cast;rfl)) _ P3.out).mono ?_;rintro e w4⟨rfl,pp,kk⟩;have P4:=qh pp;have K4:=qh (K3.out.trans kk);have R4:=qh (kk.row3 R3.out hne);have O4:=qh (kk.rowO O3.out hno);clear pp kk C4 n0 n1 n2 y00 y01 y02 yb0 y10 y11 y12 yb1 o0 o1 o2 p0 p1 p2;obtain⟨⟨n0,n1,n2⟩,_⟩:=R4.out.cells;have y00:=P4.out.cell X0.out.1;have y01:=P4.out.cell X0.out.2.1;have y02:=P4.out.cell X0.out.2.2;have yb0:=qg y00;have y10:=P4.out.cell X1.out.1;have y11:=P4.out.cell X1.out.2.1;have y12:=P4.out.cell X1.out.2.2;have yb1:=qg y10;obtain⟨⟨o0,o1,o2⟩,p0,p1,p2⟩:=O4.out.cells
  go_wp2_with fail
  refine(C3.out _ P4.out _ (by first|rfl|simp only[q6])).mono ?_;rintro e w5⟨rfl,pp,kk⟩;have P5:=qh pp;have K5:=qh (K4.out.trans kk);have R5:=qh (kk.row3 R4.out hne);have O5:=qh (kk.rowO O4.out hno);clear pp kk C3 n0 n1 n2 y00 y01 y02 yb0 y10 y11 y12 yb1 o0 o1 o2 p0 p1 p2;obtain⟨⟨n0,n1,n2⟩,_⟩:=R5.out.cells;have y00:=P5.out.cell X0.out.1;have y01:=P5.out.cell X0.out.2.1;have y02:=P5.out.cell X0.out.2.2;have yb0:=qg y00;have y10:=P5.out.cell X1.out.1;have y11:=P5.out.cell X1.out.2.1;have y12:=P5.out.cell X1.out.2.2;have yb1:=qg y10;obtain⟨⟨o0,o1,o2⟩,p0,p1,p2⟩:=O5.out.cells
  go_wp2_with fail
  refine(C5.out _ (by first|rfl|(push_cast;rfl)) _ P5.out).mono ?_;rintro e w6⟨rfl,pp,kk⟩;have P6:=qh pp;have K6:=qh (K5.out.trans kk);have R6:=qh (kk.row3 R5.out hne);have O6:=qh (kk.rowO O5.out hno);clear pp kk C5 n0 n1 n2 y00 y01 y02 yb0 y10 y11 y12 yb1 o0 o1 o2 p0 p1 p2;go_wp2;go_end0;exact⟨rfl,by rw[HE.out];simpa only[qe,zr]using P6.out,K6.out⟩
 ·have e0:((bd:Int)==0)=false:=by rw[q9];omega
  have hlb:q0i bd=bd+1:=q7 hb0;have hrb:vg bd=bd:=q7 hb0;rw[hlb]at hY0;rw[hrb]at hY1
  have C4:Hid (∀ (z:Int),z=((bd+1:Nat):Int)->∀ w',PrI w0 b l w'->Calls Tryz.prog 158 #[.pointer (some ⟨b,0,none⟩),.agg #[.int .i64 k0',.string s0',.slice a0' l0'.length c0'],.int .i64 z,.bool true] w' (PrO w0 b l w' Y0)):=qh (fun z hz w' h=>by
   subst hz;have hl9:List.length l+Y0.length<=100000000:=by(try simp[bs]at hlen2 ⊢);omega
   rw[<-hY0]at hl9 ⊢
   exact hk 0 (by omega) _ _ _ (bd+1) true _ w' (by omega) (eK0▸r0) h hl9)
  have C5:Hid (∀ (z:Int),z=((bd:Nat):Int)->∀ w',PrI w0 b ((l++Y0)++(bs ⟨#[32]⟩++(bs ⟨sg.toArray⟩++bs ⟨#[32]⟩))) w'->Calls Tryz.prog 158 #[.pointer (some ⟨b,0,none⟩),.agg #[.int .i64 k1',.string s1',.slice a1' l1'.length c1'],.int .i64 z,.bool more] w' (PrO w0 b ((l++Y0)++(bs ⟨#[32]⟩++(bs ⟨sg.toArray⟩++bs ⟨#[32]⟩))) w' Y1)):=qh (fun z hz w' h=>by
   subst hz;have hl9:List.length ((l++Y0)++(bs ⟨#[32]⟩++(bs ⟨sg.toArray⟩++bs ⟨#[32]⟩)))+Y1.length<=100000000:=by(try simp[bs]at hlen2 ⊢);omega
   rw[<-hY1]at hl9 ⊢
   exact hk 1 (by omega) _ _ _ (bd) more _ w' (by omega) (eK1▸r1) h hl9)
  obtain⟨⟨n0,n1,n2⟩,_⟩:=R0'.cells;clear hT hlen hlen2 hE hW R0' hp hk ht HN hY0 hY1 x00 x01 x02 x10 x11 x12 r0 r1 eK0 eK1 hL hbo1 hlb hrb hb0 h2 hop;go_enter Tryz.func228,Tryz.ntmps228
  go_upto_region 1 with fail
  rw[HW.out];have y00:=P0.out.cell X0.out.1;have y01:=P0.out.cell X0.out.2.1;have y02:=P0.out.cell X0.out.2.2;have yb0:=qg y00;have y10:=P0.out.cell X1.out.1;have y11:=P0.out.cell X1.out.2.1;have y12:=P0.out.cell X1.out.2.2;have yb1:=qg y10
  go_wp2_with fail
  refine(CO.out _ P0.out).mono ?_;rintro e w1⟨rfl,bb⟩;have P1:=qh (P0.out.later bb);have K1:=qh (K0.out.later bb P0.out.size);have R1:=qh (R0.out.below bb R0.out.lt);clear bb CO n0 n1 n2 y00 y01 y02 yb0 y10 y11 y12 yb1;obtain⟨⟨n0,n1,n2⟩,_⟩:=R1.out.cells;have y00:=P1.out.cell X0.out.1;have y01:=P1.out.cell X0.out.2.1;have y02:=P1.out.cell X0.out.2.2;have yb0:=qg y00;have y10:=P1.out.cell X1.out.1;have y11:=P1.out.cell X1.out.2.1;have y12:=P1.out.cell X1.out.2.2;have yb1:=qg y10;have P1o:=qh (P1.out.alloc (.cells #[.string ⟨sg.toArray⟩,.int .i64 k,.int .i64 (bd:Nat)] 163));have K1o:=qh (K1.out.alloc P1.out.size (.cells #[.string ⟨sg.toArray⟩,.int .i64 k,.int .i64 (bd:Nat)] 163));have R1o:=qh (R1.out.alloc (.cells #[.string ⟨sg.toArray⟩,.int .i64 k,.int .i64 (bd:Nat)] 163));have O1:Hid (RowO (w1.alloc (.cells #[.string ⟨sg.toArray⟩,.int .i64 k,.int .i64 (bd:Nat)] 163)) w1.heap.size _ _ _):=qh (qm w1 _);have hno:w1.heap.size≠b:=by have:=P1.out.p.lt;omega
  clear n0 n1 n2 y00 y01 y02 yb0 y10 y11 y12 yb1 P1 K1 R1;have P1:=P1o;have K1:=K1o;have R1:=R1o;clear P1o K1o R1o;obtain⟨⟨n0,n1,n2⟩,_⟩:=R1.out.cells;have y00:=P1.out.cell X0.out.1;have y01:=P1.out.cell X0.out.2.1;have y02:=P1.out.cell X0.out.2.2;have yb0:=qg y00;have y10:=P1.out.cell X1.out.1;have y11:=P1.out.cell X1.out.2.1;have y12:=P1.out.cell X1.out.2.2;have yb1:=qg y10;obtain⟨⟨o0,o1,o2⟩,p0,p1,p2⟩:=O1.out.cells
  go_wp2_with fail
  go_quiet (fail)
  generalize hQ:World.drewN _ _=w2;have P2:Hid (PrI w0 b _ w2):=qh (by rw[<-hQ];exact P1.out.later (below_drewN (Below.refl _ _) _));have K2:Hid (Wr w0.heap.size b w w2):=qh (by rw[<-hQ];exact K1.out.later (below_drewN (Below.refl _ _) _) P1.out.size);have R2:Hid (Row3 w2 w.heap.size _ _ _):=qh (by rw[<-hQ];exact R1.out);have O2:Hid (RowO w2 _ _ _ _):=qh (by rw[<-hQ];exact O1.out);clear hQ n0 n1 n2 y00 y01 y02 yb0 y10 y11 y12 yb1 o0 o1 o2 p0 p1 p2;obtain⟨⟨n0,n1,n2⟩,_⟩:=R2.out.cells;have y00:=P2.out.cell X0.out.1;have y01:=P2.out.cell X0.out.2.1;have y02:=P2.out.cell X0.out.2.2;have yb0:=qg y00;have y10:=P2.out.cell X1.out.1;have y11:=P2.out.cell X1.out.2.1;have y12:=P2.out.cell X1.out.2.2;have yb1:=qg y10;obtain⟨⟨o0,o1,o2⟩,p0,p1,p2⟩:=O2.out.cells
  go_wp2_with fail
  refine(C4.out _ (by first|rfl|(push_cast;rfl)) _ P2.out).mono ?_;rintro e w3⟨rfl,pp,kk⟩;have P3:=qh pp;have K3:=qh (K2.out.trans kk);have R3:=qh (kk.row3 R2.out hne);have O3:=qh (kk.rowO O2.out hno);clear pp kk C4 n0 n1 n2 y00 y01 y02 yb0 y10 y11 y12 yb1 o0 o1 o2 p0 p1 p2;obtain⟨⟨n0,n1,n2⟩,_⟩:=R3.out.cells;have y00:=P3.out.cell X0.out.1;have y01:=P3.out.cell X0.out.2.1;have y02:=P3.out.cell X0.out.2.2;have yb0:=qg y00;have y10:=P3.out.cell X1.out.1;have y11:=P3.out.cell X1.out.2.1;have y12:=P3.out.cell X1.out.2.2;have yb1:=qg y10;obtain⟨⟨o0,o1,o2⟩,p0,p1,p2⟩:=O3.out.cells
  go_wp2_with fail
  refine(C3.out _ P3.out _ (by first|rfl|simp only[q6])).mono ?_;rintro e w4⟨rfl,pp,kk⟩;have P4:=qh pp;have K4:=qh (K3.out.trans kk);have R4:=qh (kk.row3 R3.out hne);have O4:=qh (kk.rowO O3.out hno);clear pp kk C3 n0 n1 n2 y00 y01 y02 yb0 y10 y11 y12 yb1 o0 o1 o2 p0 p1 p2;obtain⟨⟨n0,n1,n2⟩,_⟩:=R4.out.cells;have y00:=P4.out.cell X0.out.1;have y01:=P4.out.cell X0.out.2.1;have y02:=P4.out.cell X0.out.2.2;have yb0:=qg y00;have y10:=P4.out.cell X1.out.1;have y11:=P4.out.cell X1.out.2.1;have y12:=P4.out.cell X1.out.2.2;have yb1:=qg y10;obtain⟨⟨o0,o1,o2⟩,p0,p1,p2⟩:=O4.out.cells
  go_wp2_with fail
  refine(C5.out _ (by first|rfl|(push_cast;rfl)) _ P4.out).mono ?_;rintro e w5⟨rfl,pp,kk⟩;have P5:=qh pp;have K5:=qh (K4.out.trans kk);have R5:=qh (kk.row3 R4.out hne);have O5:=qh (kk.rowO O4.out hno);clear pp kk C5 n0 n1 n2 y00 y01 y02 yb0 y10 y11 y12 yb1 o0 o1 o2 p0 p1 p2;go_wp2;go_end0;exact⟨rfl,by rw[HE.out];simpa only[qe,zr]using P5.out,K5.out⟩
theorem qpu{w0:World}{b:Nat}(k:Int)(s:ByteArray)(kl:List Nd)(hsh:jv k kl.length=true)(hk:∀ i (h:i < kl.length),q7e w0 b kl[i])(hka:∀ i (h:i < kl.length),qoh w0 b kl[i]):qa7 w0 b (.mk k s kl):=by
 intro v0 v1 v2 more l w ht hp hlen;obtain⟨_,_,_,a,cap,hform,rfl,rfl,rfl,hs,hl⟩:=ht.form
 cases hform;obtain⟨L,hL⟩:∃ L,kl.length=L:=⟨_,rfl⟩;rw[hL]at ht hl;rw[hL];obtain⟨W,hW⟩:∃ W,w.alloc (.cells #[.int .i64 k,.string s,.slice a L cap] 25)=W:=⟨_,rfl⟩;have R0':Row3 W w.heap.size (.int .i64 k) (.string s) (.slice a L cap):=by rw[<-hW];exact Row3.new _ _ _ _
 have P0:=qh (hW▸hp.alloc (.cells #[.int .i64 k,.string s,.slice a L cap] 25));have K0:=qh (hW▸(Wr.refl w0.heap.size b w).alloc hp.size (.cells #[.int .i64 k,.string s,.slice a L cap] 25));have hne:w.heap.size≠b:=by have:=hp.p.lt;omega
 have HN:=qh ht;have HL:=qh hlen;unfold maxLen at hl;rw[hL]at hsh;obtain⟨T,hT⟩:∃ T,(Nd.mk k s kl).bare more=T:=⟨_,rfl⟩;rw[hT]at HL hlen;rw[hT];have HW:=qh hW;have R0:=qh R0';clear hW R0' hp;obtain⟨ow,how⟩:∃ ow,zq k=ow:=⟨_,rfl⟩;have CO:Hid (∀ w',PrI w0 b l w'->_):=qh (fun w' (h:PrI w0 b l w')=>qbb k s a L cap w' h.glw h.two');rw[how]at CO;unfold S_ at CO
 by_cases hc:k=15
 ·subst hc
  have hE:T=bs s++kl.flatMap fun x=>32 :: x.arg:=by rw[<-hT];exact q73 (by decide) s kl more
  have HE:=qh hE;have hlen2:=HL.out;rw[hE]at hlen2;simp only[qc]at hlen2;have C1:=qh (fun w' (h:PrI w0 b l w') n (hn:n=w'.heap.size)=>xr h n hn s (by omega));have HA:=qh hka;have HLL:=qh hL;have HLen:=qh hlen2;clear CO how hT hE hlen hlen2 hk hka ht HL hsh hL;obtain⟨⟨n0,n1,n2⟩,_⟩:=R0.out.cells;go_enter Tryz.func206,Tryz.ntmps206
  go_upto_region 1 with fail
  rw[HW.out]
  go_wp2_with fail
  refine(C1.out _ P0.out _ (by first|rfl|simp only[q6])).mono ?_;rintro e w1⟨rfl,pp,kk⟩;have P1:=qh pp;have K1:=qh (K0.out.trans kk);have R1:=qh (kk.row3 R0.out hne);clear pp kk C1 n0 n1 n2;obtain⟨⟨n0,n1,n2⟩,_⟩:=R1.out.cells;go_wp2
  go_loopw [25] (fun v wr=>∃ i:Nat,i<=L/\v = .int .i64 i/\Hid (PrI w0 b ((l++bs s)++(kl.take i).flatMap fun x=>32 :: x.arg) wr)/\Hid (Wr w0.heap.size b w wr)) (fun v _=>L - (intOf v).toNat)
  case atStart=>exact⟨0,qp _,rfl,qh (by simpa using P1.out),K1⟩
  case round =>
   obtain⟨i,hi,rfl,PI,KI⟩:=hrel
   by_cases hlt:i < L
   ·have hlt':(i:Int) < (L:Int):=by omega
    have hi0:(0:Int)<=(i:Int):=by omega
    have hik:i < kl.length:=by rw[HLL.out];exact hlt
    have hm1:(i:Int)+1<=(L:Int):=by omega
    obtain⟨bb,o,k1,s1,l1,a1,c1,rfl,e1,x0,x1,x2,r1⟩:=HN.out.kid i hik;have y0:=PI.out.cell x0;have y1:=PI.out.cell x1;have y2:=PI.out.cell x2;have yb:=qg y0
    have hG:(kl.take (i+1)).flatMap (fun x=>(32:UInt8) :: x.arg)=(kl.take i).flatMap (fun x=>32 :: x.arg)++(32 :: (kl[i]).arg):=by
     rw[qw hik,qx];simp
    have hGl:((kl.take (i+1)).flatMap (fun x=>(32:UInt8) :: x.arg)).length<=(kl.flatMap (fun x=>(32:UInt8) :: x.arg)).length:=by
     conv=>rhs;rw[<-List.take_append_drop (i+1) kl]
     rw[qx,qc];omega
    have hlen3:=HLen.out;rw[hG]at hGl;simp only[qc,qi]at hGl;generalize hU:(kl.take i).flatMap (fun x=>(32:UInt8) :: x.arg)=U at *;obtain⟨A,hA⟩:∃ A,(kl[i]).arg=A:=⟨_,rfl⟩;rw[hA]at hG hGl;have HG:=qh hG;have CP:=qh (fun w' (h:PrI w0 b ((l++bs s)++U) w') n (hn:n=w'.heap.size)=>xr h n hn ⟨#[32]⟩ (by have h1:(bs ⟨#[32]⟩).length=1:=rfl;simp only[qc];omega))
    have CA:Hid (∀ w',PrI w0 b (((l++bs s)++U)++bs ⟨#[32]⟩) w'->Calls Tryz.prog 226 #[.pointer (some ⟨b,0,none⟩),.agg #[.int .i64 k1,.string s1,.slice a1 l1.length c1]] w' (PrO w0 b (((l++bs s)++U)++bs ⟨#[32]⟩) w' A)):=qh (fun w' h=>by
     have hl9:List.length (((l++bs s)++U)++bs ⟨#[32]⟩)+A.length<=100000000:=by have h1:(bs ⟨#[32]⟩).length=1:=rfl;simp only[qc];omega
     rw[<-hA]at hl9 ⊢
     exact HA.out i hik _ _ _ _ w' (e1▸r1) h hl9)
    have RN:=qh (Row3.new wr (.int .i64 k1) (.string s1) (.slice a1 l1.length c1));have PN:=qh (PI.out.alloc (.cells #[.int .i64 k1,.string s1,.slice a1 l1.length c1] 25));have KN:=qh (KI.out.alloc PI.out.size (.cells #[.int .i64 k1,.string s1,.slice a1 l1.length c1] 25));have hnn:wr.heap.size≠b:=by have:=PI.out.p.lt;omega
    clear hU hA hG hGl hlen3 x0 x1 x2 r1 e1 hik n0 n1 n2
    go_wp2_with fail
    refine(CP.out _ PN.out _ (by first|rfl|simp only[q6])).mono ?_;rintro e w5⟨rfl,pp,kk⟩;have P5:=qh pp;have K5:=qh (KN.out.trans kk);have R5:=qh (kk.row3 RN.out hnn);obtain⟨⟨n0,n1,n2⟩,_⟩:=R5.out.cells;clear pp kk CP y0 y1 y2 yb
    go_wp2_with fail
    refine(CA.out _ P5.out).mono ?_;rintro e w6⟨rfl,pp,kk⟩;have P6:Hid (PrI w0 b ((l++bs s)++(kl.take (i+1)).flatMap fun x=>32 :: x.arg) w6):=qh (by rw[HG.out];simpa[bs]using pp);have K6:=qh (K5.out.trans kk);clear pp kk CA n0 n1 n2;go_wp2;go_roundw
    case rel=>exact⟨i+1,hlt,by push_cast;rfl,P6,K6⟩
    case measure=>simp[intOf];omega
   ·have hlt':¬ ((i:Int) < (L:Int)):=by omega
    have hG:kl.take i=kl:=qt (by rw[HLL.out];omega);have P6:=qh (show PrI w0 b (l++T) wr by rw[HE.out];have:=PI.out;rw[hG]at this;simpa[bs]using this);clear hG;go_wp2;go_end0;exact⟨rfl,P6.out,KI.out⟩
 ·have m15:¬ k=15:=hc
  have hk15:((k:Int)==15)=false:=by rw[q9];exact hc
  clear hc
  by_cases hc:k=16
  ·subst hc
   have hE:T=bs s++kl.flatMap fun x=>32 :: x.arg:=by rw[<-hT];exact q73 (by decide) s kl more
   have HE:=qh hE;have hlen2:=HL.out;rw[hE]at hlen2;simp only[qc]at hlen2;have C1:=qh (fun w' (h:PrI w0 b l w') n (hn:n=w'.heap.size)=>xr h n hn s (by omega));have HA:=qh hka;have HLL:=qh hL;have HLen:=qh hlen2;clear CO how hT hE hlen hlen2 hk hka ht HL hsh hL;obtain⟨⟨n0,n1,n2⟩,_⟩:=R0.out.cells;go_enter Tryz.func206,Tryz.ntmps206
   go_upto_region 1 with fail
   rw[HW.out]
   go_wp2_with fail
   refine(C1.out _ P0.out _ (by first|rfl|simp only[q6])).mono ?_;rintro e w1⟨rfl,pp,kk⟩;have P1:=qh pp;have K1:=qh (K0.out.trans kk);have R1:=qh (kk.row3 R0.out hne);clear pp kk C1 n0 n1 n2;obtain⟨⟨n0,n1,n2⟩,_⟩:=R1.out.cells;go_wp2
   go_loopw [25] (fun v wr=>∃ i:Nat,i<=L/\v = .int .i64 i/\Hid (PrI w0 b ((l++bs s)++(kl.take i).flatMap fun x=>32 :: x.arg) wr)/\Hid (Wr w0.heap.size b w wr)) (fun v _=>L - (intOf v).toNat)
   case atStart=>exact⟨0,qp _,rfl,qh (by simpa using P1.out),K1⟩
   case round =>
    obtain⟨i,hi,rfl,PI,KI⟩:=hrel
    by_cases hlt:i < L
    ·have hlt':(i:Int) < (L:Int):=by omega
     have hi0:(0:Int)<=(i:Int):=by omega
     have hik:i < kl.length:=by rw[HLL.out];exact hlt
     have hm1:(i:Int)+1<=(L:Int):=by omega
     obtain⟨bb,o,k1,s1,l1,a1,c1,rfl,e1,x0,x1,x2,r1⟩:=HN.out.kid i hik;have y0:=PI.out.cell x0;have y1:=PI.out.cell x1;have y2:=PI.out.cell x2;have yb:=qg y0
     have hG:(kl.take (i+1)).flatMap (fun x=>(32:UInt8) :: x.arg)=(kl.take i).flatMap (fun x=>32 :: x.arg)++(32 :: (kl[i]).arg):=by
      rw[qw hik,qx];simp
     have hGl:((kl.take (i+1)).flatMap (fun x=>(32:UInt8) :: x.arg)).length<=(kl.flatMap (fun x=>(32:UInt8) :: x.arg)).length:=by
      conv=>rhs;rw[<-List.take_append_drop (i+1) kl]
      rw[qx,qc];omega
     have hlen3:=HLen.out;rw[hG]at hGl;simp only[qc,qi]at hGl;generalize hU:(kl.take i).flatMap (fun x=>(32:UInt8) :: x.arg)=U at *;obtain⟨A,hA⟩:∃ A,(kl[i]).arg=A:=⟨_,rfl⟩;rw[hA]at hG hGl;have HG:=qh hG;have CP:=qh (fun w' (h:PrI w0 b ((l++bs s)++U) w') n (hn:n=w'.heap.size)=>xr h n hn ⟨#[32]⟩ (by have h1:(bs ⟨#[32]⟩).length=1:=rfl;simp only[qc];omega))
     have CA:Hid (∀ w',PrI w0 b (((l++bs s)++U)++bs ⟨#[32]⟩) w'->Calls Tryz.prog 226 #[.pointer (some ⟨b,0,none⟩),.agg #[.int .i64 k1,.string s1,.slice a1 l1.length c1]] w' (PrO w0 b (((l++bs s)++U)++bs ⟨#[32]⟩) w' A)):=qh (fun w' h=>by
      have hl9:List.length (((l++bs s)++U)++bs ⟨#[32]⟩)+A.length<=100000000:=by have h1:(bs ⟨#[32]⟩).length=1:=rfl;simp only[qc];omega
      rw[<-hA]at hl9 ⊢
      exact HA.out i hik _ _ _ _ w' (e1▸r1) h hl9)
     have RN:=qh (Row3.new wr (.int .i64 k1) (.string s1) (.slice a1 l1.length c1));have PN:=qh (PI.out.alloc (.cells #[.int .i64 k1,.string s1,.slice a1 l1.length c1] 25));have KN:=qh (KI.out.alloc PI.out.size (.cells #[.int .i64 k1,.string s1,.slice a1 l1.length c1] 25));have hnn:wr.heap.size≠b:=by have:=PI.out.p.lt;omega
     clear hU hA hG hGl hlen3 x0 x1 x2 r1 e1 hik n0 n1 n2
     go_wp2_with fail
     refine(CP.out _ PN.out _ (by first|rfl|simp only[q6])).mono ?_;rintro e w5⟨rfl,pp,kk⟩;have P5:=qh pp;have K5:=qh (KN.out.trans kk);have R5:=qh (kk.row3 RN.out hnn);obtain⟨⟨n0,n1,n2⟩,_⟩:=R5.out.cells;clear pp kk CP y0 y1 y2 yb
     go_wp2_with fail
     refine(CA.out _ P5.out).mono ?_;rintro e w6⟨rfl,pp,kk⟩;have P6:Hid (PrI w0 b ((l++bs s)++(kl.take (i+1)).flatMap fun x=>32 :: x.arg) w6):=qh (by rw[HG.out];simpa[bs]using pp);have K6:=qh (K5.out.trans kk);clear pp kk CA n0 n1 n2;go_wp2;go_roundw
     case rel=>exact⟨i+1,hlt,by push_cast;rfl,P6,K6⟩
     case measure=>simp[intOf];omega
    ·have hlt':¬ ((i:Int) < (L:Int)):=by omega
     have hG:kl.take i=kl:=qt (by rw[HLL.out];omega);have P6:=qh (show PrI w0 b (l++T) wr by rw[HE.out];have:=PI.out;rw[hG]at this;simpa[bs]using this);clear hG;go_wp2;go_end0;exact⟨rfl,P6.out,KI.out⟩
  ·have m16:¬ k=16:=hc
   have hk16:((k:Int)==16)=false:=by rw[q9];exact hc
   clear hc
   by_cases hc:k=17
   ·subst hc
    have h12:L=1\/L=2:=by simpa[jv]using hsh
    obtain⟨X,hX⟩:∃ X,kq s kl (Nd.bareL kl)=X:=⟨_,rfl⟩;have hE:T=ow++X:=by rw[<-hT,<-how,<-hX];rfl
    have HE:=qh hE;have hlen2:=HL.out;rw[hE]at hlen2;simp only[qc]at hlen2;have C1:=qh (fun w' (h:PrI w0 b l w') n (hn:n=w'.heap.size)=>xr h n hn ⟨ow.toArray⟩ (by simp[bs];omega))
    have C2:Hid (∀ w',PrI w0 b (l++ow) w'->Calls Tryz.prog 227 #[.pointer (some ⟨b,0,none⟩),.agg #[.int .i64 17,.string s,.slice a L cap]] w' (PrO w0 b (l++ow) w' X)):=qh (fun w' h=>by
     have hl9:List.length (l++ow)+X.length<=100000000:=by simp only[qc];omega
     rw[<-hX]at hl9 ⊢
     exact q71 17 s kl (by rw[hL];exact h12) hk _ _ _ _ w' HN.out h hl9)
    clear how hX hT hE hlen hlen2 hk hka ht HL hsh hL h12;obtain⟨⟨n0,n1,n2⟩,_⟩:=R0.out.cells;go_enter Tryz.func206,Tryz.ntmps206
    go_upto_region 1 with fail
    rw[HW.out]
    go_wp2_with fail
    refine(CO.out _ P0.out).mono ?_;rintro e w1⟨rfl,bb⟩;have P1:=qh (P0.out.later bb);have K1:=qh (K0.out.later bb P0.out.size);have R1:=qh (R0.out.below bb R0.out.lt);clear bb CO n0 n1 n2;obtain⟨⟨n0,n1,n2⟩,_⟩:=R1.out.cells
    go_wp2_with fail
    refine(C1.out _ P1.out _ (by first|rfl|simp only[q6])).mono ?_;rintro e w2⟨rfl,pp,kk⟩;have P2:=qh pp;have K2:=qh (K1.out.trans kk);have R2:=qh (kk.row3 R1.out hne);clear pp kk C1 n0 n1 n2;obtain⟨⟨n0,n1,n2⟩,_⟩:=R2.out.cells
    go_wp2_with fail
    refine(C2.out _ P2.out).mono ?_;rintro e w3⟨rfl,pp,kk⟩;have P3:=qh pp;have K3:=qh (K2.out.trans kk);have R3:=qh (kk.row3 R2.out hne);clear pp kk C2 n0 n1 n2;go_wp2;go_end0;exact⟨rfl,by rw[HE.out];simpa only[qe,zr]using P3.out,K3.out⟩
   ·have m17:¬ k=17:=hc
    have hk17:((k:Int)==17)=false:=by rw[q9];exact hc
    clear hc
    by_cases hc:k=18
    ·subst hc
     have h12:L=1\/L=2:=by simpa[jv]using hsh
     obtain⟨X,hX⟩:∃ X,kq s kl (Nd.bareL kl)=X:=⟨_,rfl⟩;have hE:T=(ow++[32])++X:=by rw[<-hT,<-how,<-hX];rfl
     have HE:=qh hE;have hlen2:=HL.out;rw[hE]at hlen2;simp only[qc]at hlen2;have C1:=qh (fun w' (h:PrI w0 b l w') n (hn:n=w'.heap.size)=>put2 h n hn ⟨ow.toArray⟩ ⟨#[32]⟩ (by simp[bs]at hlen2 ⊢;omega))
     have C2:Hid (∀ w',PrI w0 b (l++(ow++[32])) w'->Calls Tryz.prog 227 #[.pointer (some ⟨b,0,none⟩),.agg #[.int .i64 18,.string s,.slice a L cap]] w' (PrO w0 b (l++(ow++[32])) w' X)):=qh (fun w' h=>by
      have hl9:List.length (l++(ow++[32]))+X.length<=100000000:=by simp only[qc];omega
      rw[<-hX]at hl9 ⊢
      exact q71 18 s kl (by rw[hL];exact h12) hk _ _ _ _ w' HN.out h hl9)
     clear how hX hT hE hlen hlen2 hk hka ht HL hsh hL h12;obtain⟨⟨n0,n1,n2⟩,_⟩:=R0.out.cells;go_enter Tryz.func206,Tryz.ntmps206
     go_upto_region 1 with fail
     rw[HW.out]
     go_wp2_with fail
     refine(CO.out _ P0.out).mono ?_;rintro e w1⟨rfl,bb⟩;have P1:=qh (P0.out.later bb);have K1:=qh (K0.out.later bb P0.out.size);have R1:=qh (R0.out.below bb R0.out.lt);clear bb CO n0 n1 n2;obtain⟨⟨n0,n1,n2⟩,_⟩:=R1.out.cells
     go_wp2_with fail
     refine(C1.out _ P1.out _ (by first|rfl|simp only[q6])).mono ?_;rintro e w2⟨rfl,pp,kk⟩;have P2:=qh pp;have K2:=qh (K1.out.trans kk);have R2:=qh (kk.row3 R1.out hne);clear pp kk C1 n0 n1 n2;obtain⟨⟨n0,n1,n2⟩,_⟩:=R2.out.cells
     go_wp2_with fail
     refine(C2.out _ P2.out).mono ?_;rintro e w3⟨rfl,pp,kk⟩;have P3:=qh pp;have K3:=qh (K2.out.trans kk);have R3:=qh (kk.row3 R2.out hne);clear pp kk C2 n0 n1 n2;go_wp2;go_end0;exact⟨rfl,by rw[HE.out];simpa only[qe,zr]using P3.out,K3.out⟩
    ·have m18:¬ k=18:=hc
     have hk18:((k:Int)==18)=false:=by rw[q9];exact hc
     clear hc
     by_cases hc:k=19
     ·subst hc
      have h12:L=1\/L=2:=by simpa[jv]using hsh
      obtain⟨X,hX⟩:∃ X,kq s kl (Nd.bareL kl)=X:=⟨_,rfl⟩;have hE:T=(ow++[32])++X:=by rw[<-hT,<-how,<-hX];rfl
      have HE:=qh hE;have hlen2:=HL.out;rw[hE]at hlen2;simp only[qc]at hlen2;have C1:=qh (fun w' (h:PrI w0 b l w') n (hn:n=w'.heap.size)=>put2 h n hn ⟨ow.toArray⟩ ⟨#[32]⟩ (by simp[bs]at hlen2 ⊢;omega))
      have C2:Hid (∀ w',PrI w0 b (l++(ow++[32])) w'->Calls Tryz.prog 227 #[.pointer (some ⟨b,0,none⟩),.agg #[.int .i64 19,.string s,.slice a L cap]] w' (PrO w0 b (l++(ow++[32])) w' X)):=qh (fun w' h=>by
       have hl9:List.length (l++(ow++[32]))+X.length<=100000000:=by simp only[qc];omega
       rw[<-hX]at hl9 ⊢
       exact q71 19 s kl (by rw[hL];exact h12) hk _ _ _ _ w' HN.out h hl9)
      clear how hX hT hE hlen hlen2 hk hka ht HL hsh hL h12;obtain⟨⟨n0,n1,n2⟩,_⟩:=R0.out.cells;go_enter Tryz.func206,Tryz.ntmps206
      go_upto_region 1 with fail
      rw[HW.out]
      go_wp2_with fail
      refine(CO.out _ P0.out).mono ?_;rintro e w1⟨rfl,bb⟩;have P1:=qh (P0.out.later bb);have K1:=qh (K0.out.later bb P0.out.size);have R1:=qh (R0.out.below bb R0.out.lt);clear bb CO n0 n1 n2;obtain⟨⟨n0,n1,n2⟩,_⟩:=R1.out.cells
      go_wp2_with fail
      refine(C1.out _ P1.out _ (by first|rfl|simp only[q6])).mono ?_;rintro e w2⟨rfl,pp,kk⟩;have P2:=qh pp;have K2:=qh (K1.out.trans kk);have R2:=qh (kk.row3 R1.out hne);clear pp kk C1 n0 n1 n2;obtain⟨⟨n0,n1,n2⟩,_⟩:=R2.out.cells
      go_wp2_with fail
      refine(C2.out _ P2.out).mono ?_;rintro e w3⟨rfl,pp,kk⟩;have P3:=qh pp;have K3:=qh (K2.out.trans kk);have R3:=qh (kk.row3 R2.out hne);clear pp kk C2 n0 n1 n2;go_wp2;go_end0;exact⟨rfl,by rw[HE.out];simpa only[qe,zr]using P3.out,K3.out⟩
     ·have m19:¬ k=19:=hc
      have hk19:((k:Int)==19)=false:=by rw[q9];exact hc
      clear hc
      by_cases hc:k=20
      ·subst hc
       have hE:T=ow:=by rw[<-hT,<-how];rfl
       have HE:=qh hE;have hlen2:=HL.out;rw[hE]at hlen2;have C1:=qh (fun w' (h:PrI w0 b l w') n (hn:n=w'.heap.size)=>xr h n hn ⟨ow.toArray⟩ (by simp[bs];omega));clear how hT hE hlen hlen2 hk hka ht HL hsh hL;obtain⟨⟨n0,n1,n2⟩,_⟩:=R0.out.cells;go_enter Tryz.func206,Tryz.ntmps206
       go_upto_region 1 with fail
       rw[HW.out]
       go_wp2_with fail
       refine(CO.out _ P0.out).mono ?_;rintro e w1⟨rfl,bb⟩;have P1:=qh (P0.out.later bb);have K1:=qh (K0.out.later bb P0.out.size);have R1:=qh (R0.out.below bb R0.out.lt);clear bb CO n0 n1 n2;obtain⟨⟨n0,n1,n2⟩,_⟩:=R1.out.cells
       go_wp2_with fail
       refine(C1.out _ P1.out _ (by first|rfl|simp only[q6])).mono ?_;rintro e w2⟨rfl,pp,kk⟩;have P2:=qh pp;have K2:=qh (K1.out.trans kk);have R2:=qh (kk.row3 R1.out hne);clear pp kk C1 n0 n1 n2;go_wp2;go_end0;exact⟨rfl,by rw[HE.out];simpa only[qe,zr]using P2.out,K2.out⟩
      ·have m20:¬ k=20:=hc
       have hk20:((k:Int)==20)=false:=by rw[q9];exact hc
       clear hc
       by_cases hc:k=21
       ·subst hc
        have hE:T=ow:=by rw[<-hT,<-how];rfl
        have HE:=qh hE;have hlen2:=HL.out;rw[hE]at hlen2;have C1:=qh (fun w' (h:PrI w0 b l w') n (hn:n=w'.heap.size)=>xr h n hn ⟨ow.toArray⟩ (by simp[bs];omega));clear how hT hE hlen hlen2 hk hka ht HL hsh hL;obtain⟨⟨n0,n1,n2⟩,_⟩:=R0.out.cells;go_enter Tryz.func206,Tryz.ntmps206
        go_upto_region 1 with fail
        rw[HW.out]
        go_wp2_with fail
        refine(CO.out _ P0.out).mono ?_;rintro e w1⟨rfl,bb⟩;have P1:=qh (P0.out.later bb);have K1:=qh (K0.out.later bb P0.out.size);have R1:=qh (R0.out.below bb R0.out.lt);clear bb CO n0 n1 n2;obtain⟨⟨n0,n1,n2⟩,_⟩:=R1.out.cells
        go_wp2_with fail
        refine(C1.out _ P1.out _ (by first|rfl|simp only[q6])).mono ?_;rintro e w2⟨rfl,pp,kk⟩;have P2:=qh pp;have K2:=qh (K1.out.trans kk);have R2:=qh (kk.row3 R1.out hne);clear pp kk C1 n0 n1 n2;go_wp2;go_end0;exact⟨rfl,by rw[HE.out];simpa only[qe,zr]using P2.out,K2.out⟩
       ·have m21:¬ k=21:=hc
        have hk21:((k:Int)==21)=false:=by rw[q9];exact hc
        clear hc
        by_cases hc:k=29
        ·subst hc
         have j0:1<=L:=by simpa[jv]using hsh
         have i0:(0:Int) < (L:Int):=by omega
         obtain⟨bb,o,k0',s0',l0',a0',c0',rfl,eK0,x00,x01,x02,r0⟩:=ht.kid 0 (by omega);simp only[Nat.zero_mul,Nat.add_zero]at x00 x01 x02;have X0:=qh (And.intro x00 (And.intro x01 x02));obtain⟨Y0,hY0⟩:∃ Y,(kl[0]'(by omega)).txt 5 more=Y:=⟨_,rfl⟩
         have hE:T=ow++Y0:=by
          rw[<-hT,<-how,<-hY0,<-q1d];rfl
         have HE:=qh hE;have hlen2:=HL.out;rw[hE]at hlen2;simp only[qc]at hlen2;have C1:=qh (fun w' (h:PrI w0 b l w') n (hn:n=w'.heap.size)=>xr h n hn ⟨ow.toArray⟩ (by simp[bs];omega))
         have C2:Hid (∀ (z:Int),z=((5:Nat):Int)->∀ w',PrI w0 b (l++bs ⟨ow.toArray⟩) w'->Calls Tryz.prog 158 #[.pointer (some ⟨b,0,none⟩),.agg #[.int .i64 k0',.string s0',.slice a0' l0'.length c0'],.int .i64 z,.bool more] w' (PrO w0 b (l++bs ⟨ow.toArray⟩) w' Y0)):=qh (fun z hz w' h=>by
          subst hz;have hl9:List.length (l++bs ⟨ow.toArray⟩)+Y0.length<=100000000:=by(try simp[bs]at hlen2 ⊢);omega
          rw[<-hY0]at hl9 ⊢
          exact hk 0 (by omega) _ _ _ (5) more _ w' (by omega) (eK0▸r0) h hl9)
         clear how hY0 hT hE hlen hlen2 hk hka ht HL hsh hL eK0 r0 x00 x01 x02;obtain⟨⟨n0,n1,n2⟩,_⟩:=R0.out.cells;go_enter Tryz.func206,Tryz.ntmps206
         go_upto_region 1 with fail
         rw[HW.out];have y00:=P0.out.cell X0.out.1;have y01:=P0.out.cell X0.out.2.1;have y02:=P0.out.cell X0.out.2.2;have yb0:=qg y00
         go_wp2_with fail
         refine(CO.out _ P0.out).mono ?_;rintro e w1⟨rfl,bb⟩;have P1:=qh (P0.out.later bb);have K1:=qh (K0.out.later bb P0.out.size);have R1:=qh (R0.out.below bb R0.out.lt);clear bb CO n0 n1 n2 y00 y01 y02 yb0;obtain⟨⟨n0,n1,n2⟩,_⟩:=R1.out.cells;have y00:=P1.out.cell X0.out.1;have y01:=P1.out.cell X0.out.2.1;have y02:=P1.out.cell X0.out.2.2;have yb0:=qg y00
         go_wp2_with fail
         refine(C1.out _ P1.out _ (by first|rfl|simp only[q6])).mono ?_;rintro e w2⟨rfl,pp,kk⟩;have P2:=qh pp;have K2:=qh (K1.out.trans kk);have R2:=qh (kk.row3 R1.out hne);clear pp kk C1 n0 n1 n2 y00 y01 y02 yb0;obtain⟨⟨n0,n1,n2⟩,_⟩:=R2.out.cells;have y00:=P2.out.cell X0.out.1;have y01:=P2.out.cell X0.out.2.1;have y02:=P2.out.cell X0.out.2.2;have yb0:=qg y00
         go_wp2_with fail
         refine(C2.out _ (by first|rfl|(push_cast;rfl)) _ P2.out).mono ?_;rintro e w3⟨rfl,pp,kk⟩;have P3:=qh pp;have K3:=qh (K2.out.trans kk);have R3:=qh (kk.row3 R2.out hne);clear pp kk C2 n0 n1 n2 y00 y01 y02 yb0;go_wp2;go_end0;exact⟨rfl,by rw[HE.out];simpa only[qe,zr]using P3.out,K3.out⟩
        ·have m29:¬ k=29:=hc
         have hk29:((k:Int)==29)=false:=by rw[q9];exact hc
         clear hc
         by_cases hc:k=30
         ·subst hc
          have j0:1<=L:=by simpa[jv]using hsh
          have i0:(0:Int) < (L:Int):=by omega
          obtain⟨bb,o,k0',s0',l0',a0',c0',rfl,eK0,x00,x01,x02,r0⟩:=ht.kid 0 (by omega);simp only[Nat.zero_mul,Nat.add_zero]at x00 x01 x02;have X0:=qh (And.intro x00 (And.intro x01 x02));obtain⟨Y0,hY0⟩:∃ Y,(kl[0]'(by omega)).txt 0 false=Y:=⟨_,rfl⟩
          have hE:T=ow++(Y0++[125]):=by
           rw[<-hT,<-how,<-hY0,<-q1d];rfl
          have HE:=qh hE;have hlen2:=HL.out;rw[hE]at hlen2;simp only[qc]at hlen2;have C1:=qh (fun w' (h:PrI w0 b l w') n (hn:n=w'.heap.size)=>xr h n hn ⟨ow.toArray⟩ (by simp[bs];omega))
          have C2:Hid (∀ (z:Int),z=((0:Nat):Int)->∀ w',PrI w0 b (l++bs ⟨ow.toArray⟩) w'->Calls Tryz.prog 158 #[.pointer (some ⟨b,0,none⟩),.agg #[.int .i64 k0',.string s0',.slice a0' l0'.length c0'],.int .i64 z,.bool false] w' (PrO w0 b (l++bs ⟨ow.toArray⟩) w' Y0)):=qh (fun z hz w' h=>by
           subst hz;have hl9:List.length (l++bs ⟨ow.toArray⟩)+Y0.length<=100000000:=by(try simp[bs]at hlen2 ⊢);omega
           rw[<-hY0]at hl9 ⊢
           exact hk 0 (by omega) _ _ _ (0) false _ w' (by omega) (eK0▸r0) h hl9)
          have C3:=qh (fun w' (h:PrI w0 b ((l++bs ⟨ow.toArray⟩)++Y0) w') n (hn:n=w'.heap.size)=>xr h n hn ⟨#[125]⟩ (by simp[bs]at hlen2 ⊢;omega));clear how hY0 hT hE hlen hlen2 hk hka ht HL hsh hL eK0 r0 x00 x01 x02;obtain⟨⟨n0,n1,n2⟩,_⟩:=R0.out.cells;go_enter Tryz.func206,Tryz.ntmps206
          go_upto_region 1 with fail
          rw[HW.out];have y00:=P0.out.cell X0.out.1;have y01:=P0.out.cell X0.out.2.1;have y02:=P0.out.cell X0.out.2.2;have yb0:=qg y00
          go_wp2_with fail
          refine(CO.out _ P0.out).mono ?_;rintro e w1⟨rfl,bb⟩;have P1:=qh (P0.out.later bb);have K1:=qh (K0.out.later bb P0.out.size);have R1:=qh (R0.out.below bb R0.out.lt);clear bb CO n0 n1 n2 y00 y01 y02 yb0;obtain⟨⟨n0,n1,n2⟩,_⟩:=R1.out.cells;have y00:=P1.out.cell X0.out.1;have y01:=P1.out.cell X0.out.2.1;have y02:=P1.out.cell X0.out.2.2;have yb0:=qg y00
          go_wp2_with fail
          refine(C1.out _ P1.out _ (by first|rfl|simp only[q6])).mono ?_;rintro e w2⟨rfl,pp,kk⟩;have P2:=qh pp;have K2:=qh (K1.out.trans kk);have R2:=qh (kk.row3 R1.out hne);clear pp kk C1 n0 n1 n2 y00 y01 y02 yb0;obtain⟨⟨n0,n1,n2⟩,_⟩:=R2.out.cells;have y00:=P2.out.cell X0.out.1;have y01:=P2.out.cell X0.out.2.1;have y02:=P2.out.cell X0.out.2.2;have yb0:=qg y00
          go_wp2_with fail
          refine(C2.out _ (by first|rfl|(push_cast;rfl)) _ P2.out).mono ?_;rintro e w3⟨rfl,pp,kk⟩;have P3:=qh pp;have K3:=qh (K2.out.trans kk);have R3:=qh (kk.row3 R2.out hne);clear pp kk C2 n0 n1 n2 y00 y01 y02 yb0;obtain⟨⟨n0,n1,n2⟩,_⟩:=R3.out.cells;have y00:=P3.out.cell X0.out.1;have y01:=P3.out.cell X0.out.2.1;have y02:=P3.out.cell X0.out.2.2;have yb0:=qg y00
          go_wp2_with fail
          refine(C3.out _ P3.out _ (by first|rfl|simp only[q6])).mono ?_;rintro e w4⟨rfl,pp,kk⟩;have P4:=qh pp;have K4:=qh (K3.out.trans kk);have R4:=qh (kk.row3 R3.out hne);clear pp kk C3 n0 n1 n2 y00 y01 y02 yb0;go_wp2;go_end0;exact⟨rfl,by rw[HE.out];simpa only[qe,zr]using P4.out,K4.out⟩
         ·have m30:¬ k=30:=hc
          have hk30:((k:Int)==30)=false:=by rw[q9];exact hc
          clear hc
          have hkk:((22<=k/\k<=28)\/k=31)/\2<=L:=by
           simp only[jv,decide_eq_false m15,decide_eq_false m16,decide_eq_false m20,decide_eq_false m21,decide_eq_false m29,decide_eq_false m30,Bool.false_or,Bool.or_eq_true,qd,qf,Bool.false_and]at hsh;omega
          obtain⟨sg,bd,hop⟩:=qkn hkk.1
          have C1:Hid (∀ w',PrI w0 b l w'->Calls Tryz.prog 228 #[.pointer (some ⟨b,0,none⟩),.agg #[.int .i64 k,.string s,.slice a L cap],.bool more] w' (PrO w0 b l w' T)):=qh (fun w' h=>by
           refine qm0 k s kl (by rw[hL];exact hkk.2) sg bd hop hk _ _ _ more _ w' HN.out h T ?_ hlen;rw[<-hT];simp only[Nd.bare,qa2];rw[q7 (by omega),q7 m17,q7 (by omega),q7 (by omega),q7 m29,q7 m30]
           simp only[xe,yz,hop])
          clear CO how hT hlen hk hka ht HL hsh hL hop hkk m15 m16 m17 m18 m19 m20 m21 m29 m30;obtain⟨⟨n0,n1,n2⟩,_⟩:=R0.out.cells;go_enter Tryz.func206,Tryz.ntmps206
          go_upto_region 1 with fail
          rw[HW.out]
          go_wp2_with fail
          refine(C1.out _ P0.out).mono ?_;rintro e w1⟨rfl,pp,kk⟩;have P1:=qh pp;have K1:=qh (K0.out.trans kk);have R1:=qh (kk.row3 R0.out hne);clear pp kk C1 n0 n1 n2;go_wp2;go_end0;exact⟨rfl,P1.out,K1.out⟩
theorem qdb{w0:World}{b:Nat}:∀ (N:Nat) (t:Nd),t.sz<=N->t.okP=true->qa7 w0 b t:=by
 intro N
 induction N with
 |zero =>
  rintro⟨k,s,kl⟩h;simp only[Nd.sz]at h;omega
 |succ N ih =>
  rintro⟨k,s,kl⟩h ho;simp only[Nd.okP,qd]at ho;have hB:∀ i (hi:i < kl.length),qa7 w0 b kl[i]:=fun i hi=>ih _ (by have:=Nd.kid_lt k s kl i hi;omega) (qam ho.2.2 i hi)
  exact qpu k s kl ho.1 (fun i hi=>qg9 (hB i hi)) (fun i hi=>qfr (hB i hi))
theorem qbf{w0:World}{b:Nat}(t:Nd)(h:t.okP=true):q7e w0 b t:=qg9 (qdb _ t (q5 _) h)
def Nd.nm:Nd->Tx| .mk _ s _=>bs s
def jf:List Nd->Bool->Tx
 |[],_=>[]
 |x :: l,first=>(if first then [] else [44,32])++(x.nm++jf l false)
theorem qbv:∀ (l:List Nd) (i:Nat) (h:i < l.length) (f:Bool),jf (l.take (i+1)) f=jf (l.take i) f++((if i=0/\f=true then [] else [44,32])++(l[i]).nm)
 |x :: l,0,_,f=>by cases f <;> simp[jf]
 |x :: l,i+1,h,f=>by
  simp only[List.take_succ_cons,jf,zy];rw[qbv l i (by simpa using h) false];simp
theorem qlu(l:List Nd)(f:Bool)(i:Nat):(jf (l.take i) f).length<=(jf l f).length:=by
 induction l generalizing i f with
 |nil=>simp[jf]
 |cons x l ih =>
  cases i with
  |zero=>simp[jf]
  |succ i =>
   simp only[List.take_succ_cons,jf,qc];have:=ih false i;omega
theorem q6o{w0:World}{b:Nat}(k:Int)(s:ByteArray)(kl:List Nd)(n cap':Nat)(hn:n<=kl.length)(v0 v1:Value)(a:Option Addr)(m cap:Nat)(l:Tx)(w:World)(ht:NdR w0 (.mk k s kl) v0 v1 (.slice a m cap))(hp:PrI w0 b l w)
  (hlen:l.length+(jf (kl.take n) true).length<=100000000):Calls Tryz.prog 204 #[.pointer (some ⟨b,0,none⟩),.slice a n cap'] w (PrO w0 b l w (jf (kl.take n) true)):=by
 have hl:kl.length<=maxLen:=by
  obtain⟨_,_,_,_,_,e,_,_,_,_,h⟩:=ht.form
  cases e;exact h
 unfold maxLen at hl;have HN:=qh ht;have P0:=qh hp;have K0:=qh (Wr.refl w0.heap.size b w);have HL:=qh hlen;have Hn:=qh hn;obtain⟨T,hT⟩:∃ T,jf (kl.take n) true=T:=⟨_,rfl⟩;rw[hT]at HL;rw[hT];have HT:=qh hT;have hn2:n<=9223372036854775807:=by omega
 clear ht hp hlen hT hn hl;go_enter Tryz.func204,Tryz.ntmps204;go_wp2
 go_loopw [8] (fun v wr=>∃ i:Nat,i<=n/\v = .int .i64 i/\Hid (PrI w0 b (l++jf (kl.take i) true) wr)/\Hid (Wr w0.heap.size b w wr)) (fun v _=>n - (intOf v).toNat)
 case atStart=>exact⟨0,qp _,rfl,qh (by simpa[jf]using P0.out),K0⟩
 case round =>
  obtain⟨i,hi,rfl,PI,KI⟩:=hrel
  by_cases hlt:i < n
  ·have hlt':(i:Int) < (n:Int):=by omega
   have hi0:(0:Int)<=(i:Int):=by omega
   have hik:i < kl.length:=qs hlt Hn.out;have hm1:(i:Int)+1<=(n:Int):=by omega
   obtain⟨bb,o,k1,s1,l1,a1,c1,rfl,e1,x0,x1,x2,r1⟩:=HN.out.kid i hik;have y0:=PI.out.cell x0;have y1:=PI.out.cell x1;have y2:=PI.out.cell x2;have yb:=qg y0;have hG:=qbv kl i hik true
   have hGl:(jf (kl.take (i+1)) true).length<=T.length:=by
    rw[<-HT.out];have:=qlu (kl.take n) true (i+1)
    rwa [List.take_take,Nat.min_eq_left hlt]at this
   have hnm:(kl[i]).nm=bs s1:=by rw[e1];rfl
   rw[hG,hnm]at hGl;rw[hnm]at hG;have hlen3:=HL.out;generalize hU:jf (kl.take i) true=U at *;have HG:=qh hG;have RN:=qh (Row3.new wr (.int .i64 k1) (.string s1) (.slice a1 l1.length c1));have PN:=qh (PI.out.alloc (.cells #[.int .i64 k1,.string s1,.slice a1 l1.length c1] 25));have KN:=qh (KI.out.alloc PI.out.size (.cells #[.int .i64 k1,.string s1,.slice a1 l1.length c1] 25));have hnn:wr.heap.size≠b:=by have:=PI.out.p.lt;omega
   by_cases hz:i=0
   ·have HG2:Hid (jf (kl.take (i+1)) true=U++bs s1):=qh (by rw[hG,qa ⟨hz,rfl⟩];rfl)
    rw[qa ⟨hz,rfl⟩]at hGl;simp only[qc,qo]at hGl;have CA:=qh (fun w' (h:PrI w0 b (l++U) w') n (hn:n=w'.heap.size)=>xr h n hn s1 (by simp only[qc];omega));have hz':¬ ((0:Int) < (i:Int)):=by omega
    clear hU hG hGl hlen3 x0 x1 x2 r1 e1 hik HG hnm hz
    go_wp2_with fail
    refine(CA.out _ PN.out _ (by first|rfl|simp only[q6])).mono ?_;rintro e w6⟨rfl,pp,kk⟩;have P6:Hid (PrI w0 b (l++jf (kl.take (i+1)) true) w6):=qh (by rw[HG2.out,<-qe];exact pp);have K6:=qh (KN.out.trans kk);clear pp kk CA y0 y1 y2 yb;go_wp2;go_roundw
    case rel=>exact⟨i+1,hlt,by push_cast;rfl,P6,K6⟩
    case measure=>simp[intOf];omega
   ·have HG2:Hid (jf (kl.take (i+1)) true=U++(bs ⟨#[44,32]⟩++bs s1)):=qh (by rw[hG,q7 (fun h=>hz h.1)];rfl)
    rw[q7 (fun h=>hz h.1)]at hGl;simp only[qc,qi,qo]at hGl;have CP:=qh (fun w' (h:PrI w0 b (l++U) w') n (hn:n=w'.heap.size)=>xr h n hn ⟨#[44,32]⟩ (by have h1:(bs ⟨#[44,32]⟩).length=2:=rfl;simp only[qc];omega));have CA:=qh (fun w' (h:PrI w0 b ((l++U)++bs ⟨#[44,32]⟩) w') n (hn:n=w'.heap.size)=>xr h n hn s1 (by have h1:(bs ⟨#[44,32]⟩).length=2:=rfl;simp only[qc];omega));have hz':(0:Int) < (i:Int):=by omega
    clear hU hG hGl hlen3 x0 x1 x2 r1 e1 hik HG hnm hz
    go_wp2_with fail
    refine(CP.out _ PN.out _ (by first|rfl|simp only[q6])).mono ?_;rintro e w5⟨rfl,pp,kk⟩;have P5:=qh pp;have K5:=qh (KN.out.trans kk);have R5:=qh (kk.row3 RN.out hnn);obtain⟨⟨n0,n1,n2⟩,_⟩:=R5.out.cells;clear pp kk CP y0 y1 y2 yb
    go_wp2_with fail
    refine(CA.out _ P5.out _ (by first|rfl|simp only[q6])).mono ?_;rintro e w6⟨rfl,pp,kk⟩;have P6:Hid (PrI w0 b (l++jf (kl.take (i+1)) true) w6):=qh (by rw[HG2.out];simpa only[qe]using pp);have K6:=qh (K5.out.trans kk);clear pp kk CA n0 n1 n2;go_wp2;go_roundw
    case rel=>exact⟨i+1,hlt,by push_cast;rfl,P6,K6⟩
    case measure=>simp[intOf];omega
  ·have hlt':¬ ((i:Int) < (n:Int)):=by omega
   obtain rfl:i=n:=by omega
   have P6:=qh (show PrI w0 b (l++T) wr by rw[<-HT.out];exact PI.out);go_wp2;go_end0;exact⟨rfl,P6.out,KI.out⟩
def qia(l:List Nd)(i bind:Nat):Tx:=match l[i]? with|some x=>x.txt bind false|none=>[]
theorem q0j{l:List Nd}{i:Nat}(h:i < l.length)(bind:Nat):qia l i bind=(l[i]).txt bind false:=by unfold qia;rw[qj h]
def x4(k:Int)(l:List Nd):Tx :=
 if k=2\/k=14 then jf l true
 else if k=3 then jf (l.take (l.length - 1)) true++([58,32]++qia l (l.length - 1) 6)
 else if k=4\/k=5\/k=6\/k=7 then l.flatMap fun x=>32 :: x.txt 7 false
 else if k=8\/k=9\/k=10\/k=11 then [58,32]++qia l 0 0
 else []
def Nd.itm:Nd->Tx| .mk k s l=>(zq k++([32]++bs s))++(x4 k l++[46])
def ql3(k:Int)(n:Nat):Prop:=((k=3\/k=8\/k=9\/k=10\/k=11)->1<=n)
theorem PrI.drew{w0:World}{b:Nat}{l:Tx}{w:World}(h:PrI w0 b l w):PrI w0 b l w.drew:=h.later (Below.refl _ _).drew
theorem Wr.drew{B b:Nat}{w w':World}(h:Wr B b w w'):Wr B b w w'.drew:=⟨h.bl.drew,h.kp.drew⟩
theorem ql2{w0:World}{b:Nat}(k:Int)(s:ByteArray)(kl:List Nd)(hok:ql3 k kl.length)(hk:∀ i (h:i < kl.length),q7e w0 b kl[i])(v0 v1 v2:Value)(l:Tx)(w:World)(ht:NdR w0 (.mk k s kl) v0 v1 v2)(hp:PrI w0 b l w)
  (hlen:l.length+(Nd.mk k s kl).itm.length<=100000000):Calls Tryz.prog 156 #[.pointer (some ⟨b,0,none⟩),.agg #[v0,v1,v2]] w (PrO w0 b l w (Nd.mk k s kl).itm):=by
 obtain⟨_,_,_,a,cap,hform,rfl,rfl,rfl,hs,hl⟩:=ht.form
 cases hform;obtain⟨L,hL⟩:∃ L,kl.length=L:=⟨_,rfl⟩;rw[hL]at ht hl;rw[hL];obtain⟨W,hW⟩:∃ W,w.alloc (.cells #[.int .i64 k,.string s,.slice a L cap] 25)=W:=⟨_,rfl⟩;have R0':Row3 W w.heap.size (.int .i64 k) (.string s) (.slice a L cap):=by rw[<-hW];exact Row3.new _ _ _ _
 have P0:=qh (hW▸hp.alloc (.cells #[.int .i64 k,.string s,.slice a L cap] 25));have K0:=qh (hW▸(Wr.refl w0.heap.size b w).alloc hp.size (.cells #[.int .i64 k,.string s,.slice a L cap] 25));have hne:w.heap.size≠b:=by have:=hp.p.lt;omega
 have HN:=qh ht;have HL:=qh hlen;unfold maxLen at hl;rw[hL]at hok;obtain⟨T,hT⟩:∃ T,(Nd.mk k s kl).itm=T:=⟨_,rfl⟩;rw[hT]at HL hlen;rw[hT];have HW:=qh hW;have R0:=qh R0';have hcap:=ht.cap;rw[hL]at hcap;clear hW R0' hp;obtain⟨ow,how⟩:∃ ow,zq k=ow:=⟨_,rfl⟩;have CO:Hid (∀ w',PrI w0 b l w'->_):=qh (fun w' (h:PrI w0 b l w')=>qbb k s a L cap w' h.glw h.two');rw[how]at CO;unfold S_ at CO;obtain⟨X,hX⟩:∃ X,x4 k kl=X:=⟨_,rfl⟩;have hE:T=(bs ⟨ow.toArray⟩++(bs ⟨#[32]⟩++bs s))++(X++bs ⟨#[46]⟩):=by rw[<-hT,<-hX,<-how];rfl
 have HE:=qh hE;have hlen2:=HL.out;rw[hE]at hlen2;simp only[qc]at hlen2;have C1:=qh (fun w' (h:PrI w0 b l w') n (hn:n=w'.heap.size)=>put3 h n hn ⟨ow.toArray⟩ ⟨#[32]⟩ s (by simp only[qc];omega));have CE:=qh (fun w' (h:PrI w0 b ((l++(bs ⟨ow.toArray⟩++(bs ⟨#[32]⟩++bs s)))++X) w') n (hn:n=w'.heap.size)=>xr h n hn ⟨#[46]⟩ (by simp only[qc];omega));have HX:=qh hX;have HK:=qh hk;have HLL:=qh hL;have Hok:=qh hok;obtain⟨p,hp⟩:∃ p,l++(bs ⟨ow.toArray⟩++(bs ⟨#[32]⟩++bs s))=p:=⟨_,rfl⟩;have HP:=qh hp
 have HL3:Hid (p.length+X.length+1<=100000000):=qh (by
  rw[<-hp];have h1:(bs ⟨#[46]⟩).length=1:=rfl;simp only[qc]
  omega)
 rw[hp]at CE;clear how hX hE hlen hlen2 hk ht HL hL hok hT hp;have P0d:=qh P0.out.drew;have K0d:=qh K0.out.drew;have R0d:=qh (show Row3 W.drew _ _ _ _ from R0.out);obtain⟨⟨n0,n1,n2⟩,_⟩:=R0.out.cells;have S0:=R0d.out.cells.1;go_enter Tryz.func156,Tryz.ntmps156
 go_upto_region 1 with fail
 rw[HW.out]
 go_cut [] (fun wx=>Hid (PrI w0 b p wx)/\Hid (Wr w0.heap.size b w wx)/\Hid (Row3 wx w.heap.size (.int .i64 k) (.string s) (.slice a L cap)))
 case first =>
  go_region_held3 (fun w'=>w'.cell? ⟨w.heap.size,0,none⟩=some (.int .i64 k)/\w'.cell? ⟨w.heap.size,1,none⟩=some (.string s)/\w'.cell? ⟨w.heap.size,2,none⟩=some (.slice a L cap))
   (first|with_reducible exact S0|with_reducible exact S1|with_reducible exact S1a|with_reducible exact S2|(trace_state;fail))
   (first
    |(go_at_call 203;refine(CO.out _ P0d.out).mono ?_;rintro e w1 ⟨rfl,bb⟩;have P1:=qh (P0d.out.later bb);have K1:=qh (K0d.out.later bb P0d.out.size);have R1:=qh (R0d.out.below bb R0d.out.lt);have S1:=R1.out.cells.1;have S1a:=(R1.out.alloc (.cells #[.string ⟨ow.toArray⟩,.string ⟨#[32]⟩,.string s] 9)).cells.1;clear bb)
    |(go_at_call 157;refine(C1.out _ P1.out _ (by first|rfl|simp only[q6])).mono ?_;rintro e w2 ⟨rfl,pp,kk⟩;have P2:=qh pp;have K2:=qh (K1.out.trans kk);have R2:=qh (kk.row3 R1.out hne);have S2:=R2.out.cells.1;clear pp kk))
  all_goals go_wp2
  all_goals go_meet
  all_goals exact⟨by rw[<-HP.out];exact P2,K2,R2⟩
 case rest =>
  obtain⟨P0,K0,R0⟩:=hcut
  by_cases hc:k=2
  ·subst hc
   have hX2:jf (kl.take L) true=X:=by
    rw[<-HX.out,<-HLL.out,List.take_length,x4,qa (by decide)]
   have C2:Hid (∀ w',PrI w0 b p w'->Calls Tryz.prog 204 #[.pointer (some ⟨b,0,none⟩),.slice a L cap] w' (PrO w0 b p w' X)):=qh (fun w' h=>by
    have hl9:p.length+X.length<=100000000:=by have:=HL3.out;omega
    rw[<-hX2]at hl9 ⊢
    exact q6o _ s kl L cap (by rw[HLL.out];exact q5 _) _ _ _ _ _ _ w' HN.out h hl9)
   clear hX2;obtain⟨⟨n0,n1,n2⟩,_⟩:=R0.out.cells
   go_wp2_with fail
   refine(C2.out _ P0.out).mono ?_;rintro e w1⟨rfl,pp,kk⟩;have P1:=qh pp;have K1:=qh (K0.out.trans kk);have R1:=qh (kk.row3 R0.out hne);clear pp kk C2 n0 n1 n2;obtain⟨⟨n0,n1,n2⟩,_⟩:=R1.out.cells
   go_wp2_with fail
   refine(CE.out _ P1.out _ (by first|rfl|simp only[q6])).mono ?_;rintro e w2⟨rfl,pp,kk⟩;have P2:=qh pp;have K2:=qh (K1.out.trans kk);have R2:=qh (kk.row3 R1.out hne);clear pp kk CE n0 n1 n2;go_wp2;go_end0;exact⟨rfl,by rw[HE.out];have hh:=P2.out;rw[<-HP.out]at hh;simpa only[qe,zr]using hh,K2.out⟩
  ·have hk2:((k:Int)==2)=false:=by rw[q9];exact hc
   have m2:¬ k=2:=hc;clear hc
   by_cases hc:k=3
   ·subst hc
    have hL1:1<=L:=Hok.out (by decide);obtain⟨M,hM⟩:∃ M,L - 1=M:=⟨_,rfl⟩;have hML:((L:Nat):Int) - 1=(M:Int):=by omega
    have hMk:M < kl.length:=by rw[HLL.out];omega
    have hMc:M<=cap:=by omega
    have hML2:(M:Int) < (L:Int):=by omega
    have hML3:M < L:=by omega
    have hM0:(0:Int)<=(M:Int):=by omega
    obtain⟨bb,o,k0',s0',l0',a0',c0',rfl,eK0,x00,x01,x02,r0⟩:=HN.out.kid M hMk;have X0:=qh (And.intro x00 (And.intro x01 x02));obtain⟨Y0,hY0⟩:∃ Y,(kl[M]'hMk).txt 6 false=Y:=⟨_,rfl⟩;obtain⟨Z,hZ⟩:∃ Z,jf (kl.take M) true=Z:=⟨_,rfl⟩
    have hXE:X=Z++(bs ⟨#[58,32]⟩++Y0):=by
     rw[<-HX.out,x4,q7 (by decide),qa rfl,HLL.out,hM,hZ,q0j hMk,hY0];rfl
    have HXE:=qh hXE;have hlen2:=HL3.out;rw[hXE]at hlen2;simp only[qc]at hlen2
    have C2:Hid (∀ w',PrI w0 b p w'->Calls Tryz.prog 204 #[.pointer (some ⟨b,0,none⟩),.slice (some ⟨bb,o,none⟩) M cap] w' (PrO w0 b p w' Z)):=qh (fun w' h=>by
     have hl9:p.length+Z.length<=100000000:=by omega
     rw[<-hZ]at hl9 ⊢
     exact q6o _ s kl M cap (vn hMk) _ _ _ _ _ _ w' HN.out h hl9)
    have C3:=qh (fun w' (h:PrI w0 b (p++Z) w') n (hn:n=w'.heap.size)=>xr h n hn ⟨#[58,32]⟩ (by simp only[qc];omega));have hk:=HK.out
    have C4:Hid (∀ (z:Int),z=((6:Nat):Int)->∀ w',PrI w0 b ((p++Z)++bs ⟨#[58,32]⟩) w'->Calls Tryz.prog 158 #[.pointer (some ⟨b,0,none⟩),.agg #[.int .i64 k0',.string s0',.slice a0' l0'.length c0'],.int .i64 z,.bool false] w' (PrO w0 b ((p++Z)++bs ⟨#[58,32]⟩) w' Y0)):=qh (fun z hz w' h=>by
     subst hz;have hl9:List.length ((p++Z)++bs ⟨#[58,32]⟩)+Y0.length<=100000000:=by(try simp[bs]at hlen2 ⊢);omega
     rw[<-hY0]at hl9 ⊢
     exact hk M hMk _ _ _ (6) false _ w' (by omega) (eK0▸r0) h hl9)
    clear hY0 hZ hXE hlen2 hk eK0 r0 x00 x01 x02 hM hL1 hMk;obtain⟨⟨n0,n1,n2⟩,_⟩:=R0.out.cells;have y00:=P0.out.cell X0.out.1;have y01:=P0.out.cell X0.out.2.1;have y02:=P0.out.cell X0.out.2.2;have yb0:=qg y00
    go_wp2_with fail
    refine(C2.out _ P0.out).mono ?_;rintro e w1⟨rfl,pp,kk⟩;have P1:=qh pp;have K1:=qh (K0.out.trans kk);have R1:=qh (kk.row3 R0.out hne);clear pp kk C2 n0 n1 n2 y00 y01 y02 yb0;obtain⟨⟨n0,n1,n2⟩,_⟩:=R1.out.cells;have y00:=P1.out.cell X0.out.1;have y01:=P1.out.cell X0.out.2.1;have y02:=P1.out.cell X0.out.2.2;have yb0:=qg y00
    go_wp2_with fail
    refine(C3.out _ P1.out _ (by first|rfl|simp only[q6])).mono ?_;rintro e w2⟨rfl,pp,kk⟩;have P2:=qh pp;have K2:=qh (K1.out.trans kk);have R2:=qh (kk.row3 R1.out hne);clear pp kk C3 n0 n1 n2 y00 y01 y02 yb0;obtain⟨⟨n0,n1,n2⟩,_⟩:=R2.out.cells;have y00:=P2.out.cell X0.out.1;have y01:=P2.out.cell X0.out.2.1;have y02:=P2.out.cell X0.out.2.2;have yb0:=qg y00
    go_wp2_with fail
    refine(C4.out _ (by first|rfl|(push_cast;rfl)) _ P2.out).mono ?_;rintro e w3⟨rfl,pp,kk⟩;have P3:=qh pp;have K3:=qh (K2.out.trans kk);have R3:=qh (kk.row3 R2.out hne);clear pp kk C4 n0 n1 n2 y00 y01 y02 yb0;obtain⟨⟨n0,n1,n2⟩,_⟩:=R3.out.cells;have y00:=P3.out.cell X0.out.1;have y01:=P3.out.cell X0.out.2.1;have y02:=P3.out.cell X0.out.2.2;have yb0:=qg y00;have P3x:Hid (PrI w0 b (p++X) w3):=qh (by rw[HXE.out];simpa only[qe]using P3.out);clear P3;have P3:=P3x;clear P3x
    go_wp2_with fail
    refine(CE.out _ P3.out _ (by first|rfl|simp only[q6])).mono ?_;rintro e w4⟨rfl,pp,kk⟩;have P4:=qh pp;have K4:=qh (K3.out.trans kk);have R4:=qh (kk.row3 R3.out hne);clear pp kk CE n0 n1 n2 y00 y01 y02 yb0;go_wp2;go_end0;exact⟨rfl,by rw[HE.out];have hh:=P4.out;rw[<-HP.out]at hh;simpa only[qe,zr]using hh,K4.out⟩
   ·have hk3:((k:Int)==3)=false:=by rw[q9];exact hc
    have m3:¬ k=3:=hc;clear hc
    by_cases hc:k=4
    ·subst hc
     have hXE:X=kl.flatMap fun x=>32 :: x.txt 7 false:=by rw[<-HX.out,x4,q7 (by decide),q7 (by decide),qa (by decide)]
     have HXE:=qh hXE;have HLen:=HL3;rw[hXE]at HLen;clear hXE;obtain⟨⟨n0,n1,n2⟩,_⟩:=R0.out.cells;go_wp2
     go_loopw [53] (fun v wr=>∃ i:Nat,i<=L/\v = .int .i64 i/\Hid (PrI w0 b (p++(kl.take i).flatMap fun x=>32 :: x.txt 7 false) wr)/\Hid (Wr w0.heap.size b w wr)/\Hid (Row3 wr w.heap.size (.int .i64 4) (.string s) (.slice a L cap))) (fun v _=>L - (intOf v).toNat)
     case atStart=>exact⟨0,qp _,rfl,qh (by simpa using P0.out),K0,R0⟩
     case round =>
      obtain⟨i,hi,rfl,PI,KI,RI⟩:=hrel
      by_cases hlt:i < L
      ·have hlt':(i:Int) < (L:Int):=by omega
       have hi0:(0:Int)<=(i:Int):=by omega
       have hik:i < kl.length:=by rw[HLL.out];exact hlt
       have hm1:(i:Int)+1<=(L:Int):=by omega
       obtain⟨bb,o,k1,s1,l1,a1,c1,rfl,e1,x0,x1,x2,r1⟩:=HN.out.kid i hik;have y0:=PI.out.cell x0;have y1:=PI.out.cell x1;have y2:=PI.out.cell x2;have yb:=qg y0
       have hG:(kl.take (i+1)).flatMap (fun x=>(32:UInt8) :: x.txt 7 false)=(kl.take i).flatMap (fun x=>32 :: x.txt 7 false)++(32 :: (kl[i]).txt 7 false):=by
        rw[qw hik,qx];simp
       have hGl:((kl.take (i+1)).flatMap (fun x=>(32:UInt8) :: x.txt 7 false)).length<=(kl.flatMap (fun x=>(32:UInt8) :: x.txt 7 false)).length:=by
        conv=>rhs;rw[<-List.take_append_drop (i+1) kl]
        rw[qx,qc];omega
       have hlen3:=HLen.out;rw[hG]at hGl;simp only[qc,qi]at hGl;generalize hU:(kl.take i).flatMap (fun x=>(32:UInt8) :: x.txt 7 false)=U at *;obtain⟨A,hA⟩:∃ A,(kl[i]).txt 7 false=A:=⟨_,rfl⟩;rw[hA]at hG hGl;have HG:=qh hG;have CP:=qh (fun w' (h:PrI w0 b (p++U) w') n (hn:n=w'.heap.size)=>xr h n hn ⟨#[32]⟩ (by have h1:(bs ⟨#[32]⟩).length=1:=rfl;simp only[qc];omega))
       have CA:Hid (∀ (z:Int),z=((7:Nat):Int)->∀ w',PrI w0 b ((p++U)++bs ⟨#[32]⟩) w'->Calls Tryz.prog 158 #[.pointer (some ⟨b,0,none⟩),.agg #[.int .i64 k1,.string s1,.slice a1 l1.length c1],.int .i64 z,.bool false] w' (PrO w0 b ((p++U)++bs ⟨#[32]⟩) w' A)):=qh (fun z hz w' h=>by
        subst hz;have hl9:List.length ((p++U)++bs ⟨#[32]⟩)+A.length<=100000000:=by have h1:(bs ⟨#[32]⟩).length=1:=rfl;simp only[qc];omega
        rw[<-hA]at hl9 ⊢
        exact HK.out i hik _ _ _ 7 false _ w' (by decide) (e1▸r1) h hl9)
       have RN:=qh (Row3.new wr (.int .i64 k1) (.string s1) (.slice a1 l1.length c1));have PN:=qh (PI.out.alloc (.cells #[.int .i64 k1,.string s1,.slice a1 l1.length c1] 25));have KN:=qh (KI.out.alloc PI.out.size (.cells #[.int .i64 k1,.string s1,.slice a1 l1.length c1] 25));have RIN:=qh (RI.out.alloc (.cells #[.int .i64 k1,.string s1,.slice a1 l1.length c1] 25));have hnn:wr.heap.size≠b:=by have:=PI.out.p.lt;omega
       clear hU hA hG hGl hlen3 x0 x1 x2 r1 e1 hik n0 n1 n2
       go_wp2_with fail
       refine(CP.out _ PN.out _ (by first|rfl|simp only[q6])).mono ?_;rintro e w5⟨rfl,pp,kk⟩;have P5:=qh pp;have K5:=qh (KN.out.trans kk);have R5:=qh (kk.row3 RN.out hnn);have RI5:=qh (kk.row3 RIN.out hne);obtain⟨⟨n0,n1,n2⟩,_⟩:=R5.out.cells;clear pp kk CP y0 y1 y2 yb
       go_wp2_with fail
       refine(CA.out _ (by first|rfl|(push_cast;rfl)) _ P5.out).mono ?_;rintro e w6⟨rfl,pp,kk⟩;have P6:Hid (PrI w0 b (p++(kl.take (i+1)).flatMap fun x=>32 :: x.txt 7 false) w6):=qh (by rw[HG.out];simpa[bs]using pp);have K6:=qh (K5.out.trans kk);have R6:=qh (kk.row3 RI5.out hne);clear pp kk CA n0 n1 n2;go_wp2;go_roundw
       case rel=>exact⟨i+1,hlt,by push_cast;rfl,P6,K6,R6⟩
       case measure=>simp[intOf];omega
      ·have hlt':¬ ((i:Int) < (L:Int)):=by omega
       have hG:kl.take i=kl:=qt (by rw[HLL.out];omega);have P9:=qh (show PrI w0 b (p++X) wr by rw[HXE.out];have hh:=PI.out;rwa [hG]at hh);clear hG n0 n1 n2;clear P0 K0 R0;have P0:=P9;have K0:=KI;have R0:=RI;obtain⟨⟨n0,n1,n2⟩,_⟩:=R0.out.cells
       go_wp2_with fail
       refine(CE.out _ P0.out _ (by first|rfl|simp only[q6])).mono ?_;rintro e w1⟨rfl,pp,kk⟩;have P1:=qh pp;have K1:=qh (K0.out.trans kk);have R1:=qh (kk.row3 R0.out hne);clear pp kk CE n0 n1 n2;go_wp2;go_end0;exact⟨rfl,by rw[HE.out];have hh:=P1.out;rw[<-HP.out]at hh;simpa only[qe,zr]using hh,K1.out⟩
    ·have hk4:((k:Int)==4)=false:=by rw[q9];exact hc
     have m4:¬ k=4:=hc;clear hc
     by_cases hc:k=5
     ·subst hc
      have hXE:X=kl.flatMap fun x=>32 :: x.txt 7 false:=by rw[<-HX.out,x4,q7 (by decide),q7 (by decide),qa (by decide)]
      have HXE:=qh hXE;have HLen:=HL3;rw[hXE]at HLen;clear hXE;obtain⟨⟨n0,n1,n2⟩,_⟩:=R0.out.cells;go_wp2
      go_loopw [53] (fun v wr=>∃ i:Nat,i<=L/\v = .int .i64 i/\Hid (PrI w0 b (p++(kl.take i).flatMap fun x=>32 :: x.txt 7 false) wr)/\Hid (Wr w0.heap.size b w wr)/\Hid (Row3 wr w.heap.size (.int .i64 5) (.string s) (.slice a L cap))) (fun v _=>L - (intOf v).toNat)
      case atStart=>exact⟨0,qp _,rfl,qh (by simpa using P0.out),K0,R0⟩
      case round =>
       obtain⟨i,hi,rfl,PI,KI,RI⟩:=hrel
       by_cases hlt:i < L
       ·have hlt':(i:Int) < (L:Int):=by omega
        have hi0:(0:Int)<=(i:Int):=by omega
        have hik:i < kl.length:=by rw[HLL.out];exact hlt
        have hm1:(i:Int)+1<=(L:Int):=by omega
        obtain⟨bb,o,k1,s1,l1,a1,c1,rfl,e1,x0,x1,x2,r1⟩:=HN.out.kid i hik;have y0:=PI.out.cell x0;have y1:=PI.out.cell x1;have y2:=PI.out.cell x2;have yb:=qg y0
        have hG:(kl.take (i+1)).flatMap (fun x=>(32:UInt8) :: x.txt 7 false)=(kl.take i).flatMap (fun x=>32 :: x.txt 7 false)++(32 :: (kl[i]).txt 7 false):=by
         rw[qw hik,qx];simp
        have hGl:((kl.take (i+1)).flatMap (fun x=>(32:UInt8) :: x.txt 7 false)).length<=(kl.flatMap (fun x=>(32:UInt8) :: x.txt 7 false)).length:=by
         conv=>rhs;rw[<-List.take_append_drop (i+1) kl]
         rw[qx,qc];omega
        have hlen3:=HLen.out;rw[hG]at hGl;simp only[qc,qi]at hGl;generalize hU:(kl.take i).flatMap (fun x=>(32:UInt8) :: x.txt 7 false)=U at *;obtain⟨A,hA⟩:∃ A,(kl[i]).txt 7 false=A:=⟨_,rfl⟩;rw[hA]at hG hGl;have HG:=qh hG;have CP:=qh (fun w' (h:PrI w0 b (p++U) w') n (hn:n=w'.heap.size)=>xr h n hn ⟨#[32]⟩ (by have h1:(bs ⟨#[32]⟩).length=1:=rfl;simp only[qc];omega))
        have CA:Hid (∀ (z:Int),z=((7:Nat):Int)->∀ w',PrI w0 b ((p++U)++bs ⟨#[32]⟩) w'->Calls Tryz.prog 158 #[.pointer (some ⟨b,0,none⟩),.agg #[.int .i64 k1,.string s1,.slice a1 l1.length c1],.int .i64 z,.bool false] w' (PrO w0 b ((p++U)++bs ⟨#[32]⟩) w' A)):=qh (fun z hz w' h=>by
         subst hz;have hl9:List.length ((p++U)++bs ⟨#[32]⟩)+A.length<=100000000:=by have h1:(bs ⟨#[32]⟩).length=1:=rfl;simp only[qc];omega
         rw[<-hA]at hl9 ⊢
         exact HK.out i hik _ _ _ 7 false _ w' (by decide) (e1▸r1) h hl9)
        have RN:=qh (Row3.new wr (.int .i64 k1) (.string s1) (.slice a1 l1.length c1));have PN:=qh (PI.out.alloc (.cells #[.int .i64 k1,.string s1,.slice a1 l1.length c1] 25));have KN:=qh (KI.out.alloc PI.out.size (.cells #[.int .i64 k1,.string s1,.slice a1 l1.length c1] 25));have RIN:=qh (RI.out.alloc (.cells #[.int .i64 k1,.string s1,.slice a1 l1.length c1] 25));have hnn:wr.heap.size≠b:=by have:=PI.out.p.lt;omega
        clear hU hA hG hGl hlen3 x0 x1 x2 r1 e1 hik n0 n1 n2
        go_wp2_with fail
        refine(CP.out _ PN.out _ (by first|rfl|simp only[q6])).mono ?_;rintro e w5⟨rfl,pp,kk⟩;have P5:=qh pp;have K5:=qh (KN.out.trans kk);have R5:=qh (kk.row3 RN.out hnn);have RI5:=qh (kk.row3 RIN.out hne);obtain⟨⟨n0,n1,n2⟩,_⟩:=R5.out.cells;clear pp kk CP y0 y1 y2 yb
        go_wp2_with fail
        refine(CA.out _ (by first|rfl|(push_cast;rfl)) _ P5.out).mono ?_;rintro e w6⟨rfl,pp,kk⟩;have P6:Hid (PrI w0 b (p++(kl.take (i+1)).flatMap fun x=>32 :: x.txt 7 false) w6):=qh (by rw[HG.out];simpa[bs]using pp);have K6:=qh (K5.out.trans kk);have R6:=qh (kk.row3 RI5.out hne);clear pp kk CA n0 n1 n2;go_wp2;go_roundw
        case rel=>exact⟨i+1,hlt,by push_cast;rfl,P6,K6,R6⟩
        case measure=>simp[intOf];omega
       ·have hlt':¬ ((i:Int) < (L:Int)):=by omega
        have hG:kl.take i=kl:=qt (by rw[HLL.out];omega);have P9:=qh (show PrI w0 b (p++X) wr by rw[HXE.out];have hh:=PI.out;rwa [hG]at hh);clear hG n0 n1 n2;clear P0 K0 R0;have P0:=P9;have K0:=KI;have R0:=RI;obtain⟨⟨n0,n1,n2⟩,_⟩:=R0.out.cells
        go_wp2_with fail
        refine(CE.out _ P0.out _ (by first|rfl|simp only[q6])).mono ?_;rintro e w1⟨rfl,pp,kk⟩;have P1:=qh pp;have K1:=qh (K0.out.trans kk);have R1:=qh (kk.row3 R0.out hne);clear pp kk CE n0 n1 n2;go_wp2;go_end0;exact⟨rfl,by rw[HE.out];have hh:=P1.out;rw[<-HP.out]at hh;simpa only[qe,zr]using hh,K1.out⟩
     ·have hk5:((k:Int)==5)=false:=by rw[q9];exact hc
      have m5:¬ k=5:=hc;clear hc
      by_cases hc:k=6
      ·subst hc
       have hXE:X=kl.flatMap fun x=>32 :: x.txt 7 false:=by rw[<-HX.out,x4,q7 (by decide),q7 (by decide),qa (by decide)]
       have HXE:=qh hXE;have HLen:=HL3;rw[hXE]at HLen;clear hXE;obtain⟨⟨n0,n1,n2⟩,_⟩:=R0.out.cells;go_wp2
       go_loopw [53] (fun v wr=>∃ i:Nat,i<=L/\v = .int .i64 i/\Hid (PrI w0 b (p++(kl.take i).flatMap fun x=>32 :: x.txt 7 false) wr)/\Hid (Wr w0.heap.size b w wr)/\Hid (Row3 wr w.heap.size (.int .i64 6) (.string s) (.slice a L cap))) (fun v _=>L - (intOf v).toNat)
       case atStart=>exact⟨0,qp _,rfl,qh (by simpa using P0.out),K0,R0⟩
       case round =>
        obtain⟨i,hi,rfl,PI,KI,RI⟩:=hrel
        by_cases hlt:i < L
        ·have hlt':(i:Int) < (L:Int):=by omega
         have hi0:(0:Int)<=(i:Int):=by omega
         have hik:i < kl.length:=by rw[HLL.out];exact hlt
         have hm1:(i:Int)+1<=(L:Int):=by omega
         obtain⟨bb,o,k1,s1,l1,a1,c1,rfl,e1,x0,x1,x2,r1⟩:=HN.out.kid i hik;have y0:=PI.out.cell x0;have y1:=PI.out.cell x1;have y2:=PI.out.cell x2;have yb:=qg y0
         have hG:(kl.take (i+1)).flatMap (fun x=>(32:UInt8) :: x.txt 7 false)=(kl.take i).flatMap (fun x=>32 :: x.txt 7 false)++(32 :: (kl[i]).txt 7 false):=by
          rw[qw hik,qx];simp
         have hGl:((kl.take (i+1)).flatMap (fun x=>(32:UInt8) :: x.txt 7 false)).length<=(kl.flatMap (fun x=>(32:UInt8) :: x.txt 7 false)).length:=by
          conv=>rhs;rw[<-List.take_append_drop (i+1) kl]
          rw[qx,qc];omega
         have hlen3:=HLen.out;rw[hG]at hGl;simp only[qc,qi]at hGl;generalize hU:(kl.take i).flatMap (fun x=>(32:UInt8) :: x.txt 7 false)=U at *;obtain⟨A,hA⟩:∃ A,(kl[i]).txt 7 false=A:=⟨_,rfl⟩;rw[hA]at hG hGl;have HG:=qh hG;have CP:=qh (fun w' (h:PrI w0 b (p++U) w') n (hn:n=w'.heap.size)=>xr h n hn ⟨#[32]⟩ (by have h1:(bs ⟨#[32]⟩).length=1:=rfl;simp only[qc];omega))
         have CA:Hid (∀ (z:Int),z=((7:Nat):Int)->∀ w',PrI w0 b ((p++U)++bs ⟨#[32]⟩) w'->Calls Tryz.prog 158 #[.pointer (some ⟨b,0,none⟩),.agg #[.int .i64 k1,.string s1,.slice a1 l1.length c1],.int .i64 z,.bool false] w' (PrO w0 b ((p++U)++bs ⟨#[32]⟩) w' A)):=qh (fun z hz w' h=>by
          subst hz;have hl9:List.length ((p++U)++bs ⟨#[32]⟩)+A.length<=100000000:=by have h1:(bs ⟨#[32]⟩).length=1:=rfl;simp only[qc];omega
          rw[<-hA]at hl9 ⊢
          exact HK.out i hik _ _ _ 7 false _ w' (by decide) (e1▸r1) h hl9)
         have RN:=qh (Row3.new wr (.int .i64 k1) (.string s1) (.slice a1 l1.length c1));have PN:=qh (PI.out.alloc (.cells #[.int .i64 k1,.string s1,.slice a1 l1.length c1] 25));have KN:=qh (KI.out.alloc PI.out.size (.cells #[.int .i64 k1,.string s1,.slice a1 l1.length c1] 25));have RIN:=qh (RI.out.alloc (.cells #[.int .i64 k1,.string s1,.slice a1 l1.length c1] 25));have hnn:wr.heap.size≠b:=by have:=PI.out.p.lt;omega
         clear hU hA hG hGl hlen3 x0 x1 x2 r1 e1 hik n0 n1 n2
         go_wp2_with fail
         refine(CP.out _ PN.out _ (by first|rfl|simp only[q6])).mono ?_;rintro e w5⟨rfl,pp,kk⟩;have P5:=qh pp;have K5:=qh (KN.out.trans kk);have R5:=qh (kk.row3 RN.out hnn);have RI5:=qh (kk.row3 RIN.out hne);obtain⟨⟨n0,n1,n2⟩,_⟩:=R5.out.cells;clear pp kk CP y0 y1 y2 yb
         go_wp2_with fail
         refine(CA.out _ (by first|rfl|(push_cast;rfl)) _ P5.out).mono ?_;rintro e w6⟨rfl,pp,kk⟩;have P6:Hid (PrI w0 b (p++(kl.take (i+1)).flatMap fun x=>32 :: x.txt 7 false) w6):=qh (by rw[HG.out];simpa[bs]using pp);have K6:=qh (K5.out.trans kk);have R6:=qh (kk.row3 RI5.out hne);clear pp kk CA n0 n1 n2;go_wp2;go_roundw
         case rel=>exact⟨i+1,hlt,by push_cast;rfl,P6,K6,R6⟩
         case measure=>simp[intOf];omega
        ·have hlt':¬ ((i:Int) < (L:Int)):=by omega
         have hG:kl.take i=kl:=qt (by rw[HLL.out];omega);have P9:=qh (show PrI w0 b (p++X) wr by rw[HXE.out];have hh:=PI.out;rwa [hG]at hh);clear hG n0 n1 n2;clear P0 K0 R0;have P0:=P9;have K0:=KI;have R0:=RI;obtain⟨⟨n0,n1,n2⟩,_⟩:=R0.out.cells
         go_wp2_with fail
         refine(CE.out _ P0.out _ (by first|rfl|simp only[q6])).mono ?_;rintro e w1⟨rfl,pp,kk⟩;have P1:=qh pp;have K1:=qh (K0.out.trans kk);have R1:=qh (kk.row3 R0.out hne);clear pp kk CE n0 n1 n2;go_wp2;go_end0;exact⟨rfl,by rw[HE.out];have hh:=P1.out;rw[<-HP.out]at hh;simpa only[qe,zr]using hh,K1.out⟩
      ·have hk6:((k:Int)==6)=false:=by rw[q9];exact hc
       have m6:¬ k=6:=hc;clear hc
       by_cases hc:k=7
       ·subst hc
        have hXE:X=kl.flatMap fun x=>32 :: x.txt 7 false:=by rw[<-HX.out,x4,q7 (by decide),q7 (by decide),qa (by decide)]
        have HXE:=qh hXE;have HLen:=HL3;rw[hXE]at HLen;clear hXE;obtain⟨⟨n0,n1,n2⟩,_⟩:=R0.out.cells;go_wp2
        go_loopw [53] (fun v wr=>∃ i:Nat,i<=L/\v = .int .i64 i/\Hid (PrI w0 b (p++(kl.take i).flatMap fun x=>32 :: x.txt 7 false) wr)/\Hid (Wr w0.heap.size b w wr)/\Hid (Row3 wr w.heap.size (.int .i64 7) (.string s) (.slice a L cap))) (fun v _=>L - (intOf v).toNat)
        case atStart=>exact⟨0,qp _,rfl,qh (by simpa using P0.out),K0,R0⟩
        case round =>
         obtain⟨i,hi,rfl,PI,KI,RI⟩:=hrel
         by_cases hlt:i < L
         ·have hlt':(i:Int) < (L:Int):=by omega
          have hi0:(0:Int)<=(i:Int):=by omega
          have hik:i < kl.length:=by rw[HLL.out];exact hlt
          have hm1:(i:Int)+1<=(L:Int):=by omega
          obtain⟨bb,o,k1,s1,l1,a1,c1,rfl,e1,x0,x1,x2,r1⟩:=HN.out.kid i hik;have y0:=PI.out.cell x0;have y1:=PI.out.cell x1;have y2:=PI.out.cell x2;have yb:=qg y0
          have hG:(kl.take (i+1)).flatMap (fun x=>(32:UInt8) :: x.txt 7 false)=(kl.take i).flatMap (fun x=>32 :: x.txt 7 false)++(32 :: (kl[i]).txt 7 false):=by
           rw[qw hik,qx];simp
          have hGl:((kl.take (i+1)).flatMap (fun x=>(32:UInt8) :: x.txt 7 false)).length<=(kl.flatMap (fun x=>(32:UInt8) :: x.txt 7 false)).length:=by
           conv=>rhs;rw[<-List.take_append_drop (i+1) kl]
           rw[qx,qc];omega
          have hlen3:=HLen.out;rw[hG]at hGl;simp only[qc,qi]at hGl;generalize hU:(kl.take i).flatMap (fun x=>(32:UInt8) :: x.txt 7 false)=U at *;obtain⟨A,hA⟩:∃ A,(kl[i]).txt 7 false=A:=⟨_,rfl⟩;rw[hA]at hG hGl;have HG:=qh hG;have CP:=qh (fun w' (h:PrI w0 b (p++U) w') n (hn:n=w'.heap.size)=>xr h n hn ⟨#[32]⟩ (by have h1:(bs ⟨#[32]⟩).length=1:=rfl;simp only[qc];omega))
          have CA:Hid (∀ (z:Int),z=((7:Nat):Int)->∀ w',PrI w0 b ((p++U)++bs ⟨#[32]⟩) w'->Calls Tryz.prog 158 #[.pointer (some ⟨b,0,none⟩),.agg #[.int .i64 k1,.string s1,.slice a1 l1.length c1],.int .i64 z,.bool false] w' (PrO w0 b ((p++U)++bs ⟨#[32]⟩) w' A)):=qh (fun z hz w' h=>by
           subst hz;have hl9:List.length ((p++U)++bs ⟨#[32]⟩)+A.length<=100000000:=by have h1:(bs ⟨#[32]⟩).length=1:=rfl;simp only[qc];omega
           rw[<-hA]at hl9 ⊢
           exact HK.out i hik _ _ _ 7 false _ w' (by decide) (e1▸r1) h hl9)
          have RN:=qh (Row3.new wr (.int .i64 k1) (.string s1) (.slice a1 l1.length c1));have PN:=qh (PI.out.alloc (.cells #[.int .i64 k1,.string s1,.slice a1 l1.length c1] 25));have KN:=qh (KI.out.alloc PI.out.size (.cells #[.int .i64 k1,.string s1,.slice a1 l1.length c1] 25));have RIN:=qh (RI.out.alloc (.cells #[.int .i64 k1,.string s1,.slice a1 l1.length c1] 25));have hnn:wr.heap.size≠b:=by have:=PI.out.p.lt;omega
          clear hU hA hG hGl hlen3 x0 x1 x2 r1 e1 hik n0 n1 n2
          go_wp2_with fail
          refine(CP.out _ PN.out _ (by first|rfl|simp only[q6])).mono ?_;rintro e w5⟨rfl,pp,kk⟩;have P5:=qh pp;have K5:=qh (KN.out.trans kk);have R5:=qh (kk.row3 RN.out hnn);have RI5:=qh (kk.row3 RIN.out hne);obtain⟨⟨n0,n1,n2⟩,_⟩:=R5.out.cells;clear pp kk CP y0 y1 y2 yb
          go_wp2_with fail
          refine(CA.out _ (by first|rfl|(push_cast;rfl)) _ P5.out).mono ?_;rintro e w6⟨rfl,pp,kk⟩;have P6:Hid (PrI w0 b (p++(kl.take (i+1)).flatMap fun x=>32 :: x.txt 7 false) w6):=qh (by rw[HG.out];simpa[bs]using pp);have K6:=qh (K5.out.trans kk);have R6:=qh (kk.row3 RI5.out hne);clear pp kk CA n0 n1 n2;go_wp2;go_roundw
          case rel=>exact⟨i+1,hlt,by push_cast;rfl,P6,K6,R6⟩
          case measure=>simp[intOf];omega
         ·have hlt':¬ ((i:Int) < (L:Int)):=by omega
          have hG:kl.take i=kl:=qt (by rw[HLL.out];omega);have P9:=qh (show PrI w0 b (p++X) wr by rw[HXE.out];have hh:=PI.out;rwa [hG]at hh);clear hG n0 n1 n2;clear P0 K0 R0;have P0:=P9;have K0:=KI;have R0:=RI;obtain⟨⟨n0,n1,n2⟩,_⟩:=R0.out.cells
          go_wp2_with fail
          refine(CE.out _ P0.out _ (by first|rfl|simp only[q6])).mono ?_;rintro e w1⟨rfl,pp,kk⟩;have P1:=qh pp;have K1:=qh (K0.out.trans kk);have R1:=qh (kk.row3 R0.out hne);clear pp kk CE n0 n1 n2;go_wp2;go_end0;exact⟨rfl,by rw[HE.out];have hh:=P1.out;rw[<-HP.out]at hh;simpa only[qe,zr]using hh,K1.out⟩
       ·have hk7:((k:Int)==7)=false:=by rw[q9];exact hc
        have m7:¬ k=7:=hc;clear hc
        by_cases hc:k=8
        ·subst hc
         have j0:1<=L:=Hok.out (by decide);have i0:(0:Int) < (L:Int):=by omega
         have j1:0 < L:=by omega
         have hMk:0 < kl.length:=by rw[HLL.out];omega
         obtain⟨bb,o,k0',s0',l0',a0',c0',rfl,eK0,x00,x01,x02,r0⟩:=HN.out.kid 0 hMk;simp only[Nat.zero_mul,Nat.add_zero]at x00 x01 x02;have X0:=qh (And.intro x00 (And.intro x01 x02));obtain⟨Y0,hY0⟩:∃ Y,(kl[0]'hMk).txt 0 false=Y:=⟨_,rfl⟩
         have hXE:X=bs ⟨#[58,32]⟩++Y0:=by
          rw[<-HX.out,x4,q7 (by decide),q7 (by decide),q7 (by decide),qa (by decide),q0j hMk,hY0];rfl
         have HXE:=qh hXE;have hlen2:=HL3.out;rw[hXE]at hlen2;simp only[qc]at hlen2;have C3:=qh (fun w' (h:PrI w0 b p w') n (hn:n=w'.heap.size)=>xr h n hn ⟨#[58,32]⟩ (by omega));have hk:=HK.out
         have C4:Hid (∀ (z:Int),z=((0:Nat):Int)->∀ w',PrI w0 b (p++bs ⟨#[58,32]⟩) w'->Calls Tryz.prog 158 #[.pointer (some ⟨b,0,none⟩),.agg #[.int .i64 k0',.string s0',.slice a0' l0'.length c0'],.int .i64 z,.bool false] w' (PrO w0 b (p++bs ⟨#[58,32]⟩) w' Y0)):=qh (fun z hz w' h=>by
          subst hz;have hl9:List.length (p++bs ⟨#[58,32]⟩)+Y0.length<=100000000:=by(try simp[bs]at hlen2 ⊢);omega
          rw[<-hY0]at hl9 ⊢
          exact hk 0 hMk _ _ _ (0) false _ w' (by omega) (eK0▸r0) h hl9)
         clear hY0 hXE hlen2 hk eK0 r0 x00 x01 x02 hMk;obtain⟨⟨n0,n1,n2⟩,_⟩:=R0.out.cells;have y00:=P0.out.cell X0.out.1;have y01:=P0.out.cell X0.out.2.1;have y02:=P0.out.cell X0.out.2.2;have yb0:=qg y00
         go_wp2_with fail
         refine(C3.out _ P0.out _ (by first|rfl|simp only[q6])).mono ?_;rintro e w1⟨rfl,pp,kk⟩;have P1:=qh pp;have K1:=qh (K0.out.trans kk);have R1:=qh (kk.row3 R0.out hne);clear pp kk C3 n0 n1 n2 y00 y01 y02 yb0;obtain⟨⟨n0,n1,n2⟩,_⟩:=R1.out.cells;have y00:=P1.out.cell X0.out.1;have y01:=P1.out.cell X0.out.2.1;have y02:=P1.out.cell X0.out.2.2;have yb0:=qg y00
         go_wp2_with fail
         refine(C4.out _ (by first|rfl|(push_cast;rfl)) _ P1.out).mono ?_;rintro e w2⟨rfl,pp,kk⟩;have P2:=qh pp;have K2:=qh (K1.out.trans kk);have R2:=qh (kk.row3 R1.out hne);clear pp kk C4 n0 n1 n2 y00 y01 y02 yb0;obtain⟨⟨n0,n1,n2⟩,_⟩:=R2.out.cells;have y00:=P2.out.cell X0.out.1;have y01:=P2.out.cell X0.out.2.1;have y02:=P2.out.cell X0.out.2.2;have yb0:=qg y00;have P2x:Hid (PrI w0 b (p++X) w2):=qh (by rw[HXE.out];simpa only[qe]using P2.out);clear P2;have P2:=P2x;clear P2x
         go_wp2_with fail
         refine(CE.out _ P2.out _ (by first|rfl|simp only[q6])).mono ?_;rintro e w3⟨rfl,pp,kk⟩;have P3:=qh pp;have K3:=qh (K2.out.trans kk);have R3:=qh (kk.row3 R2.out hne);clear pp kk CE n0 n1 n2 y00 y01 y02 yb0;go_wp2;go_end0;exact⟨rfl,by rw[HE.out];have hh:=P3.out;rw[<-HP.out]at hh;simpa only[qe,zr]using hh,K3.out⟩
        ·have hk8:((k:Int)==8)=false:=by rw[q9];exact hc
         have m8:¬ k=8:=hc;clear hc
         by_cases hc:k=9
         ·subst hc
          have j0:1<=L:=Hok.out (by decide);have i0:(0:Int) < (L:Int):=by omega
          have j1:0 < L:=by omega
          have hMk:0 < kl.length:=by rw[HLL.out];omega
          obtain⟨bb,o,k0',s0',l0',a0',c0',rfl,eK0,x00,x01,x02,r0⟩:=HN.out.kid 0 hMk;simp only[Nat.zero_mul,Nat.add_zero]at x00 x01 x02;have X0:=qh (And.intro x00 (And.intro x01 x02));obtain⟨Y0,hY0⟩:∃ Y,(kl[0]'hMk).txt 0 false=Y:=⟨_,rfl⟩
          have hXE:X=bs ⟨#[58,32]⟩++Y0:=by
           rw[<-HX.out,x4,q7 (by decide),q7 (by decide),q7 (by decide),qa (by decide),q0j hMk,hY0];rfl
          have HXE:=qh hXE;have hlen2:=HL3.out;rw[hXE]at hlen2;simp only[qc]at hlen2;have C3:=qh (fun w' (h:PrI w0 b p w') n (hn:n=w'.heap.size)=>xr h n hn ⟨#[58,32]⟩ (by omega));have hk:=HK.out
          have C4:Hid (∀ (z:Int),z=((0:Nat):Int)->∀ w',PrI w0 b (p++bs ⟨#[58,32]⟩) w'->Calls Tryz.prog 158 #[.pointer (some ⟨b,0,none⟩),.agg #[.int .i64 k0',.string s0',.slice a0' l0'.length c0'],.int .i64 z,.bool false] w' (PrO w0 b (p++bs ⟨#[58,32]⟩) w' Y0)):=qh (fun z hz w' h=>by
           subst hz;have hl9:List.length (p++bs ⟨#[58,32]⟩)+Y0.length<=100000000:=by(try simp[bs]at hlen2 ⊢);omega
           rw[<-hY0]at hl9 ⊢
           exact hk 0 hMk _ _ _ (0) false _ w' (by omega) (eK0▸r0) h hl9)
          clear hY0 hXE hlen2 hk eK0 r0 x00 x01 x02 hMk;obtain⟨⟨n0,n1,n2⟩,_⟩:=R0.out.cells;have y00:=P0.out.cell X0.out.1;have y01:=P0.out.cell X0.out.2.1;have y02:=P0.out.cell X0.out.2.2;have yb0:=qg y00
          go_wp2_with fail
          refine(C3.out _ P0.out _ (by first|rfl|simp only[q6])).mono ?_;rintro e w1⟨rfl,pp,kk⟩;have P1:=qh pp;have K1:=qh (K0.out.trans kk);have R1:=qh (kk.row3 R0.out hne);clear pp kk C3 n0 n1 n2 y00 y01 y02 yb0;obtain⟨⟨n0,n1,n2⟩,_⟩:=R1.out.cells;have y00:=P1.out.cell X0.out.1;have y01:=P1.out.cell X0.out.2.1;have y02:=P1.out.cell X0.out.2.2;have yb0:=qg y00
          go_wp2_with fail
          refine(C4.out _ (by first|rfl|(push_cast;rfl)) _ P1.out).mono ?_;rintro e w2⟨rfl,pp,kk⟩;have P2:=qh pp;have K2:=qh (K1.out.trans kk);have R2:=qh (kk.row3 R1.out hne);clear pp kk C4 n0 n1 n2 y00 y01 y02 yb0;obtain⟨⟨n0,n1,n2⟩,_⟩:=R2.out.cells;have y00:=P2.out.cell X0.out.1;have y01:=P2.out.cell X0.out.2.1;have y02:=P2.out.cell X0.out.2.2;have yb0:=qg y00;have P2x:Hid (PrI w0 b (p++X) w2):=qh (by rw[HXE.out];simpa only[qe]using P2.out);clear P2;have P2:=P2x;clear P2x
          go_wp2_with fail
          refine(CE.out _ P2.out _ (by first|rfl|simp only[q6])).mono ?_;rintro e w3⟨rfl,pp,kk⟩;have P3:=qh pp;have K3:=qh (K2.out.trans kk);have R3:=qh (kk.row3 R2.out hne);clear pp kk CE n0 n1 n2 y00 y01 y02 yb0;go_wp2;go_end0;exact⟨rfl,by rw[HE.out];have hh:=P3.out;rw[<-HP.out]at hh;simpa only[qe,zr]using hh,K3.out⟩
         ·have hk9:((k:Int)==9)=false:=by rw[q9];exact hc
          have m9:¬ k=9:=hc;clear hc
          by_cases hc:k=10
          ·subst hc
           have j0:1<=L:=Hok.out (by decide);have i0:(0:Int) < (L:Int):=by omega
           have j1:0 < L:=by omega
           have hMk:0 < kl.length:=by rw[HLL.out];omega
           obtain⟨bb,o,k0',s0',l0',a0',c0',rfl,eK0,x00,x01,x02,r0⟩:=HN.out.kid 0 hMk;simp only[Nat.zero_mul,Nat.add_zero]at x00 x01 x02;have X0:=qh (And.intro x00 (And.intro x01 x02));obtain⟨Y0,hY0⟩:∃ Y,(kl[0]'hMk).txt 0 false=Y:=⟨_,rfl⟩
           have hXE:X=bs ⟨#[58,32]⟩++Y0:=by
            rw[<-HX.out,x4,q7 (by decide),q7 (by decide),q7 (by decide),qa (by decide),q0j hMk,hY0];rfl
           have HXE:=qh hXE;have hlen2:=HL3.out;rw[hXE]at hlen2;simp only[qc]at hlen2;have C3:=qh (fun w' (h:PrI w0 b p w') n (hn:n=w'.heap.size)=>xr h n hn ⟨#[58,32]⟩ (by omega));have hk:=HK.out
           have C4:Hid (∀ (z:Int),z=((0:Nat):Int)->∀ w',PrI w0 b (p++bs ⟨#[58,32]⟩) w'->Calls Tryz.prog 158 #[.pointer (some ⟨b,0,none⟩),.agg #[.int .i64 k0',.string s0',.slice a0' l0'.length c0'],.int .i64 z,.bool false] w' (PrO w0 b (p++bs ⟨#[58,32]⟩) w' Y0)):=qh (fun z hz w' h=>by
            subst hz;have hl9:List.length (p++bs ⟨#[58,32]⟩)+Y0.length<=100000000:=by(try simp[bs]at hlen2 ⊢);omega
            rw[<-hY0]at hl9 ⊢
            exact hk 0 hMk _ _ _ (0) false _ w' (by omega) (eK0▸r0) h hl9)
           clear hY0 hXE hlen2 hk eK0 r0 x00 x01 x02 hMk;obtain⟨⟨n0,n1,n2⟩,_⟩:=R0.out.cells;have y00:=P0.out.cell X0.out.1;have y01:=P0.out.cell X0.out.2.1;have y02:=P0.out.cell X0.out.2.2;have yb0:=qg y00
           go_wp2_with fail
           refine(C3.out _ P0.out _ (by first|rfl|simp only[q6])).mono ?_;rintro e w1⟨rfl,pp,kk⟩;have P1:=qh pp;have K1:=qh (K0.out.trans kk);have R1:=qh (kk.row3 R0.out hne);clear pp kk C3 n0 n1 n2 y00 y01 y02 yb0;obtain⟨⟨n0,n1,n2⟩,_⟩:=R1.out.cells;have y00:=P1.out.cell X0.out.1;have y01:=P1.out.cell X0.out.2.1;have y02:=P1.out.cell X0.out.2.2;have yb0:=qg y00
           go_wp2_with fail
           refine(C4.out _ (by first|rfl|(push_cast;rfl)) _ P1.out).mono ?_;rintro e w2⟨rfl,pp,kk⟩;have P2:=qh pp;have K2:=qh (K1.out.trans kk);have R2:=qh (kk.row3 R1.out hne);clear pp kk C4 n0 n1 n2 y00 y01 y02 yb0;obtain⟨⟨n0,n1,n2⟩,_⟩:=R2.out.cells;have y00:=P2.out.cell X0.out.1;have y01:=P2.out.cell X0.out.2.1;have y02:=P2.out.cell X0.out.2.2;have yb0:=qg y00;have P2x:Hid (PrI w0 b (p++X) w2):=qh (by rw[HXE.out];simpa only[qe]using P2.out);clear P2;have P2:=P2x;clear P2x
           go_wp2_with fail
           refine(CE.out _ P2.out _ (by first|rfl|simp only[q6])).mono ?_;rintro e w3⟨rfl,pp,kk⟩;have P3:=qh pp;have K3:=qh (K2.out.trans kk);have R3:=qh (kk.row3 R2.out hne);clear pp kk CE n0 n1 n2 y00 y01 y02 yb0;go_wp2;go_end0;exact⟨rfl,by rw[HE.out];have hh:=P3.out;rw[<-HP.out]at hh;simpa only[qe,zr]using hh,K3.out⟩
          ·have hk10:((k:Int)==10)=false:=by rw[q9];exact hc
           have m10:¬ k=10:=hc;clear hc
           by_cases hc:k=11
           ·subst hc
            have j0:1<=L:=Hok.out (by decide);have i0:(0:Int) < (L:Int):=by omega
            have j1:0 < L:=by omega
            have hMk:0 < kl.length:=by rw[HLL.out];omega
            obtain⟨bb,o,k0',s0',l0',a0',c0',rfl,eK0,x00,x01,x02,r0⟩:=HN.out.kid 0 hMk;simp only[Nat.zero_mul,Nat.add_zero]at x00 x01 x02;have X0:=qh (And.intro x00 (And.intro x01 x02));obtain⟨Y0,hY0⟩:∃ Y,(kl[0]'hMk).txt 0 false=Y:=⟨_,rfl⟩
            have hXE:X=bs ⟨#[58,32]⟩++Y0:=by
             rw[<-HX.out,x4,q7 (by decide),q7 (by decide),q7 (by decide),qa (by decide),q0j hMk,hY0];rfl
            have HXE:=qh hXE;have hlen2:=HL3.out;rw[hXE]at hlen2;simp only[qc]at hlen2;have C3:=qh (fun w' (h:PrI w0 b p w') n (hn:n=w'.heap.size)=>xr h n hn ⟨#[58,32]⟩ (by omega));have hk:=HK.out
            have C4:Hid (∀ (z:Int),z=((0:Nat):Int)->∀ w',PrI w0 b (p++bs ⟨#[58,32]⟩) w'->Calls Tryz.prog 158 #[.pointer (some ⟨b,0,none⟩),.agg #[.int .i64 k0',.string s0',.slice a0' l0'.length c0'],.int .i64 z,.bool false] w' (PrO w0 b (p++bs ⟨#[58,32]⟩) w' Y0)):=qh (fun z hz w' h=>by
             subst hz;have hl9:List.length (p++bs ⟨#[58,32]⟩)+Y0.length<=100000000:=by(try simp[bs]at hlen2 ⊢);omega
             rw[<-hY0]at hl9 ⊢
             exact hk 0 hMk _ _ _ (0) false _ w' (by omega) (eK0▸r0) h hl9)
            clear hY0 hXE hlen2 hk eK0 r0 x00 x01 x02 hMk;obtain⟨⟨n0,n1,n2⟩,_⟩:=R0.out.cells;have y00:=P0.out.cell X0.out.1;have y01:=P0.out.cell X0.out.2.1;have y02:=P0.out.cell X0.out.2.2;have yb0:=qg y00
            go_wp2_with fail
            refine(C3.out _ P0.out _ (by first|rfl|simp only[q6])).mono ?_;rintro e w1⟨rfl,pp,kk⟩;have P1:=qh pp;have K1:=qh (K0.out.trans kk);have R1:=qh (kk.row3 R0.out hne);clear pp kk C3 n0 n1 n2 y00 y01 y02 yb0;obtain⟨⟨n0,n1,n2⟩,_⟩:=R1.out.cells;have y00:=P1.out.cell X0.out.1;have y01:=P1.out.cell X0.out.2.1;have y02:=P1.out.cell X0.out.2.2;have yb0:=qg y00
            go_wp2_with fail
            refine(C4.out _ (by first|rfl|(push_cast;rfl)) _ P1.out).mono ?_;rintro e w2⟨rfl,pp,kk⟩;have P2:=qh pp;have K2:=qh (K1.out.trans kk);have R2:=qh (kk.row3 R1.out hne);clear pp kk C4 n0 n1 n2 y00 y01 y02 yb0;obtain⟨⟨n0,n1,n2⟩,_⟩:=R2.out.cells;have y00:=P2.out.cell X0.out.1;have y01:=P2.out.cell X0.out.2.1;have y02:=P2.out.cell X0.out.2.2;have yb0:=qg y00;have P2x:Hid (PrI w0 b (p++X) w2):=qh (by rw[HXE.out];simpa only[qe]using P2.out);clear P2;have P2:=P2x;clear P2x
            go_wp2_with fail
            refine(CE.out _ P2.out _ (by first|rfl|simp only[q6])).mono ?_;rintro e w3⟨rfl,pp,kk⟩;have P3:=qh pp;have K3:=qh (K2.out.trans kk);have R3:=qh (kk.row3 R2.out hne);clear pp kk CE n0 n1 n2 y00 y01 y02 yb0;go_wp2;go_end0;exact⟨rfl,by rw[HE.out];have hh:=P3.out;rw[<-HP.out]at hh;simpa only[qe,zr]using hh,K3.out⟩
           ·have hk11:((k:Int)==11)=false:=by rw[q9];exact hc
            have m11:¬ k=11:=hc;clear hc
            by_cases hc:k=14
            ·subst hc
             have hX2:jf (kl.take L) true=X:=by
              rw[<-HX.out,<-HLL.out,List.take_length,x4,qa (by decide)]
             have C2:Hid (∀ w',PrI w0 b p w'->Calls Tryz.prog 204 #[.pointer (some ⟨b,0,none⟩),.slice a L cap] w' (PrO w0 b p w' X)):=qh (fun w' h=>by
              have hl9:p.length+X.length<=100000000:=by have:=HL3.out;omega
              rw[<-hX2]at hl9 ⊢
              exact q6o _ s kl L cap (by rw[HLL.out];exact q5 _) _ _ _ _ _ _ w' HN.out h hl9)
             clear hX2;obtain⟨⟨n0,n1,n2⟩,_⟩:=R0.out.cells
             go_wp2_with fail
             refine(C2.out _ P0.out).mono ?_;rintro e w1⟨rfl,pp,kk⟩;have P1:=qh pp;have K1:=qh (K0.out.trans kk);have R1:=qh (kk.row3 R0.out hne);clear pp kk C2 n0 n1 n2;obtain⟨⟨n0,n1,n2⟩,_⟩:=R1.out.cells
             go_wp2_with fail
             refine(CE.out _ P1.out _ (by first|rfl|simp only[q6])).mono ?_;rintro e w2⟨rfl,pp,kk⟩;have P2:=qh pp;have K2:=qh (K1.out.trans kk);have R2:=qh (kk.row3 R1.out hne);clear pp kk CE n0 n1 n2;go_wp2;go_end0;exact⟨rfl,by rw[HE.out];have hh:=P2.out;rw[<-HP.out]at hh;simpa only[qe,zr]using hh,K2.out⟩
            ·have hk14:((k:Int)==14)=false:=by rw[q9];exact hc
             have m14:¬ k=14:=hc;clear hc
             have hXE:X=[]:=by
              rw[<-HX.out,x4,q7 (by omega),q7 (by omega),q7 (by omega),q7 (by omega)]
             have P9:=qh (show PrI w0 b (p++X) _ by rw[hXE,List.append_nil];exact P0.out);clear P0 hXE;have P0:=P9;clear P9 m2 m3 m4 m5 m6 m7 m8 m9 m10 m11 m14;obtain⟨⟨n0,n1,n2⟩,_⟩:=R0.out.cells
             go_wp2_with fail
             refine(CE.out _ P0.out _ (by first|rfl|simp only[q6])).mono ?_;rintro e w1⟨rfl,pp,kk⟩;have P1:=qh pp;have K1:=qh (K0.out.trans kk);have R1:=qh (kk.row3 R0.out hne);clear pp kk CE n0 n1 n2;go_wp2;go_end0;exact⟨rfl,by rw[HE.out];have hh:=P1.out;rw[<-HP.out]at hh;simpa only[qe,zr]using hh,K1.out⟩
end Go.Proofs.YtkckddojlignpaaGreatDoor
namespace Go.Proofs.YtkckddojlignpaaGreatDoor
open Go.RowKit Go.Shelf
theorem q9c:Tryz.prog.cellsOf 5=1:=by kernel_rfl
theorem qdh(B b:Nat)(l:List UInt8)(w:World)(h:PrW B b l w)(h0:l≠[]) :
  Calls Tryz.prog 98 #[.pointer (some ⟨b,0,none⟩)] w fun e w'=>e = .returned (.string ⟨l.toArray⟩)/\Below B w w':=by
 obtain⟨p,hB,v,hbk,hown,hne⟩:∃ p,Lib.BuilderAt 124 5 B b p (Lib.byteCells l) w:=by
  rcases h with h|h
  ·exact⟨_,h⟩
  ·exact⟨_,h⟩
 have hl0:l.length≠0:=by simpa using h0
 rw[Lib.byteCells_length]at hown
 obtain⟨g,cap,cur,rfl,hbg,hg,hnc,hcm,hcs,htake⟩:∃ g cap cur,v = .slice (some ⟨g,0,none⟩) l.length cap/\B<=g/\w.heap[g]?=some (.cells cur 5 (0,0))/\l.length<=cap/\cap<=maxLen/\cur.size=cap*1/\cur.toList.take (l.length*1)=Lib.byteCells l:=by
  rcases hown.2 with ⟨_,hz⟩|⟨g,cap,cur,hv,r⟩
  ·exact absurd hz hl0
  ·exact⟨g,cap,cur,hv,r⟩
 have c1:w.drew.cell? ⟨b,1,none⟩=some (.slice (some ⟨g,0,none⟩) l.length cap):=by
  have:w.drew.heap[b]?=some (.cells #[p,.slice (some ⟨g,0,none⟩) l.length cap] 124 (0,0)):=hbk;rw[zb this];rfl
 have hSD:(Builtin.unsafeSliceData_ #[120] 170 #[.slice (some ⟨g,0,none⟩) l.length cap]).run Tryz.prog w.drew = .ok (.pointer (some ⟨g,0,none⟩)) w.drew :=
  Lib.run_unsafeSliceData_row _ _ _ _ _ _ (by omega)
 have hUS:(Builtin.unsafeString_ #[170,3] 9 #[.pointer (some ⟨g,0,none⟩),.int .i64 l.length]).run Tryz.prog w.drew = .ok (.string ⟨l.toArray⟩) (w.drew.freeze ⟨g,0,none⟩ l.length):=by
  refine Lib.run_unsafeString_row w.drew 170 3 9 5 Tryz.underlying170 q9c g cur.size (by have hg':w.drew.heap[g]?=some (.cells cur 5 (0,0)):=hg;simp[World.shape?,hg']) l h0 (by omega) (by unfold maxLen at hcm;omega) ?_;intro j x hx;have:=hown.cells (g:=g) rfl j (.int .u8 x.toNat) (by simp[Lib.byteCells,hx]);exact this
 go_enter Tryz.func98,Tryz.ntmps98;go_wp2
 go_region
 all_goals (go_wp2;go_ret;exact⟨rfl,Lib.below_freeze (Below.drew (Below.refl B w)) (p:=⟨g,0,none⟩) hbg _⟩)
theorem ye(W:World)(q:Option Addr):(Builtin.unsafeString_ #[170,3] 9 #[.pointer q,.int .i64 0]).run Tryz.prog W = .ok (.string .empty) W :=
 Lib.run_unsafeString_none W _ _ _ q
theorem qf0(B b:Nat)(p:Value)(w:World)(hbk:w.heap[b]?=some (.cells #[p,.slice none 0 0] 124 (0,0))) :
  Calls Tryz.prog 98 #[.pointer (some ⟨b,0,none⟩)] w fun e w'=>e = .returned (.string ⟨#[]⟩)/\Below B w w':=by
 have hUS:=ye
 have c1:w.drew.cell? ⟨b,1,none⟩=some (.slice none 0 0):=by
  have:w.drew.heap[b]?=some (.cells #[p,.slice none 0 0] 124 (0,0)):=hbk;rw[zb this];rfl
 have hSD:(Builtin.unsafeSliceData_ #[120] 170 #[.slice none 0 0]).run Tryz.prog w.drew = .ok (.pointer none) w.drew:=rfl;go_enter Tryz.func98,Tryz.ntmps98;go_wp2
 go_region
 all_goals (go_wp2;go_ret;exact⟨rfl,Below.drew (Below.refl B w)⟩)
theorem qah(B b g:Nat)(p:Value)(cur:Array Value)(w:World)(hBw:B<=w.heap.size)(hbk:w.heap[b]?=some (.cells #[p,.slice (some ⟨g,0,none⟩) 0 0] 124 (0,0)))(hg:w.heap[g]?=some (.cells cur 5 (0,0))) :
  Calls Tryz.prog 98 #[.pointer (some ⟨b,0,none⟩)] w fun e w'=>e = .returned (.string ⟨#[]⟩)/\Below B w w':=by
 have hUS:=ye;have hlt:b < w.heap.size:=za hbk
 have c1:w.drew.cell? ⟨b,1,none⟩=some (.slice (some ⟨g,0,none⟩) 0 0):=by
  have:w.drew.heap[b]?=some (.cells #[p,.slice (some ⟨g,0,none⟩) 0 0] 124 (0,0)):=hbk;rw[zb this];rfl
 have hSD:(Builtin.unsafeSliceData_ #[120] 170 #[.slice (some ⟨g,0,none⟩) 0 0]).run Tryz.prog w.drew = .ok (.pointer (some ⟨w.drew.heap.size,0,none⟩)) (w.drew.alloc (.view ⟨g,0,none⟩ 5)) :=
  Lib.run_unsafeSliceData_zero w.drew _ _ 5 Tryz.underlying170 ⟨g,0,none⟩ 0 (5,cur.size) (by have hg':w.drew.heap[g]?=some (.cells cur 5 (0,0)):=hg;simp[World.shape?,hg'])
 have c2:(w.drew.alloc (.view ⟨g,0,none⟩ 5)).cell? ⟨b,1,none⟩=some (.slice (some ⟨g,0,none⟩) 0 0):=by
  have:(w.drew.alloc (.view ⟨g,0,none⟩ 5)).heap[b]?=_:=(Lib.alloc_old w.drew _ b hlt).trans hbk;rw[zb this];rfl
 have c3:(w.alloc (.view ⟨g,0,none⟩ 5)).drew.cell? ⟨b,1,none⟩=some (.slice (some ⟨g,0,none⟩) 0 0):=c2;have c0:w.cell? ⟨b,1,none⟩=some (.slice (some ⟨g,0,none⟩) 0 0):=c1;go_enter Tryz.func98,Tryz.ntmps98;go_wp2
 go_region
 all_goals (go_wp2;go_ret;exact⟨rfl,(Below.drew (Below.refl B w)).alloc hBw _⟩)
theorem qdi(B b g cap:Nat)(p:Value)(w:World)(hc0:cap≠0)(hbk:w.heap[b]?=some (.cells #[p,.slice (some ⟨g,0,none⟩) 0 cap] 124 (0,0))) :
  Calls Tryz.prog 98 #[.pointer (some ⟨b,0,none⟩)] w fun e w'=>e = .returned (.string ⟨#[]⟩)/\Below B w w':=by
 have hUS:=ye
 have c1:w.drew.cell? ⟨b,1,none⟩=some (.slice (some ⟨g,0,none⟩) 0 cap):=by
  have:w.drew.heap[b]?=some (.cells #[p,.slice (some ⟨g,0,none⟩) 0 cap] 124 (0,0)):=hbk;rw[zb this];rfl
 have hSD:(Builtin.unsafeSliceData_ #[120] 170 #[.slice (some ⟨g,0,none⟩) 0 cap]).run Tryz.prog w.drew = .ok (.pointer (some ⟨g,0,none⟩)) w.drew :=
  Lib.run_unsafeSliceData_row _ _ _ _ _ _ hc0
 clear hc0;go_enter Tryz.func98,Tryz.ntmps98;go_wp2
 go_region
 all_goals (go_wp2;go_ret;exact⟨rfl,Below.drew (Below.refl B w)⟩)
theorem qf1(B b:Nat)(l:List UInt8)(w:World)(h:PrW B b l w)(hBw:B<=w.heap.size) :
  Calls Tryz.prog 98 #[.pointer (some ⟨b,0,none⟩)] w fun e w'=>e = .returned (S_ l)/\Below B w w':=by
 cases l with
 |cons x r=>exact qdh B b (x :: r) w h (by simp)
 |nil =>
  obtain⟨p,hB,v,hbk,hown,hne⟩:∃ p,Lib.BuilderAt 124 5 B b p [] w:=by
   rcases h with h|h
   ·exact⟨_,h⟩
   ·exact⟨_,h⟩
  rcases hown.2 with ⟨rfl,_⟩|⟨g,cap,cur,rfl,hbg,hg,_,_,_,_⟩
  ·exact qf0 B b p w hbk
  ·by_cases hc0:cap=0
   ·subst hc0
    exact qah B b g p cur w hBw hbk hg
   ·exact qdi B b g cap p w hc0 hbk
theorem q7z:liesAt Tryz.prog Tryz.prog.depth 122 (2 / Tryz.prog.cellsOf 122) 0 122 1=true:=by kernel_rfl
theorem q8q(b:Nat)(w:World)(h0:w.cell? ⟨b,0,none⟩=some (.pointer none))(hsh:w.shape? b=some (122,2))(hfz:w.frozen? ⟨b,0,none⟩=false) :
  Calls Tryz.prog 177 #[.pointer (some ⟨b,0,none⟩)] w fun e w'=>e = .returned (.tuple #[])/\w'=w.setCell ⟨b,0,none⟩ (.pointer (some ⟨b,0,none⟩)):=by
 obtain⟨j,hj,hjs⟩:=Option.map_eq_some_iff.1 q23;go_enter Tryz.func177,Tryz.ntmps177;go_wp2;rw[Lib.run_to_unsafe w ⟨b,0,none⟩ Tryz.underlying119 Tryz.underlying196 hj (by rw[hjs];decide) hsh (Nat.zero_lt_succ 1)];simp only[Result.andThen];rw[Oper.upon_value];go_wp2;rw[run_callFunc_extern Tryz.func211 (by kernel_rfl) (by kernel_rfl) (by kernel_rfl) (e:=Extern.AbiNoEscape.same) (by kernel_rfl)];rw[Lib.run_noEscape];simp only[Result.andThen];rw[Oper.upon_value];go_wp2;rw[Lib.run_from_unsafe w ⟨b,0,none⟩ Tryz.underlying196 Tryz.underlying119 hj hsh q7z];simp only[Result.andThen];rw[Oper.upon_value];go_wp2;go_end0;exact⟨rfl,rfl⟩
theorem q47(B b:Nat)(bs:List Value)(w:World)(h:Lib.IsBuilder 122 5 B b bs w) :
  Calls Tryz.prog 177 #[.pointer (some ⟨b,0,none⟩)] w fun e w'=>e = .returned (.tuple #[])/\(Lib.BuilderAt 122 5 B b (.pointer (some ⟨b,0,none⟩)) bs w'/\Below B w w'/\Lib.OthersKept 5 (some b) w w'):=by
 rcases h with h|h
 ·refine(q8q b w h.cell0 h.shape h.frozen0).mono ?_
  rintro e w'⟨rfl,rfl⟩;exact⟨rfl,h.used _,(Below.refl B w).setCell (p:=⟨b,0,none⟩) h.1 _,(Lib.OthersKept.refl _ _ w).setCell ⟨b,0,none⟩ rfl _⟩
 ·refine(q3k b w h.cell0).mono ?_
  rintro e w'⟨rfl,rfl⟩;exact⟨rfl,h,Below.refl B _,Lib.OthersKept.refl _ _ _⟩
theorem q8p(B b:Nat)(bs:List Value)(s:ByteArray)(w:World)(h:Lib.IsBuilder 122 5 B b bs w)(hlen:bs.length+s.size<=140737488355328)(hBw:B<=w.heap.size) :
  Calls Tryz.prog 111 #[.pointer (some ⟨b,0,none⟩),.string s] w fun e w'=>e = .returned (.tuple #[.int .i64 s.size,.nilIface])/\(Lib.BuilderAt 122 5 B b (.pointer (some ⟨b,0,none⟩)) (bs++Lib.strCells s) w'/\Below B w w'/\Lib.OthersKept 5 (some b) w w'):=by
 obtain⟨i0,hi,hz0,hz1,hz2⟩:=info_parts q59;go_enter Tryz.func111,Tryz.ntmps111
 go_wp2_with fail
 refine(q47 B b bs _ h).mono ?_;rintro e w1⟨rfl,h1,hb1,hk1⟩;obtain⟨hB,v,hbk,hown,hne⟩:=h1;have c0:w1.cell? ⟨b,0,none⟩=some (.pointer (some ⟨b,0,none⟩)):=by rw[zb hbk];rfl
 have c1:w1.cell? ⟨b,1,none⟩=some v:=by rw[zb hbk];rfl
 go_wp2_with (at_builtin;refine Lib.wpList_append_own_string _ rfl _ _ 120 9 rfl B 5 i0 Tryz.underlying120 Tryz.underlying9 hi hz0 hz1 hz2 _ _ _ rfl hown s rfl ?c3 ?c4 ?c5 ?_)
 case c3=>unfold maxLen;omega
 case c4=>omega
 case c5=>have:=hb1.size;omega
 intro v' w2 hown' hgrow _
 have hlt:b < w1.heap.size:=by
  rcases Nat.lt_or_ge b w1.heap.size with h'|h'
  ·exact h'
  ·simp[Array.getElem?_eq_none h']at hbk
 have hb2:w2.heap[b]?=some (.cells #[.pointer (some ⟨b,0,none⟩),v] 122 (0,0)):=by
  rw[hgrow.block b hlt (fun e=>hne e.symm)];exact hbk
 have d0:w2.cell? ⟨b,0,none⟩=some (.pointer (some ⟨b,0,none⟩)):=by rw[zb hb2];rfl
 have d1:w2.cell? ⟨b,1,none⟩=some v:=by rw[zb hb2];rfl
 have f1:w2.frozen? ⟨b,1,none⟩=false:=Lib.frozen_of_heap hb2 1
 obtain⟨ao,n',cap,rfl⟩:∃ ao n' cap,v' = .slice ao n' cap:=by
  rcases hown'.2 with ⟨hv,_⟩|⟨g,cap,cur,hv,_⟩
  ·exact⟨_,_,_,hv⟩
  ·exact⟨_,_,_,hv⟩
 go_wp2;go_ret2;refine⟨rfl,?_,?_,(hk1.grown hgrow (q38 hown)).setCell ⟨b,1,none⟩ rfl _⟩
 ·exact Lib.BuilderAt.put (T:=122) (e:=5) hB hb2 (bs':=bs++Lib.strCells s) (by simpa[Lib.strCells_length]using hown') (by decide)
 ·exact(hb1.grown hgrow (by have:=hb1.size;omega) (fun k hk=>(hown.lt k hk).1)).setCell (p:=⟨b,1,none⟩) hB _
theorem qav(B b:Nat)(bs:List Value)(c:Int)(w:World)(h:Lib.IsBuilder 122 5 B b bs w)(hlen:bs.length+1<=140737488355328)(hBw:B<=w.heap.size) :
  Calls Tryz.prog 110 #[.pointer (some ⟨b,0,none⟩),.int .u8 c] w fun e w'=>e = .returned .nilIface/\(Lib.BuilderAt 122 5 B b (.pointer (some ⟨b,0,none⟩)) (bs++[.int .u8 c]) w'/\Below B w w'/\Lib.OthersKept 5 (some b) w w'):=by
 obtain⟨i0,hi,hz0,hz1,hz2⟩:=info_parts q59;go_enter Tryz.func110,Tryz.ntmps110
 go_wp2_with fail
 refine(q47 B b bs _ h).mono ?_;rintro e w1⟨rfl,h1,hb1,hk1⟩;obtain⟨hB,v,hbk,hown,hne⟩:=h1;have c0:w1.cell? ⟨b,0,none⟩=some (.pointer (some ⟨b,0,none⟩)):=by rw[zb hbk];rfl
 have c1:w1.cell? ⟨b,1,none⟩=some v:=by rw[zb hbk];rfl
 go_wp2_with (at_builtin;refine wpList_append_own _ rfl _ _ 120 rfl B 5 i0 (.int .u8 0) 1 1 Tryz.underlying120 hi hz0 hz1 hz2 rfl (by decide) _ _ _ rfl (hown.alloc _) ⟨w1.heap.size,0,none⟩ 1 1 [.int .u8 c] rfl rfl ?c1 ?c2 ?c3 ?c4 ?c5 ?_)
 case c1 =>
  intro j u hj
  match j,hj with
  |0,hj=>simp at hj;subst hj;simp[Addr.add]
 case c2=>intro u hu;simp at hu;subst hu;rfl
 case c3=>unfold maxLen;omega
 case c4=>omega
 case c5=>have:=hb1.size;simp;omega
 intro v' w2 hown' hgrow _
 have hlt:b < w1.heap.size:=by
  rcases Nat.lt_or_ge b w1.heap.size with h'|h'
  ·exact h'
  ·simp[Array.getElem?_eq_none h']at hbk
 have hb2:w2.heap[b]?=some (.cells #[.pointer (some ⟨b,0,none⟩),v] 122 (0,0)):=by
  rw[hgrow.block b (by simp;omega) (fun e=>hne e.symm),Lib.alloc_old w1 _ b hlt];exact hbk
 have d0:w2.cell? ⟨b,0,none⟩=some (.pointer (some ⟨b,0,none⟩)):=by rw[zb hb2];rfl
 have d1:w2.cell? ⟨b,1,none⟩=some v:=by rw[zb hb2];rfl
 have f1:w2.frozen? ⟨b,1,none⟩=false:=Lib.frozen_of_heap hb2 1
 obtain⟨g,cap,rfl⟩:∃ g cap,v' = .slice (some ⟨g,0,none⟩) (bs.length+1) cap:=by
  rcases hown'.2 with ⟨_,h0⟩|⟨g,cap,cur,hv,_⟩
  ·omega
  ·exact⟨g,cap,hv⟩
 go_wp2;go_ret;refine⟨rfl,?_,?_,((hk1.alloc _).grown hgrow (q38 (hown.alloc _))).setCell ⟨b,1,none⟩ rfl _⟩
 ·exact Lib.BuilderAt.put (T:=122) (e:=5) hB hb2 (bs':=bs++[.int .u8 c]) (by simpa using hown') (by decide)
 ·exact((hb1.alloc (by have:=hb1.size;omega) _).grown hgrow (by have:=hb1.size;simp;omega) (fun k hk=>(hown.lt k hk).1)).setCell (p:=⟨b,1,none⟩) hB _
def BdW(B b:Nat)(l:List UInt8)(w:World):Prop:=Lib.IsBuilder 122 5 B b (Lib.byteCells l) w
theorem BdW.alloc{B b:Nat}{l:List UInt8}{w:World}(h:BdW B b l w)(o:Obj):BdW B b l (w.alloc o):=by
 rcases h with ⟨h1,v,h2,h3,h4⟩|⟨h1,v,h2,h3,h4⟩
 ·exact .inl ⟨h1,v,(Below.heap_alloc _ _ _ (za h2)).trans h2,zi h3 fun k _ hk _=>Below.heap_alloc _ _ _ hk,h4⟩
 ·exact .inr ⟨h1,v,(Below.heap_alloc _ _ _ (za h2)).trans h2,zi h3 fun k _ hk _=>Below.heap_alloc _ _ _ hk,h4⟩
theorem qa3(B b:Nat)(l:List UInt8)(s:ByteArray)(w:World)(h:BdW B b l w)(hlen:l.length+s.size<=140737488355328)(hBw:B<=w.heap.size) :
  Calls Tryz.prog 111 #[.pointer (some ⟨b,0,none⟩),.string s] w fun e w'=>e = .returned (.tuple #[.int .i64 s.size,.nilIface])/\BdW B b (l++bs s) w'/\Wr B b w w':=by
 refine(q8p B b _ s w h (by rw[q20];exact hlen) hBw).mono ?_;rintro e w'⟨rfl,h1,h2,h3⟩;refine⟨rfl,?_,⟨h2,h3⟩⟩;unfold BdW;rw[q0t];exact .inr h1
theorem qri(B b:Nat)(l:List UInt8)(c:UInt8)(w:World)(h:BdW B b l w)(hlen:l.length+1<=140737488355328)(hBw:B<=w.heap.size) :
  Calls Tryz.prog 110 #[.pointer (some ⟨b,0,none⟩),.int .u8 c.toNat] w fun e w'=>e = .returned .nilIface/\BdW B b (l++[c]) w'/\Wr B b w w':=by
 refine(qav B b _ c.toNat w h (by rw[q20];exact hlen) hBw).mono ?_;rintro e w'⟨rfl,h1,h2,h3⟩;refine⟨rfl,?_,⟨h2,h3⟩⟩;unfold BdW;rw[q0t];exact .inr h1
theorem qrp(w:World)(b:Nat)(hb:b=w.heap.size):BdW b b [] (w.alloc (.cells #[.pointer none,.slice none 0 0] 122)):=by
 subst hb;exact .inl ⟨q5 _,_,qm w _,World.ownsRow_nil _ _ _ _,by simp[Value.ownBlock]⟩
theorem qeh(B b:Nat)(l:List UInt8)(w:World)(h:BdW B b l w)(h0:l≠[]) :
  Calls Tryz.prog 98 #[.pointer (some ⟨b,0,none⟩)] w fun e w'=>e = .returned (.string ⟨l.toArray⟩)/\Below B w w':=by
 obtain⟨p,hB,v,hbk,hown,hne⟩:∃ p,Lib.BuilderAt 122 5 B b p (Lib.byteCells l) w:=by
  rcases h with h|h
  ·exact⟨_,h⟩
  ·exact⟨_,h⟩
 have hl0:l.length≠0:=by simpa using h0
 rw[Lib.byteCells_length]at hown
 obtain⟨g,cap,cur,rfl,hbg,hg,hnc,hcm,hcs,htake⟩:∃ g cap cur,v = .slice (some ⟨g,0,none⟩) l.length cap/\B<=g/\w.heap[g]?=some (.cells cur 5 (0,0))/\l.length<=cap/\cap<=maxLen/\cur.size=cap*1/\cur.toList.take (l.length*1)=Lib.byteCells l:=by
  rcases hown.2 with ⟨_,hz⟩|⟨g,cap,cur,hv,r⟩
  ·exact absurd hz hl0
  ·exact⟨g,cap,cur,hv,r⟩
 have c1:w.drew.cell? ⟨b,1,none⟩=some (.slice (some ⟨g,0,none⟩) l.length cap):=by
  have:w.drew.heap[b]?=some (.cells #[p,.slice (some ⟨g,0,none⟩) l.length cap] 122 (0,0)):=hbk;rw[zb this];rfl
 have hSD:(Builtin.unsafeSliceData_ #[120] 170 #[.slice (some ⟨g,0,none⟩) l.length cap]).run Tryz.prog w.drew = .ok (.pointer (some ⟨g,0,none⟩)) w.drew :=
  Lib.run_unsafeSliceData_row _ _ _ _ _ _ (by omega)
 have hUS:(Builtin.unsafeString_ #[170,3] 9 #[.pointer (some ⟨g,0,none⟩),.int .i64 l.length]).run Tryz.prog w.drew = .ok (.string ⟨l.toArray⟩) (w.drew.freeze ⟨g,0,none⟩ l.length):=by
  refine Lib.run_unsafeString_row w.drew 170 3 9 5 Tryz.underlying170 q9c g cur.size (by have hg':w.drew.heap[g]?=some (.cells cur 5 (0,0)):=hg;simp[World.shape?,hg']) l h0 (by omega) (by unfold maxLen at hcm;omega) ?_;intro j x hx;have:=hown.cells (g:=g) rfl j (.int .u8 x.toNat) (by simp[Lib.byteCells,hx]);exact this
 go_enter Tryz.func98,Tryz.ntmps98;go_wp2
 go_region
 all_goals (go_wp2;go_ret;exact⟨rfl,Lib.below_freeze (Below.drew (Below.refl B w)) (p:=⟨g,0,none⟩) hbg _⟩)
theorem qfp(B b:Nat)(p:Value)(w:World)(hbk:w.heap[b]?=some (.cells #[p,.slice none 0 0] 122 (0,0))) :
  Calls Tryz.prog 98 #[.pointer (some ⟨b,0,none⟩)] w fun e w'=>e = .returned (.string ⟨#[]⟩)/\Below B w w':=by
 have hUS:=ye
 have c1:w.drew.cell? ⟨b,1,none⟩=some (.slice none 0 0):=by
  have:w.drew.heap[b]?=some (.cells #[p,.slice none 0 0] 122 (0,0)):=hbk;rw[zb this];rfl
 have hSD:(Builtin.unsafeSliceData_ #[120] 170 #[.slice none 0 0]).run Tryz.prog w.drew = .ok (.pointer none) w.drew:=rfl;go_enter Tryz.func98,Tryz.ntmps98;go_wp2
 go_region
 all_goals (go_wp2;go_ret;exact⟨rfl,Below.drew (Below.refl B w)⟩)
theorem qaw(B b g:Nat)(p:Value)(cur:Array Value)(w:World)(hBw:B<=w.heap.size)(hbk:w.heap[b]?=some (.cells #[p,.slice (some ⟨g,0,none⟩) 0 0] 122 (0,0)))(hg:w.heap[g]?=some (.cells cur 5 (0,0))) :
  Calls Tryz.prog 98 #[.pointer (some ⟨b,0,none⟩)] w fun e w'=>e = .returned (.string ⟨#[]⟩)/\Below B w w':=by
 have hUS:=ye;have hlt:b < w.heap.size:=za hbk
 have c1:w.drew.cell? ⟨b,1,none⟩=some (.slice (some ⟨g,0,none⟩) 0 0):=by
  have:w.drew.heap[b]?=some (.cells #[p,.slice (some ⟨g,0,none⟩) 0 0] 122 (0,0)):=hbk;rw[zb this];rfl
 have hSD:(Builtin.unsafeSliceData_ #[120] 170 #[.slice (some ⟨g,0,none⟩) 0 0]).run Tryz.prog w.drew = .ok (.pointer (some ⟨w.drew.heap.size,0,none⟩)) (w.drew.alloc (.view ⟨g,0,none⟩ 5)) :=
  Lib.run_unsafeSliceData_zero w.drew _ _ 5 Tryz.underlying170 ⟨g,0,none⟩ 0 (5,cur.size) (by have hg':w.drew.heap[g]?=some (.cells cur 5 (0,0)):=hg;simp[World.shape?,hg'])
 have c2:(w.drew.alloc (.view ⟨g,0,none⟩ 5)).cell? ⟨b,1,none⟩=some (.slice (some ⟨g,0,none⟩) 0 0):=by
  have:(w.drew.alloc (.view ⟨g,0,none⟩ 5)).heap[b]?=_:=(Lib.alloc_old w.drew _ b hlt).trans hbk;rw[zb this];rfl
 have c3:(w.alloc (.view ⟨g,0,none⟩ 5)).drew.cell? ⟨b,1,none⟩=some (.slice (some ⟨g,0,none⟩) 0 0):=c2;have c0:w.cell? ⟨b,1,none⟩=some (.slice (some ⟨g,0,none⟩) 0 0):=c1;go_enter Tryz.func98,Tryz.ntmps98;go_wp2
 go_region
 all_goals (go_wp2;go_ret;exact⟨rfl,(Below.drew (Below.refl B w)).alloc hBw _⟩)
theorem qei(B b g cap:Nat)(p:Value)(w:World)(hc0:cap≠0)(hbk:w.heap[b]?=some (.cells #[p,.slice (some ⟨g,0,none⟩) 0 cap] 122 (0,0))) :
  Calls Tryz.prog 98 #[.pointer (some ⟨b,0,none⟩)] w fun e w'=>e = .returned (.string ⟨#[]⟩)/\Below B w w':=by
 have hUS:=ye
 have c1:w.drew.cell? ⟨b,1,none⟩=some (.slice (some ⟨g,0,none⟩) 0 cap):=by
  have:w.drew.heap[b]?=some (.cells #[p,.slice (some ⟨g,0,none⟩) 0 cap] 122 (0,0)):=hbk;rw[zb this];rfl
 have hSD:(Builtin.unsafeSliceData_ #[120] 170 #[.slice (some ⟨g,0,none⟩) 0 cap]).run Tryz.prog w.drew = .ok (.pointer (some ⟨g,0,none⟩)) w.drew :=
  Lib.run_unsafeSliceData_row _ _ _ _ _ _ hc0
 clear hc0;go_enter Tryz.func98,Tryz.ntmps98;go_wp2
 go_region
 all_goals (go_wp2;go_ret;exact⟨rfl,Below.drew (Below.refl B w)⟩)
theorem qfq(B b:Nat)(l:List UInt8)(w:World)(h:BdW B b l w)(hBw:B<=w.heap.size) :
  Calls Tryz.prog 98 #[.pointer (some ⟨b,0,none⟩)] w fun e w'=>e = .returned (S_ l)/\Below B w w':=by
 cases l with
 |cons x r=>exact qeh B b (x :: r) w h (by simp)
 |nil =>
  obtain⟨p,hB,v,hbk,hown,hne⟩:∃ p,Lib.BuilderAt 122 5 B b p [] w:=by
   rcases h with h|h
   ·exact⟨_,h⟩
   ·exact⟨_,h⟩
  rcases hown.2 with ⟨rfl,_⟩|⟨g,cap,cur,rfl,hbg,hg,_,_,_,_⟩
  ·exact qfp B b p w hbk
  ·by_cases hc0:cap=0
   ·subst hc0
    exact qaw B b g p cur w hBw hbk hg
   ·exact qei B b g cap p w hc0 hbk
end Go.Proofs.YtkckddojlignpaaGreatDoor
namespace Go.Proofs.YtkckddojlignpaaGreatDoor
open Go.RowKit
theorem q9i{k p:Int}{s:ByteArray}(h:xg ⟨k,s,p⟩=true):s.size<=64:=by
 unfold xg q3x at h
 cases hs:Lx.scan (bs s)with
 |bad i e=>rw[hs]at h;cases h
 |toks ts =>
  rw[hs]at h;simp only at h;have hb:=q7q hs
  match ts,h,hb with
  |[],h,_=>simp[yc]at h
  |[t],h,hb =>
   simp only[List.map_cons,List.map_nil,yc,wu]at h;have h1:=(hb t (by simp)).1;simp only[qd,beq_iff_eq]at h
   have h2:t.text.length=s.size:=by
    have:=h.1.2
    first|(rw[<-this];simp[ByteArray.size])|(have h3:=q3r this;rw[<-h3];simp[ByteArray.size])
   omega
  |t :: u :: r,h,_=>simp[yc]at h
theorem q0u{s:ByteArray}(h:qy s=true):s.size<=64:=q9i h
theorem q8v{s:ByteArray}(h:ww s=true):s.size<=64:=q9i h
theorem y9{s:ByteArray}(h:qu s=true):s.size<=64:=by
 unfold qu at h;rw[ByteArray.toList_eq]at h;have h2:s.data.toList=[]:=by simpa using h
 have:s.size=0:=by
  show s.data.size=0
  rw[<-Array.length_toList,h2];rfl
 omega
theorem kj:∀ {l:List Nd},(∀ x∈l,x.okP=true)->Nd.okL l=true
 |[],_=>by simp only[Nd.okL]
 |a :: l,h=>by
  simp only[Nd.okL,qd];exact⟨h a (by simp),kj fun x hx=>h x (by simp[hx])⟩
theorem q1u:∀ {l:List Nd},Nd.okL l=true->∀ x∈l,x.okP=true
 |a :: l,h,x,hx=>by
  simp only[Nd.okL,qd]at h;rcases List.mem_cons.1 hx with rfl|hx
  ·exact h.1
  ·exact q1u h.2 x hx
theorem kh:∀ {l:List Nd} {x:Nd},x∈l->x.sz<=Nd.szL l
 |a :: l,x,hx=>by
  simp only[Nd.szL];rcases List.mem_cons.1 hx with rfl|hx
  ·omega
  ·have:=kh hx;omega
theorem q1s:∀ {l:List Nd},yo l=true->∀ x∈l,zj x=true
 |a :: l,h,x,hx=>by
  simp only[yo,qd]at h;rcases List.mem_cons.1 hx with rfl|hx
  ·exact h.1
  ·exact q1s h.2 x hx
theorem q15:∀ {l:List Nd},q07 l=true->∀ x∈l,zh x=true
 |a :: l,h,x,hx=>by
  simp only[q07,qd]at h;rcases List.mem_cons.1 hx with rfl|hx
  ·exact h.1
  ·exact q15 h.2 x hx
theorem yj:∀ {l:List Nd},xy l=true->∀ x∈l,qn x=true
 |a :: l,h,x,hx=>by
  simp only[xy,qd]at h;rcases List.mem_cons.1 hx with rfl|hx
  ·exact h.1
  ·exact yj h.2 x hx
theorem q1i{k:Int}{s:ByteArray}{l:List Nd}(h1:jv k l.length=true)(h2:s.size<=64)(h3:Nd.okL l=true):(Nd.mk k s l).okP=true:=by
 simp only[Nd.okP,qd,qf];exact⟨h1,h2,h3⟩
theorem q3v:∀ (N:Nat) (t:Nd),t.sz<=N->zj t=true->t.okP=true:=by
 intro N
 induction N with
 |zero=>rintro⟨k,s,l⟩ h;simp only[Nd.sz]at h;omega
 |succ N ih =>
  rintro⟨k,s,l⟩h ht;simp only[Nd.sz]at h;simp only[zj]at ht
  split at ht
  ·rename_i hk
   subst hk;simp only[qd,qf]at ht;exact q1i (by rw[ht.2.1];decide) (y9 ht.1) (kj fun x hx=>ih x (by have:=kh hx;omega) (q1s ht.2.2 x hx))
  ·simp only[qd,qf]at ht
   obtain⟨rfl,hl,hn⟩:=ht;have:l=[]:=List.eq_nil_of_length_eq_zero hl;subst this;exact q1i (by decide) (q0u hn) (by simp only[Nd.okL])
theorem qa1{s:ByteArray}{l:List Nd}(h:je s l=true):s.size<=64/\(l.length=1\/l.length=2)/\(l.length=2->wk l=true):=by
 simp only[je,qd,Bool.or_eq_true,qf]at h;refine⟨h.1.elim q0u q8v,h.2.imp id (·.1),fun e=>?_⟩;rcases h.2 with h2|h2
 ·omega
 ·exact h2.2
theorem qac:∀ (N:Nat) (t:Nd),t.sz<=N->zh t=true->t.okP=true:=by
 intro N
 induction N with
 |zero=>rintro⟨k,s,l⟩ h;simp only[Nd.sz]at h;omega
 |succ N ih =>
  rintro⟨k,s,l⟩h ht;simp only[Nd.sz]at h;simp only[zh]at ht
  split at ht
  ·rename_i hk
   subst hk;simp only[qd,qf]at ht;exact q1i rfl (q0u ht.1) (kj fun x hx=>ih x (by have:=kh hx;omega) (q15 ht.2.1 x hx))
  ·split at ht
   ·rename_i hk
    subst hk;simp only[qd,qf]at ht;exact q1i rfl (q8v ht.1) (kj fun x hx=>ih x (by have:=kh hx;omega) (q15 ht.2.1 x hx))
   ·simp only[qd,qf]at ht
    obtain⟨rfl,hb,he⟩:=ht;obtain⟨h1,h2,h3⟩:=qa1 hb;refine q1i (by rcases h2 with e|e <;> rw[e] <;> decide) h1 ?_
    match l,h2,h3,he,h with
    |[x],_,_,he,h =>
     simp only[wq,List.isEmpty_nil,if_true,Nd.szL]at he h;exact kj fun y hy=>by rw[List.mem_singleton.1 hy];exact ih x (by omega) he
    |[x,y],_,h3,he,h =>
     have hx:=h3 rfl;simp only[wk]at hx;simp only[wq,List.isEmpty_cons,List.isEmpty_nil,if_true,Nd.szL]at he h;refine kj fun z hz=>?_
     rcases List.mem_cons.1 hz with rfl|hz
     ·exact q3v _ z (q5 _) hx
     ·rw[List.mem_singleton.1 hz];exact ih y (by omega) (by simpa using he)
    |[],h2,_,_,_=>simp at h2
    |_ :: _ :: _ :: _,h2,_,_,_=>simp at h2
theorem qar:∀ (N:Nat) (t:Nd),t.sz<=N->qn t=true->t.okP=true:=by
 intro N
 induction N with
 |zero=>rintro⟨k,s,l⟩ h;simp only[Nd.sz]at h;omega
 |succ N ih =>
  rintro⟨k,s,l⟩h ht;simp only[Nd.sz]at h;simp only[qn]at ht
  split at ht
  ·exact qac _ _ (q5 _) ht
  ·split at ht
   ·rename_i _ hk
    simp only[qd]at ht;obtain⟨hb,he⟩:=ht;obtain⟨h1,h2,h3⟩:=qa1 hb;refine q1i (by rcases hk with rfl|rfl <;> rcases h2 with e|e <;> rw[e] <;> decide) h1 ?_
    match l,h2,h3,he,h with
    |[x],_,_,he,h =>
     simp only[vr,List.isEmpty_nil,if_true,Nd.szL]at he h;exact kj fun y hy=>by rw[List.mem_singleton.1 hy];exact ih x (by omega) he
    |[x,y],_,h3,he,h =>
     have hx:=h3 rfl;simp only[wk]at hx;simp only[vr,List.isEmpty_cons,List.isEmpty_nil,if_true,Nd.szL]at he h;refine kj fun z hz=>?_
     rcases List.mem_cons.1 hz with rfl|hz
     ·exact q3v _ z (q5 _) hx
     ·rw[List.mem_singleton.1 hz];exact ih y (by omega) (by simpa using he)
    |[],h2,_,_,_=>simp at h2
    |_ :: _ :: _ :: _,h2,_,_,_=>simp at h2
   ·split at ht
    ·rename_i _ _ hk
     simp only[qd,qf]at ht;have:l=[]:=List.eq_nil_of_length_eq_zero ht.2;subst this;exact q1i (by rcases hk with rfl|rfl <;> decide) (y9 ht.1) (by simp only[Nd.okL])
    ·split at ht
     ·rename_i _ _ _ hk
      simp only[qd,qf]at ht;exact q1i (by rw[ht.2.1];rcases hk with rfl|rfl <;> decide) (y9 ht.1) (kj fun x hx=>ih x (by have:=kh hx;omega) (yj ht.2.2 x hx))
     ·simp only[qd,qf,yu]at ht
      have hk:=ht.1
      exact q1i   (by rw [ht.2.2.1]; have : k = 22 \/ k = 23 \/ k = 24 \/ k = 25 \/ k = 26 \/ k = 27 \/ k = 28 := by omega
                      rcases this with rfl | rfl | rfl | rfl | rfl | rfl | rfl <;> decide) (y9          ht.2.1) (kj      fun x hx => ih x (by have := kh      hx; omega) (yj        ht.2.2.2 x hx))
def Nd.okI:Nd->Prop| .mk k s l=>s.size<=64/\ql3 k l.length/\Nd.okL l=true
theorem qgc{t:Nd}(h:xa t=true):t.okP=true:=by
 obtain⟨k,s,l⟩:=t;simp only[xa,qd,qf]at h;obtain⟨rfl,hl,hn⟩:=h;have:l=[]:=List.eq_nil_of_length_eq_zero hl;subst this;exact q1i (by decide) (q0u hn) (by simp only[Nd.okL])
theorem qp0{t:Nd}(h:vq t=true):t.okP=true:=by
 obtain⟨k,s,l⟩:=t;simp only[vq,qd,Bool.or_eq_true,qf]at h;obtain⟨rfl,hl,hn⟩:=h;have:l=[]:=List.eq_nil_of_length_eq_zero hl;subst this;exact q1i (by decide) (by rcases hn with rfl|rfl|rfl <;> decide) (by simp only[Nd.okL])
theorem qal{l:List Nd}(h:∀ i (hi:i < l.length),(l[i]).okP=true):Nd.okL l=true:=kj fun x hx=>by
 obtain⟨i,hi,rfl⟩:=List.getElem_of_mem hx;exact h i hi
theorem qap{t:Nd}(h:itemB t=true):t.okI:=by
 obtain⟨k,s,l⟩:=t;simp only[itemB]at h
 split at h
 ·rename_i hk
  simp only[qd,qf]at h;exact⟨y9 h.1,fun e=>by omega,qal fun i hi=>qgc ((q18 l).1 h.2.2 i hi)⟩
 ·split at h
  ·simp only[qd,qf]at h
   refine⟨y9 h.1,fun e=>by omega,qal fun i hi=>?_⟩
   by_cases he:i=l.length - 1
   ·subst he
    have h9:=h.2.2.2;rw[q31 (by omega)]at h9;exact q3v _ _ (q5 _) h9
   ·have:=(q18 _).1 h.2.2.1 i (by rw[List.length_take];omega)
    rw[List.getElem_take]at this;exact qgc this
  ·simp only[qd]at h
   have hs:=q0u h.1
   split at h
   ·simp only[qd]at h
    exact⟨hs,fun e=>by omega,kj fun x hx=>q3v _ x (q5 _) (q1s h.2.1 x hx)⟩
   ·split at h
    ·simp only[qd]at h
     exact⟨hs,fun e=>by omega,qal fun i hi=>qp0 ((q19 l).1 h.2.1 i hi)⟩
    ·split at h
     ·simp only[qd,qf]at h
      exact⟨hs,fun e=>by omega,kj fun x hx=>qar _ x (q5 _) (yj h.2.2 x hx)⟩
     ·split at h
      ·simp only[qf]at h
       have:l=[]:=List.eq_nil_of_length_eq_zero h.2;subst this;exact⟨hs,fun e=>by omega,by simp only[Nd.okL]⟩
      ·simp at h
def Nd.okW:Nd->Prop| .mk k s l=>if k=1 then ∀ x∈l,x.okI else if itemB (.mk k s l)=true then(Nd.mk k s l).okI else(Nd.mk k s l).okP=true
theorem q4d{t:Nd}(h:xv t=0):t.okW/\t.sz<=4000:=by
 unfold xv at h
 split at h
 ·cases h
 ·split at h
  ·cases h
  ·split at h
   ·rename_i h1 _ hv
    refine⟨?_,by omega⟩;obtain⟨k,s,l⟩:=t;simp only[Bool.or_eq_true]at hv
    show if k=1 then ∀ x∈l,x.okI else if itemB (.mk k s l)=true then(Nd.mk k s l).okI else(Nd.mk k s l).okP=true
    have hp:zj (.mk k s l)=true\/zh (.mk k s l)=true\/qn (.mk k s l)=true->(Nd.mk k s l).okP=true:=by
     rintro(h|h|h)
     ·exact q3v _ _ (q5 _) h
     ·exact qac _ _ (q5 _) h
     ·exact qar _ _ (q5 _) h
    by_cases hk:k=1
    ·subst hk
     rw[qa rfl];rcases hv with h|h|h|h|h
     ·have:=hp (.inl h);simp[Nd.okP,jv]at this
     ·have:=hp (.inr (.inl h));simp[Nd.okP,jv]at this
     ·have:=hp (.inr (.inr h));simp[Nd.okP,jv]at this
     ·simp[itemB]at h
     ·simp only[xq,qd]at h
      intro x hx;obtain⟨i,hi,rfl⟩:=List.getElem_of_mem hx;exact qap ((vy l).1 h.2.2 i hi)
    ·rw[q7 hk]
     split
     ·rename_i h;exact qap h
     ·rename_i hi
      rcases hv with h|h|h|h|h
      ·exact hp (.inl h)
      ·exact hp (.inr (.inl h))
      ·exact hp (.inr (.inr h))
      ·exact absurd h hi
      ·simp only[xq,qd,qf]at h
       exact absurd h.1 hk
   ·cases h
def Nd.whl:Nd->Tx| .mk k s l=>if k=1 then l.flatMap fun x=>x.itm++[10] else if itemB (.mk k s l)=true then(Nd.mk k s l).itm else(Nd.mk k s l).txt 0 false
theorem qbs(k:Int):∀ l:List (List UInt8×Int),(∀ o∈l,o.1.length<=8)->(q3o k l).length<=8
 |[],_=>by simp[q3o]
 |o :: l,h=>by
  simp only[q3o]
  split
  ·exact h o (by simp)
  ·exact qbs k l fun o ho=>h o (by simp[ho])
theorem q9d(k:Int):(zq k).length<=8:=qbs k _ (by decide)
theorem qhp(k:Int):(yz k).length<=2:=by
 unfold yz
 split
 ·rename_i sg bd h
  unfold q0z opsL at h;simp only[q1k]at h
  repeat' split at h
  all_goals first|(cases h;decide)|cases h
 ·simp
theorem qma(k:Int)(f:Bool->Tx)(n:Nat)(h:∀ m,(f m).length<=n)(bind:Nat)(more:Bool):(qab k f bind more).length<=n+2:=by
 unfold qab
 split
 ·have:=h false
  simp;omega
 ·have:=h more
  omega
theorem qft{t:Nd}(h:∀ m,(t.bare m).length+10<=100*t.sz)(bind:Nat)(more:Bool):(t.txt bind more).length+8<=100*t.sz:=by
 have h0:=h false;have:=qma t.kd t.bare (100*t.sz - 10) (fun m=>by have:=h m;omega) bind more;unfold Nd.txt;omega
theorem qfw{l:List Nd}(F:Nd->Tx)(h:∀ x∈l,(F x).length<=100*x.sz):(l.flatMap F).length<=100*Nd.szL l:=by
 induction l with
 |nil=>simp
 |cons a l ih =>
  have h1:=h a (by simp);have h2:=ih fun x hx=>h x (by simp[hx])
  simp only[List.flatMap_cons,qc,Nd.szL];omega
theorem qpv{t:Nd}(ho:t.okP=true)(h:∀ m,(t.bare m).length+10<=100*t.sz):t.arg.length+8<=100*t.sz:=by
 have h0:=h false;obtain⟨k,s,l⟩:=t;unfold Nd.arg qax;simp only[Nd.okP,qd,qf]at ho;have h1:1<=(Nd.mk k s l).sz:=by simp only[Nd.sz];omega
 simp only
 split
 ·simp
  omega
 ·rw[qr]
  omega
theorem q12{l:List Nd}(h:∀ x∈l,∀ m,(x.bare m).length+10<=100*x.sz)(i:Nat)(hi:i < l.length)(bind:Nat)(more:Bool):(q1w l (Nd.bareL l) i bind more).length+8<=100*(l[i]).sz:=by
 rw[q1d hi];exact qft (h _ (List.getElem_mem hi)) bind more
theorem qnx:∀ (N:Nat) (t:Nd),t.sz<=N->t.okP=true->∀ m,(t.bare m).length+10<=100*t.sz:=by
 intro N
 induction N with
 |zero=>rintro⟨k,s,l⟩ h;simp only[Nd.sz]at h;omega
 |succ N ih =>
  rintro⟨k,s,l⟩h ho m;simp only[Nd.okP,qd,qf]at ho;obtain⟨h1,h2,h3⟩:=ho;simp only[Nd.sz]at h ⊢;have hk:∀ x∈l,∀ m,(x.bare m).length+10<=100*x.sz:=fun x hx=>ih x (by have:=kh hx;omega) (q1u h3 x hx)
  have hsb:(bs s).length<=64:=by rw[qr];exact h2
  have how:=q9d k;have hsg:=qhp k
  by_cases h15:k=15\/k=16
  ·rw[q73 h15]
   have:=qfw (l:=l) (fun x=>32 :: x.arg) (fun x hx=>by have:=qpv (q1u h3 x hx) (hk x hx);simp only[qi];omega);rw[qc];omega
  ·simp only[Nd.bare,qa2]
   rw[q7 h15]
   by_cases hb:17<=k/\k<=19
   ·have h12:l.length=1\/l.length=2:=by
     have:k=17\/k=18\/k=19:=by omega
     rcases this with rfl|rfl|rfl <;> simpa[jv]using h1
    have hbf:(kq s l (Nd.bareL l)).length<=72+100*Nd.szL l:=by
     unfold kq;rcases h12 with e|e
     ·match l,e with
      |[x],_ =>
       have h0:=q12 hk 0 (by simp) 0 false;simp only[List.length_singleton,Nat.sub_self,qc,Nd.szL,zo]at h0 ⊢;rw[q7 (by omega)];simp;omega
     ·match l,e with
      |[x,y],_ =>
       have h0:=q12 hk 0 (by simp) 6 false;have h9:=q12 hk 1 (by simp) 0 false;simp only[qi,qo,Nat.zero_add,Nat.reduceAdd,qc,Nd.szL,zo,zy]at h0 h9 ⊢;rw[qa (by omega)];simp;omega
    split
    ·rw[qc];omega
    ·rw[qa (by omega),qc,qc]
     simp;omega
   ·rw[q7 (by omega),q7 (by omega)]
    split
    ·omega
    ·split
     ·rename_i _ hk29
      subst hk29;have:1<=l.length:=by simpa[jv]using h1
      have h0:=q12 hk 0 (by omega) 5 m;have h9:=q3w l 0 (by omega);rw[qc];omega
     ·split
      ·rename_i _ _ hk30
       subst hk30;have:1<=l.length:=by simpa[jv]using h1
       have h0:=q12 hk 0 (by omega) 0 false;have h9:=q3w l 0 (by omega);rw[qc,qc];simp;omega
      ·rename_i m20 m29 m30
       have hl2:2<=l.length:=by
        simp only[jv,decide_eq_false (fun e=>h15 (.inl e)),decide_eq_false (fun e=>h15 (.inr e)),decide_eq_false (fun e=>m20 (.inl e)),decide_eq_false (fun e=>m20 (.inr e)),decide_eq_false m29,decide_eq_false m30,Bool.false_or,Bool.or_eq_true,qd,qf,Bool.false_and]at h1;omega
       match l,hl2 with
       |x :: y :: r,_ =>
        have h0:=q12 hk 0 (by simp) (q0i (xe k)) true;have h9:=q12 hk 1 (by simp) (vg (xe k)) m;simp only[Nd.szL,qc,zo,zy,qi,qo]at h0 h9 ⊢;omega
theorem q4w{t:Nd}(ho:t.okP=true)(bind:Nat)(more:Bool):(t.txt bind more).length+8<=100*t.sz:=qft (qnx _ t (q5 _) ho) bind more
theorem q8l:∀ {l:List Nd} (f:Bool),Nd.okL l=true->(jf l f).length<=66*Nd.szL l
 |[],f,_=>by simp[jf]
 |⟨k,s,kl⟩ :: l,f,h=>by
  simp only[Nd.okL,qd,Nd.okP,qf]at h;have:=q8l false h.2;simp only[jf,Nd.nm,qc,Nd.szL,Nd.sz];have h2:(if f=true then([]:Tx) else [44,32]).length<=2:=by split <;> simp
  rw[qr];omega
theorem qn1{l:List Nd}(h:Nd.okL l=true)(n:Nat):Nd.okL (l.take n)=true:=kj fun x hx=>q1u h x (List.mem_of_mem_take hx)
theorem qgd{t:Nd}(h:t.okI):t.itm.length<=100*t.sz:=by
 obtain⟨k,s,l⟩:=t;obtain⟨h1,h2,h3⟩:=h;have how:=q9d k
 have hb:(x4 k l).length<=100*Nd.szL l+10:=by
  unfold x4
  split
  ·have:=q8l true h3;omega
  ·split
   ·rename_i hk
    have hl:=h2 (.inl hk);have e:l.length - 1 < l.length:=by omega
    have h4:=q8l true (qn1 h3 (l.length - 1));have h5:=q4w (q1u h3 _ (List.getElem_mem e)) 6 false;have h6:=qcp l (l.length - 1) e;rw[qt (by omega)]at h6;rw[q0j e];simp only[qc,qi,qo];omega
   ·split
    ·have:=qfw (l:=l) (fun x=>32 :: x.txt 7 false) (fun x hx=>by have:=q4w (q1u h3 x hx) 7 false;simp only[qi];omega)
     omega
    ·split
     ·rename_i hk
      have hl:=h2 (by omega);have h5:=q4w (q1u h3 _ (List.getElem_mem (show 0 < l.length by omega))) 0 false;have h6:=q3w l 0 (by omega);rw[q0j (by omega)];simp only[qc,qi,qo];omega
     ·simp
 simp only[Nd.itm,qc,qi,qo,qr,Nd.sz];omega
theorem qa9{t:Nd}(h:t.okW):t.whl.length<=200*t.sz:=by
 obtain⟨k,s,l⟩:=t;unfold Nd.whl;have h':if k=1 then ∀ x∈l,x.okI else if itemB (.mk k s l)=true then(Nd.mk k s l).okI else(Nd.mk k s l).okP=true:=h
 simp only
 split
 ·rename_i hk
  rw[qa hk]at h'
  have:∀ l:List Nd,(∀ x∈l,x.okI)->(l.flatMap fun x=>x.itm++[10]).length<=200*Nd.szL l:=by
   intro l
   induction l with
   |nil=>simp
   |cons a l ih =>
    intro hl;have h1:=qgd (hl a (by simp));have h2:=ih fun x hx=>hl x (by simp[hx])
    have h3:1<=a.sz:=by obtain⟨k,s,l⟩:=a;simp only[Nd.sz];omega
    simp only[List.flatMap_cons,qc,Nd.szL,qi,qo];omega
  have:=this l h';simp only[Nd.sz];omega
 ·rename_i hk
  rw[q7 hk]at h'
  split
  ·rename_i hi
   rw[qa hi]at h';have:=qgd h';omega
  ·rename_i hi
   rw[q7 hi]at h';have:=q4w h' 0 false;omega
theorem qge{w0:World}{b:Nat}{t:Nd}(h:t.okI)(v0 v1 v2:Value)(l:Tx)(w:World)(ht:NdR w0 t v0 v1 v2)(hp:PrI w0 b l w)(hlen:l.length+t.itm.length<=100000000) :
  Calls Tryz.prog 156 #[.pointer (some ⟨b,0,none⟩),.agg #[v0,v1,v2]] w (PrO w0 b l w t.itm):=by
 obtain⟨k,s,kl⟩:=t;exact ql2 k s kl h.2.1 (fun i hi=>qbf _ (qam h.2.2 i hi)) v0 v1 v2 l w ht hp hlen
theorem qgw{w0:World}{b:Nat}(t:Nd)(hok:t.okW)(v0 v1 v2:Value)(l:Tx)(w:World)(ht:NdR w0 t v0 v1 v2)(hp:PrI w0 b l w)
  (hlen:l.length+t.whl.length<=100000000):Calls Tryz.prog 97 #[.pointer (some ⟨b,0,none⟩),.agg #[v0,v1,v2]] w (PrO w0 b l w t.whl):=by
 obtain⟨k,s,kl⟩:=t;obtain⟨_,_,_,a,cap,hform,rfl,rfl,rfl,hs,hl⟩:=ht.form
 cases hform;obtain⟨L,hL⟩:∃ L,kl.length=L:=⟨_,rfl⟩;rw[hL]at ht hl;rw[hL];obtain⟨W,hW⟩:∃ W,w.alloc (.cells #[.int .i64 k,.string s,.slice a L cap] 25)=W:=⟨_,rfl⟩;have R0':Row3 W w.heap.size (.int .i64 k) (.string s) (.slice a L cap):=by rw[<-hW];exact Row3.new _ _ _ _
 have P0:=qh (hW▸hp.alloc (.cells #[.int .i64 k,.string s,.slice a L cap] 25));have K0:=qh (hW▸(Wr.refl w0.heap.size b w).alloc hp.size (.cells #[.int .i64 k,.string s,.slice a L cap] 25));have hne:w.heap.size≠b:=by have:=hp.p.lt;omega
 have HN:=qh ht;have HL:=qh hlen;unfold maxLen at hl;obtain⟨T,hT⟩:∃ T,(Nd.mk k s kl).whl=T:=⟨_,rfl⟩;rw[hT]at HL hlen;rw[hT];have HW:=qh hW;have R0:=qh R0';have HLL:=qh hL;clear hW R0' hp;have hok':if k=1 then ∀ x∈kl,x.okI else if itemB (.mk k s kl)=true then(Nd.mk k s kl).okI else(Nd.mk k s kl).okP=true:=hok
 by_cases hk:k=1
 ·subst hk
  rw[qa rfl]at hok';have hXE:T=kl.flatMap fun x=>x.itm++[10]:=hT.symm
  have HXE:=qh hXE;have HLen:=HL;rw[hXE]at HLen;have HK:=qh hok';clear hXE hT hlen hok hok' ht hL;obtain⟨⟨n0,n1,n2⟩,_⟩:=R0.out.cells;go_enter Tryz.func97,Tryz.ntmps97
  go_upto_region 1 with fail
  rw[HW.out];go_wp2
  go_loopw [16] (fun v wr=>∃ i:Nat,i<=L/\v = .int .i64 i/\Hid (PrI w0 b (l++(kl.take i).flatMap fun x=>x.itm++[10]) wr)/\Hid (Wr w0.heap.size b w wr)) (fun v _=>L - (intOf v).toNat)
  case atStart=>exact⟨0,qp _,rfl,qh (by simpa using P0.out),K0⟩
  case round =>
   obtain⟨i,hi,rfl,PI,KI⟩:=hrel
   by_cases hlt:i < L
   ·have hlt':(i:Int) < (L:Int):=by omega
    have hi0:(0:Int)<=(i:Int):=by omega
    have hik:i < kl.length:=by rw[HLL.out];exact hlt
    have hm1:(i:Int)+1<=(L:Int):=by omega
    obtain⟨bb,o,k1,s1,l1,a1,c1,rfl,e1,x0,x1,x2,r1⟩:=HN.out.kid i hik;have y0:=PI.out.cell x0;have y1:=PI.out.cell x1;have y2:=PI.out.cell x2;have yb:=qg y0
    have hG:(kl.take (i+1)).flatMap (fun x=>x.itm++[10])=(kl.take i).flatMap (fun x=>x.itm++[10])++((kl[i]).itm++[10]):=by
     rw[qw hik,qx];simp
    have hGl:((kl.take (i+1)).flatMap (fun x=>x.itm++[10])).length<=(kl.flatMap (fun x=>x.itm++[10])).length:=by
     conv=>rhs;rw[<-List.take_append_drop (i+1) kl]
     rw[qx,qc];omega
    have hlen3:=HLen.out;rw[hG]at hGl;simp only[qc,qi,qo]at hGl;generalize hU:(kl.take i).flatMap (fun x=>x.itm++[10])=U at *;have hki:(kl[i]).okI:=HK.out _ (List.getElem_mem hik);obtain⟨A,hA⟩:∃ A,(kl[i]).itm=A:=⟨_,rfl⟩;rw[hA]at hG hGl;have HG:=qh hG;have CP:=qh (fun w' (h:PrI w0 b ((l++U)++A) w') n (hn:n=w'.heap.size)=>xr h n hn ⟨#[10]⟩ (by have h1:(bs ⟨#[10]⟩).length=1:=rfl;simp only[qc];omega))
    have CA:Hid (∀ w',PrI w0 b (l++U) w'->Calls Tryz.prog 156 #[.pointer (some ⟨b,0,none⟩),.agg #[.int .i64 k1,.string s1,.slice a1 l1.length c1]] w' (PrO w0 b (l++U) w' A)):=qh (fun w' h=>by
     have hl9:List.length (l++U)+A.length<=100000000:=by simp only[qc];omega
     rw[<-hA]at hl9 ⊢
     exact qge hki _ _ _ _ w' (e1▸r1) h hl9)
    have PN:=qh (PI.out.alloc (.cells #[.int .i64 k1,.string s1,.slice a1 l1.length c1] 25));have KN:=qh (KI.out.alloc PI.out.size (.cells #[.int .i64 k1,.string s1,.slice a1 l1.length c1] 25));have hnn:wr.heap.size≠b:=by have:=PI.out.p.lt;omega
    clear hU hA hG hGl hlen3 x0 x1 x2 r1 e1 hik n0 n1 n2 hki
    go_wp2_with fail
    refine(CA.out _ PN.out).mono ?_;rintro e w5⟨rfl,pp,kk⟩;have P5:=qh pp;have K5:=qh (KN.out.trans kk);clear pp kk CA y0 y1 y2 yb
    go_wp2_with fail
    refine(CP.out _ P5.out _ (by first|rfl|simp only[q6])).mono ?_;rintro e w6⟨rfl,pp,kk⟩;have P6:Hid (PrI w0 b (l++(kl.take (i+1)).flatMap fun x=>x.itm++[10]) w6):=qh (by rw[HG.out];simpa only[qe,zr]using pp);have K6:=qh (K5.out.trans kk);clear pp kk CP;go_wp2;go_roundw
    case rel=>exact⟨i+1,hlt,by push_cast;rfl,P6,K6⟩
    case measure=>simp[intOf];omega
   ·have hlt':¬ ((i:Int) < (L:Int)):=by omega
    have hG:kl.take i=kl:=qt (by rw[HLL.out];omega);have P9:=qh (show PrI w0 b (l++T) wr by rw[HXE.out];have hh:=PI.out;rwa [hG]at hh);clear hG n0 n1 n2;go_wp2;go_end0;exact⟨rfl,P9.out,KI.out⟩
 ·have hk1:((k:Int)==1)=false:=by rw[q9];exact hk
  rw[q7 hk]at hok';obtain⟨V,hV⟩:∃ V,itemB (.mk k s kl)=V:=⟨_,rfl⟩;have CI:=qh (fun w' (h:PrI w0 b l w')=>q58 (.mk k s kl) w' _ _ _ (h.tree HN.out));rw[hV]at CI hok'
  cases V with
  |true =>
   rw[qa rfl]at hok';have hT2:(Nd.mk k s kl).itm=T:=by rw[<-hT,Nd.whl,q7 hk,qa hV]
   have C1:Hid (∀ w',PrI w0 b l w'->Calls Tryz.prog 156 #[.pointer (some ⟨b,0,none⟩),.agg #[.int .i64 k,.string s,.slice a L cap]] w' (PrO w0 b l w' T)):=qh (fun w' h=>by
    rw[<-hT2]at hlen ⊢
    exact qge hok' _ _ _ _ w' HN.out h hlen)
   clear hT hT2 hlen hok hok' ht hL hV hk HL;obtain⟨⟨n0,n1,n2⟩,_⟩:=R0.out.cells;go_enter Tryz.func97,Tryz.ntmps97
   go_upto_region 1 with fail
   rw[HW.out]
   go_wp2_with fail
   refine(CI.out _ P0.out).mono ?_;rintro e w1⟨rfl,bb⟩;have P1:=qh (P0.out.later bb);have K1:=qh (K0.out.later bb P0.out.size);have R1:=qh (R0.out.below bb R0.out.lt);clear bb CI n0 n1 n2;obtain⟨⟨n0,n1,n2⟩,_⟩:=R1.out.cells
   go_wp2_with fail
   refine(C1.out _ P1.out).mono ?_;rintro e w2⟨rfl,pp,kk⟩;have P2:=qh pp;have K2:=qh (K1.out.trans kk);have R2:=qh (kk.row3 R1.out hne);clear pp kk C1 n0 n1 n2;go_wp2;go_end0;exact⟨rfl,P2.out,K2.out⟩
  |false =>
   rw[q7 (by decide)]at hok';have hT2:(Nd.mk k s kl).txt 0 false=T:=by rw[<-hT,Nd.whl,q7 hk,q7 (by rw[hV];decide)]
   have C1:Hid (∀ (z:Int),z=((0:Nat):Int)->∀ w',PrI w0 b l w'->Calls Tryz.prog 158 #[.pointer (some ⟨b,0,none⟩),.agg #[.int .i64 k,.string s,.slice a L cap],.int .i64 z,.bool false] w' (PrO w0 b l w' T)):=qh (fun z hz w' h=>by
    subst hz;rw[<-hT2]at hlen ⊢
    exact qbf _ hok' _ _ _ 0 false _ w' (by decide) HN.out h hlen)
   clear hT hT2 hlen hok hok' ht hL hV hk HL;obtain⟨⟨n0,n1,n2⟩,_⟩:=R0.out.cells;go_enter Tryz.func97,Tryz.ntmps97
   go_upto_region 1 with fail
   rw[HW.out]
   go_wp2_with fail
   refine(CI.out _ P0.out).mono ?_;rintro e w1⟨rfl,bb⟩;have P1:=qh (P0.out.later bb);have K1:=qh (K0.out.later bb P0.out.size);have R1:=qh (R0.out.below bb R0.out.lt);clear bb CI n0 n1 n2;obtain⟨⟨n0,n1,n2⟩,_⟩:=R1.out.cells
   go_wp2_with fail
   refine(C1.out _ (by first|rfl|(push_cast;rfl)) _ P1.out).mono ?_;rintro e w2⟨rfl,pp,kk⟩;have P2:=qh pp;have K2:=qh (K1.out.trans kk);have R2:=qh (kk.row3 R1.out hne);clear pp kk C1 n0 n1 n2;go_wp2;go_end0;exact⟨rfl,P2.out,K2.out⟩
theorem qrm(w:World)(b:Nat)(hb:b=w.heap.size):PrW b b [] (w.alloc (.cells #[.pointer none,.slice none 0 0] 124)):=by
 subst hb;exact .inl ⟨q5 _,_,qm w _,World.ownsRow_nil _ _ _ _,by simp[Value.ownBlock]⟩
theorem q5w(t:Nd)(hv:xv t=0)(v0 v1 v2:Value)(w:World)(ht:NdR w t v0 v1 v2)(hg:GLw w)(h2:2<=w.heap.size) :
  Calls Tryz.prog 47 #[.agg #[v0,v1,v2]] w fun e w'=>e = .returned (S_ t.whl)/\Below w.heap.size w w':=by
 obtain⟨hok,hsz⟩:=q4d hv;have hlen:=qa9 hok;obtain⟨k,s,kl,a,cap,rfl,rfl,rfl,rfl,hs,hl⟩:=ht.form;obtain⟨W,hW⟩:∃ W,w.alloc (.cells #[.int .i64 k,.string s,.slice a kl.length cap] 25)=W:=⟨_,rfl⟩;have hb0:=(Below.refl w.heap.size w).alloc (q5 _) (.cells #[.int .i64 k,.string s,.slice a kl.length cap] 25);have hsW:W.heap.size=w.heap.size+1:=by rw[<-hW];simp
 have R0:Row3 W w.heap.size (.int .i64 k) (.string s) (.slice a kl.length cap):=by rw[<-hW];exact Row3.new _ _ _ _
 rw[hW]at hb0;have gW:=hg.keep fun b hb hl=>hb0.block b hl
 have tW:=ht.later hb0;have hp0:PrI W W.heap.size [] (W.alloc (.cells #[.pointer none,.slice none 0 0] 124)):=⟨qrm W _ rfl,(Below.refl W.heap.size W).alloc (q5 _) _,gW,by omega⟩;obtain⟨T,hT⟩:∃ T,(Nd.mk k s kl).whl=T:=⟨_,rfl⟩
 have CW:Hid (∀ (z:Nat),z=W.heap.size->Calls Tryz.prog 97 #[.pointer (some ⟨z,0,none⟩),.agg #[.int .i64 k,.string s,.slice a kl.length cap]] (W.alloc (.cells #[.pointer none,.slice none 0 0] 124)) (PrO W W.heap.size [] (W.alloc (.cells #[.pointer none,.slice none 0 0] 124)) T)):=qh (fun z hz=>by
  subst hz;rw[<-hT]
  exact qgw (.mk k s kl) hok _ _ _ [] _ tW hp0 (by simp only[qo];omega))
 rw[hT];have HB:=qh hb0;have HW:=qh hW;have R1:=qh (R0.alloc (.cells #[.pointer none,.slice none 0 0] 124));obtain⟨⟨n0,n1,n2⟩,_⟩:=R1.out.cells;have HS:=qh hsW;have HP0:=qh hp0;obtain⟨B,hB⟩:∃ B,W.heap.size=B:=⟨_,rfl⟩;have HBs:=qh hB;clear hT hlen hok hv ht hg hW hb0 gW tW hp0 R0 hsW hsz hB;go_enter Tryz.func47,Tryz.ntmps47
 go_upto_region 1 with fail
 rw[HW.out]
 go_wp2_with fail
 refine(CW.out _ (by first|rfl|simp only[q6])).mono ?_;rintro e w5⟨rfl,pp,kk⟩;have P5:=qh pp;rw[List.nil_append]at P5;have CS:=qh (qf1 W.heap.size W.heap.size T w5 P5.out.p P5.out.size)
 obtain⟨z0,hz0⟩:∃ v,w5.cell? ⟨W.heap.size,0,none⟩=some v:=by
  rcases P5.out.p with h|h <;> exact⟨_,h.cell0⟩
 clear pp kk CW n0 n1 n2
 go_wp2_with fail
 refine CS.out.mono ?_;rintro e w6⟨rfl,hb⟩;unfold S_;go_wp2;go_ret;exact⟨rfl,HB.out.trans ((P5.out.bl.trans hb).mono (by have:=HS.out;omega))⟩
theorem q7y(s:ByteArray)(w:World)(hs:s.size<=maxLen) :
  Calls Tryz.prog 46 #[.string s] w fun e w'=>e = .returned (match Lx.scan (bs s)with| .toks _=>.tuple #[.string s,.int .i64 0]| .bad _ _=>.tuple #[.string ⟨#[]⟩,.int .i64 2])/\Below w.heap.size w w':=by
 cases hl:Lx.scan (bs s)with
 |bad i er =>
  have C:=qh (q93 s i er hl w hs)
  have her:((er:Int) != 0)=true:=by
   have:=qcy hl;rw[bne_iff_ne];omega
  clear hl;go_enter Tryz.func46,Tryz.ntmps46
  go_wp2_with fail
  refine C.out.mono ?_;rintro e w1⟨rfl,hb⟩;have HB:=qh hb;clear hb C;go_wp2;go_ret2;exact⟨rfl,HB.out⟩
 |toks ts =>
  have C:=qh (q86 s w hs);unfold q7d at C;rw[hl]at C;clear hl;go_enter Tryz.func46,Tryz.ntmps46
  go_wp2_with fail
  refine C.out.mono ?_;rintro e w1⟨hb,v,rfl,_⟩;have HB:=qh hb;clear hb C;go_wp2;go_ret2;exact⟨rfl,HB.out⟩
def zx(t:Nd):Tx×Int:=if xv t=0 then(match Lx.scan t.whl with| .toks _=>(t.whl,0)| .bad _ _=>([],2)) else([],xv t)
theorem q2m(t:Nd)(v0 v1 v2:Value)(w:World)(ht:NdR w t v0 v1 v2)(hg:GLw w)(h2:2<=w.heap.size) :
  Calls Tryz.prog 18 #[.agg #[v0,v1,v2]] w fun e w'=>e = .returned (.tuple #[S_ (zx t).1,.int .i64 (zx t).2])/\Below w.heap.size w w':=by
 obtain⟨k,s,kl,a,cap,rfl,rfl,rfl,rfl,hs,hl⟩:=ht.form;obtain⟨W,hW⟩:∃ W,w.alloc (.cells #[.int .i64 k,.string s,.slice a kl.length cap] 25)=W:=⟨_,rfl⟩;have hb0:=(Below.refl w.heap.size w).alloc (q5 _) (.cells #[.int .i64 k,.string s,.slice a kl.length cap] 25);have R0:Row3 W w.heap.size (.int .i64 k) (.string s) (.slice a kl.length cap):=by rw[<-hW];exact Row3.new _ _ _ _
 rw[hW]at hb0;have gW:=hg.keep fun b hb hl=>hb0.block b hl
 have tW:=ht.later hb0;have hsW:W.heap.size=w.heap.size+1:=by rw[<-hW];simp
 have CC:=qh (q1n (.mk k s kl) W _ _ _ tW);obtain⟨c,hc⟩:∃ c,xv (.mk k s kl)=c:=⟨_,rfl⟩;obtain⟨r,hr⟩:∃ r,zx (.mk k s kl)=r:=⟨_,rfl⟩;rw[hr];unfold zx at hr;rw[hc]at CC hr;have HB:=qh hb0;have HW:=qh hW;have HR:=qh R0;have HS:=qh hsW;have GW:=qh gW;have TW:=qh tW
 by_cases h0:c=0
 ·subst h0
  rw[qa rfl]at hr;obtain⟨hok,hsz⟩:=q4d hc;have hlen:=qa9 hok;have CP:=qh (fun w' (hb:Below W.heap.size W w')=>q5w (.mk k s kl) hc _ _ _ w' (TW.out.later hb) (GW.out.keep fun b h1 h3=>hb.block b h3) (by have:=hb.size;have:=HS.out;omega));obtain⟨T,hT⟩:∃ T,(Nd.mk k s kl).whl=T:=⟨_,rfl⟩;rw[hT]at CP hr hlen;have CL:=qh (fun w'=>q7y ⟨T.toArray⟩ w' (by show T.toArray.size<=maxLen;unfold maxLen;simp;omega))
  have hq:∃ q,(match Lx.scan (bs ⟨T.toArray⟩)with| .toks _=>Value.tuple #[.string ⟨T.toArray⟩,.int .i64 0]| .bad _ _=>.tuple #[.string ⟨#[]⟩,.int .i64 2]) = .tuple #[.string ⟨r.1.toArray⟩,.int .i64 r.2]:=⟨0,by
   rw[<-hr,zr]
   cases Lx.scan T <;> rfl⟩
  obtain⟨_,hq⟩:=hq;simp only[hq]at CL;obtain⟨⟨n0,n1,n2⟩,_⟩:=R0.cells;unfold S_ at CP;unfold S_;obtain⟨r1,r2⟩:=r;simp only at CL ⊢;clear hT hlen hok hc hr ht hg hW hb0 gW tW R0 hsW hsz hq;go_enter Tryz.func18,Tryz.ntmps18
  go_upto_region 1 with fail
  rw[HW.out]
  go_wp2_with fail
  refine CC.out.mono ?_;rintro e w1⟨rfl,hb⟩;have B1:=qh hb;have R1:=qh (HR.out.below hb HR.out.lt);clear hb CC n0 n1 n2;obtain⟨⟨n0,n1,n2⟩,_⟩:=R1.out.cells
  go_wp2_with fail
  refine(CP.out _ B1.out).mono ?_;rintro e w2⟨rfl,hb⟩;have B2:=qh (B1.out.trans (hb.mono B1.out.size));clear hb CP n0 n1 n2
  go_wp2_with fail
  refine(CL.out _).mono ?_;rintro e w3⟨rfl,hb⟩;have B3:=qh (B2.out.trans (hb.mono B2.out.size));clear hb CL;go_wp2;go_ret2;exact⟨rfl,HB.out.trans (B3.out.mono (by have:=HS.out;omega))⟩
 ·rw[q7 h0]at hr
  have hc0:((c:Int)==0)=false:=by rw[q9];exact h0
  have hc1:((c:Int) != 0)=true:=by rw[bne_iff_ne];exact h0
  subst hr;obtain⟨⟨n0,n1,n2⟩,_⟩:=R0.cells;clear hc ht hg hW hb0 gW tW R0 hsW h0;go_enter Tryz.func18,Tryz.ntmps18
  go_upto_region 1 with fail
  rw[HW.out]
  go_wp2_with fail
  refine CC.out.mono ?_;rintro e w1⟨rfl,hb⟩;have B1:=qh hb;clear hb CC n0 n1 n2;go_wp2;go_ret2;exact⟨rfl,HB.out.trans (B1.out.mono (by have:=HS.out;omega))⟩
end Go.Proofs.YtkckddojlignpaaGreatDoor
namespace Go.Proofs.YtkckddojlignpaaGreatDoor
namespace Lx
theorem runLen_app(x s:Bs):runLen (x++s)=if runLen x=x.length then x.length+runLen s else runLen x:=by
 induction x with
 |nil=>simp[runLen]
 |cons c x ih =>
  rw[List.cons_append,runLen_cons,runLen_cons,ih]
  by_cases hp:part c=true
  ·simp only[qa hp,qi]
   by_cases h:runLen x=x.length
   ·rw[qa h,qa (by omega)];omega
   ·rw[q7 h,q7 (by omega)]
  ·simp only[q7 hp,qi]
   rw[q7 (by omega)]
theorem runLen_stop(x:Bs)(c:UInt8)(y:Bs):runLen (x++c :: y)=x.length↔(runLen x=x.length/\part c=false):=by
 rw[runLen_app,runLen_cons]
 by_cases h:runLen x=x.length
 ·rw[qa h]
  by_cases hp:part c=true
  ·rw[qa hp];constructor
   ·intro e;omega
   ·intro e;rw[hp]at e;simp at e
  ·rw[q7 hp];simp[h,hp]
 ·rw[q7 h];simp[h]
theorem nameLen_stop(x:Bs)(c:UInt8)(y:Bs)(hc:c≠64):nameLen (x++c :: y)=x.length↔(nameLen x=x.length/\part c=false):=by
 have hle:=runLen_le x;have happ:=runLen_app x (c :: y)
 by_cases h:runLen x=x.length
 ·rw[qa h]at happ
  have hx:nameLen x=x.length:=by
   unfold nameLen;simp only[h];rw[q7 (by rw[List.getElem?_eq_none (q5 _)];simp)]
  by_cases hp:part c=true
  ·rw[runLen_cons,qa hp]at happ
   constructor
   ·intro e
    exfalso
    unfold nameLen at e;simp only[happ]at e
    split at e <;> omega
   ·intro e;rw[hp]at e;simp at e
  ·rw[runLen_cons,q7 hp,Nat.add_zero]at happ
   have:nameLen (x++c :: y)=x.length:=by
    unfold nameLen;simp only[happ];rw[q7];intro e;have e1:=e.1;rw[List.getElem?_append_right (q5 _),Nat.sub_self]at e1;simp only[List.getElem?_cons_zero,Option.some.injEq]at e1;exact hc e1
   simp[this,hx,hp]
 ·rw[q7 h]at happ
  have hlt:runLen x < x.length:=by omega
  have h0:(x++c :: y)[runLen x]?=x[runLen x]?:=List.getElem?_append_left hlt;unfold nameLen;simp only[happ,h0]
  by_cases h64:x[runLen x]?=some 64
  ·by_cases h1:runLen x+1 < x.length
   ·rw[List.getElem?_append_left h1]
    by_cases hs:(x[runLen x+1]?.map small)=some true
    ·rw[qa ⟨h64,hs⟩,qa ⟨h64,hs⟩,List.drop_append_of_le_length (by omega)]
     have:=runLen_stop (x.drop (runLen x+1)) c y;rw[List.length_drop]at this
     constructor
     ·intro e
      obtain⟨a,b⟩:=this.1 (by omega);exact⟨by omega,b⟩
     ·intro e
      have:=this.2 ⟨by omega,e.2⟩;omega
    ·rw[q7 (fun e=>hs e.2),q7 (fun e=>hs e.2)]
     simp[h]
   ·have e1:runLen x+1=x.length:=by omega
    rw[e1,List.getElem?_append_right (q5 _),Nat.sub_self,List.getElem?_eq_none (q5 x.length)];simp only[List.getElem?_cons_zero,Option.map_some,Option.map_none,reduceCtorEq,and_false,if_false,h,false_and,iff_false]
    split
    ·rename_i hs
     have hsm:small c=true:=by simpa using hs.2
     rw[show(x++c :: y).drop x.length=c :: y from List.drop_left,runLen_cons,qa (small_part hsm)];omega
    ·omega
  ·rw[q7 (fun e=>h64 e.1),q7 (fun e=>h64 e.1)]
   simp[h]
def stopC(x:Bs)(c:UInt8):Bool:=match x with
 |[]=>false
 |a :: _=>if small a then decide (x=[111,45])||(!part c && !(decide (x=[111]) && decide (c=45))) else if capital a then !part c else if signB a then true else !(decide (x=[45,111]) && part c)
theorem tokR_oo(w:Bs):tokR (111 :: 45 :: w)=some (3,2):=by
 have h1:runLen (111 :: 45 :: w)=1:=by rw[runLen_cons,runLen_cons];rfl
 have h2:nameLen (111 :: 45 :: w)=1:=by unfold nameLen;simp only[h1];rfl
 unfold tokR;simp only[h2];rfl
theorem tokR_small{a:UInt8}{x:Bs}(ha:small a=true)(k n:Nat)(hx:¬ ∃ w,a :: x=111 :: 45 :: w) :
  tokR (a :: x)=some (k,n)↔(nameLen (a :: x)=n/\k=if words.contains ((a :: x).take n) then 4 else 1):=by
 have hno:¬ ((a :: x).take (nameLen (a :: x))=[111]/\(a :: x)[nameLen (a :: x)]?=some 45):=by
  rintro⟨h1,h2⟩;apply hx;generalize nameLen (a :: x)=j at h1 h2
  cases j with
  |zero=>simp at h1
  |succ j =>
   simp only[List.take_succ_cons,List.cons.injEq]at h1;obtain⟨rfl,h3⟩:=h1
   cases x with
   |nil=>simp at h2
   |cons b x =>
    cases j with
    |zero=>simp at h2;subst h2;exact⟨x,rfl⟩
    |succ j=>simp at h3
 unfold tokR;simp only[List.getElem?_cons_zero,ha,if_true,q7 hno]
 constructor
 ·intro h
  split at h
  ·rename_i hw
   simp only[Option.some.injEq,Prod.mk.injEq]at h;obtain⟨rfl,rfl⟩:=h;exact⟨rfl,by rw[qa hw]⟩
  ·rename_i hw
   simp only[Option.some.injEq,Prod.mk.injEq]at h;obtain⟨rfl,rfl⟩:=h;exact⟨rfl,by rw[q7 hw]⟩
 ·rintro⟨rfl,rfl⟩
  split <;> rfl
theorem longR_two{a b c:UInt8}{y:Bs}:longR (a :: b :: c :: y)=(longR [a,b] && !(decide ([a,b]=([45,111]:Bs)) && part c)):=by
 have e1:runLen (b :: c :: y)=if part b then 1+(if part c then 1+runLen y else 0) else 0:=by rw[runLen_cons,runLen_cons]
 have e2:runLen [b]=if part b then 1 else 0:=by rw[runLen_cons];rfl
 unfold longR;simp only[List.drop_succ_cons,List.drop_zero,e1,e2,List.isPrefixOf,Bool.and_true]
 by_cases h:[a,b]=([45,111]:Bs)
 ·simp only[List.cons.injEq,and_true]at h
  obtain⟨rfl,rfl⟩:=h;have hp:part 111=true:=by decide
  simp only[hp,if_true]
  cases hc:part c
  ·simp
  ·simp
 ·have h':((45:UInt8)==a && (111:UInt8)==b)=false:=by
   rw[Bool.eq_false_iff];intro e;simp only[qd,beq_iff_eq]at e;exact h (by rw[<-e.1,<-e.2])
  rw[h',decide_eq_false h];simp
theorem tokR_stop(x:Bs)(c:UInt8)(y:Bs)(k:Nat)(hc:c≠64) :
  tokR (x++c :: y)=some (k,x.length)↔(tokR x=some (k,x.length)/\stopC x c=true):=by
 cases x with
 |nil =>
  constructor
  ·intro h;have:=tokR_lt h;simp at this
  ·intro h;have:=tokR_lt h.1;simp at this
 |cons a x =>
  by_cases hs:small a=true
  ·by_cases hoo:∃ w,a :: x=111 :: 45 :: w
   ·obtain⟨w,hw⟩:=hoo
    rw[hw,List.cons_append,List.cons_append,tokR_oo,tokR_oo];unfold stopC;have:small 111=true:=by decide
    simp only[this,if_true,qi]
    cases w with
    |nil=>simp
    |cons d w=>simp
   ·have hoo':(x=[]/\a=111/\c=45)\/¬ ∃ w,a :: (x++c :: y)=111 :: 45 :: w:=by
     by_cases h:x=[]/\a=111/\c=45
     ·exact .inl h
     ·refine .inr ?_
      rintro⟨w,hw⟩
      cases x with
      |nil=>simp at hw;exact h ⟨rfl,hw.1,hw.2.1⟩
      |cons b x=>simp at hw;exact hoo ⟨x,by rw[hw.1,hw.2.1]⟩
    rcases hoo' with ⟨rfl,rfl,rfl⟩|hoo'
    ·rw[List.cons_append,List.nil_append,tokR_oo]
     have:stopC [111] 45=false:=by decide
     simp[this]
    ·rw[List.cons_append,tokR_small hs k _ hoo',tokR_small hs k _ hoo,<-List.cons_append,nameLen_stop _ c y hc,List.take_append_of_le_length (q5 _)]
     have hst:stopC (a :: x) c = !part c:=by
      unfold stopC;simp only[hs,if_true];have h1:decide (a :: x=[111,45])=false:=decide_eq_false fun e=>hoo ⟨[],e⟩
      rw[h1,Bool.false_or]
      cases hp:part c
      ·have h2:(decide (a :: x=[111]) && decide (c=45))=false:=by
        rw[Bool.eq_false_iff];intro e;simp only[qd,qf,List.cons.injEq]at e;exact hoo' ⟨y,by rw[e.1.1,e.1.2,e.2];rfl⟩
       rw[h2];rfl
      ·rfl
     rw[hst]
     cases part c <;> simp
  ·by_cases hcap:capital a=true
   ·have hst:stopC (a :: x) c = !part c:=by unfold stopC;simp[hs,hcap]
    unfold tokR;simp only[List.cons_append,List.getElem?_cons_zero,hs,hcap,if_true,hst,Bool.false_eq_true,if_false];have:=runLen_stop (a :: x) c y;rw[List.cons_append]at this
    constructor
    ·intro e
     simp only[Option.some.injEq,Prod.mk.injEq]at e;obtain⟨rfl,e⟩:=e;obtain⟨h1,h2⟩:=this.1 e;rw[h1,h2];exact⟨rfl,rfl⟩
    ·rintro⟨e,h2⟩
     simp only[Option.some.injEq,Prod.mk.injEq]at e;obtain⟨rfl,e⟩:=e;rw[this.2 ⟨e,by simpa using h2⟩]
   ·by_cases hsg:signB a=true
    ·have hst:stopC (a :: x) c=true:=by unfold stopC;simp only[hs,hcap,hsg,if_true,Bool.false_eq_true,if_false]
     unfold tokR;simp only[List.cons_append,List.getElem?_cons_zero,hs,hcap,hsg,if_true,Bool.false_eq_true,if_false,hst,and_true]
    ·have hst:stopC (a :: x) c = !(decide (a :: x=[45,111]) && part c):=by unfold stopC;simp only[hs,hcap,hsg,Bool.false_eq_true,if_false]
     rw[hst];unfold tokR;simp only[List.cons_append,List.getElem?_cons_zero,hs,hcap,hsg,Bool.false_eq_true,if_false]
     match x with
     |[]=>simp
     |[b] =>
      simp only[List.nil_append,List.cons_append,longR_two,qi,qo]
      cases longR [a,b] <;> cases (!(decide ([a,b]=([45,111]:Bs)) && part c)) <;> simp
     |b :: d :: x=>simp
abbrev tokC(c:UInt8):Prop:=blank c=false/\c.toNat≠37
theorem part_tokC{c:UInt8}(h:part c=true):tokC c:=by
 simp only[part,small,capital,Bool.or_eq_true,qd,qf]at h;refine⟨?_,by omega⟩;simp only[blank,Bool.or_eq_false_iff,decide_eq_false_iff_not];omega
theorem part_ne64{c:UInt8}(h:part c=true):c≠64:=by
 rintro rfl;revert h;decide
theorem signB_tokC{c:UInt8}(h:signB c=true):tokC c/\c≠64:=by
 simp only[signB,List.contains_eq_mem,List.mem_cons,List.not_mem_nil,or_false,qf]at h;rcases h with rfl|rfl|rfl|rfl|rfl|rfl|rfl|rfl|rfl|rfl|rfl|rfl <;> decide
theorem longR_tokC{x:Bs}(h:longR x=true):∃ a b w,x=a :: b :: w/\tokC a/\tokC b/\a≠64:=by
 unfold longR at h;simp only[Bool.or_eq_true,qd,List.isPrefixOf_iff_prefix]at h;rcases h with ((⟨⟨w,rfl⟩,_⟩|⟨w,rfl⟩)|⟨w,rfl⟩)|⟨w,rfl⟩
 ·exact⟨45,111,w,rfl,by decide,by decide,by decide⟩
 ·exact⟨45,62,w,rfl,by decide,by decide,by decide⟩
 ·exact⟨61,62,w,rfl,by decide,by decide,by decide⟩
 ·exact⟨60,61,w,rfl,by decide,by decide,by decide⟩
theorem runLen_mem{x:Bs}(h:runLen x=x.length):∀ c∈x,part c=true:=by
 intro c hc
 have e:x.takeWhile part=x:=by
  have hp:x.takeWhile part <+: x:=List.takeWhile_prefix _;exact hp.eq_of_length h
 rw[<-e]at hc;exact List.all_eq_true.1 (List.all_takeWhile (p:=part) (l:=x)) c hc
theorem runLen_take(x:Bs):∀ c∈x.take (runLen x),part c=true:=by
 intro c hc
 have e:x.takeWhile part=x.take (runLen x):=by
  have hp:x.takeWhile part <+: x:=List.takeWhile_prefix _;exact List.prefix_iff_eq_take.1 hp
 rw[<-e]at hc;exact List.all_eq_true.1 (List.all_takeWhile (p:=part) (l:=x)) c hc
theorem nameLen_mem{x:Bs}(h:nameLen x=x.length):∀ c∈x,tokC c:=by
 unfold nameLen at h;simp only at h
 split at h
 ·rename_i hc
  intro c hm
  have hlt:runLen x < x.length:=by
   rcases Nat.lt_or_ge (runLen x) x.length with h1|h1
   ·exact h1
   ·rw[List.getElem?_eq_none h1]at hc;simp at hc
  have e:x=x.take (runLen x)++64 :: x.drop (runLen x+1):=by
   have:=List.getElem?_eq_some_iff.1 hc.1;obtain⟨h1,h2⟩:=this
   conv=>lhs;rw[<-List.take_append_drop (runLen x) x,List.drop_eq_getElem_cons h1,h2]
  rw[e]at hm;rcases List.mem_append.1 hm with hm|hm
  ·exact part_tokC (runLen_take x c hm)
  ·rcases List.mem_cons.1 hm with rfl|hm
   ·exact⟨by decide,by decide⟩
   ·exact part_tokC (runLen_mem (by rw[List.length_drop];omega) c hm)
 ·intro c hm
  exact part_tokC (runLen_mem h c hm)
theorem tokR_cons{r:Bs}{k n:Nat}(h:tokR r=some (k,n)):∃ a w,r=a :: w/\tokC a/\a≠64:=by
 cases r with
 |nil=>simp[tokR]at h
 |cons a w =>
  refine⟨a,w,rfl,?_⟩;unfold tokR at h;simp only[List.getElem?_cons_zero]at h
  by_cases hs:small a=true
  ·exact⟨part_tokC (small_part hs),part_ne64 (small_part hs)⟩
  ·by_cases hcap:capital a=true
   ·exact⟨part_tokC (capital_part hcap),part_ne64 (capital_part hcap)⟩
   ·by_cases hsg:signB a=true
    ·exact signB_tokC hsg
    ·by_cases hl:longR (a :: w)=true
     ·obtain⟨a',b',w',he,h1,_,h3⟩:=longR_tokC hl
      simp only[List.cons.injEq]at he;obtain⟨rfl,_⟩:=he;exact⟨h1,h3⟩
     ·simp[hs,hcap,hsg,hl]at h
theorem tokR_mem{x:Bs}{k:Nat}(h:tokR x=some (k,x.length)):∀ c∈x,tokC c:=by
 cases x with
 |nil=>simp
 |cons a x =>
  by_cases hs:small a=true
  ·by_cases hoo:∃ w,a :: x=111 :: 45 :: w
   ·obtain⟨w,hw⟩:=hoo
    rw[hw,tokR_oo]at h;simp at h;have hw0:w=[]:=h.2;rw[hw,hw0]
    decide
   ·rw[tokR_small hs k _ hoo]at h
    exact nameLen_mem h.1
  ·by_cases hcap:capital a=true
   ·unfold tokR at h
    simp only[List.getElem?_cons_zero,hs,hcap,if_true,Bool.false_eq_true,if_false,Option.some.injEq,Prod.mk.injEq]at h;intro c hc;exact part_tokC (runLen_mem h.2 c hc)
   ·by_cases hsg:signB a=true
    ·unfold tokR at h
     simp only[List.getElem?_cons_zero,hs,hcap,hsg,if_true,Bool.false_eq_true,if_false,Option.some.injEq,Prod.mk.injEq,qi]at h;have:x=[]:=List.length_eq_zero_iff.1 (by omega);subst this;intro c hc;rw[List.mem_singleton]at hc;subst hc;exact(signB_tokC hsg).1
    ·by_cases hl:longR (a :: x)=true
     ·unfold tokR at h
      simp only[List.getElem?_cons_zero,hs,hcap,hsg,hl,if_true,Bool.false_eq_true,if_false,Option.some.injEq,Prod.mk.injEq,qi]at h;obtain⟨a',b',w',he,h1,h2,_⟩:=longR_tokC hl;have hlen:=congrArg List.length he;simp only[qi]at hlen;have:w'=[]:=List.length_eq_zero_iff.1 (by omega);subst this;rw[he];intro c hc;simp only[List.mem_cons,List.not_mem_nil,or_false]at hc;rcases hc with rfl|rfl
      ·exact h1
      ·exact h2
     ·simp[tokR,hs,hcap,hsg,hl]at h
theorem stopC_space{x:Bs}{k:Nat}(h:tokR x=some (k,x.length)):stopC x 32=true:=by
 cases x with
 |nil=>simp[tokR]at h
 |cons a x =>
  have hp:part 32=false:=by decide
  unfold stopC;simp[hp]
theorem tokR_space{x:Bs}{k:Nat}(h:tokR x=some (k,x.length))(y:Bs):tokR (x++32 :: y)=some (k,x.length) :=
 (tokR_stop x 32 y k (by decide)).2 ⟨h,stopC_space h⟩
structure KT where
 k:Nat
 x:Bs
 deriving DecidableEq
def Tok.kt(t:Tok):KT:=⟨t.kind,t.text⟩
def IsTok(a:KT):Prop:=tokR a.x=some (a.k,a.x.length)/\a.x.length<=40
def Runs:Bs->List KT->Prop
 |r,[]=>skipC false r=r.length
 |r,a :: l=>tokR (r.drop (skipC false r))=some (a.k,a.x.length)/\(r.drop (skipC false r)).take a.x.length=a.x/\a.x.length<=40/\Runs ((r.drop (skipC false r)).drop a.x.length) l
theorem scanP_runs:∀ (f:Nat) (pre l:List Tok) (o:Nat) (r:Bs),r.length < f->scanP f pre o r = .toks l->∃ ts,l=pre++ts/\Runs r (ts.map Tok.kt)
 |0,_,_,_,_,h,_=>absurd h (Nat.not_lt_zero _)
 |f+1,pre,l,o,r,hf,h=>by
  unfold scanP at h;have hle:=skipC_le false r;rcases scanS_inv h with ⟨e,rfl⟩|⟨k,n,h0,ht,h6,h4,hs⟩
  ·refine⟨[],by simp,?_⟩
   have:=congrArg List.length e;simp at this
   show skipC false r=r.length
   omega
  ·have hn:=tokR_lt ht
   obtain⟨ts,hl,hr⟩:=scanP_runs f _ l _ _ (by rw[List.length_drop,List.length_drop]at *;omega) hs;refine⟨⟨k,(r.drop (skipC false r)).take n,o+skipC false r⟩ :: ts,by rw[hl,qe];rfl,?_⟩;have hlen:((r.drop (skipC false r)).take n).length=n:=by rw[List.length_take];omega
   show tokR _=some (k,((r.drop (skipC false r)).take n).length)/\_
   refine⟨by rw[hlen];exact ht,by show(r.drop (skipC false r)).take ((r.drop (skipC false r)).take n).length=_;rw[hlen];rfl,by show((r.drop (skipC false r)).take n).length<=40;omega,?_⟩
   show Runs ((r.drop (skipC false r)).drop ((r.drop (skipC false r)).take n).length) _
   rw[hlen];exact hr
theorem runs_scanP:∀ (l:List KT) (f:Nat) (pre:List Tok) (o:Nat) (r:Bs),r.length < f->pre.length+l.length<=6000->Runs r l->∃ ts,scanP f pre o r = .toks (pre++ts)/\ts.map Tok.kt=l
 |[],0,_,_,_,h,_,_=>absurd h (Nat.not_lt_zero _)
 |_ :: _,0,_,_,_,h,_,_=>absurd h (Nat.not_lt_zero _)
 |[],f+1,pre,o,r,_,_,h=>by
  have h':skipC false r=r.length:=h;refine⟨[],?_,rfl⟩;unfold scanP scanS;rw[qa (by rw[h'];exact List.drop_of_length_le (q5 _)),List.append_nil]
 |a :: l,f+1,pre,o,r,hf,h6,h=>by
  obtain⟨ht,hx,h4,hr⟩:=h;have hn:=tokR_lt ht;have hne:r.drop (skipC false r)≠[]:=by intro e;rw[e]at ht;simp[tokR]at ht
  obtain⟨ts,hs,hm⟩:=runs_scanP l f (pre++[⟨a.k,(r.drop (skipC false r)).take a.x.length,o+skipC false r⟩]) (o+skipC false r+a.x.length) _ (by rw[List.length_drop,List.length_drop]at *;omega) (by simp only[qc,qi,qo]at h6 ⊢;omega) hr;refine⟨⟨a.k,(r.drop (skipC false r)).take a.x.length,o+skipC false r⟩ :: ts,?_,?_⟩
  ·unfold scanP
   rw[scanS_step hne ht (by simp only[qi]at h6;omega) (by omega),hs,qe];rfl
  ·rw[List.map_cons,hm,hx];rfl
theorem scan_runs{r:Bs}{ts:List Tok}(h:scan r = .toks ts):Runs r (ts.map Tok.kt)/\r.length<=20000:=by
 rw[scan_rel]at h
 split at h
 ·cases h
 ·obtain⟨ts',he,hr⟩:=scanP_runs _ _ _ _ _ (by omega) h
  rw[List.nil_append]at he;subst he;exact⟨hr,by omega⟩
theorem runs_scan{r:Bs}{l:List KT}(h:Runs r l)(h2:r.length<=20000)(h6:l.length<=6000):∃ ts,scan r = .toks ts/\ts.map Tok.kt=l:=by
 rw[scan_rel,q7 (by omega)];obtain⟨ts,hs,hm⟩:=runs_scanP l (r.length+1) [] 0 r (by omega) (by simpa using h6) h;exact⟨ts,by simpa using hs,hm⟩
theorem tokR_alone{r:Bs}{k n:Nat}(h:tokR r=some (k,n))(h64:r[n]?≠some 64):tokR (r.take n)=some (k,n):=by
 have hn:=tokR_lt h;have hlen:(r.take n).length=n:=by rw[List.length_take];omega
 cases hd:r.drop n with
 |nil =>
  have:n=r.length:=by have:=congrArg List.length hd;simp at this;omega
  subst this;rw[qt (q5 _)];exact h
 |cons c y =>
  have e:r=r.take n++c :: y:=by rw[<-hd,List.take_append_drop]
  have hc:r[n]?=some c:=by
   have:(r.drop n)[0]?=some c:=by rw[hd];rfl
   rw[List.getElem?_drop]at this;simpa using this
  have:=(tokR_stop (r.take n) c y k (by rintro rfl;exact h64 hc)).1 (by rw[<-e,hlen];exact h);rw[hlen]at this;exact this.1
theorem runs_head:∀ (l:List KT) (r:Bs),Runs r l->r[0]?≠some 64
 |[],r,h=>by
  intro e
  cases r with
  |nil=>simp at e
  |cons c r =>
   simp at e;subst e;have:skipC false (64 :: r)=0:=rfl;have h':skipC false (64 :: r)=(64 :: r).length:=h;rw[this]at h';simp at h'
 |a :: l,r,h=>by
  intro e
  cases r with
  |nil=>simp at e
  |cons c r =>
   simp at e;subst e;have hs:skipC false (64 :: r)=0:=rfl;have h1:=h.1;rw[hs,List.drop_zero]at h1;obtain⟨a',w,he,_,h3⟩:=tokR_cons h1;simp at he;exact h3 he.1.symm
theorem runs_tok:∀ (l:List KT) (r:Bs),Runs r l->∀ a∈l,IsTok a
 |[],_,_,_,h=>absurd h List.not_mem_nil
 |b :: l,r,h,a,ha=>by
  rcases List.mem_cons.1 ha with rfl|ha
  ·refine⟨?_,h.2.2.1⟩
   have:=tokR_alone h.1 (by have:=runs_head _ _ h.2.2.2;rwa [List.getElem?_drop]at this);rw[h.2.1]at this;exact this
  ·exact runs_tok l _ h.2.2.2 a ha
def G:List (Bool×KT)->Bs
 |[]=>[]
 |(g,a) :: l=>(if g then [32] else [])++(a.x++G l)
theorem skip_tok{a:KT}(h:IsTok a)(y:Bs):skipC false (a.x++y)=0:=by
 obtain⟨c,w,he,hc,_⟩:=tokR_cons h.1;rw[he,List.cons_append];simp only[skipC];rw[q7 (by rw[hc.1];simp),q7 hc.2]
theorem skip_gap(g:Bool){a:KT}(h:IsTok a)(y:Bs):skipC false ((if g then [32] else [])++(a.x++y))=(if g then 1 else 0):=by
 cases g
 ·exact skip_tok h y
 ·show skipC false (32 :: (a.x++y))=1
  simp only[skipC];rw[qa (by decide),skip_tok h y]
theorem drop_gap(g:Bool)(y:Bs):((if g then [32] else [])++y:Bs).drop (if g then 1 else 0)=y:=by cases g <;> rfl
def glued(a b:KT):Bool:=decide (tokR (a.x++b.x)=some (a.k,a.x.length))
theorem glued_iff{a b:KT}(hb:IsTok b)(y:Bs):tokR (a.x++(b.x++y))=some (a.k,a.x.length)↔glued a b=true:=by
 obtain⟨c,w,he,hc,h64⟩:=tokR_cons hb.1;unfold glued;rw[qf,he,List.cons_append,tokR_stop _ _ _ _ h64,tokR_stop _ _ _ _ h64]
def Fits:List (Bool×KT)->Prop
 |(_,a) :: (g,b) :: l=>(g=false->glued a b=true)/\Fits ((g,b) :: l)
 |_=>True
theorem G_runs:∀ l:List (Bool×KT),(∀ a∈l,IsTok a.2)->Fits l->Runs (G l) (l.map (·.2))
 |[],_,_=>rfl
 |(g,a) :: l,h,hf=>by
  have ha:IsTok a:=h _ List.mem_cons_self
  have hrest:Runs (G l) (l.map (·.2)):=by
   refine G_runs l (fun b hb=>h b (List.mem_cons_of_mem _ hb)) ?_
   cases l with
   |nil=>trivial
   |cons b l=>obtain⟨g',b⟩:=b;exact hf.2
  show Runs ((if g then [32] else [])++(a.x++G l)) (a :: l.map (·.2))
  unfold Runs;rw[skip_gap g ha,drop_gap];refine⟨?_,List.take_left,ha.2,by rw[List.drop_left];exact hrest⟩
  cases l with
  |nil=>simpa[G]using ha.1
  |cons b l =>
   obtain⟨g',b⟩:=b;have hb:IsTok b:=h _ (List.mem_cons_of_mem _ List.mem_cons_self)
   cases g'
   ·show tokR (a.x++(b.x++G l))=_
    exact(glued_iff hb _).2 (hf.1 rfl)
   ·exact tokR_space ha.1 _
end Lx
end Go.Proofs.YtkckddojlignpaaGreatDoor
namespace Go.Proofs.YtkckddojlignpaaGreatDoor
open Go.RowKit
def kt(a:AT):Lx.KT:=⟨a.k.toNat,bs a.t⟩
theorem qrg(t:Lx.Tok):kt (wu t)=t.kt:=by
 unfold kt wu Lx.Tok.kt;simp only[Int.toNat_natCast];rfl
theorem qr0(ts:List Lx.Tok):(ts.map wu).map kt=ts.map Lx.Tok.kt:=by
 rw[List.map_map];exact List.map_congr_left fun t _=>qrg t
theorem qon(a b:ByteArray):a.toList=b.toList↔bs a=bs b:=by
 rw[ByteArray.toList_eq,ByteArray.toList_eq];rfl
theorem q3i:∀ (l m:List AT),yc l m=true↔(l.map fun a=>(a.k,bs a.t))=m.map fun a=>(a.k,bs a.t)
 |[],[]=>by simp[yc]
 |[],b :: m=>by simp[yc]
 |a :: l,[]=>by simp[yc]
 |a :: l,b :: m=>by
  simp only[yc,List.map_cons,List.cons.injEq,Prod.mk.injEq,qd,q3i l m,qon,beq_iff_eq]
theorem qmr(l m:List AT)(h:yc l m=true):l.map kt=m.map kt:=by
 have:=(q3i l m).1 h;have h2:=congrArg (List.map fun p:Int×Lx.Bs=>(⟨p.1.toNat,p.2⟩:Lx.KT)) this;rw[List.map_map,List.map_map]at h2;exact h2
theorem qmq(ts:List Lx.Tok)(m:List AT):yc (ts.map wu) m=true↔(ts.map Lx.Tok.kt=m.map kt/\∀ a∈m,0<=a.k):=by
 constructor
 ·intro h
  refine⟨by rw[<-qr0];exact qmr _ _ h,?_⟩;have h1:=(q3i _ _).1 h;intro a ha;have:(a.k,bs a.t)∈(ts.map wu).map fun a=>(a.k,bs a.t):=by rw[h1];exact List.mem_map_of_mem (f:=fun a:AT=>(a.k,bs a.t)) ha
  rw[List.map_map]at this;obtain⟨t,_,e⟩:=List.mem_map.1 this;simp only[Function.comp,Prod.mk.injEq]at e;rw[<-e.1];exact Int.natCast_nonneg _
 ·rintro⟨h1,h2⟩
  rw[q3i];have h3:=congrArg (List.map fun p:Lx.KT=>((p.k:Int),p.x)) h1;rw[List.map_map,List.map_map]at h3;rw[List.map_map];refine h3.trans (List.map_congr_left fun a ha=>?_);simp only[Function.comp,kt,Prod.mk.injEq,and_true];exact Int.toNat_of_nonneg (h2 a ha)
theorem q92(s:ByteArray)(m:List AT):q3x s m=true↔∃ ts,Lx.scan (bs s) = .toks ts/\ts.map Lx.Tok.kt=m.map kt/\∀ a∈m,0<=a.k:=by
 unfold q3x
 cases Lx.scan (bs s)with
 |bad p e=>simp
 |toks ts=>simp only[qmq,Lx.Res.toks.injEq,exists_eq_left']
theorem qeu(s:ByteArray)(m:List AT)(h2:s.size<=20000)(h6:m.length<=6000)(h0:∀ a∈m,0<=a.k):q3x s m=true↔Lx.Runs (bs s) (m.map kt):=by
 rw[q92]
 constructor
 ·rintro⟨ts,h,hm,_⟩
  rw[<-hm];exact(Lx.scan_runs h).1
 ·intro h
  obtain⟨ts,hs,hm⟩:=Lx.runs_scan h (by rw[qr];exact h2) (by simpa using h6);exact⟨ts,hs,hm,h0⟩
theorem q9z(a:AT):xg a=true↔(0<=a.k/\Lx.IsTok (kt a)):=by
 unfold xg
 constructor
 ·intro h
  obtain⟨ts,hs,hm,h0⟩:=(q92 _ _).1 h;refine⟨h0 a List.mem_cons_self,?_⟩;have:=(Lx.scan_runs hs).1;rw[hm]at this;exact Lx.runs_tok _ _ this _ List.mem_cons_self
 ·rintro⟨h0,ht⟩
  refine(qeu a.t [a] ?_ (by simp) (by intro b hb;rw[List.mem_singleton]at hb;subst hb;exact h0)).2 ?_
  ·have:=ht.2
   have h2:(kt a).x.length=a.t.size:=qr a.t;omega
  ·have:=Lx.G_runs [(false,kt a)] (by intro b hb;rw[List.mem_singleton]at hb;subst hb;exact ht) trivial
   simpa[Lx.G,kt]using this
end Go.Proofs.YtkckddojlignpaaGreatDoor
