/- A part of the proof, packed: see the last text of this claim. -/
import Derived.Test.YtkckddojlignpaaGreatDoorPkNa
import Derived.Test.YtkckddojlignpaaGreatDoorPkNb
import Derived.Test.YtkckddojlignpaaGreatDoorPkNc
import Derived.Test.YtkckddojlignpaaGreatDoorPkNd
import Derived.Test.YtkckddojlignpaaGreatDoorPkNe
import Derived.Test.YtkckddojlignpaaGreatDoorPkNf
import Derived.Deep.RegionHeld3
import Derived.StillTailTactics
import Derived.Shelf.Abstract
import Derived.Test.YtkckddojlignpaaGreatDoorRows
import Derived.Test.YtkckddojlignpaaGreatDoorChecked
import Derived.ProofKit
import Derived.SizedLaws
import Derived.ReadAgain
import Derived.Below
import Derived.Deep.Slices
import Derived.Deep.Fields
import Derived.ChangeSame
set_option maxHeartbeats 20000000
set_option maxRecDepth 100000
namespace Go.Proofs.YtkckddojlignpaaGreatDoor
open Go.RowKit Go.Shelf
attribute [local go_sem] Oper.semAt_some
def Row2(W:World)(b:Nat)(v0 v1:Value):Prop:=W.heap[b]?=some (.cells #[v0,v1] 46 (0,0))
section
variable {W W':World} {b:Nat} {v0 v1:Value}
theorem Row2.lt(h:Row2 W b v0 v1):b < W.heap.size:=zg h
theorem Row2.below{n:Nat}(h:Row2 W b v0 v1)(hb:Below n W W')(hn:b < n):Row2 W' b v0 v1:=(hb.block b hn).trans h
theorem Row2.cells(h:Row2 W b v0 v1):(W.cell? ⟨b,0,none⟩=some v0/\W.cell? ⟨b,1,none⟩=some v1)/\W.frozen? ⟨b,0,none⟩=false/\W.frozen? ⟨b,1,none⟩=false :=
 ⟨⟨qm _ _ _ _ _ _ h,qm _ _ _ _ _ _ h⟩,frozen_of_row _ _ _ _ _ h,frozen_of_row _ _ _ _ _ h⟩
abbrev qf6(W:World)(b:Nat)(u0 u1:Value):World:=(W.setCell ⟨b,0,none⟩ u0).setCell ⟨b,1,none⟩ u1
theorem Row2.put(h:Row2 W b v0 v1)(u0 u1:Value):Row2 (qf6 W b u0 u1) b u0 u1:=by
 have h0:W.heap[b]?=some (.cells #[v0,v1] 46 (0,0)):=h;exact(zp (zp h0)).trans rfl
theorem qnl{H:Nat}(u0 u1:Value)(hb:b≠H):(qf6 W H u0 u1).heap[b]?=W.heap[b]? :=
 (Below.heap_setCell _ _ _ _ (by simp only;exact hb)).trans (Below.heap_setCell _ _ _ _ (by simp only;exact hb))
theorem q1r{h H:Nat}{w:World}(hb:Below h w W)(hH:h<=H)(u0 u1:Value):Below h w (qf6 W H u0 u1):=(hb.setCell (p:=⟨H,0,none⟩) hH _).setCell (p:=⟨H,1,none⟩) hH _
theorem q27{fn:Func}{t:Nat}{a:Act}{R:Ending->World->Prop}(h:Row2 W b v0 v1)(hr:fn.results=#[ResultVar.cell t 46])(hd:a.defers=[])(ha:(a.tmps[t]?).getD undef = .pointer (some ⟨b,0,none⟩))
  (hR:R (.returned (.agg #[v0,v1])) W):bodyPost Tryz.prog fn R .ret a W:=by
 obtain⟨⟨c0,c1⟩,_⟩:=h.cells;exact bodyPost_ret (v:=.agg #[v0,v1]) (by simp[results,hr,go_sem,ha,c0,c1]) hd hR
end
def qgr(kind:Int)(t:Nd)(w:World)(e:Ending)(w':World):Prop :=
 ∃ v,e = .returned (.agg #[v,.int .i64 (zx t)])/\ze w.heap.size w' v (if zx t=0 then ye kind (zq 0 [] false t) else [])/\Below w.heap.size w w'
theorem q7y(g:Nat)(kind:Int)(hg:(g=23/\kind=15)\/(g=25/\kind=16))(t:Nd)(w:World)(v0 v1 v2:Value)(ht:NdR w t v0 v1 v2) :
  Calls Tryz.prog g #[.agg #[v0,v1,v2]] w (qgr kind t w):=by
 obtain⟨k0,s0,l0,a0,c0,rfl,rfl,rfl,rfl,_,_⟩:=ht.form;unfold qgr;obtain⟨er,hc⟩:∃ er,zx (.mk k0 s0 l0)=er:=⟨_,rfl⟩;obtain⟨L,hL⟩:∃ L,(if er=0 then ye kind (zq 0 [] false (.mk k0 s0 l0)) else [])=L:=⟨_,rfl⟩;rw[hc,hL];obtain⟨H,hH⟩:∃ H,w.heap.size=H:=⟨_,rfl⟩;obtain⟨W2,hW2⟩:∃ W2,(w.alloc (.cells #[.int .i64 k0,.string s0,.slice a0 l0.length c0] 25)).alloc (.cells #[.slice none 0 0,.int .i64 0] 46)=W2:=⟨_,rfl⟩;have z2:W2.heap.size=H+1+1:=by rw[<-hW2];simp[hH]
 have B2:Below H w W2:=by rw[<-hW2,<-hH];exact((Below.refl _ w).alloc (q9 _) _).alloc (by simp) _
 have N2:Row3 W2 H (.int .i64 k0) (.string s0) (.slice a0 l0.length c0):=by
  rw[<-hW2,<-hH];exact(Below.heap_alloc _ _ _ (by simp)).trans (qk _ _)
 have R2:Row2 W2 (H+1) (.slice none 0 0) (.int .i64 0):=by rw[<-hW2,<-hH];exact za (by simp)
 have CK:=qh (q63 _ W2 _ _ _ (ht.later (by rw[hH];exact B2)));rw[hc]at CK;have HT:=qh ht;have HC:=qh hc;have HLs:=qh hL;have HH:=qh hH;have HZ:=qh z2;have HB2:=qh B2;have HN2:=qh N2;have HR2:=qh R2;obtain⟨⟨n0,n1,n2⟩,_⟩:=N2.cells;clear ht hc hL B2 N2 R2;rw[hH]
 have MAIN:∀ (w3:World),Below W2.heap.size W2 w3->er=0->(kind=15\/kind=16)->Calls Tryz.prog 56 #[.agg #[.int .i64 k0,.string s0,.slice a0 l0.length c0],.int .i64 kind,.slice none 0 0,.slice none 0 0] w3 fun e W'=>∃ v',e = .returned v'/\ze w3.heap.size W' v' L/\Ap w3.heap.size w3 (.slice none 0 0) v' W':=by
  intro w3 b3 h0 hk;have hcc:zx (.mk k0 s0 l0)=0:=HC.out.trans h0;have hLL:=HLs.out;rw[qj h0]at hLL;have hff:ye kind (zq 0 [] false (.mk k0 s0 l0))=q0k kind [] [] (.mk k0 s0 l0):=q9y kind hk 0 [] [] (.mk k0 s0 l0) (q0f hcc).2;rw[hff]at hLL;rw[<-hLL];have hsz:=q3j hcc;have tr:NdR w3 (.mk k0 s0 l0) (.int .i64 k0) (.string s0) (.slice a0 l0.length c0):=HT.out.later (by rw[HH.out];exact HB2.out.trans (b3.mono (by have:=HZ.out;omega)));exact qhl kind w3.heap.size _ (.mk k0 s0 l0) [] [] w3 _ _ _ (.slice none 0 0) (.slice none 0 0) (q9 _) (q9 _) tr.toS ⟨none,0,rfl,fun h=>absurd rfl h⟩ (World.ownsRow_nil _ _ _ _) (by simp only[qz];omega) (by simp only[qz];omega)
 have HM:=qh MAIN;clear MAIN;rcases hg with ⟨rfl,rfl⟩|⟨rfl,rfl⟩
 ·go_enter Tryz.func23,Tryz.ntmps23
  go_upto_region 1 with fail
  (try rw[hW2])
  (try rw[HH.out])
  (try rw[hH])
  clear hW2
  go_wp2_with fail
  refine CK.out.mono ?_;rintro e w3⟨rfl,b3⟩;have zz:=HZ.out;have N3:Row3 w3 H (.int .i64 k0) (.string s0) (.slice a0 l0.length c0):=HN2.out.below b3 HN2.out.lt;have R3:Row2 w3 (H+1) (.slice none 0 0) (.int .i64 0):=HR2.out.below b3 HR2.out.lt;have HB3:=qh (HB2.out.trans (b3.mono (by omega)));obtain⟨⟨n0',n1',n2'⟩,_⟩:=N3.cells;have HR3:=qh R3;have HK3:=qh b3;clear n0 n1 n2 N3 CK HN2 HR2 HB2 b3
  by_cases hc0:er=0
  ·subst hc0
   have CP:=qh (HM.out w3 HK3.out rfl (by decide));clear R3 HM
   go_wp2_with fail
   refine CP.out.mono ?_;rintro e w4⟨v',rfl,hr4,hap4⟩;have zw3:=HR3.out.lt;have R4:Row2 w4 (H+1) (.slice none 0 0) (.int .i64 0):=HR3.out.below hap4.1 zw3;have HB4:=qh (HB3.out.trans (hap4.1.mono (by omega)));obtain⟨⟨r0,r1⟩,q0,q1⟩:=R4.cells;have HR4:=qh R4;have h4:w4.ownsRow w3.heap.size 9 1 v' (L.map Value.string).length (L.map Value.string):=hr4;obtain⟨a',c',e'⟩:=zr h4;rw[qx]at e';subst e';have TQ:=qh hr4;clear hr4 hap4 R4 CP n0' n1' n2' h4;go_wp2;refine q27 (HR4.out.put _ _) rfl rfl rfl ?_;refine⟨_,rfl,?_,q1r HB4.out (by omega) _ _⟩;have hrow:w4.ownsRow w3.heap.size 9 1 (.slice a' L.length c') (L.map Value.string).length (L.map Value.string):=TQ.out;exact qy (ju hrow (by omega)) fun g e=>qnl _ _ (by have:=(hrow.lt g e).1;omega)
  ·have hc1:(er==0)=false:=by simp[hc0]
   have hL0:L=[]:=by have:=HLs.out;rwa [qd hc0,eq_comm]at this
   subst hL0;obtain⟨⟨r0,r1⟩,q0,q1⟩:=R3.cells;clear n0' n1' n2' R3;go_wp2;refine q27 (HR3.out.put _ _) rfl rfl rfl ?_;exact⟨_,rfl,World.ownsRow_nil _ _ _ _,q1r HB3.out (by omega) _ _⟩
 ·go_enter Tryz.func25,Tryz.ntmps25
  go_upto_region 1 with fail
  (try rw[hW2])
  (try rw[HH.out])
  (try rw[hH])
  clear hW2
  go_wp2_with fail
  refine CK.out.mono ?_;rintro e w3⟨rfl,b3⟩;have zz:=HZ.out;have N3:Row3 w3 H (.int .i64 k0) (.string s0) (.slice a0 l0.length c0):=HN2.out.below b3 HN2.out.lt;have R3:Row2 w3 (H+1) (.slice none 0 0) (.int .i64 0):=HR2.out.below b3 HR2.out.lt;have HB3:=qh (HB2.out.trans (b3.mono (by omega)));obtain⟨⟨n0',n1',n2'⟩,_⟩:=N3.cells;have HR3:=qh R3;have HK3:=qh b3;clear n0 n1 n2 N3 CK HN2 HR2 HB2 b3
  by_cases hc0:er=0
  ·subst hc0
   have CP:=qh (HM.out w3 HK3.out rfl (by decide));clear R3 HM
   go_wp2_with fail
   refine CP.out.mono ?_;rintro e w4⟨v',rfl,hr4,hap4⟩;have zw3:=HR3.out.lt;have R4:Row2 w4 (H+1) (.slice none 0 0) (.int .i64 0):=HR3.out.below hap4.1 zw3;have HB4:=qh (HB3.out.trans (hap4.1.mono (by omega)));obtain⟨⟨r0,r1⟩,q0,q1⟩:=R4.cells;have HR4:=qh R4;have h4:w4.ownsRow w3.heap.size 9 1 v' (L.map Value.string).length (L.map Value.string):=hr4;obtain⟨a',c',e'⟩:=zr h4;rw[qx]at e';subst e';have TQ:=qh hr4;clear hr4 hap4 R4 CP n0' n1' n2' h4;go_wp2;refine q27 (HR4.out.put _ _) rfl rfl rfl ?_;refine⟨_,rfl,?_,q1r HB4.out (by omega) _ _⟩;have hrow:w4.ownsRow w3.heap.size 9 1 (.slice a' L.length c') (L.map Value.string).length (L.map Value.string):=TQ.out;exact qy (ju hrow (by omega)) fun g e=>qnl _ _ (by have:=(hrow.lt g e).1;omega)
  ·have hc1:(er==0)=false:=by simp[hc0]
   have hL0:L=[]:=by have:=HLs.out;rwa [qd hc0,eq_comm]at this
   subst hL0;obtain⟨⟨r0,r1⟩,q0,q1⟩:=R3.cells;clear n0' n1' n2' R3;go_wp2;refine q27 (HR3.out.put _ _) rfl rfl rfl ?_;exact⟨_,rfl,World.ownsRow_nil _ _ _ _,q1r HB3.out (by omega) _ _⟩
attribute [local go_sem] Oper.semAt_some
section
variable {ops:Array Oper} {rest:List Oper} {o:Oper} {a:Act} {Q:Exit->Act->World->Prop} {w:World}
theorem vr{K:Act->World->Prop}{Ex:Prop}(hgd:o.guard=none)(s x:Operand)
  (ho:o.op = .call { callee:=.builtin .append,args:=#[s,x],argTypes:=#[23,23] })
  (S:Nat->Prop) (v:Value) (l:List Nd) (hs:a.eval s=v) (hk:KidsS S w v l) (ad:Addr) (c:Nat) (hx:a.eval x = .slice (some ad) 1 c) (t:Nd) (v0 v1 v2:Value)
  (hnews:∀ j u,[v0,v1,v2][j]?=some u->w.cell? (ad.add j)=some u) (hn:NdS (fun b=>S b/\v.ownBlock≠some b) w t v0 v1 v2) (hlen:l.length<=1000000) (hSn:S w.heap.size)
  (hK:∀ g cap w',KidsS S w' (.slice (some ⟨g,0,none⟩) (l.length+1) cap) (l++[t])->w.grownBy w' v.ownBlock->(v.ownBlock=some g\/g=w.heap.size)->K (a.put o.dst (.slice (some ⟨g,0,none⟩) (l.length+1) cap)) w') :
  if Region.wanted o (yielded ops a.tmps)=true then Oper.wp Tryz.prog o a w K Q else Ex:=by
 obtain⟨i0,hi0,hz0,hz1,hz2⟩:=info_parts q2p;obtain⟨xs,h1,hS,h2⟩:=hk;refine step_append_lies w hgd s x 23 ho 0 25 i0 _ 3 48 Tryz.underlying23 hi0 hz0 hz1 hz2 rfl (by decide) v l.length xs hs h1 ad 1 c [v0,v1,v2] hx rfl hnews hn.ones (by decide) (by unfold maxLen;omega) (by omega) (qv _) _ rfl ?_;intro g cap w' h3 h4 h5 h6;exact hK g cap w' (KidsS.snoc h1 h2 hS hn h3 h4 h5 hSn) h4 h5
end
def Kp2(H D:Nat)(ov:Value)(w wr w':World):Prop:=wr.heap.size<=w'.heap.size/\(∀ b,b < wr.heap.size->b≠D->ov.ownBlock≠some b->w'.heap[b]?=wr.heap[b]?)/\Below H w w'
section
variable {H D:Nat} {ov:Value} {w wr w' w'':World}
theorem Kp2.refl(h:Below H w wr):Kp2 H D ov w wr wr:=⟨q9 _,fun _ _ _ _=>rfl,h⟩
theorem Kp2.later(k:Kp2 H D ov w wr w')(hH:H<=wr.heap.size)(hb:Below w'.heap.size w' w''):Kp2 H D ov w wr w'' :=
 ⟨qo k.1 hb.size,fun b h1 h2 h3=>(hb.block b (qu h1 k.1)).trans (k.2.1 b h1 h2 h3),k.2.2.trans (hb.mono (qo hH k.1))⟩
theorem Kp2.drew(k:Kp2 H D ov w wr w'):Kp2 H D ov w wr w'.drew:=⟨k.1,k.2.1,k.2.2.drew⟩
theorem Kp2.alloc(k:Kp2 H D ov w wr w')(hH:H<=wr.heap.size)(o:Obj):Kp2 H D ov w wr (w'.alloc o):=k.later hH ((Below.refl _ _).alloc (q9 _) _)
theorem Kp2.grown(k:Kp2 H D ov w wr w')(hH:H<=wr.heap.size)(hg:w'.grownBy w'' ov.ownBlock)(ho:∀ g,ov.ownBlock=some g->D < g)(hD:H<=D):Kp2 H D ov w wr w'' :=
 ⟨qo k.1 hg.size,fun b h1 h2 h3=>(hg.block b (qu h1 k.1) (fun e=>h3 e.symm)).trans (k.2.1 b h1 h2 h3),k.2.2.grown hg (qo hH k.1) (fun g e=>by have:=ho g e;omega)⟩
theorem Kp2.set(k:Kp2 H D ov w wr w')(hD:H<=D)(v:Value):Kp2 H D ov w wr (w'.setCell ⟨D,2,none⟩ v) :=
 ⟨by rw[qs];exact k.1,fun b h1 h2 h3=>(Below.heap_setCell _ _ _ _ (by simp only;exact h2)).trans (k.2.1 b h1 h2 h3),k.2.2.setCell (p:=⟨D,2,none⟩) hD _⟩
end
attribute [local go_sem] Oper.semAt_some
abbrev Sx3(H D b1 o1 i:Nat)(ov:Value)(n2 y0 y1 y2:Value)(w wr w':World):Prop :=
 w'.cell? ⟨H,2,none⟩=some n2/\w'.cell? ⟨b1,o1+i*3,none⟩=some y0/\w'.cell? ⟨b1,o1+i*3+1,none⟩=some y1/\w'.cell? ⟨b1,o1+i*3+2,none⟩=some y2/\Hid (Kp2 H D ov w wr w')
theorem qgx{H D b1 o1 i:Nat}{ov n2 y0 y1 y2:Value}{w wr w' w'':World}(S:Sx3 H D b1 o1 i ov n2 y0 y1 y2 w wr w')(hD:H < D)(hb1:b1 < H)(hDr:D < wr.heap.size)(ho:∀ g,ov.ownBlock=some g->D < g)(k0:∀ b,b=H\/b=b1->w'.heap[b]?=wr.heap[b]?)(k:Kp2 H D ov w wr w''):Sx3 H D b1 o1 i ov n2 y0 y1 y2 w wr w'':=by
 obtain⟨c0,c4,c5,c6,_⟩:=S
 have f:∀ b o v,(b=H\/b=b1)->w'.cell? ⟨b,o,none⟩=some v->w''.cell? ⟨b,o,none⟩=some v:=fun b o v e hc =>
  (World.cell?_of_block (w:=w') ((k.2.1 b (by omega) (by omega) (fun e2=>by have:=ho b e2;omega)).trans (k0 b e).symm)).trans hc
 exact⟨f _ _ _ (by simp) c0,f _ _ _ (by simp) c4,f _ _ _ (by simp) c5,f _ _ _ (by simp) c6,qh k⟩
structure FrP(H:Nat)(k:Int)(s:ByteArray)(n2:Value)(l':List Nd)(w:World)(j:Nat)(wr:World):Prop where
 b:Below H w wr
 n:Row3 wr H (.int .i64 k) (.string s) n2
 r:Row3 wr (H+1) (.int .i64 0) (.string ⟨#[]⟩) (.slice none 0 0)
 d:∃ oa oc,Row3 wr (H+1+1) (.int .i64 k) (.string s) (.slice oa j oc)/\KidsS (fun b=>H+1+1 < b) wr (.slice oa j oc) (l'.take j)/\∀ g,(Value.slice oa j oc).ownBlock=some g->H+1+1 < g
theorem FrP.next{H j g6 cap6:Nat}{k:Int}{s:ByteArray}{n2:Value}{l':List Nd}{w wr w8:World}{oa:Option Addr}{oc:Nat}{kid:Nd}(F:FrP H k s n2 l' w j wr)(ho:∀ g,(Value.slice oa j oc).ownBlock=some g->H+1+1 < g)(kp:Kp2 H (H+1+1) (.slice oa j oc) w wr w8)
  (hk:l'.take (j+1)=l'.take j++[kid]) (R:Row3 w8 (H+1+1) (.int .i64 k) (.string s) (.slice oa j oc)) (K:KidsS (fun b=>H+1+1 < b) w8 (.slice (some ⟨g6,0,none⟩) (j+1) cap6) (l'.take j++[kid])) (hg:H+1+1 < g6) :
  FrP H k s n2 l' w (j+1) (w8.setCell ⟨H+1+1,2,none⟩ (.slice (some ⟨g6,0,none⟩) (j+1) cap6)):=by
 have kp':=kp.set (by omega) (.slice (some ⟨g6,0,none⟩) (j+1) cap6);have old:∀ b,b < H+1+1->b < wr.heap.size->(w8.setCell ⟨H+1+1,2,none⟩ (.slice (some ⟨g6,0,none⟩) (j+1) cap6)).heap[b]?=wr.heap[b]?:=fun b h1 h2=>kp'.2.1 b h2 (by omega) (fun e=>by have:=ho b e;omega)
 exact⟨kp'.2.2,(old _ (by omega) F.n.lt).trans F.n,(old _ (by omega) F.r.lt).trans F.r,_,_,R.put2 _,by rw[hk];exact K.keep fun b (h1:H+1+1 < b) _=>⟨Below.heap_setCell _ _ _ _ (show b≠H+1+1 by omega),h1⟩,fun g e=>by cases e;exact hg⟩
theorem qcf(k:Int)(s:ByteArray)(l:List Nd)(h27:k≠27)(h28:k≠28):q00 k s l = .mk k s l:=by
 match l with
 |[]=>rfl
 |[_]=>rfl
 |a :: b :: l=>simp only[q00,qd h27,qd h28]
theorem q9k{H:Nat}{w wr:World}{x y:Nd}{x0 x1 x2 y0 y1 y2:Value}(hb:Below H w wr)(hD:H+1+1 < wr.heap.size)(hx:NdS (fun b=>H+1+1 < b) wr x x0 x1 x2)(hy:NdS (fun b=>H+1+1 < b) wr y y0 y1 y2)(T:TypeId)(k:Int)(a0 a1 a2:Value) :
  NdS (fun b=>H<=b) ((((wr.drew.alloc (.cells #[y0,y1,y2,x0,x1,x2] T)).setCell ⟨H+1,0,none⟩ a0).setCell ⟨H+1,1,none⟩ a1).setCell ⟨H+1,2,none⟩ a2) (.mk k ⟨#[]⟩ [y,x]) (.int .i64 k) (.string ⟨#[]⟩) (.slice (some ⟨wr.drew.heap.size,0,none⟩) 2 2) /\
  Below H w ((((wr.drew.alloc (.cells #[y0,y1,y2,x0,x1,x2] T)).setCell ⟨H+1,0,none⟩ a0).setCell ⟨H+1,1,none⟩ a1).setCell ⟨H+1,2,none⟩ a2):=by
 obtain⟨V,hV⟩:∃ V,(((wr.drew.alloc (.cells #[y0,y1,y2,x0,x1,x2] T)).setCell ⟨H+1,0,none⟩ a0).setCell ⟨H+1,1,none⟩ a1).setCell ⟨H+1,2,none⟩ a2=V:=⟨_,rfl⟩;have hs:wr.drew.heap.size=wr.heap.size:=rfl
 have old:∀ b,b≠H+1->V.heap[b]?=(wr.drew.alloc (.cells #[y0,y1,y2,x0,x1,x2] T)).heap[b]?:=fun b h=>by
  rw[<-hV];exact(Below.heap_setCell _ _ _ _ (by simp only;exact h)).trans ((Below.heap_setCell _ _ _ _ (by simp only;exact h)).trans (Below.heap_setCell _ _ _ _ (by simp only;exact h)))
 have bV:Below H w V:=by
  rw[<-hV];exact zu ((hb.drew).alloc (by rw[hs];omega) _) (by omega) _ _ _
 rw[hV];have kp:∀ b,H+1+1 < b->b < wr.heap.size->V.heap[b]?=wr.heap[b]?/\H<=b:=fun b h1 h2=>⟨(old b (by omega)).trans (Below.heap_alloc _ _ _ (by rw[hs];exact h2)),by omega⟩
 exact⟨NdS.two ⟨T,(old _ (by rw[hs];omega)).trans (qk _ _)⟩ (show H<=wr.drew.heap.size by rw[hs];omega) (hy.keep kp) (hx.keep kp) k 2 (q9 _),bV⟩
theorem qey(N:Nat):∀ (t:Nd) (v0 v1 v2:Value) (w:World) (_:t.sz<=N) (_:NdR w t v0 v1 v2) (_:ws t) (_:t.sz<=90000),
  Calls Tryz.prog 71 #[.agg #[v0,v1,v2]] w fun e W'=>∃ u0 u1 u2,e = .returned (.agg #[u0,u1,u2])/\NdS (fun b=>w.heap.size<=b) W' (xx t) u0 u1 u2/\Below w.heap.size w W':=by
 induction N with
 |zero=>intro t v0 v1 v2 w hz;have:=q39 t;omega
 |succ N ih =>
 intro t v0 v1 v2 w hN ht hok hz;obtain⟨k0,s0,l0,a0,c0,rfl,rfl,rfl,rfl,hs0,hl0⟩:=ht.form;have hpl:xx (.mk k0 s0 l0)=q00 k0 s0 (jd l0):=by simp only[xx]
 rw[hpl];clear hpl;simp only[ws]at hok;obtain⟨hok2,hokL⟩:=hok;have HKK:=qh (fun j (h:j < l0.length)=>q47 l0 j h);obtain⟨l',hl'⟩:∃ l',jd l0=l':=⟨_,rfl⟩;have hll:l'.length=l0.length:=by rw[<-hl'];exact q0j l0
 have HKID:Hid (∀ j (h:j < l0.length),∃ y,xx l0[j]=y/\l'.take (j+1)=l'.take j++[y]):=qh (fun j h=>⟨_,rfl,by
  rw[zc (by rw[hll];omega)];congr 2;simp only[<-hl'];exact HKK.out j h⟩)
 have HTWO:Hid (k0=27\/k0=28->∃ x y l2,l'=x :: y :: l2/\2<=l0.length):=qh (fun h=>by
  obtain⟨x,y,l2,rfl⟩:=hok2 h
  exact⟨xx x,xx y,jd l2,by rw[<-hl'];simp only[jd],by simp only[qr];omega⟩)
 rw[hl'];obtain⟨TT,hTT⟩:∃ TT,q00 k0 s0 l'=TT:=⟨_,rfl⟩;rw[hTT];have HTT:=qh hTT;have HOKL:=qh (fun j (h:j < l0.length)=>q5i l0 j h hokL);obtain⟨H,hH⟩:∃ H,w.heap.size=H:=⟨_,rfl⟩;obtain⟨W3,hW3⟩:∃ W3,(w.alloc (.cells #[.int .i64 k0,.string s0,.slice a0 l0.length c0] 25)).alloc (.cells #[.int .i64 0,.string ⟨#[]⟩,.slice none 0 0] 25)=W3:=⟨_,rfl⟩;have z3:W3.heap.size=H+1+1:=by rw[<-hW3];simp[hH]
 have B3:Below H w W3:=by rw[<-hW3,<-hH];exact((Below.refl _ w).alloc (q9 _) _).alloc (by simp) _
 have N3:Row3 W3 H (.int .i64 k0) (.string s0) (.slice a0 l0.length c0):=by
  rw[<-hW3,<-hH];exact(Below.heap_alloc _ _ _ (by simp only[q6];omega)).trans (qk _ _)
 have R3:Row3 W3 (H+1) (.int .i64 0) (.string ⟨#[]⟩) (.slice none 0 0):=by rw[<-hW3,<-hH];exact za (by simp)
 obtain⟨W4,hW4⟩:∃ W4,W3.alloc (.cells #[.int .i64 k0,.string s0,.slice none 0 0] 25)=W4:=⟨_,rfl⟩;have D4:Row3 W4 (H+1+1) (.int .i64 k0) (.string s0) (.slice none 0 0):=by rw[<-hW4];exact za z3.symm
 have B4:Below H w W4:=by rw[<-hW4];exact B3.alloc (by omega) _
 obtain⟨W5,hW5⟩:∃ W5,W4.setCell ⟨H+1+1,2,none⟩ (.slice none 0 0)=W5:=⟨_,rfl⟩;have D5:Row3 W5 (H+1+1) (.int .i64 k0) (.string s0) (.slice none 0 0):=by rw[<-hW5];exact D4.put2 _
 have o5:∀ b',b'≠H+1+1->W5.heap[b']?=W4.heap[b']?:=fun b' hb=>by rw[<-hW5];exact Below.heap_setCell _ _ _ _ (by simp only;exact hb)
 have FX:Hid (FrP H k0 s0 (.slice a0 l0.length c0) l' w 0 W5) :=
  qh ⟨by rw[<-hW5];exact B4.setCell (p:=⟨H+1+1,2,none⟩) (by simp only;omega) _,(o5 _ (by omega)).trans (by rw[<-hW4];exact N3.alloc _),(o5 _ (by omega)).trans (by rw[<-hW4];exact R3.alloc _),none,0,D5,⟨[],World.ownsRow_nil _ _ _ _,(fun g e=>by cases e),fun i hi=>absurd hi (Nat.not_lt_zero i)⟩,(fun g e=>by cases e)⟩
 obtain⟨⟨n0,n1,n2⟩,_⟩:=N3.cells;obtain⟨⟨d0,d1,d2⟩,e0,e1,e2⟩:=D4.cells;have HH:=qh hH;have HT:=qh ht;have HLL:=qh hll;have HIH:=qh ih;have HS0:=qh hs0;have HZ:Hid (1+Nd.szL l0<=90000/\1+Nd.szL l0<=N+1):=qh ⟨by simpa only[Nd.sz]using hz,by simpa only[Nd.sz]using hN⟩;have hlz:l0.length<=90000:=by have:=q2a l0;have:=HZ.out;omega
 clear ht hll ih hs0 hl0 hz hN B3 B4 N3 R3 D4 D5 o5 hok2 hokL HKK hl' hTT;go_enter Tryz.func71,Tryz.ntmps71
 go_upto_region 1 with fail
 (try rw[hW3])
 (try rw[HH.out])
 go_upto_region 2 with fail
 (try rw[hW4])
 (try rw[hW5])
 clear hW3 hW4 hW5 n0 n1 n2 d0 d1 d2 e0 e1 e2 z3;go_wp2
 go_loopw [4] (fun v wr=>∃ j:Nat,j<=l0.length/\v = .int .i64 j/\Hid (FrP H k0 s0 (.slice a0 l0.length c0) l' w j wr)) (fun v _=>l0.length - (intOf v).toNat)
 case atStart=>exact⟨0,qv _,rfl,FX⟩
 case round =>
  obtain⟨j,hj,rfl,hF⟩:=hrel;clear FX
  by_cases hlt:j < l0.length
  ·have hlt':(j:Int) < (l0.length:Int):=by omega
   have hj0:(0:Int)<=(j:Int):=by omega
   obtain⟨b,o,k1,s1,l1,a1,c1,e0,e1,g0,g1,g2,r1⟩:=HT.out.kid j hlt;obtain⟨b1,hb1'⟩:∃ b1,b=b1:=⟨_,rfl⟩;obtain⟨o1,ho1'⟩:∃ o1,o=o1:=⟨_,rfl⟩;subst hb1' ho1' e0;have hb1:b < H:=by rw[<-HH.out];exact qi g0
   have y0:=(hF.out.b.cell (p:=⟨b,o+j*3,none⟩) hb1).trans g0;have y1:=(hF.out.b.cell (p:=⟨b,o+j*3+1,none⟩) hb1).trans g1;have y2:=(hF.out.b.cell (p:=⟨b,o+j*3+2,none⟩) hb1).trans g2;clear g0 g1 g2;obtain⟨oa,oc,dr,kd,hown⟩:=hF.out.d;have hDr:=dr.lt;have hHw:H<=wr.heap.size:=by omega
   have SD:Sx3 H (H+1+1) b o j (.slice oa j oc) (.slice (some ⟨b,o,none⟩) l0.length c0) (.int .i64 k1) (.string s1) (.slice a1 l1.length c1) w wr wr.drew :=
    ⟨hF.out.n.cells.1.2.2,y0,y1,y2,qh (Kp2.refl hF.out.b).drew⟩
   have SXO:=qh (fun(w'':World) (k:Kp2 H (H+1+1) (.slice oa j oc) w wr w'')=>qgx SD (by omega) hb1 hDr hown (fun _ _=>rfl) k);have d5:wr.drew.cell? ⟨H+1+1,2,none⟩=some (.slice oa j oc):=dr.cells.1.2.2;have DR:=qh dr;have KD:=qh kd;have HOWN:=qh hown;have HOWB:=qh (fun g e=>(kd.base0.own g e).2);obtain⟨⟨n0,n1,n2⟩,_⟩:=hF.out.n.cells;have hli:(l'.take j).length=j:=by rw[List.length_take,HLL.out];omega
   have HLI:=qh hli;clear kd hown dr hli;obtain⟨y,hy,htk⟩:=HKID.out j hlt;have HTK:=qh htk;have CI:=qh (HIH.out l0[j] _ _ _ wr.drew (by have:=y5 l0 j hlt;have:=HZ.out;omega) (by rw[e1];exact r1.later (by rw[HH.out];exact hF.out.b.drew)) (HOKL.out j hlt) (by have:=y5 l0 j hlt;have:=HZ.out;omega));rw[hy]at CI;clear y0 y1 y2 r1 e1 hy htk
   go_upto_region 5 with fail
   refine wp_region_held_drew (S:=(fun w'=>w'.cell? ⟨H,2,none⟩=some (.slice (some ⟨b,o,none⟩) l0.length c0)/\w'.cell? ⟨b,o+j*3,none⟩=some (.int .i64 k1)/\w'.cell? ⟨b,o+j*3+1,none⟩=some (.string s1)/\w'.cell? ⟨b,o+j*3+2,none⟩=some (.slice a1 l1.length c1)/\Hid (Kp2 H (H+1+1) (.slice oa j oc) w wr w'))) (by kernel_rfl) SD (fun hHeld=>?_);refine wpAnyH_take (i:=0) (v:=?_) rfl (by kernel_rfl) (by kernel_rfl) (by kernel_rfl) (fun _ _ _ h=>h) (Or.inl ⟨by rfl,?_⟩) (by assumption) ?_
   rotate_left
   ·(intro w hSw;(try dsimp only at hSw);go_simp;try with_reducible rfl)
   try simp only[Act.put,qa]
   refine wpAnyH_take (i:=2) (v:=?_) rfl (by kernel_rfl) (by kernel_rfl) (by kernel_rfl) (fun _ _ _ h=>h) (Or.inl ⟨by rfl,?_⟩) (by assumption) ?_
   rotate_left
   ·(intro w hSw;(try dsimp only at hSw);go_simp;try with_reducible rfl)
   try simp only[Act.put]
   refine wpAnyH_take (i:=3) (v:=?_) rfl (by kernel_rfl) (by kernel_rfl) (by kernel_rfl) (fun _ _ _ h=>h) (Or.inl ⟨by rfl,?_⟩) (by assumption) ?_
   rotate_left
   ·(intro w hSw;(try dsimp only at hSw);go_simp;try with_reducible rfl)
   try simp only[Act.put]
   refine wpAnyH_take (i:=4) (v:=?_) rfl (by kernel_rfl) (by kernel_rfl) (by kernel_rfl) (fun _ _ _ h=>h) (Or.inl ⟨by rfl,?_⟩) (by assumption) ?_
   rotate_left
   ·(intro w hSw;(try dsimp only at hSw);go_simp;try with_reducible rfl)
   try simp only[Act.put]
   refine wpAnyH_take (i:=5) (v:=?_) rfl (by kernel_rfl) (by kernel_rfl) (by kernel_rfl) (fun _ _ _ h=>h) (Or.inl ⟨by rfl,?_⟩) (by assumption) ?_
   rotate_left
   ·(intro w hSw;(try dsimp only at hSw);go_simp;try with_reducible rfl)
   try simp only[Act.put]
   refine wpAnyH_take (i:=6) (v:=?_) rfl (by kernel_rfl) (by kernel_rfl) (by kernel_rfl) (fun _ _ _ h=>h) (Or.inl ⟨by rfl,?_⟩) (by assumption) ?_
   rotate_left
   ·(intro w hSw;(try dsimp only at hSw);go_simp;try with_reducible rfl)
   try simp only[Act.put]
   refine wpAnyH_ready (rs:=[1,7]) (by kernel_rfl) (by simp) ?_;refine AllReadyH.cons rfl (fun K hK=>?_) ?_
   ·skip
    go_simp;refine hK.out _ _ ?_ (fun hHeld=>?_)
    ·exact SD
    clear hK K
    try simp only[Act.put,qa,qe,qf]
    refine wpAnyH_ready (rs:=[7]) (by kernel_rfl) (by simp) ?_;refine AllReadyH.cons rfl (fun K hK=>?_) ?_
    ·skip
     go_simp;refine CI.out.mono ?_;rintro e w7⟨u0,u1,u2,rfl,t7,b7⟩;obtain⟨k7,q7,l7,a7,c7,ek7,rfl,rfl,rfl,_,_⟩:=t7.form;have KP7:=qh (SD.2.2.2.2.out.later hHw b7);have SS7:=SXO.out _ KP7.out;have hz7:wr.heap.size<=w7.heap.size:=KP7.out.1;have K7D:Hid (KidsS (fun b=>H+1+1 < b) w7 (.slice oa j oc) (l'.take j)):=qh (KD.out.keep fun b' h1 h2=>⟨b7.block b' h2,h1⟩);have R7D:Hid (Row3 w7 (H+1+1) (.int .i64 k0) (.string s0) (.slice oa j oc)):=qh ((b7.block _ hDr).trans DR.out);have T7:=qh t7;have d7:w7.cell? ⟨H+1+1,2,none⟩=some (.slice oa j oc):=R7D.out.cells.1.2.2;have d7':=(fun x=>(World.cell?_alloc_past (w:=w7) x (H+1+1) 2 (by omega)).trans d7);clear b7 t7 ek7
     go_wp2_with fail
     refine hK.out _ _ ?_ (fun hHeld=>?_)
     ·exact SS7
     clear hK K
     try simp only[Act.put,qa,qe,qf]
     refine wpAnyH_ready (rs:=[8]) (by kernel_rfl) (by simp) ?_;refine AllReadyH.cons rfl (fun K hK=>?_) ?_
     ·skip
      go_simp;refine hK.out _ _ ?_ (fun hHeld=>?_)
      ·exact(SXO.out _ (KP7.out.alloc hHw _))
      clear hK K
      try simp only[Act.put,qa,qe,qf]
      refine wpAnyH_ready (rs:=[9]) (by kernel_rfl) (by simp) ?_;refine AllReadyH.cons rfl (fun K hK=>?_) ?_
      ·skip
       refine vr rfl _ _ rfl (fun b=>H+1+1 < b) (.slice oa j oc) (l'.take j) rfl (K7D.out.keep fun b' h1 h2=>⟨Below.heap_alloc _ _ _ h2,h1⟩) ⟨w7.heap.size,0,none⟩ 1 (by rfl) y (.int .i64 k7) (.string q7) (.slice a7 l7.length c7) (xu w7 _ _ _ _ _ rfl) (T7.out.keep (fun b' (h1:wr.heap.size<=b') h2=>⟨Below.heap_alloc _ _ _ h2,(show H+1+1 < b' by omega),fun e=>by have:=HOWB.out b' e;omega⟩)) (by rw[HLI.out];omega) (show H+1+1 < (World.alloc w7 _).heap.size by rw[q6];omega) ?_;intro g6 cap6 w8 K8 G8 hg8;rw[HLI.out]at K8 ⊢;have KP8:=qh ((KP7.out.alloc hHw _).grown hHw G8 HOWN.out (by omega));have SS8:=SXO.out _ KP8.out;have R8:=qh ((R7D.out.alloc _).grown' G8 (fun e=>by have:=HOWN.out _ e.symm;omega))
       have HG8:Hid (H+1+1 < g6):=qh (by
        rcases hg8 with h|h
        ·exact HOWN.out _ h
        ·have h9:g6=(World.alloc w7 _).heap.size:=h
         rw[h9,q6];omega)
       obtain⟨⟨y0,y1,y2⟩,z0,z1,z2⟩:=R8.out.cells;have HK8:=qh K8;clear K8 G8 hg8;refine hK.out _ _ ?_ (fun hHeld=>?_)
       ·exact SS8
       clear hK K
       try simp only[Act.put,qa]
       refine wpAnyH_take (i:=10) (v:=?_) rfl (by kernel_rfl) (by kernel_rfl) (by kernel_rfl) (fun _ _ _ h=>h) (Or.inl ⟨by rfl,?_⟩) (by assumption) ?_
       rotate_left
       ·(intro w hSw;(try dsimp only at hSw);go_simp;try with_reducible rfl)
       try simp only[Act.put]
       refine wpAnyH_ready (rs:=[11]) (by kernel_rfl) (by simp) ?_;refine AllReadyH.cons rfl (fun K hK=>?_) ?_
       ·skip
        go_simp;refine hK.out _ _ ?_ (fun hHeld=>?_)
        ·exact(SXO.out _ (KP8.out.set (by omega) _))
        clear hK K
        try simp only[Act.put,qa,qe,qf]
        refine wpAnyH_done (by kernel_rfl) ?_ _;have HFN:=qh (FrP.next hF.out HOWN.out KP8.out HTK.out R8.out HK8.out HG8.out);clear SD SS7 SS8 d5 d7 d7' y0 y1 y2 z0 z1 z2;go_wp2;go_roundw
        case rel=>exact⟨j+1,hlt,by push_cast;rfl,HFN⟩
        case measure=>simp[intOf];omega
       exact AllReadyH.nil
      exact AllReadyH.nil
     exact AllReadyH.nil
    exact AllReadyH.nil
   refine AllReadyH.cons rfl (fun K hK=>?_) ?_
   ·skip
    go_simp;refine CI.out.mono ?_;rintro e w7⟨u0,u1,u2,rfl,t7,b7⟩;obtain⟨k7,q7,l7,a7,c7,ek7,rfl,rfl,rfl,_,_⟩:=t7.form;have KP7:=qh (SD.2.2.2.2.out.later hHw b7);have SS7:=SXO.out _ KP7.out;have hz7:wr.heap.size<=w7.heap.size:=KP7.out.1;have K7D:Hid (KidsS (fun b=>H+1+1 < b) w7 (.slice oa j oc) (l'.take j)):=qh (KD.out.keep fun b' h1 h2=>⟨b7.block b' h2,h1⟩);have R7D:Hid (Row3 w7 (H+1+1) (.int .i64 k0) (.string s0) (.slice oa j oc)):=qh ((b7.block _ hDr).trans DR.out);have T7:=qh t7;have d7:w7.cell? ⟨H+1+1,2,none⟩=some (.slice oa j oc):=R7D.out.cells.1.2.2;have d7':=(fun x=>(World.cell?_alloc_past (w:=w7) x (H+1+1) 2 (by omega)).trans d7);clear b7 t7 ek7
    go_wp2_with fail
    refine hK.out _ _ ?_ (fun hHeld=>?_)
    ·exact SS7
    clear hK K
    try simp only[Act.put,qa,qe,qf]
    refine wpAnyH_ready (rs:=[1,8]) (by kernel_rfl) (by simp) ?_;refine AllReadyH.cons rfl (fun K hK=>?_) ?_
    ·skip
     go_simp;refine hK.out _ _ ?_ (fun hHeld=>?_)
     ·exact SS7
     clear hK K
     try simp only[Act.put,qa,qe,qf]
     refine wpAnyH_ready (rs:=[8]) (by kernel_rfl) (by simp) ?_;refine AllReadyH.cons rfl (fun K hK=>?_) ?_
     ·skip
      go_simp;refine hK.out _ _ ?_ (fun hHeld=>?_)
      ·exact(SXO.out _ (KP7.out.alloc hHw _))
      clear hK K
      try simp only[Act.put,qa,qe,qf]
      refine wpAnyH_ready (rs:=[9]) (by kernel_rfl) (by simp) ?_;refine AllReadyH.cons rfl (fun K hK=>?_) ?_
      ·skip
       refine vr rfl _ _ rfl (fun b=>H+1+1 < b) (.slice oa j oc) (l'.take j) rfl (K7D.out.keep fun b' h1 h2=>⟨Below.heap_alloc _ _ _ h2,h1⟩) ⟨w7.heap.size,0,none⟩ 1 (by rfl) y (.int .i64 k7) (.string q7) (.slice a7 l7.length c7) (xu w7 _ _ _ _ _ rfl) (T7.out.keep (fun b' (h1:wr.heap.size<=b') h2=>⟨Below.heap_alloc _ _ _ h2,(show H+1+1 < b' by omega),fun e=>by have:=HOWB.out b' e;omega⟩)) (by rw[HLI.out];omega) (show H+1+1 < (World.alloc w7 _).heap.size by rw[q6];omega) ?_;intro g6 cap6 w8 K8 G8 hg8;rw[HLI.out]at K8 ⊢;have KP8:=qh ((KP7.out.alloc hHw _).grown hHw G8 HOWN.out (by omega));have SS8:=SXO.out _ KP8.out;have R8:=qh ((R7D.out.alloc _).grown' G8 (fun e=>by have:=HOWN.out _ e.symm;omega))
       have HG8:Hid (H+1+1 < g6):=qh (by
        rcases hg8 with h|h
        ·exact HOWN.out _ h
        ·have h9:g6=(World.alloc w7 _).heap.size:=h
         rw[h9,q6];omega)
       obtain⟨⟨y0,y1,y2⟩,z0,z1,z2⟩:=R8.out.cells;have HK8:=qh K8;clear K8 G8 hg8;refine hK.out _ _ ?_ (fun hHeld=>?_)
       ·exact SS8
       clear hK K
       try simp only[Act.put,qa]
       refine wpAnyH_take (i:=10) (v:=?_) rfl (by kernel_rfl) (by kernel_rfl) (by kernel_rfl) (fun _ _ _ h=>h) (Or.inl ⟨by rfl,?_⟩) (by assumption) ?_
       rotate_left
       ·(intro w hSw;(try dsimp only at hSw);go_simp;try with_reducible rfl)
       try simp only[Act.put]
       refine wpAnyH_ready (rs:=[11]) (by kernel_rfl) (by simp) ?_;refine AllReadyH.cons rfl (fun K hK=>?_) ?_
       ·skip
        go_simp;refine hK.out _ _ ?_ (fun hHeld=>?_)
        ·exact(SXO.out _ (KP8.out.set (by omega) _))
        clear hK K
        try simp only[Act.put,qa,qe,qf]
        refine wpAnyH_done (by kernel_rfl) ?_ _;have HFN:=qh (FrP.next hF.out HOWN.out KP8.out HTK.out R8.out HK8.out HG8.out);clear SD SS7 SS8 d5 d7 d7' y0 y1 y2 z0 z1 z2;go_wp2;go_roundw
        case rel=>exact⟨j+1,hlt,by push_cast;rfl,HFN⟩
        case measure=>simp[intOf];omega
       exact AllReadyH.nil
      exact AllReadyH.nil
     exact AllReadyH.nil
    refine AllReadyH.cons rfl (fun K hK=>?_) ?_
    ·skip
     go_simp;refine hK.out _ _ ?_ (fun hHeld=>?_)
     ·exact(SXO.out _ (KP7.out.alloc hHw _))
     clear hK K
     try simp only[Act.put,qa,qe,qf]
     refine wpAnyH_ready (rs:=[1]) (by kernel_rfl) (by simp) ?_;refine AllReadyH.cons rfl (fun K hK=>?_) ?_
     ·skip
      go_simp;refine hK.out _ _ ?_ (fun hHeld=>?_)
      ·exact(SXO.out _ (KP7.out.alloc hHw _))
      clear hK K
      try simp only[Act.put,qa,qe,qf]
      refine wpAnyH_ready (rs:=[9]) (by kernel_rfl) (by simp) ?_;refine AllReadyH.cons rfl (fun K hK=>?_) ?_
      ·skip
       refine vr rfl _ _ rfl (fun b=>H+1+1 < b) (.slice oa j oc) (l'.take j) rfl (K7D.out.keep fun b' h1 h2=>⟨Below.heap_alloc _ _ _ h2,h1⟩) ⟨w7.heap.size,0,none⟩ 1 (by rfl) y (.int .i64 k7) (.string q7) (.slice a7 l7.length c7) (xu w7 _ _ _ _ _ rfl) (T7.out.keep (fun b' (h1:wr.heap.size<=b') h2=>⟨Below.heap_alloc _ _ _ h2,(show H+1+1 < b' by omega),fun e=>by have:=HOWB.out b' e;omega⟩)) (by rw[HLI.out];omega) (show H+1+1 < (World.alloc w7 _).heap.size by rw[q6];omega) ?_;intro g6 cap6 w8 K8 G8 hg8;rw[HLI.out]at K8 ⊢;have KP8:=qh ((KP7.out.alloc hHw _).grown hHw G8 HOWN.out (by omega));have SS8:=SXO.out _ KP8.out;have R8:=qh ((R7D.out.alloc _).grown' G8 (fun e=>by have:=HOWN.out _ e.symm;omega))
       have HG8:Hid (H+1+1 < g6):=qh (by
        rcases hg8 with h|h
        ·exact HOWN.out _ h
        ·have h9:g6=(World.alloc w7 _).heap.size:=h
         rw[h9,q6];omega)
       obtain⟨⟨y0,y1,y2⟩,z0,z1,z2⟩:=R8.out.cells;have HK8:=qh K8;clear K8 G8 hg8;refine hK.out _ _ ?_ (fun hHeld=>?_)
       ·exact SS8
       clear hK K
       try simp only[Act.put,qa]
       refine wpAnyH_take (i:=10) (v:=?_) rfl (by kernel_rfl) (by kernel_rfl) (by kernel_rfl) (fun _ _ _ h=>h) (Or.inl ⟨by rfl,?_⟩) (by assumption) ?_
       rotate_left
       ·(intro w hSw;(try dsimp only at hSw);go_simp;try with_reducible rfl)
       try simp only[Act.put]
       refine wpAnyH_ready (rs:=[11]) (by kernel_rfl) (by simp) ?_;refine AllReadyH.cons rfl (fun K hK=>?_) ?_
       ·skip
        go_simp;refine hK.out _ _ ?_ (fun hHeld=>?_)
        ·exact(SXO.out _ (KP8.out.set (by omega) _))
        clear hK K
        try simp only[Act.put,qa,qe,qf]
        refine wpAnyH_done (by kernel_rfl) ?_ _;have HFN:=qh (FrP.next hF.out HOWN.out KP8.out HTK.out R8.out HK8.out HG8.out);clear SD SS7 SS8 d5 d7 d7' y0 y1 y2 z0 z1 z2;go_wp2;go_roundw
        case rel=>exact⟨j+1,hlt,by push_cast;rfl,HFN⟩
        case measure=>simp[intOf];omega
       exact AllReadyH.nil
      exact AllReadyH.nil
     exact AllReadyH.nil
    exact AllReadyH.nil
   exact AllReadyH.nil
  ·have hlt':¬ ((j:Int) < (l0.length:Int)):=by omega
   obtain rfl:j=l0.length:=by omega
   obtain⟨oa,oc,dr,kd,hown⟩:=hF.out.d;have R:=hF.out.r;have HR:=qh R;have hhD:=dr.lt;obtain⟨⟨d0,d1,d2⟩,_⟩:=dr.cells;obtain⟨⟨r0,r1,r2⟩,q0,q1,q2⟩:=R.cells;obtain⟨⟨n0,n1,n2⟩,_⟩:=hF.out.n.cells;have KD:=qh kd;clear dr kd R
   by_cases h27:k0=27
   ·subst h27
    obtain⟨x,y,l2,hxy,h2⟩:=HTWO.out (.inl rfl);have ka:=KD.out.node 27 s0 HS0.out (by rw[qw (by rw[HLL.out];omega)];rw[HLL.out];unfold maxLen;omega);rw[qw (by rw[HLL.out];omega)]at ka;have hTT:=HTT.out;rw[hxy,show q00 27 s0 (x :: y :: l2) = .mk 25 ⟨#[]⟩ [y,x] from rfl]at hTT;subst hTT;rw[hxy]at ka;obtain⟨b,o,kx,sx,lx,ax,cx,eo,ex,g0,g1,g2,rx⟩:=ka.kid 0 (by simp);obtain⟨b',o',ky,sy,ly,ay,cy,eo',ey,h0,h1,h3,ry⟩:=ka.kid 1 (by simp);subst eo;obtain⟨rfl,rfl⟩:b=b'/\o=o':=by simpa using eo'
    simp only[zk,zi]at ex ey;rw[show o+0*3=o from by omega]at g0 g1 g2;rw[show o+1*3=o+3 from by omega]at h0 h1 h3;have hD1:((l0.length:Int)) > 1:=by omega
    have hD0:(0:Int) < ((l0.length:Int)):=by omega
    have hD1':(1:Int) < ((l0.length:Int)):=by omega
    have RX:=qh rx;have RY:=qh ry;have EX:=qh ex;have EY:=qh ey;clear rx ry ex ey ka eo';clear hown;have HR7:Hid (∀ o,Row3 (wr.alloc o).drew (H+1) (.int .i64 0) (.string ⟨#[]⟩) (.slice none 0 0)):=qh fun o=>Row3.alloc (W:=wr) HR.out o
    have RR:∀ o,Row3 (wr.alloc o) (H+1) (.int .i64 0) (.string ⟨#[]⟩) (.slice none 0 0):=fun o=>Row3.alloc (W:=wr) HR.out o
    have r0':=fun o=>(RR o).cells.1.1
    have r1':=fun o=>(RR o).cells.1.2.1
    have r2':=fun o=>(RR o).cells.1.2.2
    have q0':=fun o=>(RR o).cells.2.1
    have q1':=fun o=>(RR o).cells.2.2.1
    have q2':=fun o=>(RR o).cells.2.2.2
    clear RR;have HE7:=qh (fun T a0 a1 a2=>q9k hF.out.b hhD (EX.out▸RX.out) (EY.out▸RY.out) T 25 a0 a1 a2)
    go_upto_region 7 with fail
    go_region
    go_wp2;refine zh ((HR7.out _).put _ _ _) rfl rfl rfl ?_;have hh:=HH.out;have he:=HE7.out 25 (.int .i64 25) (.string ⟨#[]⟩) (.slice (some ⟨wr.drew.heap.size,0,none⟩) 2 2)
    (try rw[hh])
    exact⟨_,_,_,rfl,he.1,he.2⟩
   ·by_cases h28:k0=28
    ·subst h28
     have e27:((28:Int)==27)=false:=rfl;obtain⟨x,y,l2,hxy,h2⟩:=HTWO.out (.inr rfl);have ka:=KD.out.node 28 s0 HS0.out (by rw[qw (by rw[HLL.out];omega)];rw[HLL.out];unfold maxLen;omega);rw[qw (by rw[HLL.out];omega)]at ka;have hTT:=HTT.out;rw[hxy,show q00 28 s0 (x :: y :: l2) = .mk 26 ⟨#[]⟩ [y,x] from rfl]at hTT;subst hTT;rw[hxy]at ka;obtain⟨b,o,kx,sx,lx,ax,cx,eo,ex,g0,g1,g2,rx⟩:=ka.kid 0 (by simp);obtain⟨b',o',ky,sy,ly,ay,cy,eo',ey,h0,h1,h3,ry⟩:=ka.kid 1 (by simp);subst eo;obtain⟨rfl,rfl⟩:b=b'/\o=o':=by simpa using eo'
     simp only[zk,zi]at ex ey;rw[show o+0*3=o from by omega]at g0 g1 g2;rw[show o+1*3=o+3 from by omega]at h0 h1 h3;have hD1:((l0.length:Int)) > 1:=by omega
     have hD0:(0:Int) < ((l0.length:Int)):=by omega
     have hD1':(1:Int) < ((l0.length:Int)):=by omega
     have RX:=qh rx;have RY:=qh ry;have EX:=qh ex;have EY:=qh ey;clear rx ry ex ey ka eo';clear hown;have HR7:Hid (∀ o,Row3 (wr.alloc o).drew (H+1) (.int .i64 0) (.string ⟨#[]⟩) (.slice none 0 0)):=qh fun o=>Row3.alloc (W:=wr) HR.out o
     have RR:∀ o,Row3 (wr.alloc o) (H+1) (.int .i64 0) (.string ⟨#[]⟩) (.slice none 0 0):=fun o=>Row3.alloc (W:=wr) HR.out o
     have r0':=fun o=>(RR o).cells.1.1
     have r1':=fun o=>(RR o).cells.1.2.1
     have r2':=fun o=>(RR o).cells.1.2.2
     have q0':=fun o=>(RR o).cells.2.1
     have q1':=fun o=>(RR o).cells.2.2.1
     have q2':=fun o=>(RR o).cells.2.2.2
     clear RR;have HE7:=qh (fun T a0 a1 a2=>q9k hF.out.b hhD (EX.out▸RX.out) (EY.out▸RY.out) T 26 a0 a1 a2)
     go_upto_region 9 with fail
     go_region
     go_wp2;refine zh ((HR7.out _).put _ _ _) rfl rfl rfl ?_;have hh:=HH.out;have he:=HE7.out 25 (.int .i64 26) (.string ⟨#[]⟩) (.slice (some ⟨wr.drew.heap.size,0,none⟩) 2 2)
     (try rw[hh])
     exact⟨_,_,_,rfl,he.1,he.2⟩
    ·have e27:(k0==27)=false:=by rw[qc];exact h27
     have e28:(k0==28)=false:=by rw[qc];exact h28
     have hTT:=HTT.out;rw[qcf k0 s0 l' h27 h28]at hTT;subst hTT;clear hown;go_wp2;refine zh (HR.out.put _ _ _) rfl rfl rfl ?_;have hh:=HH.out;have kn:=KD.out;rw[qw (by rw[HLL.out];omega)]at kn;have kn2:=kn.node k0 s0 HS0.out (by rw[HLL.out];unfold maxLen;omega);refine⟨_,_,_,rfl,kn2.keep (fun b' (h1:H+1+1 < b') _=>⟨(Below.heap_setCell _ _ _ _ (show b'≠H+1 by omega)).trans ((Below.heap_setCell _ _ _ _ (show b'≠H+1 by omega)).trans (Below.heap_setCell _ _ _ _ (show b'≠H+1 by omega))),by omega⟩),?_⟩
     first
      |exact zu hF.out.b (by omega) _ _ _
      |(rw[HH.out];exact zu hF.out.b (by omega) _ _ _)
attribute [local go_sem] Oper.semAt_some
theorem qab(t:Nd)(v0 v1 v2:Value)(w:World)(ht:NdR w t v0 v1 v2)(er:Int)(tr:Nd)(hc:zx t=er)(hA:(er≠0/\tr=jt)\/(er=0/\tr=xx t)) :
  Calls Tryz.prog 28 #[.agg #[v0,v1,v2]] w (PR er tr w):=by
 obtain⟨k0,s0,l0,a0,c0,rfl,rfl,rfl,rfl,_,_⟩:=ht.form;obtain⟨H,hH⟩:∃ H,w.heap.size=H:=⟨_,rfl⟩;obtain⟨W2,hW2⟩:∃ W2,(w.alloc (.cells #[.int .i64 k0,.string s0,.slice a0 l0.length c0] 25)).alloc (.cells #[.int .i64 0,.string ⟨#[]⟩,.slice none 0 0] 25)=W2:=⟨_,rfl⟩;have z2:W2.heap.size=H+1+1:=by rw[<-hW2];simp[hH]
 have B2:Below H w W2:=by rw[<-hW2,<-hH];exact((Below.refl _ w).alloc (q9 _) _).alloc (by simp) _
 have N2:Row3 W2 H (.int .i64 k0) (.string s0) (.slice a0 l0.length c0):=by
  rw[<-hW2,<-hH];exact(Below.heap_alloc _ _ _ (by simp)).trans (qk _ _)
 have R2:Row3 W2 (H+1) (.int .i64 0) (.string ⟨#[]⟩) (.slice none 0 0):=by rw[<-hW2,<-hH];exact za (by simp)
 have CK:=qh (vk _ W2 _ _ _ (ht.later (by rw[hH];exact B2)));rw[hc]at CK;have HT:=qh ht;have HC:=qh hc;have HH:=qh hH;have HZ:=qh z2;have HAS:=qh hA;have HB2:=qh B2;have HN2:=qh N2;have HR2:=qh R2;obtain⟨⟨n0,n1,n2⟩,_⟩:=N2.cells;clear ht hc hA B2 N2 R2;go_enter Tryz.func28,Tryz.ntmps28
 go_upto_region 1 with fail
 (try rw[hW2])
 (try rw[HH.out])
 clear hW2
 go_wp2_with fail
 refine CK.out.mono ?_;rintro e w3⟨rfl,b3⟩;have zz:=HZ.out;have N3:Row3 w3 H (.int .i64 k0) (.string s0) (.slice a0 l0.length c0):=HN2.out.below b3 HN2.out.lt;have R3:Row3 w3 (H+1) (.int .i64 0) (.string ⟨#[]⟩) (.slice none 0 0):=HR2.out.below b3 HR2.out.lt;have HB3:=qh (HB2.out.trans (b3.mono (by omega)));have hz3:H+1+1<=w3.heap.size:=by have:=b3.size;omega
 obtain⟨⟨n0',n1',n2'⟩,_⟩:=N3.cells;obtain⟨⟨r0,r1,r2⟩,q0,q1,q2⟩:=R3.cells;have HR3:=qh R3;clear n0 n1 n2 N3 R3 CK HN2 HR2 HB2
 by_cases hc0:er=0
 ·subst hc0
  have hE:Hid (tr=xx (.mk k0 s0 l0)):=qh (by
   rcases HAS.out with h|h
   ·exact absurd rfl h.1
   ·exact h.2)
  have hf:=qbc _ (q0f HC.out).1;have hsz:=q3j HC.out;have RB:=qh (q37 69 #[] w3 (fun _=>True) (fun _ _ _ t=>PPl t) (fun _ _ _ t=>q5u t) (fun _ _=>rfl) (fun _ _ _ _=>trivial) (fun n₁ H A vp vi v0 v1 v2 ps ins wd t _ _ h3 _ h5 h6 _ _ h9 h10=>qf7 n₁ H A vp vi v0 v1 v2 ps ins wd t h3 h5 h6 (fun g e=>(World.ownsRow.lt h5 g e).2) (fun g e=>(World.ownsRow.lt h6 g e).2) h9 h10) _ _ (qa8 _ (.mk k0 s0 l0) (q9 _) (q7m HC.out) [] [] false) _ _ _ trivial (HT.out.later (by rw[HH.out];exact HB3.out)) (by omega) hf.1);clear hf hsz r0 r1 r2 q0 q1 q2
  go_wp2_with fail
  refine RB.out.mono ?_;rintro e w6⟨u0,u1,u2,rfl,t6,b6⟩;obtain⟨_,_,_,a6,c6,e6,rfl,rfl,rfl,_,_⟩:=t6.form;have R6:Row3 w6 (H+1) (.int .i64 0) (.string ⟨#[]⟩) (.slice none 0 0):=HR3.out.below b6 HR3.out.lt;have HR6:=qh R6;have HB6:=qh (HB3.out.trans (b6.mono (show H<=w3.heap.size by omega)));have T6:=qh t6;obtain⟨⟨r0,r1,r2⟩,q0,q1,q2⟩:=R6.cells;clear R6 b6 t6 RB n0' n1' n2';go_wp2;refine kr (HR6.out.put _ _ _) rfl rfl rfl rfl ?_;rw[hE.out];refine⟨_,_,_,rfl,(T6.out.keep (S':=fun _=>True) (fun b (h1:w3.heap.size<=b) _=>⟨?_,trivial⟩)).toR,by rw[HH.out];exact zu HB6.out (by omega) _ _ _⟩;exact(Below.heap_setCell _ _ _ _ (by simp only;omega)).trans ((Below.heap_setCell _ _ _ _ (by simp only;omega)).trans (Below.heap_setCell _ _ _ _ (by simp only;omega)))
 ·have hc1:(er==0)=false:=by simp[hc0]
  have hE:Hid (tr=jt):=qh (by
   rcases HAS.out with h|h
   ·exact h.2
   ·exact absurd h.1 hc0)
  clear n0' n1' n2';go_wp2;refine kr (HR3.out.put _ _ _) rfl rfl rfl rfl ?_;rw[hE.out];exact⟨_,_,_,rfl,wm _,by rw[HH.out];exact zu HB3.out (by omega) _ _ _⟩
attribute [local go_sem] Oper.semAt_some
theorem q8v(t:Nd)(v0 v1 v2:Value)(w:World)(ht:NdR w t v0 v1 v2)(er:Int)(tr:Nd)(hc:zx t=er)(hA:(er≠0/\tr=jt)\/(er=0/\tr=xx t)) :
  Calls Tryz.prog 29 #[.agg #[v0,v1,v2]] w (MR er tr w):=by
 obtain⟨k0,s0,l0,a0,c0,rfl,rfl,rfl,rfl,_,_⟩:=ht.form;obtain⟨H,hH⟩:∃ H,w.heap.size=H:=⟨_,rfl⟩;obtain⟨W2,hW2⟩:∃ W2,(w.alloc (.cells #[.int .i64 k0,.string s0,.slice a0 l0.length c0] 25)).alloc (.cells #[.int .i64 0,.string ⟨#[]⟩,.slice none 0 0,.int .i64 0] 51)=W2:=⟨_,rfl⟩;have z2:W2.heap.size=H+1+1:=by rw[<-hW2];simp[hH]
 have B2:Below H w W2:=by rw[<-hW2,<-hH];exact((Below.refl _ w).alloc (q9 _) _).alloc (by simp) _
 have N2:Row3 W2 H (.int .i64 k0) (.string s0) (.slice a0 l0.length c0):=by
  rw[<-hW2,<-hH];exact(Below.heap_alloc _ _ _ (by simp)).trans (qk _ _)
 have R2:Row4 W2 (H+1) (.int .i64 0) (.string ⟨#[]⟩) (.slice none 0 0) (.int .i64 0):=by rw[<-hW2,<-hH];exact za (by simp)
 have CK:=qh (q63 _ W2 _ _ _ (ht.later (by rw[hH];exact B2)));rw[hc]at CK;have HT:=qh ht;have HC:=qh hc;have HH:=qh hH;have HZ:=qh z2;have HAS:=qh hA;have HB2:=qh B2;have HN2:=qh N2;have HR2:=qh R2;obtain⟨⟨n0,n1,n2⟩,_⟩:=N2.cells;clear ht hc hA B2 N2 R2;go_enter Tryz.func29,Tryz.ntmps29
 go_upto_region 1 with fail
 (try rw[hW2])
 (try rw[HH.out])
 clear hW2
 go_wp2_with fail
 refine CK.out.mono ?_;rintro e w3⟨rfl,b3⟩;have zz:=HZ.out;have N3:Row3 w3 H (.int .i64 k0) (.string s0) (.slice a0 l0.length c0):=HN2.out.below b3 HN2.out.lt;have R3:Row4 w3 (H+1) (.int .i64 0) (.string ⟨#[]⟩) (.slice none 0 0) (.int .i64 0):=HR2.out.below b3 HR2.out.lt;have HB3:=qh (HB2.out.trans (b3.mono (by omega)));obtain⟨⟨n0',n1',n2'⟩,_⟩:=N3.cells;obtain⟨⟨r0,r1,r2,r3⟩,q0,q1,q2,q3⟩:=R3.cells;have HR3:=qh R3;clear n0 n1 n2 N3 CK HN2 HR2 HB2
 by_cases hc0:er=0
 ·subst hc0
  have hE:Hid (tr=xx (.mk k0 s0 l0)):=qh (by
   rcases HAS.out with h|h
   ·exact absurd rfl h.1
   ·exact h.2)
  have CP:=qh (qey _ (.mk k0 s0 l0) _ _ _ w3 (q9 _) (HT.out.later (by rw[HH.out];exact HB3.out)) (q7m HC.out) (qo (q3j HC.out) (by decide)));rw[<-hE.out]at CP;clear r0 r1 r2 r3 q0 q1 q2 q3 R3
  go_wp2_with fail
  refine CP.out.mono ?_;rintro e w4⟨u0,u1,u2,rfl,tq,b4⟩;have zw3:=HR3.out.lt;have R4:Row4 w4 (H+1) (.int .i64 0) (.string ⟨#[]⟩) (.slice none 0 0) (.int .i64 0):=HR3.out.below b4 zw3;have HB4:=qh (HB3.out.trans (b4.mono (by omega)));obtain⟨k4,s4,l4,a4,c4,e4,rfl,rfl,rfl,_,_⟩:=tq.form;obtain⟨⟨r0,r1,r2,r3⟩,q0,q1,q2,q3⟩:=R4.cells;have HR4:=qh R4;have TQ:=qh tq;clear tq b4 R4 CP n0' n1' n2' e4;go_wp2;refine wo (HR4.out.put _ _ _ _) rfl rfl rfl ?_;refine⟨_,_,_,rfl,?_,by rw[HH.out];exact vm HB4.out (by omega) _ _ _ _⟩;exact(TQ.out.keep (S':=fun _=>True) (fun b (h1:w3.heap.size<=b) _=>⟨qnk _ _ _ _ (by omega),trivial⟩)).toR
 ·have hc1:(er==0)=false:=by simp[hc0]
  have hE:Hid (tr=jt):=qh (by
   rcases HAS.out with h|h
   ·exact h.2
   ·exact absurd h.1 hc0)
  clear n0' n1' n2' R3;go_wp2;refine wo (HR3.out.put _ _ _ _) rfl rfl rfl ?_;rw[hE.out];exact⟨_,_,_,rfl,wm _,by rw[HH.out];exact vm HB3.out (by omega) _ _ _ _⟩
end Go.Proofs.YtkckddojlignpaaGreatDoor
namespace Go.Proofs.YtkckddojlignpaaGreatDoor
open Go.RowKit
theorem qhc(n:Nat):∀ (t u:Nd) (w:World) (v0 v1 v2 u0 u1 u2:Value),t.sz<=n->NdR w t v0 v1 v2->NdR w u u0 u1 u2 ->
  Calls Tryz.prog 17 #[.agg #[v0,v1,v2],.agg #[u0,u1,u2]] w fun e w'=>e = .returned (.bool (ku t u))/\Below w.heap.size w w':=by
 induction n with
 |zero=>intro t u w v0 v1 v2 u0 u1 u2 h;cases t;simp only[Nd.sz]at h;omega
 |succ n ih =>
  intro t u w v0 v1 v2 u0 u1 u2 hsz ht hu;obtain⟨k,s,l,a,cap,rfl,rfl,rfl,rfl,hs,hl⟩:=ht.form;obtain⟨k',s',l',a',cap',rfl,rfl,rfl,rfl,hs',hl'⟩:=hu.form;have IH:=qh ih;clear ih;unfold maxLen at hl hl'
  by_cases hk:k=k'
  ·subst hk
   have hk2:(k != k)=false:=by simp
   by_cases hse:s.toList=s'.toList
   ·have hs2:(s.toList != s'.toList)=false:=by rw[hse];simp
    have hs3:(!(s.toList==s'.toList))=false:=by rw[hse];simp
    by_cases hll:l.length=l'.length
    ·have hl2:((l.length:Int) != (l'.length:Int))=false:=by rw[hll];simp
     have HS:Hid (ku (.mk k s l) (.mk k s' l')=ke l l'):=qh (by simp only[ku];rw[hse];simp);have HL:=qh hll;have HT:=qh ht;have HU:=qh hu;have Hsz:Hid (∀ i,(h:i < l.length)->(l[i]).sz<=n):=qh fun i h=>by have:=Nd.kid_lt k s l i h;omega
     have hss:=qh hse;clear hse hll ht hu hsz;go_enter Tryz.func17,Tryz.ntmps17;go_wp2;obtain⟨h,hh⟩:∃ h,w.heap.size=h:=⟨_,rfl⟩;obtain⟨wz,hwz⟩:∃ wz,(w.alloc (Obj.cells #[Value.int IntKind.i64 k,Value.string s,Value.slice a l.length cap] 25)).alloc (Obj.cells #[Value.int IntKind.i64 k,Value.string s',Value.slice a' l'.length cap'] 25)=wz:=⟨_,rfl⟩;have hB:Hid (Below w.heap.size w wz):=qh (by rw[<-hwz];exact((Below.refl _ w).alloc (q9 _) _).alloc (by simp) _);have hz:wz.heap.size=h+1+1:=by rw[<-hwz];simp[hh]
     have g0:wz.cell? ⟨h,2,none⟩=some (.slice a l.length cap):=by
      rw[<-hwz,<-hh];exact(World.cell?_alloc_past _ _ _ (by simp)).trans ((World.cell?_alloc_at _ _ _ _ rfl).trans rfl)
     have g1:wz.cell? ⟨h+1,2,none⟩=some (.slice a' l'.length cap'):=by
      rw[<-hwz,<-hh];exact(World.cell?_alloc_at _ _ _ _ (by simp)).trans rfl
     have HG0:=qh g0;have HG1:=qh g1;have Hz:=qh hz;have HTz:=qh (HT.out.later hB.out);have HUz:=qh (HU.out.later hB.out);rw[hwz,hh];clear hwz hh hz g0 g1 HT HU
     go_loopw [5] (fun v5 wr=>∃ i:Nat,i<=l.length/\v5 = .int .i64 i/\Hid (ke l l'=ke (l.drop i) (l'.drop i))/\Hid (Below wz.heap.size wz wr)) (fun v5 _=>l.length - (intOf v5).toNat)
     case atStart=>exact⟨0,qv _,rfl,rfl,Below.refl _ _⟩
     case round =>
      obtain⟨i,hi,rfl,hrun,hbl⟩:=hrel;have g0:=(hbl.out.cell (p:=⟨h,2,none⟩) (by have:=Hz.out;simp only;omega)).trans HG0.out;have g1:=(hbl.out.cell (p:=⟨h+1,2,none⟩) (by have:=Hz.out;simp only;omega)).trans HG1.out
      by_cases hlt:i < l.length
      ·have hlt':(i:Int) < (l.length:Int):=by omega
       have hi2:i < l'.length:=by have:=HL.out;omega
       have hlt2:(i:Int) < (l'.length:Int):=by omega
       have hi0:(0:Int)<=(i:Int):=by omega
       obtain⟨b,o,k1,s1,l1,a1,c1,rfl,e1,x0,x1,x2,r1⟩:=(HTz.out.later hbl.out).kid i hlt;obtain⟨b',o',k2,s2,l2,a2,c2,rfl,e2,y0,y1,y2,r2⟩:=(HUz.out.later hbl.out).kid i hi2;have Hst:=qh (q7t hlt hi2);have hsz1:=Hsz.out i hlt;rw[e1]at hsz1;rw[e1,e2]at Hst;obtain⟨V,hV⟩:∃ V,ku (.mk k1 s1 l1) (.mk k2 s2 l2)=V:=⟨_,rfl⟩;have C:=qh (fun w (h1:NdR w (.mk k1 s1 l1) _ _ _) (h2:NdR w (.mk k2 s2 l2) _ _ _)=>IH.out _ _ w (.int .i64 k1) (.string s1) (.slice a1 l1.length c1) (.int .i64 k2) (.string s2) (.slice a2 l2.length c2) hsz1 h1 h2);rw[hV]at C Hst;have R1:=qh r1;have R2:=qh r2;have L0:=qi g0;have L1:=qi g1;have L2:=qi x0;have L3:=qi y0;clear e1 e2 hV r1 r2
       go_upto_region 6 with fail
       go_cut [45] (fun v wx=>v = .bool (!V)/\Hid (Below wz.heap.size wz wx))
       case first =>
        go_region_held3 (fun w'=>w'.cell? ⟨h,2,none⟩=some (.slice (some ⟨b,o,none⟩) l.length cap)/\w'.cell? ⟨h+1,2,none⟩=some (.slice (some ⟨b',o',none⟩) l'.length cap')/\w'.cell? ⟨b,o+i*3,none⟩=some (.int .i64 k1)/\w'.cell? ⟨b,o+i*3+1,none⟩=some (.string s1)/\w'.cell? ⟨b,o+i*3+2,none⟩=some (.slice a1 l1.length c1)/\w'.cell? ⟨b',o'+i*3,none⟩=some (.int .i64 k2)/\w'.cell? ⟨b',o'+i*3+1,none⟩=some (.string s2)/\w'.cell? ⟨b',o'+i*3+2,none⟩=some (.slice a2 l2.length c2))
         (first|exact⟨g0,g1,x0,x1,x2,y0,y1,y2⟩|exact⟨(hb5.cell (p:=⟨h,2,none⟩) L0).trans g0,(hb5.cell (p:=⟨h+1,2,none⟩) L1).trans g1,(hb5.cell (p:=⟨b,o+i*3,none⟩) L2).trans x0,(hb5.cell (p:=⟨b,o+i*3+1,none⟩) L2).trans x1,(hb5.cell (p:=⟨b,o+i*3+2,none⟩) L2).trans x2,(hb5.cell (p:=⟨b',o'+i*3,none⟩) L3).trans y0,(hb5.cell (p:=⟨b',o'+i*3+1,none⟩) L3).trans y1,(hb5.cell (p:=⟨b',o'+i*3+2,none⟩) L3).trans y2⟩)
         ((go_at_call 17;refine(C.out _ (R1.out.later (Below.refl _ _).drew) (R2.out.later (Below.refl _ _).drew)).mono ?_;rintro e w5 ⟨rfl,hb5⟩))
        all_goals go_wp2
        all_goals go_meet
        all_goals exact⟨rfl,qh (hbl.out.drew.trans (hb5.mono hbl.out.size))⟩
       case rest =>
        obtain⟨rfl,hbx⟩:=hcut;clear C R1 R2 g0 g1 x0 x1 x2 y0 y1 y2
        cases V with
        |false =>
         go_wp2;go_ret;exact⟨by rw[HS.out,hrun.out,Hst.out];rfl,hB.out.trans (hbx.out.mono hB.out.size)⟩
        |true =>
         go_wp2;go_roundw
         case rel=>exact⟨i+1,hlt,by push_cast;rfl,qh (by rw[hrun.out,Hst.out];rfl),hbx⟩
         case measure=>simp[intOf];omega
      ·have hlt':¬ ((i:Int) < (l.length:Int)):=by omega
       go_wp2;go_ret;exact⟨by rw[HS.out,hrun.out,q9f (by omega) (by have:=HL.out;omega)];rfl,hB.out.trans (hbl.out.mono hB.out.size)⟩
    ·have hl2:((l.length:Int) != (l'.length:Int))=true:=by rw[bne_iff_ne];omega
     have HS:Hid (ku (.mk k s l) (.mk k s' l')=false):=qh (by simp only[ku];rw[q55 l l' hll,Bool.and_false]);have hss:=qh hse;clear hse hll ht hu;go_enter Tryz.func17,Tryz.ntmps17;go_wp2;go_ret;exact⟨by rw[HS.out];rfl,((Below.refl _ w).alloc (q9 _) _).alloc (by simp) _⟩
   ·have hs2:(s.toList==s'.toList)=false:=by rw[qc];exact hse
    have HS:Hid (ku (.mk k s l) (.mk k s' l')=false):=qh (by simp only[ku];rw[hs2,Bool.and_false];rfl);have hs3:(s=s')=False:=eq_false (by rintro rfl;exact hse rfl);clear hse ht hu;go_enter Tryz.func17,Tryz.ntmps17;go_wp2;go_ret;exact⟨by rw[HS.out];rfl,((Below.refl _ w).alloc (q9 _) _).alloc (by simp) _⟩
  ·have hk2:(k != k')=true:=by rw[bne_iff_ne];exact hk
   have HS:Hid (ku (.mk k s l) (.mk k' s' l')=false):=qh (by simp only[ku];rw[show(k==k')=false from by rw[qc];exact hk];rfl);clear hk ht hu;go_enter Tryz.func17,Tryz.ntmps17;go_wp2;go_ret;exact⟨by rw[HS.out];rfl,((Below.refl _ w).alloc (q9 _) _).alloc (by simp) _⟩
theorem qe6{w0:World}{b:Nat}{t:Nd}(h:t.okI)(v0 v1 v2:Value)(l:Tx)(w:World)(ht:NdR w0 t v0 v1 v2)(hp:PrI w0 b l w)(hlen:l.length+t.itm.length<=100000000) :
  Calls Tryz.prog 156 #[.pointer (some ⟨b,0,none⟩),.agg #[v0,v1,v2]] w (PrO w0 b l w t.itm):=by
 obtain⟨k,s,kl⟩:=t;exact qi5 k s kl h.2.1 (fun i hi=>q9q _ (q91 h.2.2 i hi)) v0 v1 v2 l w ht hp hlen
theorem qef{w0:World}{b:Nat}(t:Nd)(hok:t.okW)(v0 v1 v2:Value)(l:Tx)(w:World)(ht:NdR w0 t v0 v1 v2)(hp:PrI w0 b l w)
  (hlen:l.length+t.whl.length<=100000000):Calls Tryz.prog 97 #[.pointer (some ⟨b,0,none⟩),.agg #[v0,v1,v2]] w (PrO w0 b l w t.whl):=by
 obtain⟨k,s,kl⟩:=t;obtain⟨_,_,_,a,cap,hform,rfl,rfl,rfl,hs,hl⟩:=ht.form
 cases hform;obtain⟨L,hL⟩:∃ L,kl.length=L:=⟨_,rfl⟩;rw[hL]at ht hl;rw[hL];obtain⟨W,hW⟩:∃ W,w.alloc (.cells #[.int .i64 k,.string s,.slice a L cap] 25)=W:=⟨_,rfl⟩;have R0':Row3 W w.heap.size (.int .i64 k) (.string s) (.slice a L cap):=by rw[<-hW];exact Row3.new _ _ _ _
 have P0:=qh (hW▸hp.alloc (.cells #[.int .i64 k,.string s,.slice a L cap] 25));have K0:=qh (hW▸(Wr.refl w0.heap.size b w).alloc hp.size (.cells #[.int .i64 k,.string s,.slice a L cap] 25));have hne:w.heap.size≠b:=by have:=hp.p.lt;omega
 have HN:=qh ht;have HL:=qh hlen;unfold maxLen at hl;obtain⟨T,hT⟩:∃ T,(Nd.mk k s kl).whl=T:=⟨_,rfl⟩;rw[hT]at HL hlen;rw[hT];have HW:=qh hW;have R0:=qh R0';have HLL:=qh hL;clear hW R0' hp;have hok':if k=1 then ∀ x∈kl,x.okI else if itemB (.mk k s kl)=true then(Nd.mk k s kl).okI else(Nd.mk k s kl).okP=true:=hok
 by_cases hk:k=1
 ·subst hk
  rw[qj rfl]at hok';have hXE:T=kl.flatMap fun x=>x.itm++[10]:=hT.symm
  have HXE:=qh hXE;have HLen:=HL;rw[hXE]at HLen;have HK:=qh hok';clear hXE hT hlen hok hok' ht hL;obtain⟨⟨n0,n1,n2⟩,_⟩:=R0.out.cells;go_enter Tryz.func97,Tryz.ntmps97
  go_upto_region 1 with fail
  rw[HW.out];go_wp2
  go_loopw [16] (fun v wr=>∃ i:Nat,i<=L/\v = .int .i64 i/\Hid (PrI w0 b (l++(kl.take i).flatMap fun x=>x.itm++[10]) wr)/\Hid (Wr w0.heap.size b w wr)) (fun v _=>L - (intOf v).toNat)
  case atStart=>exact⟨0,qv _,rfl,qh (by simpa using P0.out),K0⟩
  case round =>
   obtain⟨i,hi,rfl,PI,KI⟩:=hrel
   by_cases hlt:i < L
   ·have hlt':(i:Int) < (L:Int):=by omega
    have hi0:(0:Int)<=(i:Int):=by omega
    have hik:i < kl.length:=by rw[HLL.out];exact hlt
    have hm1:(i:Int)+1<=(L:Int):=by omega
    obtain⟨bb,o,k1,s1,l1,a1,c1,rfl,e1,x0,x1,x2,r1⟩:=HN.out.kid i hik;have y0:=PI.out.cell x0;have y1:=PI.out.cell x1;have y2:=PI.out.cell x2;have yb:=qi y0
    have hG:(kl.take (i+1)).flatMap (fun x=>x.itm++[10])=(kl.take i).flatMap (fun x=>x.itm++[10])++((kl[i]).itm++[10]):=by
     rw[zc hik,zj];simp
    have hGl:((kl.take (i+1)).flatMap (fun x=>x.itm++[10])).length<=(kl.flatMap (fun x=>x.itm++[10])).length:=by
     conv=>rhs;rw[<-List.take_append_drop (i+1) kl]
     rw[zj,qg];omega
    have hlen3:=HLen.out;rw[hG]at hGl;simp only[qg,qr,qz]at hGl;generalize hU:(kl.take i).flatMap (fun x=>x.itm++[10])=U at *;have hki:(kl[i]).okI:=HK.out _ (List.getElem_mem hik);obtain⟨A,hA⟩:∃ A,(kl[i]).itm=A:=⟨_,rfl⟩;rw[hA]at hG hGl;have HG:=qh hG;have CP:=qh (fun w' (h:PrI w0 b ((l++U)++A) w') n (hn:n=w'.heap.size)=>put1 h n hn ⟨#[10]⟩ (by have h1:(bs ⟨#[10]⟩).length=1:=rfl;simp only[qg];omega))
    have CA:Hid (∀ w',PrI w0 b (l++U) w'->Calls Tryz.prog 156 #[.pointer (some ⟨b,0,none⟩),.agg #[.int .i64 k1,.string s1,.slice a1 l1.length c1]] w' (PrO w0 b (l++U) w' A)):=qh (fun w' h=>by
     have hl9:List.length (l++U)+A.length<=100000000:=by simp only[qg];omega
     rw[<-hA]at hl9 ⊢
     exact qe6 hki _ _ _ _ w' (e1▸r1) h hl9)
    have PN:=qh (PI.out.alloc (.cells #[.int .i64 k1,.string s1,.slice a1 l1.length c1] 25));have KN:=qh (KI.out.alloc PI.out.size (.cells #[.int .i64 k1,.string s1,.slice a1 l1.length c1] 25));have hnn:wr.heap.size≠b:=by have:=PI.out.p.lt;omega
    clear hU hA hG hGl hlen3 x0 x1 x2 r1 e1 hik n0 n1 n2 hki
    go_wp2_with fail
    refine(CA.out _ PN.out).mono ?_;rintro e w5⟨rfl,pp,kk⟩;have P5:=qh pp;have K5:=qh (KN.out.trans kk);clear pp kk CA y0 y1 y2 yb
    go_wp2_with fail
    refine(CP.out _ P5.out _ (by first|rfl|simp only[q6])).mono ?_;rintro e w6⟨rfl,pp,kk⟩;have P6:Hid (PrI w0 b (l++(kl.take (i+1)).flatMap fun x=>x.itm++[10]) w6):=qh (by rw[HG.out];simpa only[qn,x9]using pp);have K6:=qh (K5.out.trans kk);clear pp kk CP;go_wp2;go_roundw
    case rel=>exact⟨i+1,hlt,by push_cast;rfl,P6,K6⟩
    case measure=>simp[intOf];omega
   ·have hlt':¬ ((i:Int) < (L:Int)):=by omega
    have hG:kl.take i=kl:=qw (by rw[HLL.out];omega);have P9:=qh (show PrI w0 b (l++T) wr by rw[HXE.out];have hh:=PI.out;rwa [hG]at hh);clear hG n0 n1 n2;go_wp2;go_end0;exact⟨rfl,P9.out,KI.out⟩
 ·have hk1:((k:Int)==1)=false:=by rw[qc];exact hk
  rw[qd hk]at hok';obtain⟨V,hV⟩:∃ V,itemB (.mk k s kl)=V:=⟨_,rfl⟩;have CI:=qh (fun w' (h:PrI w0 b l w')=>q4i (.mk k s kl) w' _ _ _ (h.tree HN.out));rw[hV]at CI hok'
  cases V with
  |true =>
   rw[qj rfl]at hok';have hT2:(Nd.mk k s kl).itm=T:=by rw[<-hT,Nd.whl,qd hk,qj hV]
   have C1:Hid (∀ w',PrI w0 b l w'->Calls Tryz.prog 156 #[.pointer (some ⟨b,0,none⟩),.agg #[.int .i64 k,.string s,.slice a L cap]] w' (PrO w0 b l w' T)):=qh (fun w' h=>by
    rw[<-hT2]at hlen ⊢
    exact qe6 hok' _ _ _ _ w' HN.out h hlen)
   clear hT hT2 hlen hok hok' ht hL hV hk HL;obtain⟨⟨n0,n1,n2⟩,_⟩:=R0.out.cells;go_enter Tryz.func97,Tryz.ntmps97
   go_upto_region 1 with fail
   rw[HW.out]
   go_wp2_with fail
   refine(CI.out _ P0.out).mono ?_;rintro e w1⟨rfl,bb⟩;have P1:=qh (P0.out.later bb);have K1:=qh (K0.out.later bb P0.out.size);have R1:=qh (R0.out.below bb R0.out.lt);clear bb CI n0 n1 n2;obtain⟨⟨n0,n1,n2⟩,_⟩:=R1.out.cells
   go_wp2_with fail
   refine(C1.out _ P1.out).mono ?_;rintro e w2⟨rfl,pp,kk⟩;have P2:=qh pp;have K2:=qh (K1.out.trans kk);have R2:=qh (kk.row3 R1.out hne);clear pp kk C1 n0 n1 n2;go_wp2;go_end0;exact⟨rfl,P2.out,K2.out⟩
  |false =>
   rw[qd (by decide)]at hok';have hT2:(Nd.mk k s kl).txt 0 false=T:=by rw[<-hT,Nd.whl,qd hk,qd (by rw[hV];decide)]
   have C1:Hid (∀ (z:Int),z=((0:Nat):Int)->∀ w',PrI w0 b l w'->Calls Tryz.prog 158 #[.pointer (some ⟨b,0,none⟩),.agg #[.int .i64 k,.string s,.slice a L cap],.int .i64 z,.bool false] w' (PrO w0 b l w' T)):=qh (fun z hz w' h=>by
    subst hz;rw[<-hT2]at hlen ⊢
    exact q9q _ hok' _ _ _ 0 false _ w' (by decide) HN.out h hlen)
   clear hT hT2 hlen hok hok' ht hL hV hk HL;obtain⟨⟨n0,n1,n2⟩,_⟩:=R0.out.cells;go_enter Tryz.func97,Tryz.ntmps97
   go_upto_region 1 with fail
   rw[HW.out]
   go_wp2_with fail
   refine(CI.out _ P0.out).mono ?_;rintro e w1⟨rfl,bb⟩;have P1:=qh (P0.out.later bb);have K1:=qh (K0.out.later bb P0.out.size);have R1:=qh (R0.out.below bb R0.out.lt);clear bb CI n0 n1 n2;obtain⟨⟨n0,n1,n2⟩,_⟩:=R1.out.cells
   go_wp2_with fail
   refine(C1.out _ (by first|rfl|(push_cast;rfl)) _ P1.out).mono ?_;rintro e w2⟨rfl,pp,kk⟩;have P2:=qh pp;have K2:=qh (K1.out.trans kk);have R2:=qh (kk.row3 R1.out hne);clear pp kk C1 n0 n1 n2;go_wp2;go_end0;exact⟨rfl,P2.out,K2.out⟩
theorem qnz(w:World)(b:Nat)(hb:b=w.heap.size):PrW b b [] (w.alloc (.cells #[.pointer none,.slice none 0 0] 124)):=by
 subst hb;exact .inl ⟨q9 _,_,qk w _,World.ownsRow_nil _ _ _ _,by simp[Value.ownBlock]⟩
theorem qak(t:Nd)(hv:zx t=0)(v0 v1 v2:Value)(w:World)(ht:NdR w t v0 v1 v2)(hg:GLw w)(h2:2<=w.heap.size) :
  Calls Tryz.prog 47 #[.agg #[v0,v1,v2]] w fun e w'=>e = .returned (S_ t.whl)/\Below w.heap.size w w':=by
 obtain⟨hok,hsz⟩:=q6x hv;have hlen:=qdj hok;obtain⟨k,s,kl,a,cap,rfl,rfl,rfl,rfl,hs,hl⟩:=ht.form;obtain⟨W,hW⟩:∃ W,w.alloc (.cells #[.int .i64 k,.string s,.slice a kl.length cap] 25)=W:=⟨_,rfl⟩;have hb0:=(Below.refl w.heap.size w).alloc (q9 _) (.cells #[.int .i64 k,.string s,.slice a kl.length cap] 25);have hsW:W.heap.size=w.heap.size+1:=by rw[<-hW];simp
 have R0:Row3 W w.heap.size (.int .i64 k) (.string s) (.slice a kl.length cap):=by rw[<-hW];exact Row3.new _ _ _ _
 rw[hW]at hb0;have gW:=hg.keep fun b hb hl=>hb0.block b hl
 have tW:=ht.later hb0;have hp0:PrI W W.heap.size [] (W.alloc (.cells #[.pointer none,.slice none 0 0] 124)):=⟨qnz W _ rfl,(Below.refl W.heap.size W).alloc (q9 _) _,gW,by omega⟩;obtain⟨T,hT⟩:∃ T,(Nd.mk k s kl).whl=T:=⟨_,rfl⟩
 have CW:Hid (∀ (z:Nat),z=W.heap.size->Calls Tryz.prog 97 #[.pointer (some ⟨z,0,none⟩),.agg #[.int .i64 k,.string s,.slice a kl.length cap]] (W.alloc (.cells #[.pointer none,.slice none 0 0] 124)) (PrO W W.heap.size [] (W.alloc (.cells #[.pointer none,.slice none 0 0] 124)) T)):=qh (fun z hz=>by
  subst hz;rw[<-hT]
  exact qef (.mk k s kl) hok _ _ _ [] _ tW hp0 (by simp only[qz];omega))
 rw[hT];have HB:=qh hb0;have HW:=qh hW;have R1:=qh (R0.alloc (.cells #[.pointer none,.slice none 0 0] 124));obtain⟨⟨n0,n1,n2⟩,_⟩:=R1.out.cells;have HS:=qh hsW;have HP0:=qh hp0;obtain⟨B,hB⟩:∃ B,W.heap.size=B:=⟨_,rfl⟩;have HBs:=qh hB;clear hT hlen hok hv ht hg hW hb0 gW tW hp0 R0 hsW hsz hB;go_enter Tryz.func47,Tryz.ntmps47
 go_upto_region 1 with fail
 rw[HW.out]
 go_wp2_with fail
 refine(CW.out _ (by first|rfl|simp only[q6])).mono ?_;rintro e w5⟨rfl,pp,kk⟩;have P5:=qh pp;rw[List.nil_append]at P5;have CS:=qh (qcr W.heap.size W.heap.size T w5 P5.out.p P5.out.size)
 obtain⟨z0,hz0⟩:∃ v,w5.cell? ⟨W.heap.size,0,none⟩=some v:=by
  rcases P5.out.p with h|h <;> exact⟨_,h.cell0⟩
 clear pp kk CW n0 n1 n2
 go_wp2_with fail
 refine CS.out.mono ?_;rintro e w6⟨rfl,hb⟩;unfold S_;go_wp2;go_ret;exact⟨rfl,HB.out.trans ((P5.out.bl.trans hb).mono (by have:=HS.out;omega))⟩
theorem qd4(s:ByteArray)(w:World)(hs:s.size<=maxLen) :
  Calls Tryz.prog 46 #[.string s] w fun e w'=>e = .returned (match Lx.scan (bs s)with| .toks _=>.tuple #[.string s,.int .i64 0]| .bad _ _=>.tuple #[.string ⟨#[]⟩,.int .i64 2])/\Below w.heap.size w w':=by
 cases hl:Lx.scan (bs s)with
 |bad i er =>
  have C:=qh (q7r s i er hl w hs)
  have her:((er:Int) != 0)=true:=by
   have:=qax hl;rw[bne_iff_ne];omega
  clear hl;go_enter Tryz.func46,Tryz.ntmps46
  go_wp2_with fail
  refine C.out.mono ?_;rintro e w1⟨rfl,hb⟩;have HB:=qh hb;clear hb C;go_wp2;go_ret2;exact⟨rfl,HB.out⟩
 |toks ts =>
  have C:=qh (q73 s w hs);unfold q6d at C;rw[hl]at C;clear hl;go_enter Tryz.func46,Tryz.ntmps46
  go_wp2_with fail
  refine C.out.mono ?_;rintro e w1⟨hb,v,rfl,_⟩;have HB:=qh hb;clear hb C;go_wp2;go_ret2;exact⟨rfl,HB.out⟩
def q10(t:Nd):Tx×Int:=if zx t=0 then(match Lx.scan t.whl with| .toks _=>(t.whl,0)| .bad _ _=>([],2)) else([],zx t)
theorem qj5(t:Nd)(v0 v1 v2:Value)(w:World)(ht:NdR w t v0 v1 v2)(hg:GLw w)(h2:2<=w.heap.size) :
  Calls Tryz.prog 18 #[.agg #[v0,v1,v2]] w fun e w'=>e = .returned (.tuple #[S_ (q10 t).1,.int .i64 (q10 t).2])/\Below w.heap.size w w':=by
 obtain⟨k,s,kl,a,cap,rfl,rfl,rfl,rfl,hs,hl⟩:=ht.form;obtain⟨W,hW⟩:∃ W,w.alloc (.cells #[.int .i64 k,.string s,.slice a kl.length cap] 25)=W:=⟨_,rfl⟩;have hb0:=(Below.refl w.heap.size w).alloc (q9 _) (.cells #[.int .i64 k,.string s,.slice a kl.length cap] 25);have R0:Row3 W w.heap.size (.int .i64 k) (.string s) (.slice a kl.length cap):=by rw[<-hW];exact Row3.new _ _ _ _
 rw[hW]at hb0;have gW:=hg.keep fun b hb hl=>hb0.block b hl
 have tW:=ht.later hb0;have hsW:W.heap.size=w.heap.size+1:=by rw[<-hW];simp
 have CC:=qh (vk (.mk k s kl) W _ _ _ tW);obtain⟨c,hc⟩:∃ c,zx (.mk k s kl)=c:=⟨_,rfl⟩;obtain⟨r,hr⟩:∃ r,q10 (.mk k s kl)=r:=⟨_,rfl⟩;rw[hr];unfold q10 at hr;rw[hc]at CC hr;have HB:=qh hb0;have HW:=qh hW;have HR:=qh R0;have HS:=qh hsW;have GW:=qh gW;have TW:=qh tW
 by_cases h0:c=0
 ·subst h0
  rw[qj rfl]at hr;obtain⟨hok,hsz⟩:=q6x hc;have hlen:=qdj hok;have CP:=qh (fun w' (hb:Below W.heap.size W w')=>qak (.mk k s kl) hc _ _ _ w' (TW.out.later hb) (GW.out.keep fun b h1 h3=>hb.block b h3) (by have:=hb.size;have:=HS.out;omega));obtain⟨T,hT⟩:∃ T,(Nd.mk k s kl).whl=T:=⟨_,rfl⟩;rw[hT]at CP hr hlen;have CL:=qh (fun w'=>qd4 ⟨T.toArray⟩ w' (by show T.toArray.size<=maxLen;unfold maxLen;simp;omega))
  have hq:∃ q,(match Lx.scan (bs ⟨T.toArray⟩)with| .toks _=>Value.tuple #[.string ⟨T.toArray⟩,.int .i64 0]| .bad _ _=>.tuple #[.string ⟨#[]⟩,.int .i64 2]) = .tuple #[.string ⟨r.1.toArray⟩,.int .i64 r.2]:=⟨0,by
   rw[<-hr,x9]
   cases Lx.scan T <;> rfl⟩
  obtain⟨_,hq⟩:=hq;simp only[hq]at CL;obtain⟨⟨n0,n1,n2⟩,_⟩:=R0.cells;unfold S_ at CP;unfold S_;obtain⟨r1,r2⟩:=r;simp only at CL ⊢;clear hT hlen hok hc hr ht hg hW hb0 gW tW R0 hsW hsz hq;go_enter Tryz.func18,Tryz.ntmps18
  go_upto_region 1 with fail
  rw[HW.out]
  go_wp2_with fail
  refine CC.out.mono ?_;rintro e w1⟨rfl,hb⟩;have B1:=qh hb;have R1:=qh (HR.out.below hb HR.out.lt);clear hb CC n0 n1 n2;obtain⟨⟨n0,n1,n2⟩,_⟩:=R1.out.cells
  go_wp2_with fail
  refine(CP.out _ B1.out).mono ?_;rintro e w2⟨rfl,hb⟩;have B2:=qh (B1.out.trans (hb.mono B1.out.size));clear hb CP n0 n1 n2
  go_wp2_with fail
  refine(CL.out _).mono ?_;rintro e w3⟨rfl,hb⟩;have B3:=qh (B2.out.trans (hb.mono B2.out.size));clear hb CL;go_wp2;go_ret2;exact⟨rfl,HB.out.trans (B3.out.mono (by have:=HS.out;omega))⟩
 ·rw[qd h0]at hr
  have hc0:((c:Int)==0)=false:=by rw[qc];exact h0
  have hc1:((c:Int) != 0)=true:=by rw[bne_iff_ne];exact h0
  subst hr;obtain⟨⟨n0,n1,n2⟩,_⟩:=R0.cells;clear hc ht hg hW hb0 gW tW R0 hsW h0;go_enter Tryz.func18,Tryz.ntmps18
  go_upto_region 1 with fail
  rw[HW.out]
  go_wp2_with fail
  refine CC.out.mono ?_;rintro e w1⟨rfl,hb⟩;have B1:=qh hb;clear hb CC n0 n1 n2;go_wp2;go_ret2;exact⟨rfl,HB.out.trans (B1.out.mono (by have:=HS.out;omega))⟩
end Go.Proofs.YtkckddojlignpaaGreatDoor
namespace Go.Proofs.YtkckddojlignpaaGreatDoor
def nm_(c:UInt8):Nd:=.mk 15 ⟨#[c]⟩ []
def qek:Nd:=.mk 25 ⟨#[]⟩ [nm_ 97,.mk 23 ⟨#[]⟩ [.mk 22 ⟨#[]⟩ [nm_ 98,nm_ 99],nm_ 100]]
def qej:Nd:=.mk 27 ⟨#[]⟩ [.mk 27 ⟨#[]⟩ [nm_ 97,.mk 28 ⟨#[]⟩ [nm_ 98,nm_ 99]],nm_ 100]
def qei:Nd:=.mk 22 ⟨#[]⟩ [.mk 29 ⟨#[]⟩ [.mk 18 ⟨#[120]⟩ [.mk 15 ⟨#[112]⟩ [nm_ 120]]],nm_ 113]
def q8p:Nd:=.mk 16 ⟨#[88]⟩ []
def q3u:Nd:=.mk 1 ⟨#[]⟩ [.mk 4 ⟨#[112]⟩ [nm_ 105,.mk 31 ⟨#[]⟩ [nm_ 105,nm_ 105]],.mk 8 ⟨#[114]⟩ [.mk 27 ⟨#[]⟩ [.mk 15 ⟨#[112]⟩ [q8p],.mk 15 ⟨#[113]⟩ [q8p]]]]
abbrev qeh:ByteArray:={ data:=#[97,32,45,111,32,98,32,42,32,99,32,38,32,100] }
abbrev qml:ByteArray:={ data:=#[97,32,111,45,32,40,98,32,60,61,32,99,41,32,111,45,32,40,40,100,41,41] }
abbrev qmk:ByteArray:={ data:=#[97,32,45,111] }
abbrev qmj:ByteArray:={ data:=#[97,32,41,32,98] }
abbrev qmi:ByteArray:={ data:=#[112,114,101,100,32,112,32,105,32,40,105,32,45,62,32,105,41,46,32,114,117,108,101,32,114,58,32,112,32,88,32,111,45,32,113,32,88,46] }
theorem qn8:kt (bs qeh) 18=(some qek,0,0):=by kernel_rfl
theorem qn7:kt (bs qml) 18=(some qej,0,0):=by kernel_rfl
theorem qn6:kt (bs qmk) 18=(none,4,20):=by kernel_rfl
theorem qn5:kt (bs qmj) 18=(none,2,20):=by kernel_rfl
theorem qn4:kt (bs qmi) 1=(some q3u,0,0):=by kernel_rfl
abbrev qnd:ByteArray:={ data:=#[97,32,111,45,32,40,98,32,60,61,32,99,41,32,111,45,32,100] }
abbrev qnc:ByteArray:={ data:=#[33,40,97,108,108,32,120,46,32,112,32,120,41,32,42,32,113] }
abbrev qnb:ByteArray:={ data:=#[112,114,101,100,32,112,32,105,32,40,105,32,45,62,32,105,41,46,10,114,117,108,101,32,114,58,32,112,32,88,32,111,45,32,113,32,88,46,10] }
theorem qn2:q10 qek=(bs qeh,0):=by kernel_rfl
theorem qn1:q10 qej=(bs qnd,0):=by kernel_rfl
theorem qn0:q10 qei=(bs qnc,0):=by kernel_rfl
theorem qmz:q10 q3u=(bs qnb,0):=by kernel_rfl
theorem qnt:ye 16 (zq 0 [] false q3u)=[⟨#[88]⟩]:=by kernel_rfl
theorem qmh:zx q3u=0:=by kernel_rfl
end Go.Proofs.YtkckddojlignpaaGreatDoor
namespace Go.Proofs.YtkckddojlignpaaGreatDoor
open Go.RowKit Go.Shelf
theorem qai(g:Nat)(eg:∀ args w,(callFunc g args).run Tryz.prog w = .ok (.enter g args) w)(k k':Int)(s s':ByteArray)(l m:List Nd)(w:World)(a a':Option Addr)(cap cap':Nat)
  (ht:NdR w (.mk k s l) (.int .i64 k) (.string s) (.slice a l.length cap)) (hu:NdR w (.mk k' s' m) (.int .i64 k') (.string s') (.slice a' m.length cap')) (hl:l.length<=maxLen) (_hm:m.length<=maxLen)
  (C:∀ i,(h:i < l.length)->(h2:i < m.length)->∀ (w:World) (v0 v1 v2 u0 u1 u2:Value),NdR w l[i] v0 v1 v2->NdR w m[i] u0 u1 u2->Calls Tryz.prog g #[.agg #[v0,v1,v2],.agg #[u0,u1,u2]] w fun e w'=>e = .returned (.bool (ku l[i] m[i]))/\Below w.heap.size w w') :
  Calls Tryz.prog 76 #[.slice a l.length cap,.slice a' m.length cap',.func (.func g) #[] #[]] w fun e w'=>e = .returned (.bool (ke l m))/\Below w.heap.size w w':=by
 unfold maxLen at hl;have CC:=qh C;clear C
 by_cases hll:l.length=m.length
 ·have hl2:((l.length:Int) != (m.length:Int))=false:=by rw[hll];simp
  have HL:=qh hll;have HT:=qh ht;have HU:=qh hu;clear hll ht hu;go_enter Tryz.func76,Tryz.ntmps76;go_wp2
  go_loopw [17] (fun v wr=>∃ i:Nat,i<=l.length/\v = .int .i64 i/\Hid (ke l m=ke (l.drop i) (m.drop i))/\Hid (Below w.heap.size w wr)) (fun v _=>l.length - (intOf v).toNat)
  case atStart=>exact⟨0,qv _,rfl,rfl,Below.refl _ _⟩
  case round =>
   obtain⟨i,hi,rfl,hrun,hbl⟩:=hrel
   by_cases hlt:i < l.length
   ·have hlt':(i:Int) < (l.length:Int):=by omega
    have hi2:i < m.length:=by have:=HL.out;omega
    have hlt2:(i:Int) < (m.length:Int):=by omega
    have hi0:(0:Int)<=(i:Int):=by omega
    obtain⟨b,o,k1,s1,l1,a1,c1,rfl,e1,x0,x1,x2,r1⟩:=(HT.out.later hbl.out).kid i hlt;obtain⟨b',o',k2,s2,l2,a2,c2,rfl,e2,y0,y1,y2,r2⟩:=(HU.out.later hbl.out).kid i hi2;have Hst:=qh (q7t hlt hi2);obtain⟨V,hV⟩:∃ V,ku l[i] m[i]=V:=⟨_,rfl⟩;have C1:=fun w=>CC.out i hlt hi2 w (.int .i64 k1) (.string s1) (.slice a1 l1.length c1) (.int .i64 k2) (.string s2) (.slice a2 l2.length c2)
    rw[hV]at C1 Hst;rw[e1,e2]at C1;have C2:=qh C1;have R1:=qh r1;have R2:=qh r2;have L2:=qi x0;have L3:=qi y0;have yy0:=fun o=>(World.cell?_alloc_past (w:=wr) o b' (o'+i*3) L3).trans y0
    have yy1:=fun o=>(World.cell?_alloc_past (w:=wr) o b' (o'+i*3+1) L3).trans y1
    have yy2:=fun o=>(World.cell?_alloc_past (w:=wr) o b' (o'+i*3+2) L3).trans y2
    have Hbl:=hbl;clear e1 e2 hV r1 r2 C1
    go_wp2_with fail
    refine(C2.out _ (R1.out.later (((Below.refl _ _).alloc (q9 _) _).alloc (by simp) _)) (R2.out.later (((Below.refl _ _).alloc (q9 _) _).alloc (by simp) _))).mono ?_;rintro e w5⟨rfl,hb5⟩;have hbx:Hid (Below w.heap.size w w5):=qh (Hbl.out.trans ((((Below.refl wr.heap.size wr).alloc (q9 _) _).alloc (by simp) _).trans (hb5.mono (by simp;omega))|>.mono Hbl.out.size));clear C2 R1 R2 x0 x1 x2 y0 y1 y2 yy0 yy1 yy2 hb5
    cases V with
    |false =>
     go_wp2;go_ret;exact⟨by rw[hrun.out,Hst.out];rfl,hbx.out⟩
    |true =>
     go_wp2;go_roundw
     case rel=>exact⟨i+1,hlt,by push_cast;rfl,qh (by rw[hrun.out,Hst.out];rfl),hbx⟩
     case measure=>simp[intOf];omega
   ·have hlt':¬ ((i:Int) < (l.length:Int)):=by omega
    go_wp2;go_ret;exact⟨by rw[hrun.out,q9f (by omega) (by have:=HL.out;omega)];rfl,hbl.out⟩
 ·have hl2:((l.length:Int) != (m.length:Int))=true:=by rw[bne_iff_ne];omega
  have HS:=qh (q55 l m hll);clear hll ht hu;go_enter Tryz.func76,Tryz.ntmps76;go_wp2;go_ret;exact⟨by rw[HS.out];rfl,Below.refl _ _⟩
theorem qh9(n:Nat):∀ (t u:Nd) (w:World) (v0 v1 v2 u0 u1 u2:Value),t.sz<=n->NdR w t v0 v1 v2->NdR w u u0 u1 u2 ->
  Calls Tryz.prog 38 #[.agg #[v0,v1,v2],.agg #[u0,u1,u2]] w fun e w'=>e = .returned (.bool (ku t u))/\Below w.heap.size w w':=by
 induction n with
 |zero=>intro t u w v0 v1 v2 u0 u1 u2 h;cases t;simp only[Nd.sz]at h;omega
 |succ n ih =>
  intro t u w v0 v1 v2 u0 u1 u2 hsz ht hu;obtain⟨k,s,l,a,cap,rfl,rfl,rfl,rfl,hs,hl⟩:=ht.form;obtain⟨k',s',l',a',cap',rfl,rfl,rfl,rfl,hs',hl'⟩:=hu.form;have eg:∀ args w,(callFunc 38 args).run Tryz.prog w = .ok (.enter 38 args) w:=enters_of Tryz.func38 (by kernel_rfl) rfl;have CE:=qh (fun w h1 h2=>qai _ eg k k' s s' l l' w a a' cap cap' h1 h2 hl hl' (fun i hi hi2 w v0 v1 v2 u0 u1 u2=>ih l[i] l'[i] w v0 v1 v2 u0 u1 u2 (by have:=Nd.kid_lt k s l i hi;omega)));clear ih eg;have HB:Hid (Below w.heap.size w ((w.alloc (Obj.cells #[Value.int IntKind.i64 k,Value.string s,Value.slice a l.length cap] 25)).alloc (Obj.cells #[Value.int IntKind.i64 k',Value.string s',Value.slice a' l'.length cap'] 25))):=qh (((Below.refl _ w).alloc (q9 _) _).alloc (by simp) _);have HT:=qh (ht.later HB.out);have HU:=qh (hu.later HB.out);have HS:Hid (ku (.mk k s l) (.mk k' s' l')=((k==k' && s.toList==s'.toList) && ke l l')):=qh (by simp only[ku]);obtain⟨V,hV⟩:∃ V,ke l l'=V:=⟨_,rfl⟩;obtain⟨V2,hV2⟩:∃ V,(s.toList==s'.toList)=V:=⟨_,rfl⟩;rw[hV]at CE HS;rw[hV2]at HS;clear hV ht hu
  by_cases hk:k=k'
  ·have hk2:(k==k')=true:=by rw[hk];simp
   rw[hk2]at HS;clear hk
   cases V2 with
   |false =>
    go_enter Tryz.func38,Tryz.ntmps38;go_wp2;go_ret;exact⟨by rw[HS.out];rfl,HB.out⟩
   |true =>
    go_enter Tryz.func38,Tryz.ntmps38
    go_wp2_with fail
    refine(CE.out _ HT.out HU.out).mono ?_;rintro e w5⟨rfl,hb5⟩;have HB2:Hid (Below w.heap.size w w5):=qh (HB.out.trans (hb5.mono HB.out.size));clear hb5 CE HT HU;go_wp2;go_ret;exact⟨by rw[HS.out];rfl,HB2.out⟩
  ·have hk2:(k==k')=false:=by rw[qc];exact hk
   rw[hk2]at HS;clear hk;go_enter Tryz.func38,Tryz.ntmps38;go_wp2;go_ret;exact⟨by rw[HS.out];rfl,HB.out⟩
end Go.Proofs.YtkckddojlignpaaGreatDoor
namespace Go.Proofs.YtkckddojlignpaaGreatDoor
open Go.RowKit
def St(w wi:World):Prop:=Below w.heap.size w wi/\GLw wi/\2<=wi.heap.size
theorem St.below{w wi wj:World}(h:St w wi)(hb:Below wi.heap.size wi wj):St w wj:=⟨h.1.trans (hb.mono h.1.size),h.2.1.keep fun b _ hl=>hb.block b hl,qo h.2.2 hb.size⟩
theorem St.alloc{w wi:World}(h:St w wi)(o:Obj):St w (wi.alloc o):=h.below ((Below.refl _ wi).alloc (q9 _) o)
theorem q2h(s:ByteArray)(what:Int)(g:Nat)(hg:(g=11/\what=18)\/(g=9/\what=1))(k:Int)(n:ByteArray)(l:List Nd)(hp:kt (bs s) what=(some (.mk k n l),0,0))(hs:s.size<=maxLen)(w wi:World)(h:St w wi) :
  Calls Tryz.prog g #[.string s] wi fun e w'=>∃ a c,e = .returned (.tuple #[.agg #[.int .i64 k,.string n,.slice a l.length c],.int .i64 0,.int .i64 0])/\St w w'/\NdR w' (.mk k n l) (.int .i64 k) (.string n) (.slice a l.length c):=by
 have C:Calls Tryz.prog g #[.string s] wi (q8n (kt (bs s) what) wi):=by
  rcases hg with ⟨rfl,rfl⟩|⟨rfl,rfl⟩
  ·exact q4v s wi h.2.2 h.2.1 hs
  ·exact qj6 s wi h.2.2 h.2.1 hs
 rw[hp]at C;refine C.mono ?_;rintro e w'⟨k',s',a,m,c,rfl,hb,hn⟩;have hr:NdR w' (.mk k n l) (.int .i64 k') (.string s') (.slice a m c):=NdS.toR hn;obtain⟨k2,s2,l2,a2,c2,e1,e2,e3,e4,_,_⟩:=hr.form
 cases e1
 cases e2
 cases e3
 cases e4;exact⟨a,c,rfl,h.below hb,hr⟩
theorem q6l(s:ByteArray)(p er:Nat)(hp:kt (bs s) 18=(none,p,er))(hs:s.size<=maxLen)(w wi:World)(h:St w wi) :
  Calls Tryz.prog 11 #[.string s] wi fun e w'=>e = .returned (.tuple #[.agg #[.int .i64 0,.string ⟨#[]⟩,.slice none 0 0],.int .i64 p,.int .i64 er])/\St w w':=by
 have C:=q4v s wi h.2.2 h.2.1 hs;rw[hp]at C;refine C.mono ?_;rintro e w'⟨k',s',a,m,c,rfl,hb,hn⟩;obtain⟨rfl,rfl,rfl,rfl,rfl⟩:=hn;exact⟨rfl,h.below hb⟩
theorem q0h(t:Nd)(out:ByteArray)(hp:q10 t=(bs out,0))(w wi:World)(h:St w wi)(v0 v1 v2:Value)(ht:NdR wi t v0 v1 v2) :
  Calls Tryz.prog 18 #[.agg #[v0,v1,v2]] wi fun e w'=>e = .returned (.tuple #[.string out,.int .i64 0])/\St w w'/\Below wi.heap.size wi w':=by
 have C:=qj5 t v0 v1 v2 wi ht h.2.1 h.2.2;rw[hp]at C;refine C.mono ?_;rintro e w'⟨rfl,hb⟩;exact⟨rfl,h.below hb,hb⟩
theorem qci(k:Int)(s:ByteArray)(a:Option Addr)(n c:Nat)(w wi:World)(h:St w wi) :
  Calls Tryz.prog 36 #[.int .i64 k,.string s,.slice a n c] wi fun e w'=>e = .returned (.agg #[.int .i64 k,.string s,.slice a n c])/\St w w'/\Below wi.heap.size wi w':=by
 have R1:=qh (Row3.new wi (.int .i64 k) (.string s) (.slice a n c));have HB:=qh ((Below.refl wi.heap.size wi).alloc (q9 _) (.cells #[.int .i64 k,.string s,.slice a n c] 25));have HS:=qh (h.alloc (.cells #[.int .i64 k,.string s,.slice a n c] 25));clear h;go_enter Tryz.func36,Tryz.ntmps36;go_wp2;exact zh R1.out rfl rfl rfl ⟨rfl,HS.out,HB.out⟩
theorem qcj(s:ByteArray)(a:Option Addr)(n c:Nat)(w wi:World)(h:St w wi) :
  Calls Tryz.prog 37 #[.string s,.slice a n c] wi fun e w'=>e = .returned (.agg #[.int .i64 15,.string s,.slice a n c])/\St w w'/\Below wi.heap.size wi w':=by
 have R1:=qh (Row3.new wi (.int .i64 15) (.string s) (.slice a n c));have HB:=qh ((Below.refl wi.heap.size wi).alloc (q9 _) (.cells #[.int .i64 15,.string s,.slice a n c] 25));have HS:=qh (h.alloc (.cells #[.int .i64 15,.string s,.slice a n c] 25));clear h;go_enter Tryz.func37,Tryz.ntmps37;go_wp2;exact zh R1.out rfl rfl rfl ⟨rfl,HS.out,HB.out⟩
theorem NdR.lit1{w:World}{b:Nat}{k k1:Int}{s s1:ByteArray}{l1:List Nd}{a1:Option Addr}{c1:Nat}(hs:s.size<=maxLen)(h:w.heap[b]?=some (.cells #[.int .i64 k1,.string s1,.slice a1 l1.length c1] 25 (0,0)))
  (r:NdR w (.mk k1 s1 l1) (.int .i64 k1) (.string s1) (.slice a1 l1.length c1)):NdR w (.mk k s [.mk k1 s1 l1]) (.int .i64 k) (.string s) (.slice (some ⟨b,0,none⟩) 1 1):=by
 refine .mk k s [.mk k1 s1 l1] (some ⟨b,0,none⟩) 1 b 0 (fun _=>.int .i64 k1) (fun _=>.string s1) (fun _=>.slice a1 l1.length c1) hs (by simp[maxLen]) (by simp) (fun _=>rfl) ?_ ?_ ?_ ?_
 all_goals (intro i hi;obtain rfl:i=0:=by simpa using hi)
 ·exact qm _ _ _ _ _ _ h
 ·exact qm _ _ _ _ _ _ h
 ·exact qm _ _ _ _ _ _ h
 ·exact r
theorem NdR.lit2{w:World}{b:Nat}{k k1 k2:Int}{s s1 s2:ByteArray}{l1 l2:List Nd}{a1 a2:Option Addr}{c1 c2:Nat}(hs:s.size<=maxLen)(h:w.heap[b]?=some (.cells #[.int .i64 k1,.string s1,.slice a1 l1.length c1,.int .i64 k2,.string s2,.slice a2 l2.length c2] 25 (0,0)))
  (r1:NdR w (.mk k1 s1 l1) (.int .i64 k1) (.string s1) (.slice a1 l1.length c1)) (r2:NdR w (.mk k2 s2 l2) (.int .i64 k2) (.string s2) (.slice a2 l2.length c2)):NdR w (.mk k s [.mk k1 s1 l1,.mk k2 s2 l2]) (.int .i64 k) (.string s) (.slice (some ⟨b,0,none⟩) 2 2):=by
 refine .mk k s [.mk k1 s1 l1,.mk k2 s2 l2] (some ⟨b,0,none⟩) 2 b 0 (fun i=>if i=0 then .int .i64 k1 else .int .i64 k2) (fun i=>if i=0 then .string s1 else .string s2) (fun i=>if i=0 then .slice a1 l1.length c1 else .slice a2 l2.length c2) hs (by simp[maxLen]) (by simp) (fun _=>rfl) ?_ ?_ ?_ ?_
 all_goals (intro i hi;obtain rfl|rfl:i=0\/i=1:=by simp at hi;omega)
 ·exact qm _ _ _ _ _ _ h
 ·exact qm _ _ _ _ _ _ h
 ·exact qm _ _ _ _ _ _ h
 ·exact qm _ _ _ _ _ _ h
 ·exact qm _ _ _ _ _ _ h
 ·exact qm _ _ _ _ _ _ h
 ·exact r1
 ·exact r2
theorem NdR.leaf(w:World)(k:Int)(s:ByteArray)(hs:s.size<=maxLen):NdR w (.mk k s []) (.int .i64 k) (.string s) (.slice none 0 0):=(NdS.leaf (fun _=>True) w k s hs none 0).toR
theorem qh8(w:World)(hw:2<=w.heap.size)(gl:GLw w) :
  Calls Tryz.prog 8 #[] w fun e w'=>e = .returned (.bool true)/\Below w.heap.size w w':=by
 have s0:St w w:=⟨Below.refl _ _,gl,hw⟩;have F1:=qh (fun b wi=>q2h qeh 18 11 (.inl ⟨rfl,rfl⟩) _ _ _ qn8 (by unfold maxLen;decide) b wi);have F2:=qh (fun b wi=>q2h qml 18 11 (.inl ⟨rfl,rfl⟩) _ _ _ qn7 (by unfold maxLen;decide) b wi);have F4:=qh (fun b wi=>q6l qmk _ _ qn6 (by unfold maxLen;decide) b wi);have F5:=qh (fun b wi=>q6l qmj _ _ qn5 (by unfold maxLen;decide) b wi);have F6:=qh (fun b wi=>q2h qmi 1 9 (.inr ⟨rfl,rfl⟩) _ _ _ qn4 (by unfold maxLen;decide) b wi);have P1:=qh (fun b=>q0h qek qeh qn2 b);have P2:=qh (fun b=>q0h qej qnd qn1 b);have P3:=qh (fun b=>q0h qei qnc qn0 b);have P6:=qh (fun b=>q0h q3u qnb qmz b);have NA:=qh (fun b k s a n c wi h=>qci k s a n c b wi h);have AA:=qh (fun b s a n c wi h=>qcj s a n c b wi h);have HS0:=qh s0;clear s0 hw gl;go_enter Tryz.func8,Tryz.ntmps8
 go_wp2_with fail
 refine(F1.out _ _ HS0.out).mono ?_;rintro e w1⟨a1,c1,rfl,s1,n1⟩;have S1:=qh s1;have N1:=qh n1;clear s1 n1 F1
 go_wp2_with fail
 refine(P1.out _ _ (S1.out.alloc _) _ _ _ (N1.out.later ((Below.refl _ w1).alloc (q9 _) _))).mono ?_;rintro e w2⟨rfl,s2,_⟩;have S2:=qh s2;clear s2 P1 N1
 go_wp2_with fail
 refine(F2.out _ _ S2.out).mono ?_;rintro e w3⟨a3,c3,rfl,s3,n3⟩;have S3:=qh s3;have N3:=qh n3;clear s3 n3 F2
 go_wp2_with fail
 refine(P2.out _ _ (S3.out.alloc _) _ _ _ (N3.out.later ((Below.refl _ w3).alloc (q9 _) _))).mono ?_;rintro e w4⟨rfl,s4,_⟩;have S4:=qh s4;clear s4 P2 N3
 go_wp2_with fail
 refine(NA.out _ _ _ _ _ _ _ S4.out).mono ?_;rintro e w5⟨rfl,s5,_⟩;obtain⟨V5,hV5⟩:∃ V5,w5.alloc (.cells #[.int .i64 16,.string { data:=#[88] },.slice none 0 0] 25)=V5:=⟨_,rfl⟩;have s5':=s5.alloc (.cells #[.int .i64 16,.string { data:=#[88] },.slice none 0 0] 25);have HX':=Row3.new w5 (.int .i64 16) (.string { data:=#[88] }) (.slice none 0 0);rw[hV5]at s5' HX';obtain⟨X,hX⟩:∃ X,w5.heap.size=X:=⟨_,rfl⟩;rw[hX]at HX';have HX:=qh HX';have T5:=qh s5';have S5:Hid (St V5 V5):=qh ⟨Below.refl _ _,s5'.2.1,s5'.2.2⟩;have HV5:=qh hV5;have HXe:=qh hX;clear s5 s5' HX' hV5 hX
 go_upto_region 6 with fail
 rw[HV5.out,HXe.out];clear HV5 HXe S1 S2 S3 S4
 go_wp2_with fail
 refine(AA.out _ _ _ _ _ _ S5.out).mono ?_;rintro e w6⟨rfl,s6,_⟩;have S6:=qh s6;clear s6
 go_wp2_with fail
 refine(AA.out _ _ _ _ _ _ (S6.out.alloc _)).mono ?_;rintro e w7⟨rfl,s7,b7⟩;have S7:=qh s7
 have R7:Hid (NdR w7 (.mk 15 ⟨#[112]⟩ [nm_ 120]) (.int .i64 15) (.string ⟨#[112]⟩) (.slice (some ⟨w6.heap.size,0,none⟩) 1 1)) :=
  qh (NdR.lit1 (l1:=[]) (by unfold maxLen;decide) ((b7.block _ (by simp)).trans (qk _ _)) (NdR.leaf _ _ _ (by unfold maxLen;decide)))
 clear s7 b7
 go_wp2_with fail
 refine(NA.out _ _ _ _ _ _ _ (S7.out.alloc _)).mono ?_;rintro e w8⟨rfl,s8,b8⟩;have S8:=qh s8
 have R8:Hid (NdR w8 (.mk 18 ⟨#[120]⟩ [.mk 15 ⟨#[112]⟩ [nm_ 120]]) (.int .i64 18) (.string ⟨#[120]⟩) (.slice (some ⟨w7.heap.size,0,none⟩) 1 1)) :=
  qh (NdR.lit1 (l1:=[nm_ 120]) (by unfold maxLen;decide) ((b8.block _ (by simp)).trans (qk _ _)) ((R7.out.later ((Below.refl _ w7).alloc (q9 _) _)).later b8))
 clear s8 b8 R7
 go_wp2_with fail
 refine(NA.out _ _ _ _ _ _ _ ((S8.out.alloc _).alloc _)).mono ?_;rintro e w9⟨rfl,s9,b9⟩;have S9:=qh s9
 have R9:Hid (NdR w9 (.mk 29 ⟨#[]⟩ [.mk 18 ⟨#[120]⟩ [.mk 15 ⟨#[112]⟩ [nm_ 120]]]) (.int .i64 29) (.string ⟨#[]⟩) (.slice (some ⟨w8.heap.size+1,0,none⟩) 1 1)) :=
  qh (NdR.lit1 (l1:=[.mk 15 ⟨#[112]⟩ [nm_ 120]]) (by unfold maxLen;decide) ((b9.block _ (by simp)).trans (za (by simp))) ((R8.out.later (((Below.refl _ w8).alloc (q9 _) _).alloc (by simp) _)).later (b9.mono (by simp))))
 clear s9 b9 R8
 go_wp2_with fail
 refine(AA.out _ _ _ _ _ _ S9.out).mono ?_;rintro e w10⟨rfl,s10,b10⟩;have S10:=qh s10;have R10:=qh (R9.out.later b10);clear s10 b10 R9
 go_wp2_with fail
 refine(NA.out _ _ _ _ _ _ _ (S10.out.alloc _)).mono ?_;rintro e w11⟨rfl,s11,b11⟩;have S11:=qh s11
 have R11:Hid (NdR w11 qei (.int .i64 22) (.string ⟨#[]⟩) (.slice (some ⟨w10.heap.size,0,none⟩) 2 2)) :=
  qh (NdR.lit2 (l1:=[.mk 18 ⟨#[120]⟩ [.mk 15 ⟨#[112]⟩ [nm_ 120]]]) (l2:=[]) (by unfold maxLen;decide) ((b11.block _ (by simp)).trans (qk _ _)) ((R10.out.later ((Below.refl _ w10).alloc (q9 _) _)).later b11) (NdR.leaf _ _ _ (by unfold maxLen;decide)))
 clear s11 b11 R10
 go_wp2_with fail
 refine(P3.out _ _ S11.out _ _ _ R11.out).mono ?_;rintro e w12⟨rfl,s12,_⟩;have S12:=qh s12;clear s12 R11 P3 AA NA S6 S7 S8 S9 S10 S11
 go_wp2_with fail
 refine(F4.out _ _ S12.out).mono ?_;rintro e w13⟨rfl,s13⟩;have S13:=qh s13;clear s13 F4 S12
 go_wp2_with fail
 refine(F5.out _ _ (S13.out.alloc _)).mono ?_;rintro e w14⟨rfl,s14⟩;have S14:=qh s14;clear s14 F5 S13
 go_wp2_with fail
 refine(F6.out _ _ (S14.out.alloc _)).mono ?_;rintro e w15⟨an,cn,rfl,s15,n15⟩;obtain⟨V15,hV15⟩:∃ V,w15.alloc (.cells #[.int .i64 1,.string { data:=#[] },.slice an 2 cn] 25)=V:=⟨_,rfl⟩;have s15':=s15.alloc (.cells #[.int .i64 1,.string { data:=#[] },.slice an 2 cn] 25);have HY':=Row3.new w15 (.int .i64 1) (.string { data:=#[] }) (.slice an 2 cn);have n15':=n15.later ((Below.refl _ w15).alloc (q9 _) (.cells #[.int .i64 1,.string { data:=#[] },.slice an 2 cn] 25));rw[hV15]at s15' HY' n15';obtain⟨Y,hY⟩:∃ Y,w15.heap.size=Y:=⟨_,rfl⟩;rw[hY]at HY';have HY:=qh HY';have T15:=qh (T5.out.below s15'.1);have HX15:=qh (HX.out.below s15'.1 HX.out.lt);have N15:Hid (NdR V15 q3u (.int .i64 1) (.string { data:=#[] }) (.slice an 2 cn)):=qh n15';have S15:Hid (St V15 V15):=qh ⟨Below.refl _ _,s15'.2.1,s15'.2.2⟩;have HV15:=qh hV15;have HYe:=qh hY;clear s15 s15' HY' n15 n15' hV15 hY F6 S14 HX T5 S5
 go_upto_region 11 with fail
 rw[HV15.out,HYe.out];clear HV15 HYe;obtain⟨⟨y0,y1,y2⟩,_⟩:=HY.out.cells
 go_wp2_with fail
 refine(P6.out _ _ S15.out _ _ _ N15.out).mono ?_;rintro e w16⟨rfl,s16,_⟩;have S16:=qh s16;have HY16:=qh (HY.out.below s16.1 HY.out.lt);clear s16 P6 y0 y1 y2;obtain⟨⟨y0,y1,y2⟩,_⟩:=HY16.out.cells;have CV:=qh (q5k 24 16 (.inr ⟨rfl,rfl⟩) q3u w16 _ _ _ (N15.out.later S16.out.1));unfold q95 at CV;rw[qmh,qj rfl,qnt]at CV
 go_wp2_with fail
 refine CV.out.mono ?_;rintro e w17⟨vl,rfl,r17,b17⟩;have S17:=qh (S16.out.below b17);obtain⟨av,nv,hvl⟩:=zr (show w17.ownsRow _ _ 1 vl _ _ from r17);subst hvl;have R17:=qh r17;clear b17 r17 CV y0 y1 y2 S16;have HY17:=qh (HY.out.below S17.out.1 HY.out.lt);have HX17:=qh (HX15.out.below S17.out.1 HX15.out.lt);have N17:=qh (N15.out.later S17.out.1);obtain⟨⟨y0,y1,y2⟩,_⟩:=HY17.out.cells
 go_wp2_with fail
 obtain⟨_,hv0|⟨g,rfl,hvc⟩⟩:=q26 R17.out
 ·cases hv0
 have v0:w17.cell? ⟨g,0,none⟩=some (.string ⟨#[88]⟩):=hvc 0 (by simp);obtain⟨b1,o1,k1,s1,l1,a1',c1',rfl,e1,p0,p1,p2,r1⟩:=N17.out.kid 1 (by simp)
 cases e1;obtain⟨b2,o2,k2,s2,l2,a2',c2',rfl,e2,q0,q1,q2,r2⟩:=r1.kid 0 (by simp)
 cases e2;obtain⟨b3,o3,k3,s3,l3,a3',c3',rfl,e3,t0,t1,t2,r3⟩:=r2.kid 1 (by simp)
 cases e3;obtain⟨b4,o4,k4,s4,l4,a4',c4',rfl,e4,u0,u1,u2,r4⟩:=r3.kid 0 (by simp)
 cases e4
 have CS:Hid (∀ W,Below w17.heap.size w17 W->Calls Tryz.prog 38 #[.agg #[.int .i64 16,.string { data:=#[88] },.slice a4' 0 c4'],.agg #[.int .i64 16,.string { data:=#[88] },.slice none 0 0]] W fun e w'=>e = .returned (.bool true)/\Below W.heap.size W w') :=
  qh (fun W hb=>by
   have C:=qh9 1 q8p q8p W _ _ _ _ _ _ (by decide) (r4.later hb) (NdR.leaf W 16 { data:=#[88] } (by unfold maxLen;decide));rw[show ku q8p q8p=true from by kernel_rfl]at C
   exact C)
 obtain⟨⟨x0,x1,x2⟩,_⟩:=HX17.out.cells;clear r1 r2 r3 r4 hvc p0 p1 q1 t0 t1;simp only[Nat.zero_mul,Nat.add_zero,Nat.one_mul]at p2 q0 q2 t2 u0 u1 u2
 go_upto_region 18 with fail
 have S0:Hid (w17.cell? ⟨g,0,none⟩=some (.string ⟨#[88]⟩)/\w17.cell? ⟨Y,2,none⟩=some (.slice (some ⟨b1,o1,none⟩) 2 cn)/\w17.cell? ⟨b1,o1+3+2,none⟩=some (.slice (some ⟨b2,o2,none⟩) 1 c1')/\w17.cell? ⟨b2,o2,none⟩=some (.int .i64 27)/\w17.cell? ⟨b2,o2+2,none⟩=some (.slice (some ⟨b3,o3,none⟩) 2 c2')/\w17.cell? ⟨b3,o3+3+2,none⟩=some (.slice (some ⟨b4,o4,none⟩) 1 c3')/\w17.cell? ⟨b4,o4,none⟩=some (.int .i64 16)/\w17.cell? ⟨b4,o4+1,none⟩=some (.string { data:=#[88] })/\w17.cell? ⟨b4,o4+2,none⟩=some (.slice a4' 0 c4')/\w17.cell? ⟨X,0,none⟩=some (.int .i64 16)/\w17.cell? ⟨X,1,none⟩=some (.string { data:=#[88] })/\w17.cell? ⟨X,2,none⟩=some (.slice none 0 0)):=qh ⟨v0,y2,p2,q0,q2,t2,u0,u1,u2,x0,x1,x2⟩;have SD:w17.drew.cell? ⟨g,0,none⟩=some (.string ⟨#[88]⟩)/\w17.drew.cell? ⟨Y,2,none⟩=some (.slice (some ⟨b1,o1,none⟩) 2 cn)/\w17.drew.cell? ⟨b1,o1+3+2,none⟩=some (.slice (some ⟨b2,o2,none⟩) 1 c1')/\w17.drew.cell? ⟨b2,o2,none⟩=some (.int .i64 27)/\w17.drew.cell? ⟨b2,o2+2,none⟩=some (.slice (some ⟨b3,o3,none⟩) 2 c2')/\w17.drew.cell? ⟨b3,o3+3+2,none⟩=some (.slice (some ⟨b4,o4,none⟩) 1 c3')/\w17.drew.cell? ⟨b4,o4,none⟩=some (.int .i64 16)/\w17.drew.cell? ⟨b4,o4+1,none⟩=some (.string { data:=#[88] })/\w17.drew.cell? ⟨b4,o4+2,none⟩=some (.slice a4' 0 c4')/\w17.drew.cell? ⟨X,0,none⟩=some (.int .i64 16)/\w17.drew.cell? ⟨X,1,none⟩=some (.string { data:=#[88] })/\w17.drew.cell? ⟨X,2,none⟩=some (.slice none 0 0):=S0.out;have SB:Hid (∀ W,Below w17.heap.size w17 W->W.cell? ⟨g,0,none⟩=some (.string ⟨#[88]⟩)/\W.cell? ⟨Y,2,none⟩=some (.slice (some ⟨b1,o1,none⟩) 2 cn)/\W.cell? ⟨b1,o1+3+2,none⟩=some (.slice (some ⟨b2,o2,none⟩) 1 c1')/\W.cell? ⟨b2,o2,none⟩=some (.int .i64 27)/\W.cell? ⟨b2,o2+2,none⟩=some (.slice (some ⟨b3,o3,none⟩) 2 c2')/\W.cell? ⟨b3,o3+3+2,none⟩=some (.slice (some ⟨b4,o4,none⟩) 1 c3')/\W.cell? ⟨b4,o4,none⟩=some (.int .i64 16)/\W.cell? ⟨b4,o4+1,none⟩=some (.string { data:=#[88] })/\W.cell? ⟨b4,o4+2,none⟩=some (.slice a4' 0 c4')/\W.cell? ⟨X,0,none⟩=some (.int .i64 16)/\W.cell? ⟨X,1,none⟩=some (.string { data:=#[88] })/\W.cell? ⟨X,2,none⟩=some (.slice none 0 0)):=qh (fun W hb=>⟨(hb.cell (p:=⟨g,0,none⟩) (qi v0)).trans v0,(hb.cell (p:=⟨Y,2,none⟩) (qi y2)).trans y2,(hb.cell (p:=⟨b1,o1+3+2,none⟩) (qi p2)).trans p2,(hb.cell (p:=⟨b2,o2,none⟩) (qi q0)).trans q0,(hb.cell (p:=⟨b2,o2+2,none⟩) (qi q2)).trans q2,(hb.cell (p:=⟨b3,o3+3+2,none⟩) (qi t2)).trans t2,(hb.cell (p:=⟨b4,o4,none⟩) (qi u0)).trans u0,(hb.cell (p:=⟨b4,o4+1,none⟩) (qi u1)).trans u1,(hb.cell (p:=⟨b4,o4+2,none⟩) (qi u2)).trans u2,(hb.cell (p:=⟨X,0,none⟩) (qi x0)).trans x0,(hb.cell (p:=⟨X,1,none⟩) (qi x1)).trans x1,(hb.cell (p:=⟨X,2,none⟩) (qi x2)).trans x2⟩);have HLB:Hid (∀ e:Bool,True):=qh (fun _=>trivial);clear v0 y2 p2 q0 q2 t2 u0 u1 u2 x0 x1 x2 y0 y1
 go_region_held3 (fun w'=>w'.cell? ⟨g,0,none⟩=some (.string ⟨#[88]⟩)/\w'.cell? ⟨Y,2,none⟩=some (.slice (some ⟨b1,o1,none⟩) 2 cn)/\w'.cell? ⟨b1,o1+3+2,none⟩=some (.slice (some ⟨b2,o2,none⟩) 1 c1')/\w'.cell? ⟨b2,o2,none⟩=some (.int .i64 27)/\w'.cell? ⟨b2,o2+2,none⟩=some (.slice (some ⟨b3,o3,none⟩) 2 c2')/\w'.cell? ⟨b3,o3+3+2,none⟩=some (.slice (some ⟨b4,o4,none⟩) 1 c3')/\w'.cell? ⟨b4,o4,none⟩=some (.int .i64 16)/\w'.cell? ⟨b4,o4+1,none⟩=some (.string { data:=#[88] })/\w'.cell? ⟨b4,o4+2,none⟩=some (.slice a4' 0 c4')/\w'.cell? ⟨X,0,none⟩=some (.int .i64 16)/\w'.cell? ⟨X,1,none⟩=some (.string { data:=#[88] })/\w'.cell? ⟨X,2,none⟩=some (.slice none 0 0))
  (first|with_reducible exact SD|with_reducible exact SE)
  (first|(go_at_call 38;refine(CS.out _ ((Below.refl _ w17).drew)).mono ?_;rintro e w18 ⟨rfl,hb⟩;have B18:Hid (Below w17.heap.size w17 w18):=qh (((Below.refl _ w17).drew).trans hb);have SE:=SB.out _ B18.out;clear hb))
 all_goals go_wp2
 all_goals go_ret
 all_goals exact⟨rfl,(T15.out.1.trans (S17.out.1.mono T15.out.1.size)).trans (B18.out.mono (qo T15.out.1.size S17.out.1.size))⟩
mutual
theorem q40:∀ t:Nd,ku t t=true
 | .mk k s l=>by simp only[ku,q7u l,beq_self_eq_true,Bool.and_self]
theorem q7u:∀ l:List Nd,ke l l=true
 |[]=>by simp only[ke]
 |a :: l=>by simp only[ke,q40 a,q7u l,Bool.and_self]
end
theorem q84{t:Nd}(h0:zx t=0)(kind:Int):(ye kind (zq 0 [] false t)).length<=1000000:=by
 have h1:=qbj kind (zq 0 [] false t);rw[q1f]at h1;have h2:=q3j h0;omega
structure LS(h:Nat)(w:World)(k:Int)(s:ByteArray)(l:List Nd)(a:Option Addr)(c:Nat)(W:World):Prop where
 b:Below h w W
 z:h+1<=W.heap.size
 n:Row3 W h (.int .i64 k) (.string s) (.slice a l.length c)
 t:NdR W (.mk k s l) (.int .i64 k) (.string s) (.slice a l.length c)
theorem LS.below{h:Nat}{w A B:World}{k:Int}{s:ByteArray}{l:List Nd}{a:Option Addr}{c:Nat}(j:LS h w k s l a c A)(hb:Below A.heap.size A B):LS h w k s l a c B :=
 ⟨j.b.trans (hb.mono (by have:=j.z;omega)),qo j.z hb.size,j.n.below hb j.n.lt,j.t.later hb⟩
theorem qk5(t:Nd)(fr tn:ByteArray)(hren:RRC fr tn)(w:World)(v0 v1 v2:Value)(ht:NdR w t v0 v1 v2)(hw:2<=w.heap.size)(gl:GLw w)(hfs:fr.size<=maxLen)(hts:tn.size<=maxLen) :
  Calls Tryz.prog 5 #[.agg #[v0,v1,v2],.string fr,.string tn] w fun e w'=>e = .returned (.bool true)/\Below w.heap.size w w':=by
 obtain⟨k,s,l,a,c,rfl,rfl,rfl,rfl,_,_⟩:=ht.form;obtain⟨h,hh⟩:∃ h,w.heap.size=h:=⟨_,rfl⟩;obtain⟨W0,hW0⟩:∃ W0,w.alloc (.cells #[.int .i64 k,.string s,.slice a l.length c] 25)=W0:=⟨_,rfl⟩;have b0:Below h w W0:=by rw[<-hW0,<-hh];exact(Below.refl _ w).alloc (q9 _) _
 have z0:W0.heap.size=h+1:=by rw[<-hW0];simp[hh]
 have r0:Row3 W0 h (.int .i64 k) (.string s) (.slice a l.length c):=by rw[<-hW0,<-hh];exact qk _ _
 have CS:=qh (qh8 W0 (by omega) (gl.keep fun b hb hl=>b0.block b (by omega)));have J0:Hid (LS h w k s l a c W0):=qh ⟨b0,by omega,r0,ht.later (by rw[hh];exact b0)⟩;obtain⟨er,hc⟩:∃ er,zx (.mk k s l)=er:=⟨_,rfl⟩;obtain⟨A1,hA1⟩:∃ A1,(if er=0 then ye 15 (zq 0 [] false (.mk k s l)) else [])=A1:=⟨_,rfl⟩;obtain⟨A2,hA2⟩:∃ A2,(if er=0 then ye 16 (zq 0 [] false (.mk k s l)) else [])=A2:=⟨_,rfl⟩
 have m1:A1.length<=1000000:=by
  rw[<-hA1];split
  ·exact q84 (by rw[hc];assumption) 15
  ·simp
 have m2:A2.length<=1000000:=by
  rw[<-hA2];split
  ·exact q84 (by rw[hc];assumption) 16
  ·simp
 have CN:Hid (∀ W v0 v1 v2,NdR W (.mk k s l) v0 v1 v2->Calls Tryz.prog 22 #[.agg #[v0,v1,v2]] W fun e w'=>∃ v,e = .returned (.tuple #[v,.int .i64 er])/\ze W.heap.size w' v A1/\Below W.heap.size W w'):=qh (fun W v0 v1 v2 ht=>by
  have:=q5k 22 15 (.inl ⟨rfl,rfl⟩) (.mk k s l) W v0 v1 v2 ht;unfold q95 at this
  rwa [hc,hA1]at this)
 have CV:Hid (∀ W v0 v1 v2,NdR W (.mk k s l) v0 v1 v2->Calls Tryz.prog 24 #[.agg #[v0,v1,v2]] W fun e w'=>∃ v,e = .returned (.tuple #[v,.int .i64 er])/\ze W.heap.size w' v A2/\Below W.heap.size W w'):=qh (fun W v0 v1 v2 ht=>by
  have:=q5k 24 16 (.inr ⟨rfl,rfl⟩) (.mk k s l) W v0 v1 v2 ht;unfold q95 at this
  rwa [hc,hA2]at this)
 have RN:Hid (∀ W v0 v1 v2,NdR W (.mk k s l) v0 v1 v2->Calls Tryz.prog 23 #[.agg #[v0,v1,v2]] W fun e w'=>∃ v,e = .returned (.agg #[v,.int .i64 er])/\ze W.heap.size w' v A1/\Below W.heap.size W w'):=qh (fun W v0 v1 v2 ht=>by
  have:=q7y 23 15 (.inl ⟨rfl,rfl⟩) (.mk k s l) W v0 v1 v2 ht;unfold qgr at this
  rwa [hc,hA1]at this)
 have RV:Hid (∀ W v0 v1 v2,NdR W (.mk k s l) v0 v1 v2->Calls Tryz.prog 25 #[.agg #[v0,v1,v2]] W fun e w'=>∃ v,e = .returned (.agg #[v,.int .i64 er])/\ze W.heap.size w' v A2/\Below W.heap.size W w'):=qh (fun W v0 v1 v2 ht=>by
  have:=q7y 25 16 (.inr ⟨rfl,rfl⟩) (.mk k s l) W v0 v1 v2 ht;unfold qgr at this
  rwa [hc,hA2]at this)
 have CR:=qh (fun W v0 v1 v2 ht=>qew (.mk k s l) fr tn W v0 v1 v2 ht hfs hts);have RR:=qh (fun W v0 v1 v2 ht=>qex fr tn hren (.mk k s l) W v0 v1 v2 ht);obtain⟨E1,hE1⟩:∃ E1,q1e fr tn (.mk k s l)=E1:=⟨_,rfl⟩;obtain⟨T1,hT1⟩:∃ T1,qb0 fr tn (.mk k s l)=T1:=⟨_,rfl⟩;rw[hE1,hT1]at CR RR;obtain⟨T2,hT2⟩:∃ T2,(if er=0 then xx (.mk k s l) else jt)=T2:=⟨_,rfl⟩
 have hA:(er≠0/\T2=jt)\/(er=0/\T2=xx (.mk k s l)):=by
  rw[<-hT2]
  by_cases e:er=0
  ·exact .inr ⟨e,qj e⟩
  ·exact .inl ⟨e,qd e⟩
 have CP:=qh (fun W v0 v1 v2 ht=>qab (.mk k s l) v0 v1 v2 W ht er T2 hc hA);have RP:=qh (fun W v0 v1 v2 ht=>q8v (.mk k s l) v0 v1 v2 W ht er T2 hc hA);clear ht gl hc b0 r0 hA1 hA2 hE1 hT1 hT2 hA hren;rw[hh];go_enter Tryz.func5,Tryz.ntmps5
 go_upto_region 1 with fail
 (try rw[hW0])
 (try rw[hh])
 clear hW0
 go_wp2_with fail
 refine CS.out.mono ?_;rintro e w1⟨rfl,hb1⟩;have J1:=qh (J0.out.below hb1);clear hb1 CS J0 z0;obtain⟨⟨p0,p1,p2⟩,_⟩:=J1.out.n.cells
 go_wp2_with fail
 refine(CN.out _ _ _ _ J1.out.t).mono ?_;rintro e w2⟨v2,rfl,hr,hb⟩;obtain⟨a2,c2,e2⟩:=zr (show w2.ownsRow _ 9 1 v2 (A1.map Value.string).length (A1.map Value.string) from hr);rw[qx]at e2;subst e2;clear p0 p1 p2 CN;have J2:=qh (J1.out.below hb);clear J1;have S2_0:=qh (q1u hr);clear hr hb;obtain⟨⟨p0,p1,p2⟩,_⟩:=J2.out.n.cells
 go_wp2_with fail
 refine(RN.out _ _ _ _ J2.out.t).mono ?_;rintro e w3⟨v3,rfl,hr,hb⟩;obtain⟨a3,c3,e3⟩:=zr (show w3.ownsRow _ 9 1 v3 (A1.map Value.string).length (A1.map Value.string) from hr);rw[qx]at e3;subst e3;clear p0 p1 p2 RN;have hb2:=hb.alloc hb.size (.cells #[.slice a3 A1.length c3,.int .i64 er] 46);have ow:=(q1u hr).below ((Below.refl _ w3).alloc (q9 _) (.cells #[.slice a3 A1.length c3,.int .i64 er] 46));have rw0:(w3.alloc (.cells #[.slice a3 A1.length c3,.int .i64 er] 46)).heap[w3.heap.size]?=some (.cells #[.slice a3 A1.length c3,.int .i64 er] 46 (0,0)):=qk _ _;obtain⟨V3,hV3⟩:∃ V3,w3.alloc (.cells #[.slice a3 A1.length c3,.int .i64 er] 46)=V3:=⟨_,rfl⟩;obtain⟨h3,hh3⟩:∃ h3,w3.heap.size=h3:=⟨_,rfl⟩;rw[hV3]at hb2 ow rw0;rw[hh3]at rw0;have J3:=qh (J2.out.below hb2);clear J2;have S2_1:=qh (S2_0.out.below hb2);clear S2_0;have S3_0:=qh ow;have X3_0:Hid (Row2 V3 h3 (.slice a3 A1.length c3) (.int .i64 er)):=qh rw0;have HV:=qh hV3;have HQ:=qh hh3;clear hb hb2 ow rw0 hV3 hh3
 go_upto_region 4 with fail
 rw[HV.out,HQ.out];clear HV HQ;clear hr;obtain⟨⟨p0,p1,p2⟩,_⟩:=J3.out.n.cells
 go_wp2_with fail
 refine(CV.out _ _ _ _ J3.out.t).mono ?_;rintro e w4⟨v4,rfl,hr,hb⟩;obtain⟨a4,c4,e4⟩:=zr (show w4.ownsRow _ 9 1 v4 (A2.map Value.string).length (A2.map Value.string) from hr);rw[qx]at e4;subst e4;clear p0 p1 p2 CV;have J4:=qh (J3.out.below hb);clear J3;have S2_2:=qh (S2_1.out.below hb);clear S2_1;have S3_1:=qh (S3_0.out.below hb);clear S3_0;have X3_1:=qh (X3_0.out.below hb X3_0.out.lt);clear X3_0;have S4_0:=qh (q1u hr);clear hr hb;obtain⟨⟨p0,p1,p2⟩,_⟩:=J4.out.n.cells
 go_wp2_with fail
 refine(RV.out _ _ _ _ J4.out.t).mono ?_;rintro e w5⟨v5,rfl,hr,hb⟩;obtain⟨a5,c5,e5⟩:=zr (show w5.ownsRow _ 9 1 v5 (A2.map Value.string).length (A2.map Value.string) from hr);rw[qx]at e5;subst e5;clear p0 p1 p2 RV;have hb2:=hb.alloc hb.size (.cells #[.slice a5 A2.length c5,.int .i64 er] 46);have ow:=(q1u hr).below ((Below.refl _ w5).alloc (q9 _) (.cells #[.slice a5 A2.length c5,.int .i64 er] 46));have rw0:(w5.alloc (.cells #[.slice a5 A2.length c5,.int .i64 er] 46)).heap[w5.heap.size]?=some (.cells #[.slice a5 A2.length c5,.int .i64 er] 46 (0,0)):=qk _ _;obtain⟨V5,hV5⟩:∃ V5,w5.alloc (.cells #[.slice a5 A2.length c5,.int .i64 er] 46)=V5:=⟨_,rfl⟩;obtain⟨h5,hh5⟩:∃ h5,w5.heap.size=h5:=⟨_,rfl⟩;rw[hV5]at hb2 ow rw0;rw[hh5]at rw0;have J5:=qh (J4.out.below hb2);clear J4;have S2_3:=qh (S2_2.out.below hb2);clear S2_2;have S3_2:=qh (S3_1.out.below hb2);clear S3_1;have X3_2:=qh (X3_1.out.below hb2 X3_1.out.lt);clear X3_1;have S4_1:=qh (S4_0.out.below hb2);clear S4_0;have S5_0:=qh ow;have X5_0:Hid (Row2 V5 h5 (.slice a5 A2.length c5) (.int .i64 er)):=qh rw0;have HV:=qh hV5;have HQ:=qh hh5;clear hb hb2 ow rw0 hV5 hh5
 go_upto_region 6 with fail
 rw[HV.out,HQ.out];clear HV HQ;clear hr;obtain⟨⟨p0,p1,p2⟩,_⟩:=J5.out.n.cells
 go_wp2_with fail
 refine(CR.out _ _ _ _ J5.out.t).mono ?_;rintro e w6⟨u0,u1,u2,rfl,tm,hb⟩;obtain⟨k6,s6,l6,a6,c6,eM,rfl,rfl,rfl,_,_⟩:=tm.form;clear p0 p1 p2 CR eM;have hb2:=hb.alloc hb.size (.cells #[.int .i64 k6,.string s6,.slice a6 l6.length c6] 25);have ow:=tm.later ((Below.refl _ w6).alloc (q9 _) (.cells #[.int .i64 k6,.string s6,.slice a6 l6.length c6] 25));have rw0:(w6.alloc (.cells #[.int .i64 k6,.string s6,.slice a6 l6.length c6] 25)).heap[w6.heap.size]?=some (.cells #[.int .i64 k6,.string s6,.slice a6 l6.length c6] 25 (0,0)):=qk _ _;obtain⟨V6,hV6⟩:∃ V6,w6.alloc (.cells #[.int .i64 k6,.string s6,.slice a6 l6.length c6] 25)=V6:=⟨_,rfl⟩;obtain⟨h6,hh6⟩:∃ h6,w6.heap.size=h6:=⟨_,rfl⟩;rw[hV6]at hb2 ow rw0;rw[hh6]at rw0;have J6:=qh (J5.out.below hb2);clear J5;have S2_4:=qh (S2_3.out.below hb2);clear S2_3;have S3_3:=qh (S3_2.out.below hb2);clear S3_2;have X3_3:=qh (X3_2.out.below hb2 X3_2.out.lt);clear X3_2;have S4_2:=qh (S4_1.out.below hb2);clear S4_1;have S5_1:=qh (S5_0.out.below hb2);clear S5_0;have X5_1:=qh (X5_0.out.below hb2 X5_0.out.lt);clear X5_0;have T6_0:=qh ow;have X6_0:Hid (Row3 V6 h6 (.int .i64 k6) (.string s6) (.slice a6 l6.length c6)):=qh rw0;have HV:=qh hV6;have HQ:=qh hh6;clear hb hb2 ow rw0 hV6 hh6
 go_upto_region 7 with fail
 rw[HV.out,HQ.out];clear HV HQ;clear tm;obtain⟨⟨p0,p1,p2⟩,_⟩:=J6.out.n.cells
 go_wp2_with fail
 refine(RR.out _ _ _ _ J6.out.t).mono ?_;rintro e w7⟨u0,u1,u2,rfl,tm,hb⟩;obtain⟨k7,s7,l7,a7,c7,eM,rfl,rfl,rfl,_,_⟩:=tm.form;clear p0 p1 p2 RR eM;have hb2:=hb.alloc hb.size (.cells #[.int .i64 k7,.string s7,.slice a7 l7.length c7,.int .i64 E1] 51);have ow:=tm.later ((Below.refl _ w7).alloc (q9 _) (.cells #[.int .i64 k7,.string s7,.slice a7 l7.length c7,.int .i64 E1] 51));have rw0:(w7.alloc (.cells #[.int .i64 k7,.string s7,.slice a7 l7.length c7,.int .i64 E1] 51)).heap[w7.heap.size]?=some (.cells #[.int .i64 k7,.string s7,.slice a7 l7.length c7,.int .i64 E1] 51 (0,0)):=qk _ _;obtain⟨V7,hV7⟩:∃ V7,w7.alloc (.cells #[.int .i64 k7,.string s7,.slice a7 l7.length c7,.int .i64 E1] 51)=V7:=⟨_,rfl⟩;obtain⟨h7,hh7⟩:∃ h7,w7.heap.size=h7:=⟨_,rfl⟩;rw[hV7]at hb2 ow rw0;rw[hh7]at rw0;have J7:=qh (J6.out.below hb2);clear J6;have S2_5:=qh (S2_4.out.below hb2);clear S2_4;have S3_4:=qh (S3_3.out.below hb2);clear S3_3;have X3_4:=qh (X3_3.out.below hb2 X3_3.out.lt);clear X3_3;have S4_3:=qh (S4_2.out.below hb2);clear S4_2;have S5_2:=qh (S5_1.out.below hb2);clear S5_1;have X5_2:=qh (X5_1.out.below hb2 X5_1.out.lt);clear X5_1;have T6_1:=qh (T6_0.out.later hb2);clear T6_0;have X6_1:=qh (X6_0.out.below hb2 X6_0.out.lt);clear X6_0;have T7_0:=qh ow;have X7_0:Hid (Row4 V7 h7 (.int .i64 k7) (.string s7) (.slice a7 l7.length c7) (.int .i64 E1)):=qh rw0;have HV:=qh hV7;have HQ:=qh hh7;clear hb hb2 ow rw0 hV7 hh7
 go_upto_region 8 with fail
 rw[HV.out,HQ.out];clear HV HQ;clear tm;obtain⟨⟨p0,p1,p2⟩,_⟩:=J7.out.n.cells
 go_wp2_with fail
 refine(CP.out _ _ _ _ J7.out.t).mono ?_;rintro e w8⟨u0,u1,u2,rfl,tm,hb⟩;obtain⟨k8,s8,l8,a8,c8,eM,rfl,rfl,rfl,_,_⟩:=tm.form;clear p0 p1 p2 CP eM;have hb2:=hb.alloc hb.size (.cells #[.int .i64 k8,.string s8,.slice a8 l8.length c8] 25);have ow:=tm.later ((Below.refl _ w8).alloc (q9 _) (.cells #[.int .i64 k8,.string s8,.slice a8 l8.length c8] 25));have rw0:(w8.alloc (.cells #[.int .i64 k8,.string s8,.slice a8 l8.length c8] 25)).heap[w8.heap.size]?=some (.cells #[.int .i64 k8,.string s8,.slice a8 l8.length c8] 25 (0,0)):=qk _ _;obtain⟨V8,hV8⟩:∃ V8,w8.alloc (.cells #[.int .i64 k8,.string s8,.slice a8 l8.length c8] 25)=V8:=⟨_,rfl⟩;obtain⟨h8,hh8⟩:∃ h8,w8.heap.size=h8:=⟨_,rfl⟩;rw[hV8]at hb2 ow rw0;rw[hh8]at rw0;have J8:=qh (J7.out.below hb2);clear J7;have S2_6:=qh (S2_5.out.below hb2);clear S2_5;have S3_5:=qh (S3_4.out.below hb2);clear S3_4;have X3_5:=qh (X3_4.out.below hb2 X3_4.out.lt);clear X3_4;have S4_4:=qh (S4_3.out.below hb2);clear S4_3;have S5_3:=qh (S5_2.out.below hb2);clear S5_2;have X5_3:=qh (X5_2.out.below hb2 X5_2.out.lt);clear X5_2;have T6_2:=qh (T6_1.out.later hb2);clear T6_1;have X6_2:=qh (X6_1.out.below hb2 X6_1.out.lt);clear X6_1;have T7_1:=qh (T7_0.out.later hb2);clear T7_0;have X7_1:=qh (X7_0.out.below hb2 X7_0.out.lt);clear X7_0;have T8_0:=qh ow;have X8_0:Hid (Row3 V8 h8 (.int .i64 k8) (.string s8) (.slice a8 l8.length c8)):=qh rw0;have HV:=qh hV8;have HQ:=qh hh8;clear hb hb2 ow rw0 hV8 hh8
 go_upto_region 9 with fail
 rw[HV.out,HQ.out];clear HV HQ;clear tm;obtain⟨⟨p0,p1,p2⟩,_⟩:=J8.out.n.cells
 go_wp2_with fail
 refine(RP.out _ _ _ _ J8.out.t).mono ?_;rintro e w9⟨u0,u1,u2,rfl,tm,hb⟩;obtain⟨k9,s9,l9,a9,c9,eM,rfl,rfl,rfl,_,_⟩:=tm.form;clear p0 p1 p2 RP eM;have hb2:=hb.alloc hb.size (.cells #[.int .i64 k9,.string s9,.slice a9 l9.length c9,.int .i64 er] 51);have ow:=tm.later ((Below.refl _ w9).alloc (q9 _) (.cells #[.int .i64 k9,.string s9,.slice a9 l9.length c9,.int .i64 er] 51));have rw0:(w9.alloc (.cells #[.int .i64 k9,.string s9,.slice a9 l9.length c9,.int .i64 er] 51)).heap[w9.heap.size]?=some (.cells #[.int .i64 k9,.string s9,.slice a9 l9.length c9,.int .i64 er] 51 (0,0)):=qk _ _;obtain⟨V9,hV9⟩:∃ V9,w9.alloc (.cells #[.int .i64 k9,.string s9,.slice a9 l9.length c9,.int .i64 er] 51)=V9:=⟨_,rfl⟩;obtain⟨h9,hh9⟩:∃ h9,w9.heap.size=h9:=⟨_,rfl⟩;rw[hV9]at hb2 ow rw0;rw[hh9]at rw0;have J9:=qh (J8.out.below hb2);clear J8;have S2_7:=qh (S2_6.out.below hb2);clear S2_6;have S3_6:=qh (S3_5.out.below hb2);clear S3_5;have X3_6:=qh (X3_5.out.below hb2 X3_5.out.lt);clear X3_5;have S4_5:=qh (S4_4.out.below hb2);clear S4_4;have S5_4:=qh (S5_3.out.below hb2);clear S5_3;have X5_4:=qh (X5_3.out.below hb2 X5_3.out.lt);clear X5_3;have T6_3:=qh (T6_2.out.later hb2);clear T6_2;have X6_3:=qh (X6_2.out.below hb2 X6_2.out.lt);clear X6_2;have T7_2:=qh (T7_1.out.later hb2);clear T7_1;have X7_2:=qh (X7_1.out.below hb2 X7_1.out.lt);clear X7_1;have T8_1:=qh (T8_0.out.later hb2);clear T8_0;have X8_1:=qh (X8_0.out.below hb2 X8_0.out.lt);clear X8_0;have T9_0:=qh ow;have X9_0:Hid (Row4 V9 h9 (.int .i64 k9) (.string s9) (.slice a9 l9.length c9) (.int .i64 er)):=qh rw0;have HV:=qh hV9;have HQ:=qh hh9;clear hb hb2 ow rw0 hV9 hh9
 go_upto_region 10 with fail
 rw[HV.out,HQ.out];clear HV HQ;clear tm;obtain⟨⟨x3_0,x3_1⟩,_⟩:=X3_6.out.cells;have C1:=qh (q5a _ _ A1 _ S2_7.out S3_6.out m1)
 go_wp2_with fail
 refine C1.out.mono ?_;rintro e y1⟨rfl,hb⟩;clear C1 x3_0 x3_1;have J10:=qh (J9.out.below hb);clear J9;have S2_8:=qh (S2_7.out.below hb);clear S2_7;have S3_7:=qh (S3_6.out.below hb);clear S3_6;have X3_7:=qh (X3_6.out.below hb X3_6.out.lt);clear X3_6;have S4_6:=qh (S4_5.out.below hb);clear S4_5;have S5_5:=qh (S5_4.out.below hb);clear S5_4;have X5_5:=qh (X5_4.out.below hb X5_4.out.lt);clear X5_4;have T6_4:=qh (T6_3.out.later hb);clear T6_3;have X6_4:=qh (X6_3.out.below hb X6_3.out.lt);clear X6_3;have T7_3:=qh (T7_2.out.later hb);clear T7_2;have X7_3:=qh (X7_2.out.below hb X7_2.out.lt);clear X7_2;have T8_2:=qh (T8_1.out.later hb);clear T8_1;have X8_2:=qh (X8_1.out.below hb X8_1.out.lt);clear X8_1;have T9_1:=qh (T9_0.out.later hb);clear T9_0;have X9_1:=qh (X9_0.out.below hb X9_0.out.lt);clear X9_0;clear hb;obtain⟨⟨x3_0,x3_1⟩,_⟩:=X3_7.out.cells;obtain⟨⟨x5_0,x5_1⟩,_⟩:=X5_5.out.cells;have C1:=qh (q5a _ _ A2 _ S4_6.out S5_5.out m2)
 go_wp2_with fail
 refine C1.out.mono ?_;rintro e y2⟨rfl,hb⟩;clear C1 x3_0 x3_1 x5_0 x5_1;have J11:=qh (J10.out.below hb);clear J10;have S2_9:=qh (S2_8.out.below hb);clear S2_8;have S3_8:=qh (S3_7.out.below hb);clear S3_7;have X3_8:=qh (X3_7.out.below hb X3_7.out.lt);clear X3_7;have S4_7:=qh (S4_6.out.below hb);clear S4_6;have S5_6:=qh (S5_5.out.below hb);clear S5_5;have X5_6:=qh (X5_5.out.below hb X5_5.out.lt);clear X5_5;have T6_5:=qh (T6_4.out.later hb);clear T6_4;have X6_5:=qh (X6_4.out.below hb X6_4.out.lt);clear X6_4;have T7_4:=qh (T7_3.out.later hb);clear T7_3;have X7_4:=qh (X7_3.out.below hb X7_3.out.lt);clear X7_3;have T8_3:=qh (T8_2.out.later hb);clear T8_2;have X8_3:=qh (X8_2.out.below hb X8_2.out.lt);clear X8_2;have T9_2:=qh (T9_1.out.later hb);clear T9_1;have X9_2:=qh (X9_1.out.below hb X9_1.out.lt);clear X9_1;clear hb;obtain⟨⟨x5_0,x5_1⟩,_⟩:=X5_6.out.cells;obtain⟨⟨x6_0,x6_1,x6_2⟩,_⟩:=X6_5.out.cells;obtain⟨⟨x7_0,x7_1,x7_2,x7_3⟩,_⟩:=X7_4.out.cells;have C1:=qh (qhc _ T1 T1 _ _ _ _ _ _ _ (q9 _) T6_5.out T7_4.out);rw[q40]at C1
 go_wp2_with fail
 refine C1.out.mono ?_;rintro e y3⟨rfl,hb⟩;clear C1 x5_0 x5_1 x6_0 x6_1 x6_2 x7_0 x7_1 x7_2 x7_3;have J12:=qh (J11.out.below hb);clear J11;have S2_10:=qh (S2_9.out.below hb);clear S2_9;have S3_9:=qh (S3_8.out.below hb);clear S3_8;have X3_9:=qh (X3_8.out.below hb X3_8.out.lt);clear X3_8;have S4_8:=qh (S4_7.out.below hb);clear S4_7;have S5_7:=qh (S5_6.out.below hb);clear S5_6;have X5_7:=qh (X5_6.out.below hb X5_6.out.lt);clear X5_6;have T6_6:=qh (T6_5.out.later hb);clear T6_5;have X6_6:=qh (X6_5.out.below hb X6_5.out.lt);clear X6_5;have T7_5:=qh (T7_4.out.later hb);clear T7_4;have X7_5:=qh (X7_4.out.below hb X7_4.out.lt);clear X7_4;have T8_4:=qh (T8_3.out.later hb);clear T8_3;have X8_4:=qh (X8_3.out.below hb X8_3.out.lt);clear X8_3;have T9_3:=qh (T9_2.out.later hb);clear T9_2;have X9_3:=qh (X9_2.out.below hb X9_2.out.lt);clear X9_2;clear hb;obtain⟨⟨x7_0,x7_1,x7_2,x7_3⟩,_⟩:=X7_5.out.cells;obtain⟨⟨x8_0,x8_1,x8_2⟩,_⟩:=X8_4.out.cells;obtain⟨⟨x9_0,x9_1,x9_2,x9_3⟩,_⟩:=X9_3.out.cells;have C1:=qh (qhc _ T2 T2 _ _ _ _ _ _ _ (q9 _) T8_4.out T9_3.out);rw[q40]at C1
 go_wp2_with fail
 refine C1.out.mono ?_;rintro e y4⟨rfl,hb⟩;clear C1 x7_0 x7_1 x7_2 x7_3 x8_0 x8_1 x8_2 x9_0 x9_1 x9_2 x9_3;have J13:=qh (J12.out.below hb);clear J12;have S2_11:=qh (S2_10.out.below hb);clear S2_10;have S3_10:=qh (S3_9.out.below hb);clear S3_9;have X3_10:=qh (X3_9.out.below hb X3_9.out.lt);clear X3_9;have S4_9:=qh (S4_8.out.below hb);clear S4_8;have S5_8:=qh (S5_7.out.below hb);clear S5_7;have X5_8:=qh (X5_7.out.below hb X5_7.out.lt);clear X5_7;have T6_7:=qh (T6_6.out.later hb);clear T6_6;have X6_7:=qh (X6_6.out.below hb X6_6.out.lt);clear X6_6;have T7_6:=qh (T7_5.out.later hb);clear T7_5;have X7_6:=qh (X7_5.out.below hb X7_5.out.lt);clear X7_5;have T8_5:=qh (T8_4.out.later hb);clear T8_4;have X8_5:=qh (X8_4.out.below hb X8_4.out.lt);clear X8_4;have T9_4:=qh (T9_3.out.later hb);clear T9_3;have X9_4:=qh (X9_3.out.below hb X9_3.out.lt);clear X9_3;clear hb;go_wp2
 all_goals (try go_ret)
 all_goals exact⟨rfl,J13.out.b⟩
end Go.Proofs.YtkckddojlignpaaGreatDoor
namespace Go.Proofs.YtkckddojlignpaaGreatDoor
theorem q8f{l:List Nd}{i:Nat}(h:i < l.length):(l.drop (i+1)).isEmpty=decide (i+1=l.length):=by
 rw[Bool.eq_iff_iff,List.isEmpty_iff,List.drop_eq_nil_iff,decide_eq_true_iff];omega
theorem q41(fr tn:ByteArray)(kd:Int)(st:Bool):∀ l:List Nd,(rrL fr tn kd st l).length=l.length
 |[]=>by simp only[rrL]
 |a :: l=>by simp only[rrL,qr,q41 fr tn kd st l]
theorem qjs(fr tn:ByteArray)(kd:Int)(st:Bool)(l:List Nd)(i:Nat)(h:i < l.length) :
  rrL fr tn kd st (l.drop i)=(if(st && decide (i+1=l.length))=true then l[i] else rrN fr tn kd l[i]) :: rrL fr tn kd st (l.drop (i+1)):=by
 rw[List.drop_eq_getElem_cons h];simp only[rrL,q8f h]
theorem q9g(fr tn:ByteArray)(kd:Int)(st:Bool):∀ (l:List Nd) (i:Nat),(rrL fr tn kd st l).drop i=rrL fr tn kd st (l.drop i)
 |l,0=>by simp only[List.drop_zero]
 |[],i+1=>by simp only[rrL,List.drop_nil]
 |a :: l,i+1=>by
  simp only[rrL,List.drop_succ_cons];exact q9g fr tn kd st l i
theorem qjr(fr tn:ByteArray)(kd:Int)(st:Bool)(l:List Nd)(i:Nat)(h:i < l.length) :
  (rrL fr tn kd st l).take (i+1)=(rrL fr tn kd st l).take i++[if(st && decide (i+1=l.length))=true then l[i] else rrN fr tn kd l[i]]:=by
 have h':i < (rrL fr tn kd st l).length:=by rw[q41];exact h
 rw[zc h']
 congr 2
 have e1:=List.drop_eq_getElem_cons h';rw[q9g,qjs fr tn kd st l i h]at e1;exact(List.cons.inj e1).1.symm
theorem qju(fr tn:ByteArray)(un st ul:Bool)(l:List Nd)(i:Nat)(h:i < l.length) :
  rbL fr tn un st ul (l.drop i)=((if(st && decide (i+1=l.length))=true then false else rbN fr tn (if i+1=l.length then ul else un) l[i])||rbL fr tn un st ul (l.drop (i+1))):=by
 rw[List.drop_eq_getElem_cons h];simp only[rbL,q8f h,decide_eq_true_iff]
end Go.Proofs.YtkckddojlignpaaGreatDoor
namespace Go.Proofs.YtkckddojlignpaaGreatDoor
open Go.RowKit Go.Shelf
attribute [local go_sem] Oper.semAt_some
structure FrR(T:Nat->Prop)(H:Nat)(k:Int)(s:ByteArray)(n2:Value)(kk:Int)(ss:ByteArray)(l':List Nd)(w:World)(j:Nat)(wr:World):Prop where
 b:Below H w wr
 n:Row3 wr H (.int .i64 k) (.string s) n2
 r:Row3 wr (H+1) (.int .i64 0) (.string ⟨#[]⟩) (.slice none 0 0)
 d:∃ oa oc,Row3 wr (H+1+1) (.int .i64 kk) (.string ss) (.slice oa j oc)/\KidsS (fun b=>T b\/H+1+1 < b) wr (.slice oa j oc) (l'.take j)/\∀ g,(Value.slice oa j oc).ownBlock=some g->H+1+1 < g
theorem FrR.next{T:Nat->Prop}{H j g6 cap6:Nat}{k kk:Int}{s ss:ByteArray}{n2:Value}{l':List Nd}{w wr w8:World}{oa:Option Addr}{oc:Nat}{kid:Nd}(F:FrR T H k s n2 kk ss l' w j wr)(ho:∀ g,(Value.slice oa j oc).ownBlock=some g->H+1+1 < g)(hT:∀ b,T b->b < H)(kp:Kp2 H (H+1+1) (.slice oa j oc) w wr w8)
  (hk:l'.take (j+1)=l'.take j++[kid]) (R:Row3 w8 (H+1+1) (.int .i64 kk) (.string ss) (.slice oa j oc)) (K:KidsS (fun b=>T b\/H+1+1 < b) w8 (.slice (some ⟨g6,0,none⟩) (j+1) cap6) (l'.take j++[kid])) (hg:H+1+1 < g6) :
  FrR T H k s n2 kk ss l' w (j+1) (w8.setCell ⟨H+1+1,2,none⟩ (.slice (some ⟨g6,0,none⟩) (j+1) cap6)):=by
 have kp':=kp.set (by omega) (.slice (some ⟨g6,0,none⟩) (j+1) cap6);have old:∀ b,b < H+1+1->b < wr.heap.size->(w8.setCell ⟨H+1+1,2,none⟩ (.slice (some ⟨g6,0,none⟩) (j+1) cap6)).heap[b]?=wr.heap[b]?:=fun b h1 h2=>kp'.2.1 b h2 (by omega) (fun e=>by have:=ho b e;omega)
 exact⟨kp'.2.2,(old _ (by omega) F.n.lt).trans F.n,(old _ (by omega) F.r.lt).trans F.r,_,_,R.put2 _,by rw[hk];exact K.keep fun b h1 _=>⟨Below.heap_setCell _ _ _ _ (show b≠H+1+1 from h1.elim (fun h=>by have:=hT b h;omega) (fun h=>by omega)),h1⟩,fun g e=>by cases e;exact hg⟩
abbrev Sr(H b o j:Nat)(n1 n2 y0 y1 y2:Value)(W5 w:World):Prop:=w.cell? ⟨H,1,none⟩=some n1/\w.cell? ⟨H,2,none⟩=some n2/\w.cell? ⟨b,o+j*3,none⟩=some y0/\w.cell? ⟨b,o+j*3+1,none⟩=some y1/\w.cell? ⟨b,o+j*3+2,none⟩=some y2/\Hid (Below W5.heap.size W5 w)
section
variable {H b o j:Nat} {n1 n2 y0 y1 y2:Value} {W5 w w':World}
theorem wn(hb:Below w.heap.size w w')(S:Sr H b o j n1 n2 y0 y1 y2 W5 w):Sr H b o j n1 n2 y0 y1 y2 W5 w':=⟨(hb.cell (p:=⟨H,1,none⟩) (qi S.1)).trans S.1,(hb.cell (p:=⟨H,2,none⟩) (qi S.2.1)).trans S.2.1,(hb.cell (p:=⟨b,o+j*3,none⟩) (qi S.2.2.1)).trans S.2.2.1,(hb.cell (p:=⟨b,o+j*3+1,none⟩) (qi S.2.2.2.1)).trans S.2.2.2.1,(hb.cell (p:=⟨b,o+j*3+2,none⟩) (qi S.2.2.2.2.1)).trans S.2.2.2.2.1,qh (S.2.2.2.2.2.out.trans (hb.mono S.2.2.2.2.2.out.size))⟩
theorem xn{x:Obj}(S:Sr H b o j n1 n2 y0 y1 y2 W5 w):Sr H b o j n1 n2 y0 y1 y2 W5 (w.alloc x):=wn ((Below.refl _ w).alloc (q9 _) x) S
theorem q62(S:Sr H b o j n1 n2 y0 y1 y2 W5 w):Sr H b o j n1 n2 y0 y1 y2 W5 w.drew:=wn ((Below.refl _ w).drew) S
theorem qgy(S:Sr H b o j n1 n2 y0 y1 y2 W5 w.drew):Sr H b o j n1 n2 y0 y1 y2 W5 w:=⟨S.1,S.2.1,S.2.2.1,S.2.2.2.1,S.2.2.2.2.1,qh ⟨S.2.2.2.2.2.out.os,S.2.2.2.2.2.out.tape,S.2.2.2.2.2.out.output,S.2.2.2.2.2.out.size,S.2.2.2.2.2.out.block⟩⟩
theorem q0q{x:Obj}(S:Sr H b o j n1 n2 y0 y1 y2 W5 w.drew):Sr H b o j n1 n2 y0 y1 y2 W5 (w.alloc x).drew:=q62 (xn (qgy S))
theorem y6{D:Nat}{u0 u1 u2:Value}(hD:W5.heap.size<=D)(hH:H < D)(hb:b < D)(S:Sr H b o j n1 n2 y0 y1 y2 W5 w):Sr H b o j n1 n2 y0 y1 y2 W5 (((w.setCell ⟨D,0,none⟩ u0).setCell ⟨D,1,none⟩ u1).setCell ⟨D,2,none⟩ u2):=by
 have far:∀ b,b≠D->(((w.setCell ⟨D,0,none⟩ u0).setCell ⟨D,1,none⟩ u1).setCell ⟨D,2,none⟩ u2).heap[b]?=w.heap[b]?:=fun b hb =>
  (Below.heap_setCell _ _ _ _ (by simp only;exact hb)).trans ((Below.heap_setCell _ _ _ _ (by simp only;exact hb)).trans (Below.heap_setCell _ _ _ _ (by simp only;exact hb)))
 exact⟨(World.cell?_of_block (far H (by omega))).trans S.1,(World.cell?_of_block (far H (by omega))).trans S.2.1,(World.cell?_of_block (far b (by omega))).trans S.2.2.1,(World.cell?_of_block (far b (by omega))).trans S.2.2.2.1,(World.cell?_of_block (far b (by omega))).trans S.2.2.2.2.1,qh (((S.2.2.2.2.2.out.setCell (p:=⟨D,0,none⟩) hD _).setCell (p:=⟨D,1,none⟩) hD _).setCell (p:=⟨D,2,none⟩) hD _)⟩
end
theorem FrR.later{T:Nat->Prop}{H j:Nat}{k kk:Int}{s ss:ByteArray}{n2:Value}{l':List Nd}{w wr wb:World}(F:FrR T H k s n2 kk ss l' w j wr)(hb:Below wr.heap.size wr wb)(_hT:∀ b,T b->b < H):FrR T H k s n2 kk ss l' w j wb:=by
 obtain⟨oa,oc,dr,kd,hown⟩:=F.d;have hDr:=dr.lt;exact⟨F.b.trans (hb.mono (by omega)),F.n.below hb F.n.lt,F.r.below hb F.r.lt,oa,oc,dr.below hb dr.lt,kd.keep fun b h1 h2=>⟨hb.block b h2,h1⟩,hown⟩
theorem FrR.start{T:Nat->Prop}{H:Nat}{k kk:Int}{s ss:ByteArray}{n2:Value}{l':List Nd}{w wx:World}(hb:Below H w wx)(hn:Row3 wx H (.int .i64 k) (.string s) n2)(hr:Row3 wx (H+1) (.int .i64 0) (.string ⟨#[]⟩) (.slice none 0 0))(hd:Row3 wx (H+1+1) (.int .i64 kk) (.string ss) (.slice none 0 0)):FrR T H k s n2 kk ss l' w 0 wx :=
 ⟨hb,hn,hr,none,0,hd,⟨[],World.ownsRow_nil _ _ _ _,(fun g e=>by cases e),fun i hi=>absurd hi (Nat.not_lt_zero i)⟩,(fun g e=>by cases e)⟩
theorem Row3.put0{W:World}{b:Nat}{v0 v1 v2:Value}(h:Row3 W b v0 v1 v2)(u:Value):Row3 (W.setCell ⟨b,0,none⟩ u) b u v1 v2:=by
 have h0:W.heap[b]?=some (.cells #[v0,v1,v2] 25 (0,0)):=h;exact(zp h0).trans rfl
theorem Row3.put1{W:World}{b:Nat}{v0 v1 v2:Value}(h:Row3 W b v0 v1 v2)(u:Value):Row3 (W.setCell ⟨b,1,none⟩ u) b v0 u v2:=by
 have h0:W.heap[b]?=some (.cells #[v0,v1,v2] 25 (0,0)):=h;exact(zp h0).trans rfl
section
variable {ops:Array Oper} {rest:List Oper} {o:Oper} {a:Act} {Q:Exit->Act->World->Prop} {w:World}
theorem q4y(hgd:o.guard=none)(s x:Operand)
  (ho:o.op = .call { callee:=.builtin .append,args:=#[s,x],argTypes:=#[23,23] })
  (S:Nat->Prop) (v:Value) (l:List Nd) (hs:a.eval s=v) (hk:KidsS S w v l) (ad:Addr) (c:Nat) (hx:a.eval x = .slice (some ad) 1 c) (t:Nd) (v0 v1 v2:Value)
  (hnews:∀ j u,[v0,v1,v2][j]?=some u->w.cell? (ad.add j)=some u) (hn:NdS (fun b=>S b/\v.ownBlock≠some b) w t v0 v1 v2) (hlen:l.length<=1000000) (hSn:S w.heap.size)
  (hK:∀ g cap w',KidsS S w' (.slice (some ⟨g,0,none⟩) (l.length+1) cap) (l++[t])->w.grownBy w' v.ownBlock->(v.ownBlock=some g\/g=w.heap.size)->wpList Tryz.prog ops Q rest (a.put o.dst (.slice (some ⟨g,0,none⟩) (l.length+1) cap)) w') :
  wpList Tryz.prog ops Q (o :: rest) a w:=by
 obtain⟨i0,hi0,hz0,hz1,hz2⟩:=info_parts q2p;obtain⟨xs,h1,hS,h2⟩:=hk;refine wpList_append_lies w hgd s x 23 ho 0 25 i0 _ 3 48 Tryz.underlying23 hi0 hz0 hz1 hz2 rfl (by decide) v l.length xs hs h1 ad 1 c [v0,v1,v2] hx rfl hnews hn.ones (by decide) (by unfold maxLen;omega) (by omega) (qv _) _ rfl ?_;intro g cap w' h3 h4 h5 h6;exact hK g cap w' (KidsS.snoc h1 h2 hS hn h3 h4 h5 hSn) h4 h5
end
theorem qb4(fr tn:ByteArray)(htn:tn.size<=maxLen)(N:Nat):∀ (T:Nat->Prop) (t:Nd) (un:Bool) (w:World) (v0 v1 v2:Value) (_:t.sz<=N) (_:∀ b,T b->b < w.heap.size) (_:NdS T w t v0 v1 v2) (_:t.sz<=90000),
  Calls Tryz.prog 67 #[.agg #[v0,v1,v2],.string fr,.string tn,.bool un] w fun e W'=>∃ u0 u1 u2,e = .returned (.tuple #[.agg #[u0,u1,u2],.bool (rbN fr tn un t)])/\NdS (fun b=>T b\/w.heap.size<=b) W' (rrN fr tn (vu tn) t) u0 u1 u2/\Below w.heap.size w W':=by
 induction N with
 |zero=>intro _ t _ _ _ _ _ hz;have:=q39 t;omega
 |succ N ih =>
 intro T t un w v0 v1 v2 hN hT ht hz;obtain⟨k0,s0,l0,a0,c0,rfl,rfl,rfl,rfl,hs0,hl0⟩:=ht.form;obtain⟨RB,hRB⟩:∃ RB,rbN fr tn un (.mk k0 s0 l0)=RB:=⟨_,rfl⟩;obtain⟨RT,hRT⟩:∃ RT,rrN fr tn (vu tn) (.mk k0 s0 l0)=RT:=⟨_,rfl⟩;rw[hRB,hRT];simp only[rbN]at hRB;simp only[rrN]at hRT;obtain⟨H,hH⟩:∃ H,w.heap.size=H:=⟨_,rfl⟩;obtain⟨W3,hW3⟩:∃ W3,(w.alloc (.cells #[.int .i64 k0,.string s0,.slice a0 l0.length c0] 25)).alloc (.cells #[.int .i64 0,.string ⟨#[]⟩,.slice none 0 0] 25)=W3:=⟨_,rfl⟩;have z3:W3.heap.size=H+1+1:=by rw[<-hW3];simp[hH]
 have B3:Below H w W3:=by rw[<-hW3,<-hH];exact((Below.refl _ w).alloc (q9 _) _).alloc (by simp) _
 have N3:Row3 W3 H (.int .i64 k0) (.string s0) (.slice a0 l0.length c0):=by
  rw[<-hW3,<-hH];exact(Below.heap_alloc _ _ _ (by simp only[q6];omega)).trans (qk _ _)
 have R3:Row3 W3 (H+1) (.int .i64 0) (.string ⟨#[]⟩) (.slice none 0 0):=by rw[<-hW3,<-hH];exact za (by simp)
 have HTT:Hid (∀ b,T b->b < H):=qh (fun b h=>by rw[<-hH];exact hT b h);have HT:=qh ht;have HIH:=qh ih;have HH:=qh hH;have HRB:=qh hRB;have HRT:=qh hRT;have HS0:=qh hs0;have HZ:Hid (1+Nd.szL l0<=90000/\1+Nd.szL l0<=N+1):=qh ⟨by simpa only[Nd.sz]using hz,by simpa only[Nd.sz]using hN⟩;have hlz:l0.length<=90000:=by have:=q2a l0;have:=HZ.out;omega
 have HTN:=qh htn;have HB3:=qh B3;have HN3:=qh N3;have HR3:=qh R3;obtain⟨⟨n0,n1,n2⟩,_⟩:=N3.cells;obtain⟨⟨r0,r1,r2⟩,q0,q1,q2⟩:=R3.cells;clear ht ih hRB hRT hs0 hz hN htn B3 N3 R3 hT hl0;go_enter Tryz.func67,Tryz.ntmps67
 go_upto_region 1 with fail
 (try rw[hW3])
 (try rw[HH.out])
 by_cases h7:k0=7
 ·have e7:(k0==7)=true:=by rw[h7];rfl
  have eRB:Hid (RB=false):=qh (by have:=HRB.out;rw[qj h7]at this;exact this.symm);have eRT:Hid (RT = .mk k0 s0 l0):=qh (by have:=HRT.out;rw[qj h7]at this;exact this.symm);clear h7 HRB HRT;go_wp2;refine kr (HR3.out.put _ _ _) rfl rfl rfl rfl ?_;rw[eRB.out,eRT.out];have hh:=HH.out;refine⟨_,_,_,rfl,HT.out.keep (fun b h1 h2=>⟨(zu HB3.out (show H<=H+1 by omega) _ _ _).block b (by omega),Or.inl h1⟩),?_⟩
  first
   |exact zu HB3.out (by omega) _ _ _
   |(rw[HH.out];exact zu HB3.out (by omega) _ _ _)
 ·have e7:(k0==7)=false:=by rw[qc];exact h7
  obtain⟨R0,hR0⟩:∃ R0,rrH fr k0 s0=R0:=⟨_,rfl⟩;obtain⟨BK,hBK⟩:∃ BK,zo k0=BK:=⟨_,rfl⟩;obtain⟨SE,hSE⟩:∃ SE,(s0.toList==fr.toList)=SE:=⟨_,rfl⟩;obtain⟨SE2,hSE2⟩:∃ SE,(s0.toList==tn.toList)=SE:=⟨_,rfl⟩;obtain⟨st,hst⟩:∃ st,(BK && SE)=st:=⟨_,rfl⟩;obtain⟨ul,hul⟩:∃ ul,(un||(BK && SE2))=ul:=⟨_,rfl⟩;obtain⟨l',hl'⟩:∃ l',rrL fr tn (vu tn) st l0=l':=⟨_,rfl⟩;obtain⟨kk,hkk⟩:∃ kk,(if R0=true then vu tn else k0)=kk:=⟨_,rfl⟩;obtain⟨ss,hss⟩:∃ ss,(if R0=true then tn else s0)=ss:=⟨_,rfl⟩;have hRB:=HRB.out;have hRT:=HRT.out;rw[qd h7,hR0,hBK,hSE,hSE2,hst,hul]at hRB;rw[qd h7,hR0,hBK,hSE,hst,hl',hkk,hss]at hRT;subst hRT;have hll:l'.length=l0.length:=by rw[<-hl'];exact q41 fr tn (vu tn) st l0
  have HLL:=qh hll;have HRB2:=qh hRB;have HR0:=qh hR0;have HBK:=qh hBK;have HST:=qh hst;have HUL:=qh hul;have HL':=qh hl';have HKK:=qh hkk;have HSS:=qh hss;have HSN:Hid (ss.size<=maxLen):=qh (by rw[<-hss];split;exact HTN.out;exact HS0.out);have CV:=qh (fun W=>q2k (xy tn) tn W rfl);clear hRB HRB HRT hR0 hBK hst hul hl' hkk hss hll HTN;obtain⟨W4,hW4⟩:∃ W4,W3.alloc (.cells #[.int .i64 k0,.string s0,.slice none 0 0] 25)=W4:=⟨_,rfl⟩;have D4:Row3 W4 (H+1+1) (.int .i64 k0) (.string s0) (.slice none 0 0):=by rw[<-hW4];exact za z3.symm
  have B4:Below H w W4:=by rw[<-hW4];exact HB3.out.alloc (by omega) _
  obtain⟨W5,hW5⟩:∃ W5,W4.setCell ⟨H+1+1,2,none⟩ (.slice none 0 0)=W5:=⟨_,rfl⟩;have D5:Row3 W5 (H+1+1) (.int .i64 k0) (.string s0) (.slice none 0 0):=by rw[<-hW5];exact D4.put2 _
  have o5:∀ b',b'≠H+1+1->W5.heap[b']?=W4.heap[b']?:=fun b' hb=>by rw[<-hW5];exact Below.heap_setCell _ _ _ _ (by simp only;exact hb)
  have B5:Below H w W5:=by rw[<-hW5];exact B4.setCell (p:=⟨H+1+1,2,none⟩) (by simp only;omega) _
  have N5:Row3 W5 H (.int .i64 k0) (.string s0) (.slice a0 l0.length c0):=(o5 _ (by omega)).trans (by rw[<-hW4];exact HN3.out.alloc _);have R5:Row3 W5 (H+1) (.int .i64 0) (.string ⟨#[]⟩) (.slice none 0 0):=(o5 _ (by omega)).trans (by rw[<-hW4];exact HR3.out.alloc _);have HB5:=qh B5;have HN5:=qh N5;have HR5:=qh R5;have HD5:=qh D5;obtain⟨⟨d0,d1,d2⟩,e0,e1,e2⟩:=D4.cells;clear B4 D4 B5 N5 R5 D5 o5 h7
  go_upto_region 4 with fail
  (try rw[z3])
  (try rw[hW4])
  (try rw[hW5])
  clear hW3 hW4 hW5 n0 n1 n2 r0 r1 r2 q0 q1 q2 d0 d1 d2 e0 e1 e2 z3 HB3 HN3 HR3;obtain⟨⟨n0,n1,n2⟩,_⟩:=HN5.out.cells
  go_upto_region 5 with fail
  go_cut [38] (fun v wx=>v = .bool R0/\W5=wx)
  case first =>
   have hR0:=HR0.out;clear CV
   by_cases h15:k0=15
   ·have e15:(k0==15)=true:=by rw[h15];rfl
    have hR1:Hid (R0=SE):=qh (by rw[<-hR0];unfold rrH;rw[e15,Bool.true_or,Bool.true_and,hSE]);clear h15 hR0;go_wp2
    all_goals go_meet
    all_goals exact⟨by rw[hR1.out],rfl⟩
   ·have e15:(k0==15)=false:=by rw[qc];exact h15
    by_cases h16:k0=16
    ·have e16:(k0==16)=true:=by rw[h16];rfl
     have hR1:Hid (R0=SE):=qh (by rw[<-hR0];unfold rrH;rw[e16,Bool.or_true,Bool.true_and,hSE]);clear h15 h16 hR0;go_wp2
     all_goals go_meet
     all_goals exact⟨by rw[hR1.out],rfl⟩
    ·have e16:(k0==16)=false:=by rw[qc];exact h16
     have hR1:Hid (R0=false):=qh (by rw[<-hR0];unfold rrH;rw[e15,e16];rfl);clear h15 h16 hR0;go_wp2
     all_goals go_meet
     all_goals exact⟨by rw[hR1.out],rfl⟩
  case rest =>
  obtain⟨rfl,rfl⟩:=hcut
  go_upto_if 38 with fail
  go_cut [11] (fun v wx=>v = .bool (R0 && un)/\Hid (FrR T H k0 s0 (.slice a0 l0.length c0) kk ss l' w 0 wx))
  case first =>
   cases R0 with
   |false =>
    have FX:Hid (FrR T H k0 s0 (.slice a0 l0.length c0) kk ss l' w 0 W5):=qh (by rw[<-HKK.out,<-HSS.out];exact FrR.start HB5.out HN5.out HR5.out HD5.out);clear CV;go_wp2
    all_goals go_meet
    all_goals exact⟨rfl,FX⟩
   |true =>
    have hkk:kk=vu tn:=by rw[<-HKK.out];rfl
    have hss:ss=tn:=by rw[<-HSS.out];rfl
    have HK2:=qh hkk;have HS2:=qh hss;clear hkk hss;obtain⟨W7,hW7⟩:∃ W7,(W5.setCell ⟨H+1+1,1,none⟩ (.string tn)).setCell ⟨H+1+1,0,none⟩ (.int .i64 15)=W7:=⟨_,rfl⟩;have D7:Row3 W7 (H+1+1) (.int .i64 15) (.string tn) (.slice none 0 0):=by rw[<-hW7];exact(HD5.out.put1 _).put0 _
    have o7:∀ b',b'≠H+1+1->W7.heap[b']?=W5.heap[b']?:=fun b' hb=>by rw[<-hW7];exact(Below.heap_setCell _ _ _ _ (by simp only;exact hb)).trans (Below.heap_setCell _ _ _ _ (by simp only;exact hb))
    have B7:Below H w W7:=by rw[<-hW7];exact(HB5.out.setCell (p:=⟨H+1+1,1,none⟩) (by simp only;omega) _).setCell (p:=⟨H+1+1,0,none⟩) (by simp only;omega) _
    have N7:Row3 W7 H (.int .i64 k0) (.string s0) (.slice a0 l0.length c0):=(o7 _ (by omega)).trans HN5.out;have R7:Row3 W7 (H+1) (.int .i64 0) (.string ⟨#[]⟩) (.slice none 0 0):=(o7 _ (by omega)).trans HR5.out;have HB7:=qh B7;have HN7:=qh N7;have HR7:=qh R7;have HD7:=qh D7;obtain⟨⟨d0,d1,d2⟩,e0,e1,e2⟩:=HD5.out.cells;obtain⟨VB,hVB⟩:∃ VB,xy tn=VB:=⟨_,rfl⟩;have hK3:Hid (kk=if VB=true then 16 else 15):=qh (by rw[HK2.out];unfold vu;rw[hVB]);rw[hVB]at CV;clear D7 o7 B7 N7 R7 hVB HK2
    go_upto_region 8 with fail
    (try rw[hW7])
    clear d0 d1 d2 e0 e1 e2 hW7
    go_wp2_with fail
    refine(CV.out _).mono ?_;rintro e w8⟨rfl,hb8⟩;have hD7:=HD7.out.lt;have HB8:=qh (HB7.out.trans (hb8.mono (by omega)));have HN8:=qh (HN7.out.below hb8 HN7.out.lt);have HR8:=qh (HR7.out.below hb8 HR7.out.lt);have HD8:=qh (HD7.out.below hb8 hD7);obtain⟨⟨d0,d1,d2⟩,e0,e1,e2⟩:=HD8.out.cells;clear hb8 CV
    cases VB with
    |false =>
     have FX:Hid (FrR T H k0 s0 (.slice a0 l0.length c0) kk ss l' w 0 w8):=qh (by rw[hK3.out,HS2.out];exact FrR.start HB8.out HN8.out HR8.out HD8.out);go_wp2
     all_goals go_meet
     all_goals exact⟨by first|rfl|simp,FX⟩
    |true =>
     have FX:Hid (FrR T H k0 s0 (.slice a0 l0.length c0) kk ss l' w 0 (w8.setCell ⟨H+1+1,0,none⟩ (.int .i64 16))):=qh (by
      rw[hK3.out,HS2.out]
      exact FrR.start (HB8.out.setCell (p:=⟨H+1+1,0,none⟩) (by simp only;omega) _) (HN8.out.other _ (by simp only;omega)) (HR8.out.other _ (by simp only;omega)) (HD8.out.put0 _))
     go_wp2
     all_goals go_meet
     all_goals exact⟨by first|rfl|simp,FX⟩
  case rest =>
  rename World=>wA
  obtain⟨rfl,FX⟩:=hcut;obtain⟨bad0,hbad0⟩:∃ b0,(R0 && un)=b0:=⟨_,rfl⟩;rw[hbad0];have HRB3:Hid ((bad0||rbL fr tn un st ul (l0.drop 0))=RB):=qh (by rw[<-hbad0,List.drop_zero];exact HRB2.out);clear hbad0 HRB2 CV n0 n1 n2 HB5 HN5 HR5 HD5 HKK HSS HR0
  go_upto_region 11 with fail
  go_wp2_with fail
  go_loopw [11,12,13,14,15] (fun v11 v12 _ _ _ wr=>∃ (j:Nat) (bad:Bool),j<=l0.length/\v11 = .bool bad/\v12 = .int .i64 j/\Hid ((bad||rbL fr tn un st ul (l0.drop j))=RB)/\Hid (FrR T H k0 s0 (.slice a0 l0.length c0) kk ss l' w j wr)) (fun _ v12 _ _ _ _=>l0.length - (intOf v12).toNat)
  case atStart=>exact⟨0,bad0,qv _,rfl,rfl,HRB3,FX⟩
  case round =>
   obtain⟨j,bad,hj,rfl,rfl,HB,hF0⟩:=hrel;clear FX HRB3;obtain⟨⟨g0,g1,g2⟩,_⟩:=hF0.out.n.cells
   by_cases hlt:j < l0.length
   ·have hlt':(j:Int) < (l0.length:Int):=by omega
    have hj0:(0:Int)<=(j:Int):=by omega
    have e1:((j:Int)==(l0.length:Int) - 1)=decide (j+1=l0.length):=by
     rw[Bool.eq_iff_iff,beq_iff_eq,decide_eq_true_iff];omega
    obtain⟨La,hLa⟩:∃ La,decide (j+1=l0.length)=La:=⟨_,rfl⟩;rw[hLa]at e1;have HLA:=qh hLa;clear hLa;have CB:=qh (q6q k0 s0 a0 l0.length c0 wr);rw[HBK.out]at CB
    go_upto_region 14 with fail
    go_cut [13] (fun v wx=>v = .bool (BK && La)/\Hid (Below wr.heap.size wr wx))
    case first =>
     go_wp2_with fail
     refine CB.out.mono ?_;rintro e w4⟨rfl,hb4⟩;have J4:=qh (hF0.out.n.below hb4 hF0.out.n.lt);have HB4:=qh hb4;obtain⟨⟨q0,q1,q2⟩,_⟩:=J4.out.cells;clear hb4 g0 g1 g2 CB
     cases BK with
     |false =>
      go_wp2
      all_goals go_meet
      all_goals exact⟨rfl,HB4⟩
     |true =>
      go_wp2
      all_goals go_meet
      all_goals exact⟨by first|rfl|(rw[e1];rfl),HB4⟩
    case rest =>
    rename World=>wr
    obtain⟨rfl,HBw⟩:=hcut;have hF:=qh (hF0.out.later HBw.out HTT.out);clear CB g0 g1 g2 e1 hF0 HBw;obtain⟨⟨g0,g1,g2⟩,_⟩:=hF.out.n.cells;obtain⟨G,hG⟩:∃ G,(BK && La)=G:=⟨_,rfl⟩;obtain⟨X,hX⟩:∃ X,(st && La)=X:=⟨_,rfl⟩;obtain⟨un2,hun2⟩:∃ u,(if La=true then ul else un)=u:=⟨_,rfl⟩
    have HXG:Hid (X=(G && SE)):=qh (by
     rw[<-hX,<-hG,<-HST.out]
     cases BK <;> cases La <;> simp)
    have HU2:Hid (un2=(un||(G && SE2))):=qh (by
     rw[<-hun2,<-hG,<-HUL.out]
     cases BK <;> cases La <;> simp)
    have HTK0:=qh (qjr fr tn (vu tn) st l0 j hlt);rw[HL'.out,HLA.out,hX]at HTK0;have HDR0:=qh (qju fr tn un st ul l0 j hlt);rw[HLA.out,hX,show(if j+1=l0.length then ul else un)=un2 from by rw[<-hun2,<-HLA.out];by_cases e:j+1=l0.length <;> simp[e]]at HDR0;rw[hG];clear hG hX hun2
    go_upto_region 15 with fail
    go_cut [69] (fun v wx=>v = .bool X/\wr=wx)
    case first =>
     cases G with
     |false =>
      go_wp2
      all_goals go_meet
      all_goals exact⟨by rw[HXG.out];rfl,rfl⟩
     |true =>
      go_wp2
      all_goals go_meet
      all_goals exact⟨by rw[HXG.out];rfl,rfl⟩
    case rest =>
    obtain⟨rfl,rfl⟩:=hcut;obtain⟨b,o,k1,s1,l1,a1,c1,rfl,eK,y0,y1,y2,r1⟩:=NdS.kid HT.out j hlt;have hb1:b < H:=by rw[<-HH.out];exact qi y0
    have x0:=(hF.out.b.cell (p:=⟨b,o+j*3,none⟩) hb1).trans y0;have x1:=(hF.out.b.cell (p:=⟨b,o+j*3+1,none⟩) hb1).trans y1;have x2:=(hF.out.b.cell (p:=⟨b,o+j*3+2,none⟩) hb1).trans y2;clear y0 y1 y2;have y0:=x0;have y1:=x1;have y2:=x2;clear x0 x1 x2;obtain⟨oa,oc,dr,kd,hown⟩:=hF.out.d;have hDr:=dr.lt;have hHw:H<=wr.heap.size:=by omega
    have DR:=qh dr;have KD:=qh kd;have HOWN:=qh hown;have HOWB:=qh (fun g e=>(kd.base0.own g e));have hli:(l'.take j).length=j:=by rw[List.length_take,HLL.out];omega
    have HLI:=qh hli;have HR1:=qh r1;clear kd hown hli r1
    go_upto_if 69 with fail
    cases X with
    |true =>
     clear HU2 HXG
     have SD:Sx3 H (H+1+1) b o j (.slice oa j oc) (.slice (some ⟨b,o,none⟩) l0.length c0) (.int .i64 k1) (.string s1) (.slice a1 l1.length c1) w wr wr.drew :=
      ⟨hF.out.n.cells.1.2.2,y0,y1,y2,qh (Kp2.refl hF.out.b).drew⟩
     have SXO:=qh (fun(w'':World) (k:Kp2 H (H+1+1) (.slice oa j oc) w wr w'')=>qgx SD (by omega) hb1 hDr HOWN.out (fun _ _=>rfl) k);have d5:wr.drew.cell? ⟨H+1+1,2,none⟩=some (.slice oa j oc):=dr.cells.1.2.2;have HTK:Hid (l'.take (j+1)=l'.take j++[.mk k1 s1 l1]):=qh (by have:=HTK0.out;rw[qj rfl]at this;rw[this,eK]);have HRB4:Hid ((bad||rbL fr tn un st ul (l0.drop (j+1)))=RB):=qh (by have:=HB.out;rw[HDR0.out,qj rfl,Bool.false_or]at this;exact this);have KDd:=qh (show KidsS (fun b=>T b\/H+1+1 < b) wr.drew (.slice oa j oc) (l'.take j) from KD.out.keep (w':=wr.drew) fun b' h1 _=>⟨rfl,h1⟩);have DRd:=qh (show Row3 wr.drew (H+1+1) (.int .i64 kk) (.string ss) (.slice oa j oc) from DR.out);have KPd:=qh (show Kp2 H (H+1+1) (.slice oa j oc) w wr wr.drew from(Kp2.refl hF.out.b).drew);have d5':=(fun x=>show(wr.alloc x).drew.cell? ⟨H+1+1,2,none⟩=some (.slice oa j oc) from(World.cell?_alloc_past (w:=wr) x (H+1+1) 2 hDr).trans d5);have d5'':=(fun x=>show(wr.alloc x).cell? ⟨H+1+1,2,none⟩=some (.slice oa j oc) from(World.cell?_alloc_past (w:=wr) x (H+1+1) 2 hDr).trans d5);have T1:=qh (show NdS T wr.drew (.mk k1 s1 l1) (.int .i64 k1) (.string s1) (.slice a1 l1.length c1) from HR1.out.keep (w':=wr.drew) fun b' h1 _=>⟨hF.out.b.block b' (HTT.out b' h1),h1⟩);have hzd:wr.drew.heap.size=wr.heap.size:=rfl;clear y0 y1 y2 eK HB HDR0 HTK0 dr
     go_upto_region 16 with fail
     refine wp_region_held_drew (S:=(fun w'=>w'.cell? ⟨H,2,none⟩=some (.slice (some ⟨b,o,none⟩) l0.length c0)/\w'.cell? ⟨b,o+j*3,none⟩=some (.int .i64 k1)/\w'.cell? ⟨b,o+j*3+1,none⟩=some (.string s1)/\w'.cell? ⟨b,o+j*3+2,none⟩=some (.slice a1 l1.length c1)/\Hid (Kp2 H (H+1+1) (.slice oa j oc) w wr w'))) (by kernel_rfl) SD (fun hHeld=>?_);refine wpAnyH_take (i:=0) (v:=?_) rfl (by kernel_rfl) (by kernel_rfl) (by kernel_rfl) (fun _ _ _ h=>h) (Or.inl ⟨by rfl,?_⟩) (by assumption) ?_
     rotate_left
     ·(intro w hSw;(try dsimp only at hSw);go_simp;try with_reducible rfl)
     try simp only[Act.put,qa]
     refine wpAnyH_take (i:=2) (v:=?_) rfl (by kernel_rfl) (by kernel_rfl) (by kernel_rfl) (fun _ _ _ h=>h) (Or.inl ⟨by rfl,?_⟩) (by assumption) ?_
     rotate_left
     ·(intro w hSw;(try dsimp only at hSw);go_simp;try with_reducible rfl)
     try simp only[Act.put]
     refine wpAnyH_take (i:=3) (v:=?_) rfl (by kernel_rfl) (by kernel_rfl) (by kernel_rfl) (fun _ _ _ h=>h) (Or.inl ⟨by rfl,?_⟩) (by assumption) ?_
     rotate_left
     ·(intro w hSw;(try dsimp only at hSw);go_simp;try with_reducible rfl)
     try simp only[Act.put]
     refine wpAnyH_take (i:=4) (v:=?_) rfl (by kernel_rfl) (by kernel_rfl) (by kernel_rfl) (fun _ _ _ h=>h) (Or.inl ⟨by rfl,?_⟩) (by assumption) ?_
     rotate_left
     ·(intro w hSw;(try dsimp only at hSw);go_simp;try with_reducible rfl)
     try simp only[Act.put]
     refine wpAnyH_take (i:=5) (v:=?_) rfl (by kernel_rfl) (by kernel_rfl) (by kernel_rfl) (fun _ _ _ h=>h) (Or.inl ⟨by rfl,?_⟩) (by assumption) ?_
     rotate_left
     ·(intro w hSw;(try dsimp only at hSw);go_simp;try with_reducible rfl)
     try simp only[Act.put]
     refine wpAnyH_take (i:=6) (v:=?_) rfl (by kernel_rfl) (by kernel_rfl) (by kernel_rfl) (fun _ _ _ h=>h) (Or.inl ⟨by rfl,?_⟩) (by assumption) ?_
     rotate_left
     ·(intro w hSw;(try dsimp only at hSw);go_simp;try with_reducible rfl)
     try simp only[Act.put]
     refine wpAnyH_ready (rs:=[1,7]) (by kernel_rfl) (by simp) ?_;refine AllReadyH.cons rfl (fun K hK=>?_) ?_
     ·skip
      go_simp;refine hK.out _ _ ?_ (fun hHeld=>?_)
      ·exact SD
      clear hK K
      try simp only[Act.put,qa,qe,qf]
      refine wpAnyH_ready (rs:=[7]) (by kernel_rfl) (by simp) ?_;refine AllReadyH.cons rfl (fun K hK=>?_) ?_
      ·skip
       go_simp;refine hK.out _ _ ?_ (fun hHeld=>?_)
       ·exact(SXO.out _ (KPd.out.alloc hHw _))
       clear hK K
       try simp only[Act.put,qa,qe,qf]
       refine wpAnyH_ready (rs:=[8]) (by kernel_rfl) (by simp) ?_;refine AllReadyH.cons rfl (fun K hK=>?_) ?_
       ·skip
        refine vr rfl _ _ rfl (fun b=>T b\/H+1+1 < b) (.slice oa j oc) (l'.take j) rfl (KDd.out.keep fun b' h1 h2=>⟨Below.heap_alloc _ _ _ h2,h1⟩) ⟨wr.drew.heap.size,0,none⟩ 1 (by rfl) (.mk k1 s1 l1) (.int .i64 k1) (.string s1) (.slice a1 l1.length c1) (xu wr.drew _ _ _ _ _ rfl) (T1.out.keep (fun b' h1 h2=>⟨Below.heap_alloc _ _ _ h2,Or.inl h1,fun e=>by have:=HOWN.out b' e;have:=HTT.out b' h1;omega⟩)) (by rw[HLI.out];omega) (Or.inr (show H+1+1 < (World.alloc wr _).heap.size by rw[q6];omega)) ?_;intro g6 cap6 w8 K8 G8 hg8;rw[HLI.out]at K8 ⊢;have KP8:=qh ((KPd.out.alloc hHw _).grown hHw G8 HOWN.out (by omega));have SS8:=SXO.out _ KP8.out;have R8:=qh ((DRd.out.alloc _).grown' G8 (fun e=>by have:=HOWN.out _ e.symm;omega))
        have HG8:Hid (H+1+1 < g6):=qh (by
         rcases hg8 with h|h
         ·exact HOWN.out _ h
         ·have h9:g6=(World.alloc wr _).heap.size:=h
          rw[h9,q6];omega)
        obtain⟨⟨y0,y1,y2⟩,z0,z1,z2⟩:=R8.out.cells;have HK8:=qh K8;clear K8 G8 hg8;refine hK.out _ _ ?_ (fun hHeld=>?_)
        ·exact SS8
        clear hK K
        try simp only[Act.put,qa]
        refine wpAnyH_take (i:=9) (v:=?_) rfl (by kernel_rfl) (by kernel_rfl) (by kernel_rfl) (fun _ _ _ h=>h) (Or.inl ⟨by rfl,?_⟩) (by assumption) ?_
        rotate_left
        ·(intro w hSw;(try dsimp only at hSw);go_simp;try with_reducible rfl)
        try simp only[Act.put]
        refine wpAnyH_ready (rs:=[10]) (by kernel_rfl) (by simp) ?_;refine AllReadyH.cons rfl (fun K hK=>?_) ?_
        ·skip
         go_simp;refine hK.out _ _ ?_ (fun hHeld=>?_)
         ·exact(SXO.out _ (KP8.out.set (by omega) _))
         clear hK K
         try simp only[Act.put,qa,qe,qf]
         refine wpAnyH_done (by kernel_rfl) ?_ _;have HFN:=qh (FrR.next hF.out HOWN.out HTT.out KP8.out HTK.out R8.out HK8.out HG8.out);clear SD SS8 d5 d5' y0 y1 y2 z0 z1 z2;go_wp2;go_roundw
         case rel=>exact⟨j+1,bad,hlt,rfl,by push_cast;rfl,HRB4,HFN⟩
         case measure=>simp[intOf];omega
        exact AllReadyH.nil
       exact AllReadyH.nil
      exact AllReadyH.nil
     refine AllReadyH.cons rfl (fun K hK=>?_) ?_
     ·skip
      go_simp;refine hK.out _ _ ?_ (fun hHeld=>?_)
      ·exact(SXO.out _ (KPd.out.alloc hHw _))
      clear hK K
      try simp only[Act.put,qa,qe,qf]
      refine wpAnyH_ready (rs:=[1]) (by kernel_rfl) (by simp) ?_;refine AllReadyH.cons rfl (fun K hK=>?_) ?_
      ·skip
       go_simp;refine hK.out _ _ ?_ (fun hHeld=>?_)
       ·exact(SXO.out _ (KPd.out.alloc hHw _))
       clear hK K
       try simp only[Act.put,qa,qe,qf]
       refine wpAnyH_ready (rs:=[8]) (by kernel_rfl) (by simp) ?_;refine AllReadyH.cons rfl (fun K hK=>?_) ?_
       ·skip
        refine vr rfl _ _ rfl (fun b=>T b\/H+1+1 < b) (.slice oa j oc) (l'.take j) rfl (KDd.out.keep fun b' h1 h2=>⟨Below.heap_alloc _ _ _ h2,h1⟩) ⟨wr.drew.heap.size,0,none⟩ 1 (by rfl) (.mk k1 s1 l1) (.int .i64 k1) (.string s1) (.slice a1 l1.length c1) (xu wr.drew _ _ _ _ _ rfl) (T1.out.keep (fun b' h1 h2=>⟨Below.heap_alloc _ _ _ h2,Or.inl h1,fun e=>by have:=HOWN.out b' e;have:=HTT.out b' h1;omega⟩)) (by rw[HLI.out];omega) (Or.inr (show H+1+1 < (World.alloc wr _).heap.size by rw[q6];omega)) ?_;intro g6 cap6 w8 K8 G8 hg8;rw[HLI.out]at K8 ⊢;have KP8:=qh ((KPd.out.alloc hHw _).grown hHw G8 HOWN.out (by omega));have SS8:=SXO.out _ KP8.out;have R8:=qh ((DRd.out.alloc _).grown' G8 (fun e=>by have:=HOWN.out _ e.symm;omega))
        have HG8:Hid (H+1+1 < g6):=qh (by
         rcases hg8 with h|h
         ·exact HOWN.out _ h
         ·have h9:g6=(World.alloc wr _).heap.size:=h
          rw[h9,q6];omega)
        obtain⟨⟨y0,y1,y2⟩,z0,z1,z2⟩:=R8.out.cells;have HK8:=qh K8;clear K8 G8 hg8;refine hK.out _ _ ?_ (fun hHeld=>?_)
        ·exact SS8
        clear hK K
        try simp only[Act.put,qa]
        refine wpAnyH_take (i:=9) (v:=?_) rfl (by kernel_rfl) (by kernel_rfl) (by kernel_rfl) (fun _ _ _ h=>h) (Or.inl ⟨by rfl,?_⟩) (by assumption) ?_
        rotate_left
        ·(intro w hSw;(try dsimp only at hSw);go_simp;try with_reducible rfl)
        try simp only[Act.put]
        refine wpAnyH_ready (rs:=[10]) (by kernel_rfl) (by simp) ?_;refine AllReadyH.cons rfl (fun K hK=>?_) ?_
        ·skip
         go_simp;refine hK.out _ _ ?_ (fun hHeld=>?_)
         ·exact(SXO.out _ (KP8.out.set (by omega) _))
         clear hK K
         try simp only[Act.put,qa,qe,qf]
         refine wpAnyH_done (by kernel_rfl) ?_ _;have HFN:=qh (FrR.next hF.out HOWN.out HTT.out KP8.out HTK.out R8.out HK8.out HG8.out);clear SD SS8 d5 d5' y0 y1 y2 z0 z1 z2;go_wp2;go_roundw
         case rel=>exact⟨j+1,bad,hlt,rfl,by push_cast;rfl,HRB4,HFN⟩
         case measure=>simp[intOf];omega
        exact AllReadyH.nil
       exact AllReadyH.nil
      exact AllReadyH.nil
     exact AllReadyH.nil
    |false =>
     clear HXG;have hsz1:=y5 l0 j hlt;have hZZ:=HZ.out;obtain⟨y,hy⟩:∃ y,rrN fr tn (vu tn) l0[j]=y:=⟨_,rfl⟩;obtain⟨bk,hbk⟩:∃ bk,rbN fr tn un2 l0[j]=bk:=⟨_,rfl⟩;have HTK:Hid (l'.take (j+1)=l'.take j++[y]):=qh (by have:=HTK0.out;rw[qd (by simp),hy]at this;exact this);have HRB4:Hid (((bad||bk)||rbL fr tn un st ul (l0.drop (j+1)))=RB):=qh (by have:=HB.out;rw[HDR0.out,qd (by simp),hbk]at this;rw[Bool.or_assoc];exact this);have CI:=qh (fun W (hb:Below wr.heap.size wr W)=>HIH.out T l0[j] un2 W _ _ _ (by omega) (fun b' h=>by have:=HTT.out b' h;have:=hb.size;omega) (by rw[eK];exact HR1.out.keep (w':=W) fun b' h1 _=>⟨(hb.block b' (by have:=HTT.out b' h1;omega)).trans (hF.out.b.block b' (HTT.out b' h1)),h1⟩) (by omega));rw[hy,hbk]at CI;have HWR:=qh (Below.refl wr.heap.size wr);clear eK HB HDR0 HTK0 hsz1 hZZ hy hbk
     go_upto_region 17 with fail
     go_cut [14,15] (fun v14 v15 wx=>∃ h7 k7 q7 a7 n7 c7,v14 = .pointer (some ⟨h7,0,none⟩)/\v15 = .bool bk/\Hid (Row3 wx h7 (.int .i64 k7) (.string q7) (.slice a7 n7 c7)/\NdS (fun b'=>T b'\/wr.heap.size<=b') wx y (.int .i64 k7) (.string q7) (.slice a7 n7 c7)/\Below wr.heap.size wr wx/\wr.heap.size<=h7))
     case first =>
      clear dr HRB4 HTK
      cases un with
      |true =>
       obtain rfl:un2=true:=by rw[HU2.out];rfl
       clear HU2;have SD0:Sr H b o j (.string s0) (.slice (some ⟨b,o,none⟩) l0.length c0) (.int .i64 k1) (.string s1) (.slice a1 l1.length c1) wr wr.drew:=q62 ⟨g1,g2,y0,y1,y2,HWR⟩;have hHr:H < wr.heap.size:=by omega
       have hbr:b < wr.heap.size:=by omega
       refine wp_region_held_drew (S:=(fun w'=>w'.cell? ⟨H,1,none⟩=some (.string s0)/\w'.cell? ⟨H,2,none⟩=some (.slice (some ⟨b,o,none⟩) l0.length c0)/\w'.cell? ⟨b,o+j*3,none⟩=some (.int .i64 k1)/\w'.cell? ⟨b,o+j*3+1,none⟩=some (.string s1)/\w'.cell? ⟨b,o+j*3+2,none⟩=some (.slice a1 l1.length c1)/\Hid (Below wr.heap.size wr w'))) (by kernel_rfl) SD0 (fun hHeld=>?_);refine wpAnyH_take (i:=0) (v:=?_) rfl (by kernel_rfl) (by kernel_rfl) (by kernel_rfl) (fun _ _ _ h=>h) (Or.inl ⟨by rfl,?_⟩) (by assumption) ?_
       rotate_left
       ·(intro w hSw;(try dsimp only at hSw);go_simp;try with_reducible rfl)
       try simp only[Act.put,qa]
       refine wpAnyH_take (i:=1) (v:=?_) rfl (by kernel_rfl) (by kernel_rfl) (by kernel_rfl) (fun _ _ _ h=>h) (Or.inl ⟨by rfl,?_⟩) (by assumption) ?_
       rotate_left
       ·(intro w hSw;(try dsimp only at hSw);go_simp;try with_reducible rfl)
       try simp only[Act.put]
       refine wpAnyH_take (i:=2) (v:=?_) rfl (by kernel_rfl) (by kernel_rfl) (by kernel_rfl) (fun _ _ _ h=>h) (Or.inl ⟨by rfl,?_⟩) (by assumption) ?_
       rotate_left
       ·(intro w hSw;(try dsimp only at hSw);go_simp;try with_reducible rfl)
       try simp only[Act.put]
       refine wpAnyH_take (i:=3) (v:=?_) rfl (by kernel_rfl) (by kernel_rfl) (by kernel_rfl) (fun _ _ _ h=>h) (Or.inl ⟨by rfl,?_⟩) (by assumption) ?_
       rotate_left
       ·(intro w hSw;(try dsimp only at hSw);go_simp;try with_reducible rfl)
       try simp only[Act.put]
       refine wpAnyH_take (i:=4) (v:=?_) rfl (by kernel_rfl) (by kernel_rfl) (by kernel_rfl) (fun _ _ _ h=>h) (Or.inl ⟨by rfl,?_⟩) (by assumption) ?_
       rotate_left
       ·(intro w hSw;(try dsimp only at hSw);go_simp;try with_reducible rfl)
       try simp only[Act.put]
       refine wpAnyH_take (i:=5) (v:=?_) rfl (by kernel_rfl) (by kernel_rfl) (by kernel_rfl) (fun _ _ _ h=>h) (Or.inl ⟨by rfl,?_⟩) (by assumption) ?_
       rotate_left
       ·(intro w hSw;(try dsimp only at hSw);go_simp;try with_reducible rfl)
       try simp only[Act.put]
       refine wpAnyH_take (i:=6) (v:=?_) rfl (by kernel_rfl) (by kernel_rfl) (by kernel_rfl) (fun _ _ _ h=>h) (Or.inl ⟨by rfl,?_⟩) (by assumption) ?_
       rotate_left
       ·(intro w hSw;(try dsimp only at hSw);go_simp;try with_reducible rfl)
       try simp only[Act.put]
       refine wpAnyH_take (i:=7) (v:=?_) rfl (by kernel_rfl) (by kernel_rfl) (by kernel_rfl) (fun _ _ _ h=>h) (Or.inl ⟨by rfl,?_⟩) (by assumption) ?_
       rotate_left
       ·(intro w hSw;(try dsimp only at hSw);go_simp;try with_reducible rfl)
       try simp only[Act.put]
       refine wpAnyH_take (i:=8) (v:=?_) rfl (by kernel_rfl) (by kernel_rfl) (by kernel_rfl) (fun _ _ _ h=>h) (Or.inl ⟨by rfl,?_⟩) (by assumption) ?_
       rotate_left
       ·(intro w hSw;(try dsimp only at hSw);go_simp;try with_reducible rfl)
       try simp only[Act.put]
       refine wpAnyH_take (i:=9) (v:=undef) rfl (by kernel_rfl) (by kernel_rfl) (by kernel_rfl) (fun _ _ _ h=>h) (Or.inr ⟨by kernel_rfl,rfl⟩) (by assumption) ?_
       try simp only[Act.put]
       refine wpAnyH_take (i:=10) (v:=undef) rfl (by kernel_rfl) (by kernel_rfl) (by kernel_rfl) (fun _ _ _ h=>h) (Or.inr ⟨by kernel_rfl,rfl⟩) (by assumption) ?_
       try simp only[Act.put]
       refine wpAnyH_take (i:=11) (v:=undef) rfl (by kernel_rfl) (by kernel_rfl) (by kernel_rfl) (fun _ _ _ h=>h) (Or.inr ⟨by kernel_rfl,rfl⟩) (by assumption) ?_
       try simp only[Act.put]
       refine wpAnyH_take (i:=12) (v:=undef) rfl (by kernel_rfl) (by kernel_rfl) (by kernel_rfl) (fun _ _ _ h=>h) (Or.inr ⟨by kernel_rfl,rfl⟩) (by assumption) ?_
       try simp only[Act.put]
       refine wpAnyH_take (i:=13) (v:=undef) rfl (by kernel_rfl) (by kernel_rfl) (by kernel_rfl) (fun _ _ _ h=>h) (Or.inr ⟨by kernel_rfl,rfl⟩) (by assumption) ?_
       try simp only[Act.put]
       refine wpAnyH_take (i:=14) (v:=undef) rfl (by kernel_rfl) (by kernel_rfl) (by kernel_rfl) (fun _ _ _ h=>h) (Or.inr ⟨by kernel_rfl,rfl⟩) (by assumption) ?_
       try simp only[Act.put]
       refine wpAnyH_take (i:=15) (v:=undef) rfl (by kernel_rfl) (by kernel_rfl) (by kernel_rfl) (fun _ _ _ h=>h) (Or.inr ⟨by kernel_rfl,rfl⟩) (by assumption) ?_
       try simp only[Act.put]
       refine wpAnyH_take (i:=16) (v:=?_) rfl (by kernel_rfl) (by kernel_rfl) (by kernel_rfl) (fun _ _ _ h=>h) (Or.inl ⟨by rfl,?_⟩) (by assumption) ?_
       rotate_left
       ·(intro w hSw;(try dsimp only at hSw);go_simp;try with_reducible rfl)
       try simp only[Act.put]
       refine wpAnyH_ready (rs:=[17,21]) (by kernel_rfl) (by simp) ?_;refine AllReadyH.cons rfl (fun K hK=>?_) ?_
       ·skip
        go_simp;refine(CI.out _ (SD0.2.2.2.2.2.out)).mono ?_;rintro e w7⟨u0,u1,u2,rfl,t7,b7⟩;obtain⟨k7,q7,l7,a7,c7,ek7,rfl,rfl,rfl,_,_⟩:=t7.form;have HT7:=qh t7;have S6:=wn b7 SD0;clear t7 b7 ek7
        go_wp2_with fail
        refine hK.out _ _ ?_ (fun hHeld=>?_)
        ·exact S6
        clear hK K
        try simp only[Act.put,qa,qe,qf]
        refine wpAnyH_take (i:=18) (v:=?_) rfl (by kernel_rfl) (by kernel_rfl) (by kernel_rfl) (fun _ _ _ h=>h) (Or.inl ⟨by rfl,?_⟩) (by assumption) ?_
        rotate_left
        ·(intro w hSw;(try dsimp only at hSw);go_simp;try with_reducible rfl)
        try simp only[Act.put,qa]
        refine wpAnyH_take (i:=19) (v:=?_) rfl (by kernel_rfl) (by kernel_rfl) (by kernel_rfl) (fun _ _ _ h=>h) (Or.inl ⟨by rfl,?_⟩) (by assumption) ?_
        rotate_left
        ·(intro w hSw;(try dsimp only at hSw);go_simp;try with_reducible rfl)
        try simp only[Act.put]
        refine wpAnyH_take (i:=20) (v:=?_) rfl (by kernel_rfl) (by kernel_rfl) (by kernel_rfl) (fun _ _ _ h=>h) (Or.inl ⟨by rfl,?_⟩) (by assumption) ?_
        rotate_left
        ·(intro w hSw;(try dsimp only at hSw);go_simp;try with_reducible rfl)
        try simp only[Act.put]
        refine wpAnyH_ready (rs:=[21]) (by kernel_rfl) (by simp) ?_;refine AllReadyH.cons rfl (fun K hK=>?_) ?_
        ·skip
         go_simp;refine hK.out _ _ ?_ (fun hHeld=>?_)
         ·exact xn S6
         clear hK K
         try simp only[Act.put,qa,qe,qf]
         refine wpAnyH_ready (rs:=[22]) (by kernel_rfl) (by simp) ?_;refine AllReadyH.cons rfl (fun K hK=>?_) ?_
         ·skip
          go_simp;refine hK.out _ _ ?_ (fun hHeld=>?_)
          ·first|exact xn S6|exact y6 S6.2.2.2.2.2.out.size (by have:=S6.2.2.2.2.2.out.size;omega) (by have:=S6.2.2.2.2.2.out.size;omega) (xn S6)
          clear hK K
          try simp only[Act.put,qa,qe,qf]
          refine wpAnyH_ready (rs:=[23]) (by kernel_rfl) (by simp) ?_;refine AllReadyH.cons rfl (fun K hK=>?_) ?_
          ·skip
           go_simp;refine hK.out _ _ ?_ (fun hHeld=>?_)
           ·first|exact xn S6|exact y6 S6.2.2.2.2.2.out.size (by have:=S6.2.2.2.2.2.out.size;omega) (by have:=S6.2.2.2.2.2.out.size;omega) (xn S6)
           clear hK K
           try simp only[Act.put,qa,qe,qf]
           refine wpAnyH_done (by kernel_rfl) ?_ _;go_wp2
           all_goals go_meet
           all_goals exact⟨_,_,_,_,_,_,rfl,rfl,qh ⟨Row3.new _ _ _ _,HT7.out.keep (fun b' h1 h2=>⟨Below.heap_alloc _ _ _ h2,h1⟩),S6.2.2.2.2.2.out.alloc S6.2.2.2.2.2.out.size _,S6.2.2.2.2.2.out.size⟩⟩
          exact AllReadyH.nil
         exact AllReadyH.nil
        exact AllReadyH.nil
       refine AllReadyH.cons rfl (fun K hK=>?_) ?_
       ·skip
        go_simp;refine hK.out _ _ ?_ (fun hHeld=>?_)
        ·first|exact q0q SD0|exact xn SD0
        clear hK K
        try simp only[Act.put,qa,qe,qf]
        have SD1:=q0q (x:=.cells #[.int .i64 0,.string ⟨#[]⟩,.slice none 0 0] 25) SD0;refine wpAnyH_ready (rs:=[17]) (by kernel_rfl) (by simp) ?_;refine AllReadyH.cons rfl (fun K hK=>?_) ?_
        ·skip
         go_simp;refine(CI.out _ (SD1.2.2.2.2.2.out)).mono ?_;rintro e w7⟨u0,u1,u2,rfl,t7,b7⟩;obtain⟨k7,q7,l7,a7,c7,ek7,rfl,rfl,rfl,_,_⟩:=t7.form;have HT7:=qh t7;have S6:=wn b7 SD1;have D6:=qh (q4s b7);obtain⟨⟨f0,f1,f2⟩,f3,f4,f5⟩:=D6.out.cells;clear t7 b7 ek7
         go_wp2_with fail
         refine hK.out _ _ ?_ (fun hHeld=>?_)
         ·exact S6
         clear hK K
         try simp only[Act.put,qa,qe,qf]
         refine wpAnyH_take (i:=18) (v:=?_) rfl (by kernel_rfl) (by kernel_rfl) (by kernel_rfl) (fun _ _ _ h=>h) (Or.inl ⟨by rfl,?_⟩) (by assumption) ?_
         rotate_left
         ·(intro w hSw;(try dsimp only at hSw);go_simp;try with_reducible rfl)
         try simp only[Act.put,qa]
         refine wpAnyH_take (i:=19) (v:=?_) rfl (by kernel_rfl) (by kernel_rfl) (by kernel_rfl) (fun _ _ _ h=>h) (Or.inl ⟨by rfl,?_⟩) (by assumption) ?_
         rotate_left
         ·(intro w hSw;(try dsimp only at hSw);go_simp;try with_reducible rfl)
         try simp only[Act.put]
         refine wpAnyH_take (i:=20) (v:=?_) rfl (by kernel_rfl) (by kernel_rfl) (by kernel_rfl) (fun _ _ _ h=>h) (Or.inl ⟨by rfl,?_⟩) (by assumption) ?_
         rotate_left
         ·(intro w hSw;(try dsimp only at hSw);go_simp;try with_reducible rfl)
         try simp only[Act.put]
         refine wpAnyH_ready (rs:=[22]) (by kernel_rfl) (by simp) ?_;refine AllReadyH.cons rfl (fun K hK=>?_) ?_
         ·skip
          go_simp;refine hK.out _ _ ?_ (fun hHeld=>?_)
          ·first|exact y6 (q9 _) (by omega) (by omega) S6|exact S6
          clear hK K
          try simp only[Act.put,qa,qe,qf]
          refine wpAnyH_ready (rs:=[23]) (by kernel_rfl) (by simp) ?_;refine AllReadyH.cons rfl (fun K hK=>?_) ?_
          ·skip
           go_simp;refine hK.out _ _ ?_ (fun hHeld=>?_)
           ·first|exact y6 (q9 _) (by omega) (by omega) S6|exact S6
           clear hK K
           try simp only[Act.put,qa,qe,qf]
           refine wpAnyH_done (by kernel_rfl) ?_ _;go_wp2
           all_goals go_meet
           all_goals exact⟨_,_,_,_,_,_,rfl,rfl,qh ⟨D6.out.put _ _ _,HT7.out.keep (fun b' h1 h2=>⟨(Below.heap_setCell _ _ _ _ (show b'≠wr.heap.size from h1.elim (fun h=>by have:=HTT.out b' h;omega) (fun h=>by have h9:wr.heap.size+1<=b':=(q6 wr _)▸h;omega))).trans ((Below.heap_setCell _ _ _ _ (show b'≠wr.heap.size from h1.elim (fun h=>by have:=HTT.out b' h;omega) (fun h=>by have h9:wr.heap.size+1<=b':=(q6 wr _)▸h;omega))).trans (Below.heap_setCell _ _ _ _ (show b'≠wr.heap.size from h1.elim (fun h=>by have:=HTT.out b' h;omega) (fun h=>by have h9:wr.heap.size+1<=b':=(q6 wr _)▸h;omega)))),h1.imp id (fun h=>by have h9:wr.heap.size+1<=b':=(q6 wr _)▸h;omega)⟩),((S6.2.2.2.2.2.out.setCell (p:=⟨wr.heap.size,0,none⟩) (q9 _) _).setCell (p:=⟨wr.heap.size,1,none⟩) (q9 _) _).setCell (p:=⟨wr.heap.size,2,none⟩) (q9 _) _,q9 _⟩⟩
          exact AllReadyH.nil
         exact AllReadyH.nil
        exact AllReadyH.nil
       exact AllReadyH.nil
      |false =>
       cases G with
       |false =>
        obtain rfl:un2=false:=by rw[HU2.out];rfl
        clear HU2;have SD0:Sr H b o j (.string s0) (.slice (some ⟨b,o,none⟩) l0.length c0) (.int .i64 k1) (.string s1) (.slice a1 l1.length c1) wr wr.drew:=q62 ⟨g1,g2,y0,y1,y2,HWR⟩;have hHr:H < wr.heap.size:=by omega
        have hbr:b < wr.heap.size:=by omega
        refine wp_region_held_drew (S:=(fun w'=>w'.cell? ⟨H,1,none⟩=some (.string s0)/\w'.cell? ⟨H,2,none⟩=some (.slice (some ⟨b,o,none⟩) l0.length c0)/\w'.cell? ⟨b,o+j*3,none⟩=some (.int .i64 k1)/\w'.cell? ⟨b,o+j*3+1,none⟩=some (.string s1)/\w'.cell? ⟨b,o+j*3+2,none⟩=some (.slice a1 l1.length c1)/\Hid (Below wr.heap.size wr w'))) (by kernel_rfl) SD0 (fun hHeld=>?_);refine wpAnyH_take (i:=0) (v:=?_) rfl (by kernel_rfl) (by kernel_rfl) (by kernel_rfl) (fun _ _ _ h=>h) (Or.inl ⟨by rfl,?_⟩) (by assumption) ?_
        rotate_left
        ·(intro w hSw;(try dsimp only at hSw);go_simp;try with_reducible rfl)
        try simp only[Act.put,qa]
        refine wpAnyH_take (i:=1) (v:=?_) rfl (by kernel_rfl) (by kernel_rfl) (by kernel_rfl) (fun _ _ _ h=>h) (Or.inl ⟨by rfl,?_⟩) (by assumption) ?_
        rotate_left
        ·(intro w hSw;(try dsimp only at hSw);go_simp;try with_reducible rfl)
        try simp only[Act.put]
        refine wpAnyH_take (i:=2) (v:=?_) rfl (by kernel_rfl) (by kernel_rfl) (by kernel_rfl) (fun _ _ _ h=>h) (Or.inl ⟨by rfl,?_⟩) (by assumption) ?_
        rotate_left
        ·(intro w hSw;(try dsimp only at hSw);go_simp;try with_reducible rfl)
        try simp only[Act.put]
        refine wpAnyH_take (i:=3) (v:=?_) rfl (by kernel_rfl) (by kernel_rfl) (by kernel_rfl) (fun _ _ _ h=>h) (Or.inl ⟨by rfl,?_⟩) (by assumption) ?_
        rotate_left
        ·(intro w hSw;(try dsimp only at hSw);go_simp;try with_reducible rfl)
        try simp only[Act.put]
        refine wpAnyH_take (i:=4) (v:=?_) rfl (by kernel_rfl) (by kernel_rfl) (by kernel_rfl) (fun _ _ _ h=>h) (Or.inl ⟨by rfl,?_⟩) (by assumption) ?_
        rotate_left
        ·(intro w hSw;(try dsimp only at hSw);go_simp;try with_reducible rfl)
        try simp only[Act.put]
        refine wpAnyH_take (i:=5) (v:=?_) rfl (by kernel_rfl) (by kernel_rfl) (by kernel_rfl) (fun _ _ _ h=>h) (Or.inl ⟨by rfl,?_⟩) (by assumption) ?_
        rotate_left
        ·(intro w hSw;(try dsimp only at hSw);go_simp;try with_reducible rfl)
        try simp only[Act.put]
        refine wpAnyH_take (i:=6) (v:=?_) rfl (by kernel_rfl) (by kernel_rfl) (by kernel_rfl) (fun _ _ _ h=>h) (Or.inl ⟨by rfl,?_⟩) (by assumption) ?_
        rotate_left
        ·(intro w hSw;(try dsimp only at hSw);go_simp;try with_reducible rfl)
        try simp only[Act.put]
        refine wpAnyH_take (i:=7) (v:=?_) rfl (by kernel_rfl) (by kernel_rfl) (by kernel_rfl) (fun _ _ _ h=>h) (Or.inl ⟨by rfl,?_⟩) (by assumption) ?_
        rotate_left
        ·(intro w hSw;(try dsimp only at hSw);go_simp;try with_reducible rfl)
        try simp only[Act.put]
        refine wpAnyH_take (i:=8) (v:=?_) rfl (by kernel_rfl) (by kernel_rfl) (by kernel_rfl) (fun _ _ _ h=>h) (Or.inl ⟨by rfl,?_⟩) (by assumption) ?_
        rotate_left
        ·(intro w hSw;(try dsimp only at hSw);go_simp;try with_reducible rfl)
        try simp only[Act.put]
        refine wpAnyH_take (i:=9) (v:=?_) rfl (by kernel_rfl) (by kernel_rfl) (by kernel_rfl) (fun _ _ _ h=>h) (Or.inl ⟨by kernel_rfl,?_⟩) (by assumption) ?_
        rotate_left
        ·(intro w hSw;(try dsimp only at hSw);go_simp;try with_reducible rfl)
        try simp only[Act.put]
        refine wpAnyH_take (i:=10) (v:=?_) rfl (by kernel_rfl) (by kernel_rfl) (by kernel_rfl) (fun _ _ _ h=>h) (Or.inl ⟨by kernel_rfl,?_⟩) (by assumption) ?_
        rotate_left
        ·(intro w hSw;(try dsimp only at hSw);go_simp;try with_reducible rfl)
        try simp only[Act.put]
        refine wpAnyH_take (i:=11) (v:=undef) rfl (by kernel_rfl) (by kernel_rfl) (by kernel_rfl) (fun _ _ _ h=>h) (Or.inr ⟨by kernel_rfl,rfl⟩) (by assumption) ?_
        try simp only[Act.put]
        refine wpAnyH_take (i:=12) (v:=undef) rfl (by kernel_rfl) (by kernel_rfl) (by kernel_rfl) (fun _ _ _ h=>h) (Or.inr ⟨by kernel_rfl,rfl⟩) (by assumption) ?_
        try simp only[Act.put]
        refine wpAnyH_take (i:=13) (v:=undef) rfl (by kernel_rfl) (by kernel_rfl) (by kernel_rfl) (fun _ _ _ h=>h) (Or.inr ⟨by kernel_rfl,rfl⟩) (by assumption) ?_
        try simp only[Act.put]
        refine wpAnyH_take (i:=14) (v:=undef) rfl (by kernel_rfl) (by kernel_rfl) (by kernel_rfl) (fun _ _ _ h=>h) (Or.inr ⟨by kernel_rfl,rfl⟩) (by assumption) ?_
        try simp only[Act.put]
        refine wpAnyH_take (i:=15) (v:=?_) rfl (by kernel_rfl) (by kernel_rfl) (by kernel_rfl) (fun _ _ _ h=>h) (Or.inl ⟨by kernel_rfl,?_⟩) (by assumption) ?_
        rotate_left
        ·(intro w hSw;(try dsimp only at hSw);go_simp;try with_reducible rfl)
        try simp only[Act.put]
        refine wpAnyH_take (i:=16) (v:=?_) rfl (by kernel_rfl) (by kernel_rfl) (by kernel_rfl) (fun _ _ _ h=>h) (Or.inl ⟨by rfl,?_⟩) (by assumption) ?_
        rotate_left
        ·(intro w hSw;(try dsimp only at hSw);go_simp;try with_reducible rfl)
        try simp only[Act.put]
        refine wpAnyH_ready (rs:=[17,21]) (by kernel_rfl) (by simp) ?_;refine AllReadyH.cons rfl (fun K hK=>?_) ?_
        ·skip
         go_simp;refine(CI.out _ (SD0.2.2.2.2.2.out)).mono ?_;rintro e w7⟨u0,u1,u2,rfl,t7,b7⟩;obtain⟨k7,q7,l7,a7,c7,ek7,rfl,rfl,rfl,_,_⟩:=t7.form;have HT7:=qh t7;have S6:=wn b7 SD0;clear t7 b7 ek7
         go_wp2_with fail
         refine hK.out _ _ ?_ (fun hHeld=>?_)
         ·exact S6
         clear hK K
         try simp only[Act.put,qa,qe,qf]
         refine wpAnyH_take (i:=18) (v:=?_) rfl (by kernel_rfl) (by kernel_rfl) (by kernel_rfl) (fun _ _ _ h=>h) (Or.inl ⟨by rfl,?_⟩) (by assumption) ?_
         rotate_left
         ·(intro w hSw;(try dsimp only at hSw);go_simp;try with_reducible rfl)
         try simp only[Act.put,qa]
         refine wpAnyH_take (i:=19) (v:=?_) rfl (by kernel_rfl) (by kernel_rfl) (by kernel_rfl) (fun _ _ _ h=>h) (Or.inl ⟨by rfl,?_⟩) (by assumption) ?_
         rotate_left
         ·(intro w hSw;(try dsimp only at hSw);go_simp;try with_reducible rfl)
         try simp only[Act.put]
         refine wpAnyH_take (i:=20) (v:=?_) rfl (by kernel_rfl) (by kernel_rfl) (by kernel_rfl) (fun _ _ _ h=>h) (Or.inl ⟨by rfl,?_⟩) (by assumption) ?_
         rotate_left
         ·(intro w hSw;(try dsimp only at hSw);go_simp;try with_reducible rfl)
         try simp only[Act.put]
         refine wpAnyH_ready (rs:=[21]) (by kernel_rfl) (by simp) ?_;refine AllReadyH.cons rfl (fun K hK=>?_) ?_
         ·skip
          go_simp;refine hK.out _ _ ?_ (fun hHeld=>?_)
          ·exact xn S6
          clear hK K
          try simp only[Act.put,qa,qe,qf]
          refine wpAnyH_ready (rs:=[22]) (by kernel_rfl) (by simp) ?_;refine AllReadyH.cons rfl (fun K hK=>?_) ?_
          ·skip
           go_simp;refine hK.out _ _ ?_ (fun hHeld=>?_)
           ·first|exact xn S6|exact y6 S6.2.2.2.2.2.out.size (by have:=S6.2.2.2.2.2.out.size;omega) (by have:=S6.2.2.2.2.2.out.size;omega) (xn S6)
           clear hK K
           try simp only[Act.put,qa,qe,qf]
           refine wpAnyH_ready (rs:=[23]) (by kernel_rfl) (by simp) ?_;refine AllReadyH.cons rfl (fun K hK=>?_) ?_
           ·skip
            go_simp;refine hK.out _ _ ?_ (fun hHeld=>?_)
            ·first|exact xn S6|exact y6 S6.2.2.2.2.2.out.size (by have:=S6.2.2.2.2.2.out.size;omega) (by have:=S6.2.2.2.2.2.out.size;omega) (xn S6)
            clear hK K
            try simp only[Act.put,qa,qe,qf]
            refine wpAnyH_done (by kernel_rfl) ?_ _;go_wp2
            all_goals go_meet
            all_goals exact⟨_,_,_,_,_,_,rfl,rfl,qh ⟨Row3.new _ _ _ _,HT7.out.keep (fun b' h1 h2=>⟨Below.heap_alloc _ _ _ h2,h1⟩),S6.2.2.2.2.2.out.alloc S6.2.2.2.2.2.out.size _,S6.2.2.2.2.2.out.size⟩⟩
           exact AllReadyH.nil
          exact AllReadyH.nil
         exact AllReadyH.nil
        refine AllReadyH.cons rfl (fun K hK=>?_) ?_
        ·skip
         go_simp;refine hK.out _ _ ?_ (fun hHeld=>?_)
         ·first|exact q0q SD0|exact xn SD0
         clear hK K
         try simp only[Act.put,qa,qe,qf]
         have SD1:=q0q (x:=.cells #[.int .i64 0,.string ⟨#[]⟩,.slice none 0 0] 25) SD0;refine wpAnyH_ready (rs:=[17]) (by kernel_rfl) (by simp) ?_;refine AllReadyH.cons rfl (fun K hK=>?_) ?_
         ·skip
          go_simp;refine(CI.out _ (SD1.2.2.2.2.2.out)).mono ?_;rintro e w7⟨u0,u1,u2,rfl,t7,b7⟩;obtain⟨k7,q7,l7,a7,c7,ek7,rfl,rfl,rfl,_,_⟩:=t7.form;have HT7:=qh t7;have S6:=wn b7 SD1;have D6:=qh (q4s b7);obtain⟨⟨f0,f1,f2⟩,f3,f4,f5⟩:=D6.out.cells;clear t7 b7 ek7
          go_wp2_with fail
          refine hK.out _ _ ?_ (fun hHeld=>?_)
          ·exact S6
          clear hK K
          try simp only[Act.put,qa,qe,qf]
          refine wpAnyH_take (i:=18) (v:=?_) rfl (by kernel_rfl) (by kernel_rfl) (by kernel_rfl) (fun _ _ _ h=>h) (Or.inl ⟨by rfl,?_⟩) (by assumption) ?_
          rotate_left
          ·(intro w hSw;(try dsimp only at hSw);go_simp;try with_reducible rfl)
          try simp only[Act.put,qa]
          refine wpAnyH_take (i:=19) (v:=?_) rfl (by kernel_rfl) (by kernel_rfl) (by kernel_rfl) (fun _ _ _ h=>h) (Or.inl ⟨by rfl,?_⟩) (by assumption) ?_
          rotate_left
          ·(intro w hSw;(try dsimp only at hSw);go_simp;try with_reducible rfl)
          try simp only[Act.put]
          refine wpAnyH_take (i:=20) (v:=?_) rfl (by kernel_rfl) (by kernel_rfl) (by kernel_rfl) (fun _ _ _ h=>h) (Or.inl ⟨by rfl,?_⟩) (by assumption) ?_
          rotate_left
          ·(intro w hSw;(try dsimp only at hSw);go_simp;try with_reducible rfl)
          try simp only[Act.put]
          refine wpAnyH_ready (rs:=[22]) (by kernel_rfl) (by simp) ?_;refine AllReadyH.cons rfl (fun K hK=>?_) ?_
          ·skip
           go_simp;refine hK.out _ _ ?_ (fun hHeld=>?_)
           ·first|exact y6 (q9 _) (by omega) (by omega) S6|exact S6
           clear hK K
           try simp only[Act.put,qa,qe,qf]
           refine wpAnyH_ready (rs:=[23]) (by kernel_rfl) (by simp) ?_;refine AllReadyH.cons rfl (fun K hK=>?_) ?_
           ·skip
            go_simp;refine hK.out _ _ ?_ (fun hHeld=>?_)
            ·first|exact y6 (q9 _) (by omega) (by omega) S6|exact S6
            clear hK K
            try simp only[Act.put,qa,qe,qf]
            refine wpAnyH_done (by kernel_rfl) ?_ _;go_wp2
            all_goals go_meet
            all_goals exact⟨_,_,_,_,_,_,rfl,rfl,qh ⟨D6.out.put _ _ _,HT7.out.keep (fun b' h1 h2=>⟨(Below.heap_setCell _ _ _ _ (show b'≠wr.heap.size from h1.elim (fun h=>by have:=HTT.out b' h;omega) (fun h=>by have h9:wr.heap.size+1<=b':=(q6 wr _)▸h;omega))).trans ((Below.heap_setCell _ _ _ _ (show b'≠wr.heap.size from h1.elim (fun h=>by have:=HTT.out b' h;omega) (fun h=>by have h9:wr.heap.size+1<=b':=(q6 wr _)▸h;omega))).trans (Below.heap_setCell _ _ _ _ (show b'≠wr.heap.size from h1.elim (fun h=>by have:=HTT.out b' h;omega) (fun h=>by have h9:wr.heap.size+1<=b':=(q6 wr _)▸h;omega)))),h1.imp id (fun h=>by have h9:wr.heap.size+1<=b':=(q6 wr _)▸h;omega)⟩),((S6.2.2.2.2.2.out.setCell (p:=⟨wr.heap.size,0,none⟩) (q9 _) _).setCell (p:=⟨wr.heap.size,1,none⟩) (q9 _) _).setCell (p:=⟨wr.heap.size,2,none⟩) (q9 _) _,q9 _⟩⟩
           exact AllReadyH.nil
          exact AllReadyH.nil
         exact AllReadyH.nil
        exact AllReadyH.nil
       |true =>
        obtain rfl:un2=SE2:=by rw[HU2.out];rfl
        clear HU2;have SD0:Sr H b o j (.string s0) (.slice (some ⟨b,o,none⟩) l0.length c0) (.int .i64 k1) (.string s1) (.slice a1 l1.length c1) wr wr.drew:=q62 ⟨g1,g2,y0,y1,y2,HWR⟩;have hHr:H < wr.heap.size:=by omega
        have hbr:b < wr.heap.size:=by omega
        refine wp_region_held_drew (S:=(fun w'=>w'.cell? ⟨H,1,none⟩=some (.string s0)/\w'.cell? ⟨H,2,none⟩=some (.slice (some ⟨b,o,none⟩) l0.length c0)/\w'.cell? ⟨b,o+j*3,none⟩=some (.int .i64 k1)/\w'.cell? ⟨b,o+j*3+1,none⟩=some (.string s1)/\w'.cell? ⟨b,o+j*3+2,none⟩=some (.slice a1 l1.length c1)/\Hid (Below wr.heap.size wr w'))) (by kernel_rfl) SD0 (fun hHeld=>?_);refine wpAnyH_take (i:=0) (v:=?_) rfl (by kernel_rfl) (by kernel_rfl) (by kernel_rfl) (fun _ _ _ h=>h) (Or.inl ⟨by rfl,?_⟩) (by assumption) ?_
        rotate_left
        ·(intro w hSw;(try dsimp only at hSw);go_simp;try with_reducible rfl)
        try simp only[Act.put,qa]
        refine wpAnyH_take (i:=1) (v:=?_) rfl (by kernel_rfl) (by kernel_rfl) (by kernel_rfl) (fun _ _ _ h=>h) (Or.inl ⟨by rfl,?_⟩) (by assumption) ?_
        rotate_left
        ·(intro w hSw;(try dsimp only at hSw);go_simp;try with_reducible rfl)
        try simp only[Act.put]
        refine wpAnyH_take (i:=2) (v:=?_) rfl (by kernel_rfl) (by kernel_rfl) (by kernel_rfl) (fun _ _ _ h=>h) (Or.inl ⟨by rfl,?_⟩) (by assumption) ?_
        rotate_left
        ·(intro w hSw;(try dsimp only at hSw);go_simp;try with_reducible rfl)
        try simp only[Act.put]
        refine wpAnyH_take (i:=3) (v:=?_) rfl (by kernel_rfl) (by kernel_rfl) (by kernel_rfl) (fun _ _ _ h=>h) (Or.inl ⟨by rfl,?_⟩) (by assumption) ?_
        rotate_left
        ·(intro w hSw;(try dsimp only at hSw);go_simp;try with_reducible rfl)
        try simp only[Act.put]
        refine wpAnyH_take (i:=4) (v:=?_) rfl (by kernel_rfl) (by kernel_rfl) (by kernel_rfl) (fun _ _ _ h=>h) (Or.inl ⟨by rfl,?_⟩) (by assumption) ?_
        rotate_left
        ·(intro w hSw;(try dsimp only at hSw);go_simp;try with_reducible rfl)
        try simp only[Act.put]
        refine wpAnyH_take (i:=5) (v:=?_) rfl (by kernel_rfl) (by kernel_rfl) (by kernel_rfl) (fun _ _ _ h=>h) (Or.inl ⟨by rfl,?_⟩) (by assumption) ?_
        rotate_left
        ·(intro w hSw;(try dsimp only at hSw);go_simp;try with_reducible rfl)
        try simp only[Act.put]
        refine wpAnyH_take (i:=6) (v:=?_) rfl (by kernel_rfl) (by kernel_rfl) (by kernel_rfl) (fun _ _ _ h=>h) (Or.inl ⟨by rfl,?_⟩) (by assumption) ?_
        rotate_left
        ·(intro w hSw;(try dsimp only at hSw);go_simp;try with_reducible rfl)
        try simp only[Act.put]
        refine wpAnyH_take (i:=7) (v:=?_) rfl (by kernel_rfl) (by kernel_rfl) (by kernel_rfl) (fun _ _ _ h=>h) (Or.inl ⟨by rfl,?_⟩) (by assumption) ?_
        rotate_left
        ·(intro w hSw;(try dsimp only at hSw);go_simp;try with_reducible rfl)
        try simp only[Act.put]
        refine wpAnyH_take (i:=8) (v:=?_) rfl (by kernel_rfl) (by kernel_rfl) (by kernel_rfl) (fun _ _ _ h=>h) (Or.inl ⟨by rfl,?_⟩) (by assumption) ?_
        rotate_left
        ·(intro w hSw;(try dsimp only at hSw);go_simp;try with_reducible rfl)
        try simp only[Act.put]
        refine wpAnyH_take (i:=9) (v:=?_) rfl (by kernel_rfl) (by kernel_rfl) (by kernel_rfl) (fun _ _ _ h=>h) (Or.inl ⟨by kernel_rfl,?_⟩) (by assumption) ?_
        rotate_left
        ·(intro w hSw;(try dsimp only at hSw);go_simp;try with_reducible rfl)
        try simp only[Act.put]
        refine wpAnyH_take (i:=10) (v:=?_) rfl (by kernel_rfl) (by kernel_rfl) (by kernel_rfl) (fun _ _ _ h=>h) (Or.inl ⟨by kernel_rfl,?_⟩) (by assumption) ?_
        rotate_left
        ·(intro w hSw;(try dsimp only at hSw);go_simp;try with_reducible rfl)
        try simp only[Act.put]
        refine wpAnyH_take (i:=11) (v:=?_) rfl (by kernel_rfl) (by kernel_rfl) (by kernel_rfl) (fun _ _ _ h=>h) (Or.inl ⟨by kernel_rfl,?_⟩) (by assumption) ?_
        rotate_left
        ·(intro w hSw;(try dsimp only at hSw);go_simp;try with_reducible rfl)
        try simp only[Act.put]
        refine wpAnyH_take (i:=12) (v:=?_) rfl (by kernel_rfl) (by kernel_rfl) (by kernel_rfl) (fun _ _ _ h=>h) (Or.inl ⟨by kernel_rfl,?_⟩) (by assumption) ?_
        rotate_left
        ·(intro w hSw;(try dsimp only at hSw);go_simp;try with_reducible rfl)
        try simp only[Act.put]
        refine wpAnyH_take (i:=13) (v:=?_) rfl (by kernel_rfl) (by kernel_rfl) (by kernel_rfl) (fun _ _ _ h=>h) (Or.inl ⟨by kernel_rfl,?_⟩) (by assumption) ?_
        rotate_left
        ·(intro w hSw;(try dsimp only at hSw);go_simp;try with_reducible rfl)
        try simp only[Act.put]
        refine wpAnyH_take (i:=14) (v:=?_) rfl (by kernel_rfl) (by kernel_rfl) (by kernel_rfl) (fun _ _ _ h=>h) (Or.inl ⟨by kernel_rfl,?_⟩) (by assumption) ?_
        rotate_left
        ·(intro w hSw;(try dsimp only at hSw);go_simp;try with_reducible rfl)
        try simp only[Act.put]
        refine wpAnyH_take (i:=15) (v:=?_) rfl (by kernel_rfl) (by kernel_rfl) (by kernel_rfl) (fun _ _ _ h=>h) (Or.inl ⟨by kernel_rfl,?_⟩) (by assumption) ?_
        rotate_left
        ·(intro w hSw;(try dsimp only at hSw);go_simp;try with_reducible rfl)
        try simp only[Act.put]
        refine wpAnyH_take (i:=16) (v:=?_) rfl (by kernel_rfl) (by kernel_rfl) (by kernel_rfl) (fun _ _ _ h=>h) (Or.inl ⟨by rfl,?_⟩) (by assumption) ?_
        rotate_left
        ·(intro w hSw;(try dsimp only at hSw);go_simp;try with_reducible rfl)
        try simp only[Act.put]
        refine wpAnyH_ready (rs:=[17,21]) (by kernel_rfl) (by simp) ?_;refine AllReadyH.cons rfl (fun K hK=>?_) ?_
        ·skip
         go_simp;refine(CI.out _ (SD0.2.2.2.2.2.out)).mono ?_;rintro e w7⟨u0,u1,u2,rfl,t7,b7⟩;obtain⟨k7,q7,l7,a7,c7,ek7,rfl,rfl,rfl,_,_⟩:=t7.form;have HT7:=qh t7;have S6:=wn b7 SD0;clear t7 b7 ek7
         go_wp2_with fail
         refine hK.out _ _ ?_ (fun hHeld=>?_)
         ·exact S6
         clear hK K
         try simp only[Act.put,qa,qe,qf]
         refine wpAnyH_take (i:=18) (v:=?_) rfl (by kernel_rfl) (by kernel_rfl) (by kernel_rfl) (fun _ _ _ h=>h) (Or.inl ⟨by rfl,?_⟩) (by assumption) ?_
         rotate_left
         ·(intro w hSw;(try dsimp only at hSw);go_simp;try with_reducible rfl)
         try simp only[Act.put,qa]
         refine wpAnyH_take (i:=19) (v:=?_) rfl (by kernel_rfl) (by kernel_rfl) (by kernel_rfl) (fun _ _ _ h=>h) (Or.inl ⟨by rfl,?_⟩) (by assumption) ?_
         rotate_left
         ·(intro w hSw;(try dsimp only at hSw);go_simp;try with_reducible rfl)
         try simp only[Act.put]
         refine wpAnyH_take (i:=20) (v:=?_) rfl (by kernel_rfl) (by kernel_rfl) (by kernel_rfl) (fun _ _ _ h=>h) (Or.inl ⟨by rfl,?_⟩) (by assumption) ?_
         rotate_left
         ·(intro w hSw;(try dsimp only at hSw);go_simp;try with_reducible rfl)
         try simp only[Act.put]
         refine wpAnyH_ready (rs:=[21]) (by kernel_rfl) (by simp) ?_;refine AllReadyH.cons rfl (fun K hK=>?_) ?_
         ·skip
          go_simp;refine hK.out _ _ ?_ (fun hHeld=>?_)
          ·exact xn S6
          clear hK K
          try simp only[Act.put,qa,qe,qf]
          refine wpAnyH_ready (rs:=[22]) (by kernel_rfl) (by simp) ?_;refine AllReadyH.cons rfl (fun K hK=>?_) ?_
          ·skip
           go_simp;refine hK.out _ _ ?_ (fun hHeld=>?_)
           ·first|exact xn S6|exact y6 S6.2.2.2.2.2.out.size (by have:=S6.2.2.2.2.2.out.size;omega) (by have:=S6.2.2.2.2.2.out.size;omega) (xn S6)
           clear hK K
           try simp only[Act.put,qa,qe,qf]
           refine wpAnyH_ready (rs:=[23]) (by kernel_rfl) (by simp) ?_;refine AllReadyH.cons rfl (fun K hK=>?_) ?_
           ·skip
            go_simp;refine hK.out _ _ ?_ (fun hHeld=>?_)
            ·first|exact xn S6|exact y6 S6.2.2.2.2.2.out.size (by have:=S6.2.2.2.2.2.out.size;omega) (by have:=S6.2.2.2.2.2.out.size;omega) (xn S6)
            clear hK K
            try simp only[Act.put,qa,qe,qf]
            refine wpAnyH_done (by kernel_rfl) ?_ _;go_wp2
            all_goals go_meet
            all_goals exact⟨_,_,_,_,_,_,rfl,rfl,qh ⟨Row3.new _ _ _ _,HT7.out.keep (fun b' h1 h2=>⟨Below.heap_alloc _ _ _ h2,h1⟩),S6.2.2.2.2.2.out.alloc S6.2.2.2.2.2.out.size _,S6.2.2.2.2.2.out.size⟩⟩
           exact AllReadyH.nil
          exact AllReadyH.nil
         exact AllReadyH.nil
        refine AllReadyH.cons rfl (fun K hK=>?_) ?_
        ·skip
         go_simp;refine hK.out _ _ ?_ (fun hHeld=>?_)
         ·first|exact q0q SD0|exact xn SD0
         clear hK K
         try simp only[Act.put,qa,qe,qf]
         have SD1:=q0q (x:=.cells #[.int .i64 0,.string ⟨#[]⟩,.slice none 0 0] 25) SD0;refine wpAnyH_ready (rs:=[17]) (by kernel_rfl) (by simp) ?_;refine AllReadyH.cons rfl (fun K hK=>?_) ?_
         ·skip
          go_simp;refine(CI.out _ (SD1.2.2.2.2.2.out)).mono ?_;rintro e w7⟨u0,u1,u2,rfl,t7,b7⟩;obtain⟨k7,q7,l7,a7,c7,ek7,rfl,rfl,rfl,_,_⟩:=t7.form;have HT7:=qh t7;have S6:=wn b7 SD1;have D6:=qh (q4s b7);obtain⟨⟨f0,f1,f2⟩,f3,f4,f5⟩:=D6.out.cells;clear t7 b7 ek7
          go_wp2_with fail
          refine hK.out _ _ ?_ (fun hHeld=>?_)
          ·exact S6
          clear hK K
          try simp only[Act.put,qa,qe,qf]
          refine wpAnyH_take (i:=18) (v:=?_) rfl (by kernel_rfl) (by kernel_rfl) (by kernel_rfl) (fun _ _ _ h=>h) (Or.inl ⟨by rfl,?_⟩) (by assumption) ?_
          rotate_left
          ·(intro w hSw;(try dsimp only at hSw);go_simp;try with_reducible rfl)
          try simp only[Act.put,qa]
          refine wpAnyH_take (i:=19) (v:=?_) rfl (by kernel_rfl) (by kernel_rfl) (by kernel_rfl) (fun _ _ _ h=>h) (Or.inl ⟨by rfl,?_⟩) (by assumption) ?_
          rotate_left
          ·(intro w hSw;(try dsimp only at hSw);go_simp;try with_reducible rfl)
          try simp only[Act.put]
          refine wpAnyH_take (i:=20) (v:=?_) rfl (by kernel_rfl) (by kernel_rfl) (by kernel_rfl) (fun _ _ _ h=>h) (Or.inl ⟨by rfl,?_⟩) (by assumption) ?_
          rotate_left
          ·(intro w hSw;(try dsimp only at hSw);go_simp;try with_reducible rfl)
          try simp only[Act.put]
          refine wpAnyH_ready (rs:=[22]) (by kernel_rfl) (by simp) ?_;refine AllReadyH.cons rfl (fun K hK=>?_) ?_
          ·skip
           go_simp;refine hK.out _ _ ?_ (fun hHeld=>?_)
           ·first|exact y6 (q9 _) (by omega) (by omega) S6|exact S6
           clear hK K
           try simp only[Act.put,qa,qe,qf]
           refine wpAnyH_ready (rs:=[23]) (by kernel_rfl) (by simp) ?_;refine AllReadyH.cons rfl (fun K hK=>?_) ?_
           ·skip
            go_simp;refine hK.out _ _ ?_ (fun hHeld=>?_)
            ·first|exact y6 (q9 _) (by omega) (by omega) S6|exact S6
            clear hK K
            try simp only[Act.put,qa,qe,qf]
            refine wpAnyH_done (by kernel_rfl) ?_ _;go_wp2
            all_goals go_meet
            all_goals exact⟨_,_,_,_,_,_,rfl,rfl,qh ⟨D6.out.put _ _ _,HT7.out.keep (fun b' h1 h2=>⟨(Below.heap_setCell _ _ _ _ (show b'≠wr.heap.size from h1.elim (fun h=>by have:=HTT.out b' h;omega) (fun h=>by have h9:wr.heap.size+1<=b':=(q6 wr _)▸h;omega))).trans ((Below.heap_setCell _ _ _ _ (show b'≠wr.heap.size from h1.elim (fun h=>by have:=HTT.out b' h;omega) (fun h=>by have h9:wr.heap.size+1<=b':=(q6 wr _)▸h;omega))).trans (Below.heap_setCell _ _ _ _ (show b'≠wr.heap.size from h1.elim (fun h=>by have:=HTT.out b' h;omega) (fun h=>by have h9:wr.heap.size+1<=b':=(q6 wr _)▸h;omega)))),h1.imp id (fun h=>by have h9:wr.heap.size+1<=b':=(q6 wr _)▸h;omega)⟩),((S6.2.2.2.2.2.out.setCell (p:=⟨wr.heap.size,0,none⟩) (q9 _) _).setCell (p:=⟨wr.heap.size,1,none⟩) (q9 _) _).setCell (p:=⟨wr.heap.size,2,none⟩) (q9 _) _,q9 _⟩⟩
           exact AllReadyH.nil
          exact AllReadyH.nil
         exact AllReadyH.nil
        exact AllReadyH.nil
     case rest =>
     rename World=>wx
     obtain⟨h7,k7,q7,a7,n7,c7,rfl,rfl,H7⟩:=hcut;have hz7:=H7.out.2.2.1.size;have KP7:=qh (show Kp2 H (H+1+1) (.slice oa j oc) w wr wx from(Kp2.refl hF.out.b).later hHw H7.out.2.2.1);have K7D:Hid (KidsS (fun b=>T b\/H+1+1 < b) wx (.slice oa j oc) (l'.take j)):=qh (KD.out.keep fun b' h1 h2=>⟨H7.out.2.2.1.block b' h2,h1⟩);have R7D:Hid (Row3 wx (H+1+1) (.int .i64 kk) (.string ss) (.slice oa j oc)):=qh ((H7.out.2.2.1.block _ hDr).trans DR.out);have T7:=qh H7.out.2.1;obtain⟨⟨d0,d1,d2⟩,_⟩:=R7D.out.cells;obtain⟨⟨x0,x1,x2⟩,_⟩:=H7.out.1.cells;clear dr y0 y1 y2 g0 g1 g2 CI HU2;rcases bad with _|_
     all_goals
      go_wp2_with (at_builtin;refine q4y rfl _ _ rfl (fun b=>T b\/H+1+1 < b) (.slice oa j oc) (l'.take j) rfl (K7D.out.keep fun b' h1 h2=>⟨Below.heap_alloc _ _ _ h2,h1⟩) ⟨wx.heap.size,0,none⟩ 1 (by rfl) y (.int .i64 k7) (.string q7) (.slice a7 n7 c7) (xu wx _ _ _ _ _ rfl) (T7.out.keep (fun b' h1 h2=>⟨Below.heap_alloc _ _ _ h2,(h1.imp id (fun h=>by omega)),fun e=>by have:=HOWB.out b' e;have:=HOWN.out b' e;exact h1.elim (fun h=>by have:=HTT.out b' h;omega) (fun h=>by omega)⟩)) (by rw[HLI.out];omega) (Or.inr (show H+1+1 < (World.alloc wx _).heap.size by rw[q6];omega)) ?_;intro g6 cap6 w8 K8 G8 hg8;rw[HLI.out]at K8 ⊢;have KP8:=qh ((KP7.out.alloc hHw _).grown hHw G8 HOWN.out (by omega));have R8:=qh ((R7D.out.alloc _).grown' G8 (fun e=>by have:=HOWN.out _ e.symm;omega));have HG8:Hid (H+1+1 < g6):=qh (by
       rcases hg8 with h|h
       ·exact HOWN.out _ h
       ·have h9:g6=(World.alloc wx _).heap.size:=h
        rw[h9,q6];omega);obtain⟨⟨y0,y1,y2⟩,z0,z1,z2⟩:=R8.out.cells;have HK8:=qh K8;clear K8 G8 hg8)
      have HFN:=qh (FrR.next hF.out HOWN.out HTT.out KP8.out HTK.out R8.out HK8.out HG8.out);clear y0 y1 y2 z0 z1 z2 d0 d1 d2 x0 x1 x2;go_wp2;go_roundw
      case rel=>exact⟨j+1,_,hlt,rfl,by push_cast;rfl,by first|exact HRB4|simpa using HRB4,HFN⟩
      case measure=>simp[intOf];omega
   ·have hlt':¬ ((j:Int) < (l0.length:Int)):=by omega
    obtain rfl:j=l0.length:=by omega
    obtain rfl:bad=RB:=by
     have:=HB.out;rw[List.drop_of_length_le (q9 _)]at this;simpa only[rbL,Bool.or_false]using this
    obtain⟨oa,oc,dr,kd,hown⟩:=hF0.out.d;have HR:=qh hF0.out.r;have hhD:=dr.lt;obtain⟨⟨d0,d1,d2⟩,_⟩:=dr.cells;obtain⟨⟨r0,r1,r2⟩,q0,q1,q2⟩:=HR.out.cells;have KD:=qh kd;clear dr kd hown HB;go_wp2;refine kr (HR.out.put _ _ _) rfl rfl rfl rfl ?_;have hh:=HH.out;have kn:=KD.out;rw[qw (by rw[HLL.out];omega)]at kn;have kn2:=kn.node kk ss HSN.out (by rw[HLL.out];unfold maxLen;omega);refine⟨_,_,_,rfl,kn2.keep (fun b' h1 _=>⟨(Below.heap_setCell _ _ _ _ (show b'≠H+1 from h1.elim (fun h=>by have:=HTT.out b' h;omega) (fun h=>by omega))).trans ((Below.heap_setCell _ _ _ _ (show b'≠H+1 from h1.elim (fun h=>by have:=HTT.out b' h;omega) (fun h=>by omega))).trans (Below.heap_setCell _ _ _ _ (show b'≠H+1 from h1.elim (fun h=>by have:=HTT.out b' h;omega) (fun h=>by omega)))),h1.imp id (fun h=>by omega)⟩),?_⟩
    first
     |exact zu hF0.out.b (by omega) _ _ _
     |(rw[HH.out];exact zu hF0.out.b (by omega) _ _ _)
theorem qla(fr tn:ByteArray)(htn:tn.size<=maxLen):RRC fr tn:=fun T t un w v0 v1 v2 hT ht hz=>qb4 fr tn htn t.sz T t un w v0 v1 v2 (q9 _) hT ht hz
end Go.Proofs.YtkckddojlignpaaGreatDoor
namespace Go.Proofs.YtkckddojlignpaaGreatDoor
open Go.ChangeShapes Go.WideShapes Go.ChangeAt Go.RowKit Go.ChangeMaps
section
variable {H:Type} {enc:TypeId×Value->H} {P:Program} {w w':World} {base:Nat} {sp:Nat->Bool} {held:Bool}
theorem qcg{t:TypeId}{v:Value}{d:DataW H}{ps:List MemPlace}(h:DataW.Trod enc P w base sp held t v d ps)(hs:∀ p∈ps,w.sameAt w' p):DataW.Trod enc P w' base sp held t v d ps:=by
 obtain⟨n,hn⟩:=h;exact⟨n,DataW.trod_carry n _ _ _ hn hs⟩
theorem q4u:∀ {ts:List TypeId} {vs:List Value} {ds:List (DataW H)} {ps:List MemPlace},DataW.TrodAll enc P w base sp held ts vs ds ps->(∀ p∈ps,w.sameAt w' p)->DataW.TrodAll enc P w' base sp held ts vs ds ps
 |[],[],[],_,h,_=>h
 |_ :: _,_ :: _,_ :: _,_,⟨p,q,h1,h2,e⟩,hs=>⟨p,q,qcg h1 (fun x hx=>hs x (by rw[e];exact List.mem_append_left _ hx)),q4u h2 (fun x hx=>hs x (by rw[e];exact List.mem_append_right _ hx)),e⟩
theorem qgk{n:Nat}(hb:Below n w w')(p:MemPlace)(h:p.block < n):w.sameAt w' p:=by
 cases p with
 |cell b off=>exact hb.cell (p:=⟨b,off,none⟩) h
 |map b=>exact hb.block b h
theorem qiz(hl:laidOutB P=true)(hm:mapsRowed P=true)(hz:((List.range P.types.size).all fun t=>match P.underlying t with|some (.slice e)=>decide (0 < P.cellsOf e)|_=>true)=true)
  {ts:List TypeId} {vs:List Value} {ds:List (DataW H)} {ps:List MemPlace} (ht:(ts.all fun t=>decide (t < P.types.size))=true) (hA:DataW.TrodAll enc P w 0 (fun _=>true) true ts vs ds ps) (hlt:∀ p∈ps,p.block < w.heap.size)
  (hb:Below w.heap.size w w') {sp:Nat->Bool} (hs:∀ p∈ps,sp p.block=true):DataW.TrodAll enc P w' 0 sp true ts vs ds ps:=by
 refine DataW.TrodAll.respare (T:=(· < P.types.size)) (kids_rows hl hm) (fun t e h1 h2=>slices_full_of P hz t e h1 h2) (fun t h=>?_) (q4u hA fun p hp=>qgk hb p (hlt p hp)) hs;simpa using List.all_eq_true.1 ht t h
end
theorem qlq:laidOutB Tryz.prog=true:=by kernel_rfl
theorem qlo:mapsRowed Tryz.prog=true:=by kernel_rfl
theorem qm2:((List.range Tryz.prog.types.size).all fun t=>match Tryz.prog.underlying t with|some (.slice e)=>decide (0 < Tryz.prog.cellsOf e)|_=>true)=true:=by kernel_rfl
end Go.Proofs.YtkckddojlignpaaGreatDoor
namespace Go.Proofs.YtkckddojlignpaaGreatDoor
open Go.ChangeShapes Go.WideShapes Go.Deep Go.ChangeMaps Go.RowKit
section
variable {H:Type} {enc:TypeId×Value->H} {w:World} {base:Nat} {sp:Nat->Bool} {hd:Bool}
theorem q7o{α:Type}{Q:Nat->α->Prop}:∀ n:Nat,(∀ i,i < n->∃ a,Q i a)->∃ l:List α,l.length=n/\∀ i,(h:i < l.length)->Q i l[i]
 |0,_=>⟨[],rfl,fun i h=>absurd h (Nat.not_lt_zero _)⟩
 |n+1,h=>by
  obtain⟨l,hl,hq⟩:=q7o n fun i hi=>h i (by omega)
  obtain⟨a,ha⟩:=h n (by omega);refine⟨l++[a],by rw[qg,hl];rfl,fun i hi=>?_⟩;rw[List.getElem_append]
  split
  ·exact hq i _
  ·have:i=n:=by rw[qg,List.length_singleton]at hi;omega
   subst this;simpa using ha
theorem qch(b o j:Nat):(⟨b,o,none⟩:Addr).add j=⟨b,o+j,none⟩:=by unfold Addr.add;split <;> simp_all
theorem qaa(w:World)(k:Int)(s:ByteArray)(hs:s.size<=maxLen)(a:Option Addr)(cap:Nat):NdR w (.mk k s []) (.int .i64 k) (.string s) (.slice a 0 cap) :=
 .mk k s [] a cap 0 0 (fun _=>undef) (fun _=>undef) (fun _=>undef) hs (qv _) (qv _) (fun e=>absurd rfl e) (fun i hi=>absurd hi (Nat.not_lt_zero i)) (fun i hi=>absurd hi (Nat.not_lt_zero i)) (fun i hi=>absurd hi (Nat.not_lt_zero i)) (fun i hi=>absurd hi (Nat.not_lt_zero i))
theorem NdR.of_list{w:World}(k:Int)(s:ByteArray)(hs:s.size<=maxLen)(a:Addr)(len cap:Nat)(hl:len<=cap)(hm:cap<=maxLen)
  (h:∀ i,i < len->∃ (t:Nd) (v0 v1 v2:Value),(w.cell? (a.add (i*3))=some v0/\w.cell? (a.add (i*3+1))=some v1/\w.cell? (a.add (i*3+2))=some v2)/\NdR w t v0 v1 v2) :
  ∃ t,NdR w t (.int .i64 k) (.string s) (.slice (some a) len cap):=by
 obtain⟨l,hll,hq⟩:=q7o (Q:=fun i (q:Nd×Value×Value×Value)=>(w.cell? (a.add (i*3))=some q.2.1/\w.cell? (a.add (i*3+1))=some q.2.2.1/\w.cell? (a.add (i*3+2))=some q.2.2.2)/\NdR w q.1 q.2.1 q.2.2.1 q.2.2.2) len
  (fun i hi=>by obtain⟨t,v0,v1,v2,h1,h2⟩:=h i hi;exact⟨(t,v0,v1,v2),h1,h2⟩)
 have hlm:(l.map (·.1)).length=len:=by simp[hll]
 obtain⟨b,o,g⟩:=a;refine⟨.mk k s (l.map (·.1)),?_⟩;rw[<-hlm]
 by_cases hne:l=[]
 ·subst hne
  simp only[List.map_nil,qz];exact(qaa w k s hs (some ⟨b,o,g⟩) cap)
 ·have h0:0 < l.length:=List.length_pos_iff.2 hne
  have hg:g=none:=by
   have:=World.cell?_spot (hq 0 h0).1.1;simpa[Addr.add]using this
  subst hg
  have fi:∀ i,(hi:i < (l.map (·.1)).length)->∃ q,l[i]?=some q/\(l.map (·.1))[i]=q.1/\(w.cell? ⟨b,o+i*3,none⟩=some q.2.1/\w.cell? ⟨b,o+i*3+1,none⟩=some q.2.2.1/\w.cell? ⟨b,o+i*3+2,none⟩=some q.2.2.2)/\NdR w q.1 q.2.1 q.2.2.1 q.2.2.2:=fun i hi=>by
   have hi':i < l.length:=by simpa using hi
   obtain⟨⟨q0,q1,q2⟩,hr⟩:=hq i hi';rw[qch]at q0 q1 q2;refine⟨l[i],qq hi',by simp,⟨q0,?_,?_⟩,hr⟩
   ·rw[Nat.add_assoc];exact q1
   ·rw[Nat.add_assoc];exact q2
  refine .mk k s (l.map (·.1)) (some ⟨b,o,none⟩) cap b o (fun i=>((l[i]?).map (·.2.1)).getD undef) (fun i=>((l[i]?).map (·.2.2.1)).getD undef) (fun i=>((l[i]?).map (·.2.2.2)).getD undef) hs (by omega) (by omega) (fun _=>rfl) ?_ ?_ ?_ ?_
  all_goals intro i hi
  all_goals obtain⟨q,e,e1,⟨c0,c1,c2⟩,hr⟩:=fi i hi
  ·simp only[e,Option.map_some,Option.getD_some];exact c0
  ·simp only[e,Option.map_some,Option.getD_some];exact c1
  ·simp only[e,Option.map_some,Option.getD_some];exact c2
  ·simp only[e,Option.map_some,Option.getD_some];rw[e1];exact hr
theorem qhv:∀ (fuel:Nat) (cs:List Value) (x:DataW H×List MemPlace),DataW.trod enc Tryz.prog w base sp hd fuel 25 cs=some x->∃ t v0 v1 v2,cs=[v0,v1,v2]/\NdR w t v0 v1 v2:=by
 intro fuel
 induction fuel using Nat.strongRecOn with
 |ind fuel ih =>
  intro cs x h;obtain⟨xs,n,rfl,rfl,hl,hxs,hf⟩:=DataW.trod_struct Tryz.underlying25 h;have c:Tryz.prog.cellsOf 25=3:=by kernel_rfl
  have c9:Tryz.prog.cellsOf 9=1:=by kernel_rfl
  have c3:Tryz.prog.cellsOf 3=1:=by kernel_rfl
  have c22:Tryz.prog.cellsOf 23=1:=by kernel_rfl
  rw[c]at hl;have f0:DataW.trod enc Tryz.prog w base sp hd n 3 ((cs.drop 0).take (Tryz.prog.cellsOf 3))=xs[0]?:=hf 0 _ rfl;have f1:DataW.trod enc Tryz.prog w base sp hd n 9 ((cs.drop 1).take (Tryz.prog.cellsOf 9))=xs[1]?:=hf 1 _ rfl;have f2:DataW.trod enc Tryz.prog w base sp hd n 23 ((cs.drop 2).take (Tryz.prog.cellsOf 23))=xs[2]?:=hf 2 _ rfl;rw[c3]at f0;rw[c9]at f1;rw[c22]at f2
  match xs,hxs,f0,f1,f2 with
  |[x0,x1,x2],_,f0,f1,f2 =>
   obtain⟨k,e0,_,_⟩:=DataW.trod_int Tryz.underlying3 f0;obtain⟨s,e1,_,hs⟩:=DataW.trod_string Tryz.underlying9 f1;rcases DataW.trod_slice Tryz.underlying23 f2 with ⟨e2,_⟩|⟨a,len,cap,elems,rest,m,hfu,e2,_,hb,hlc,hm,hlen,hel,_,_⟩
   ·match cs,hl,e0,e1,e2 with
    |[u0,u1,u2],_,e0,e1,e2 =>
     simp at e0 e1 e2;subst e0 e1 e2;exact⟨.mk k s [],_,_,_,rfl,qaa w k s hs none 0⟩
   ·match cs,hl,e0,e1,e2 with
    |[u0,u1,u2],_,e0,e1,e2 =>
     simp at e0 e1 e2;subst e0 e1 e2
     obtain⟨t,ht⟩:=NdR.of_list k s hs a len cap hlc hm (fun i hi=>by
      have hE:=hel i hi;rw[c]at hE;have hxi:elems[i]?=some (elems[i]'(by omega)):=qq (by omega);rw[hxi]at hE;simp only[Option.bind_eq_some_iff]at hE;obtain⟨c1,hc1,hy1⟩:=hE;obtain⟨t,w0,w1,w2,rfl,hr⟩:=ih m (by omega) _ _ hy1;obtain⟨_,_,hat⟩:=World.cells?_some hc1;refine⟨t,w0,w1,w2,⟨?_,?_,?_⟩,hr⟩
      ·have:=hat 0 (by omega);rw[Go.Deep.add_add]at this;simpa using this
      ·have:=hat 1 (by omega);rw[Go.Deep.add_add]at this;simpa using this
      ·have:=hat 2 (by omega);rw[Go.Deep.add_add]at this;simpa using this)
     exact⟨t,_,_,_,rfl,ht⟩
theorem qhu{v:Value}{d:DataW H}{p:List MemPlace}{r:Reach}{b0:Nat}(hv:Value.okWide Tryz.prog w r b0 25 v)(h:DataW.Trod enc Tryz.prog w base sp hd 25 v d p):∃ t v0 v1 v2,v = .agg #[v0,v1,v2]/\NdR w t v0 v1 v2:=by
 obtain⟨cs,rfl,_⟩:=okWide_struct Tryz.underlying25 hv;obtain⟨fuel,hf⟩:=h;obtain⟨t,v0,v1,v2,e,hr⟩:=qhv fuel _ _ hf;have e':cs=#[v0,v1,v2]:=Array.toList_inj.1 e;rw[e'];exact⟨t,v0,v1,v2,rfl,hr⟩
end
end Go.Proofs.YtkckddojlignpaaGreatDoor
