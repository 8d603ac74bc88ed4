/- A part of the proof, packed: see the last text of this claim. -/
import Derived.Test.YtkckddojlignpaaGreatDoorPkBa
import Derived.Test.YtkckddojlignpaaGreatDoorPkBb
import Derived.Test.YtkckddojlignpaaGreatDoorPkBc
import Derived.Deep.RegionHeld3
import Derived.RangeFuncNested
import Derived.RangeFuncCalls
import Derived.RangeFuncLeaves
import Derived.Shelf.Abstract
import Derived.OwnWalkIn
import Derived.TacticsInMore
import Derived.LoopNIn
import Derived.LoopIn
import Derived.Lib.IndexLaws
import Derived.Lib.BufferRead
import Derived.Maps.AppendAt
import Derived.Lib.AppendStr
import Derived.Laws.Externs
import Derived.Lib.OthersKept
set_option maxHeartbeats 20000000
set_option maxRecDepth 100000
namespace Go.Proofs.YtkckddojlignpaaGreatDoor
open Go.RowKit
theorem qdy(k:Int)(s:ByteArray)(a:Option Addr)(n cap:Nat)(w:World) :
  Calls Tryz.prog 183 #[.agg #[.int .i64 k,.string s,.slice a n cap]] w fun e w'=>e = .returned (.bool (y3 k))/\Below w.heap.size w w':=by
 have HB:=qh ((Below.refl w.heap.size w).alloc (q5 _) (.cells #[.int .i64 k,.string s,.slice a n cap] 25));obtain⟨R,hR⟩:∃ R,y3 k=R:=⟨_,rfl⟩;have HR:=qh hR;rw[hR];clear hR
 cases h1:(k==17)with
 |true =>
  have HS:Hid (R=true):=qh (by rw[<-HR.out];unfold y3;rw[h1];rfl);go_enter Tryz.func183,Tryz.ntmps183;go_wp2;go_ret;exact⟨by rw[HS.out];rfl,HB.out⟩
 |false =>
  cases h2:(k==18)with
  |true =>
   have HS:Hid (R=true):=qh (by rw[<-HR.out];unfold y3;rw[h1,h2];rfl);go_enter Tryz.func183,Tryz.ntmps183;go_wp2;go_ret;exact⟨by rw[HS.out];rfl,HB.out⟩
  |false =>
   cases h3:(k==19)with
   |true =>
    have HS:Hid (R=true):=qh (by rw[<-HR.out];unfold y3;rw[h1,h2,h3];rfl);go_enter Tryz.func183,Tryz.ntmps183;go_wp2;go_ret;exact⟨by rw[HS.out];rfl,HB.out⟩
   |false =>
    have HS:Hid (R=false):=qh (by rw[<-HR.out];unfold y3;rw[h1,h2,h3];rfl);go_enter Tryz.func183,Tryz.ntmps183;go_wp2;go_ret;exact⟨by rw[HS.out];rfl,HB.out⟩
theorem qpd:(Tryz.prog.info? 3).map (fun i=>(i.zero,i.size,i.bytes))=some (some (.int .i64 0),1,8):=by kernel_rfl
theorem qaq:(Tryz.prog.info? 9).map (fun i=>(i.zero,i.size,i.bytes))=some (some (.string ⟨#[]⟩),1,16):=by kernel_rfl
def kg(n₁:Nat)(W:World)(v:Value)(ps:List Value):Prop:=W.ownsRow n₁ 3 1 v ps.length ps
def x9(n₁:Nat)(W:World)(v:Value)(ss:List ByteArray):Prop:=W.ownsRow n₁ 9 1 v (ss.map Value.string).length (ss.map Value.string)
def RowP(W:World)(b:Nat)(v0 v1 v2:Value):Prop:=W.heap[b]?=some (.cells #[v0,v1,v2] 85 (0,0))
section
variable {W:World} {b:Nat} {v0 v1 v2:Value}
theorem RowP.cells(h:RowP W b v0 v1 v2):(W.cell? ⟨b,0,none⟩=some v0/\W.cell? ⟨b,1,none⟩=some v1/\W.cell? ⟨b,2,none⟩=some v2)/\W.frozen? ⟨b,0,none⟩=false/\W.frozen? ⟨b,1,none⟩=false/\W.frozen? ⟨b,2,none⟩=false:=by
 have h0:W.heap[b]?=some (.cells #[v0,v1,v2] 85 (0,0)):=h;exact⟨⟨qk _ _ _ _ _ _ h0,qk _ _ _ _ _ _ h0,qk _ _ _ _ _ _ h0⟩,by simp[World.frozen?,h0],by simp[World.frozen?,h0],by simp[World.frozen?,h0]⟩
theorem RowP.lt(h:RowP W b v0 v1 v2):b < W.heap.size:=za h
theorem RowP.put(h:RowP W b v0 v1 v2)(u0 u1 u2:Value):RowP (((W.setCell ⟨b,0,none⟩ u0).setCell ⟨b,1,none⟩ u1).setCell ⟨b,2,none⟩ u2) b u0 u1 u2:=by
 have h0:W.heap[b]?=some (.cells #[v0,v1,v2] 85 (0,0)):=h;exact(xl (xl (xl h0))).trans rfl
theorem q6c{fn:Func}{t:Nat}{a:Act}{R:Ending->World->Prop}(h:RowP W b v0 v1 v2)(hr:fn.results=#[ResultVar.cell t 85])(hd:a.defers=[])(ha:(a.tmps[t]?).getD undef = .pointer (some ⟨b,0,none⟩))
  (hR:R (.returned (.agg #[v0,v1,v2])) W):bodyPost Tryz.prog fn R .ret a W:=by
 obtain⟨⟨c0,c1,c2⟩,_⟩:=h.cells;exact bodyPost_ret (v:=.agg #[v0,v1,v2]) (by simp[results,hr,go_sem,ha,c0,c1,c2]) hd hR
end
def qoi(n₁:Nat)(vp vi:Value)(ps:List Value)(ss:List ByteArray)(p:Value)(ss':List ByteArray)(wd:Bool)(W:World)(e:Ending)(W':World):Prop :=
 ∃ (ap ai:Option Addr) (cp ci:Nat),e = .returned (.agg #[.slice ap (ps++[p]).length cp,.slice ai ss'.length ci,.bool wd]) /\
  kg n₁ W' (.slice ap (ps++[p]).length cp) (ps++[p])/\x9 n₁ W' (.slice ai ss'.length ci) ss'/\kg n₁ W' vp ps/\x9 n₁ W' vi ss/\W.heap.size<=W'.heap.size /\
  (∀ b,b < W.heap.size->vp.ownBlock≠some b->vi.ownBlock≠some b->W'.heap[b]?=W.heap[b]?) /\
  Below n₁ W W' /\
  (∀ g,(Value.slice ap (ps++[p]).length cp).ownBlock=some g->vp.ownBlock=some g\/W.heap.size<=g) /\
  (∀ g,(Value.slice ai ss'.length ci).ownBlock=some g->vi.ownBlock=some g\/W.heap.size<=g)
theorem q2l(W:World)(u:Value)(t:TypeId)(n:Nat)(hn:n=W.heap.size):∀ (j:Nat) (x:Value),[u][j]?=some x->(W.alloc (.cells #[u] t)).cell? ((⟨n,0,none⟩:Addr).add j)=some x:=by
 intro j x hj
 have h0:j=0:=by
  rcases j with _|j
  ·rfl
  ·simp at hj
 subst h0;subst hn;simp at hj;subst hj;have hadd:(⟨W.heap.size,0,none⟩:Addr).add 0=⟨W.heap.size,0,none⟩:=by unfold Addr.add;split <;> simp_all
 rw[hadd,World.cell?_alloc_at _ _ _ _ rfl];rfl
theorem qps(W:World)(u:Value)(t:TypeId)(o:Obj):∀ (j:Nat) (x:Value),[u][j]?=some x->((W.alloc (.cells #[u] t)).alloc o).drew.cell? ((⟨W.heap.size,0,none⟩:Addr).add j)=some x:=by
 intro j x hj
 have h0:j=0:=by
  rcases j with _|j
  ·rfl
  ·simp at hj
 subst h0;have hadd:(⟨W.heap.size,0,none⟩:Addr).add 0=⟨W.heap.size,0,none⟩:=by unfold Addr.add;split <;> simp_all
 have:=q2l W u t _ rfl 0 x hj;rw[hadd]at this ⊢;exact(show((W.alloc (.cells #[u] t)).alloc o).cell? _=_ from(World.cell?_alloc_past _ _ _ (by simp)).trans this)
def Mid(n₁ h:Nat)(W w6:World)(ap:Value)(ai:Value)(wd:Bool)(k:Int)(s:ByteArray)(v2:Value)(ss:List ByteArray):Prop :=
 RowP w6 h ap ai (.bool wd)/\Row3 w6 (h+1) (.int .i64 k) (.string s) v2/\RowP w6 (h+1+1) (.slice none 0 0) (.slice none 0 0) (.bool false)/\x9 n₁ w6 ai ss/\W.heap.size<=w6.heap.size /\
  (∀ b,b < W.heap.size->ap.ownBlock≠some b->w6.heap[b]?=W.heap[b]?)/\Below n₁ W w6
theorem qoa{n₁ h:Nat}{W w6:World}{ap u:Value}{t:TypeId}(hz:h+1+1+1<=W.heap.size)(hown:∀ g,ap.ownBlock=some g->n₁<=g/\g < h)
  (hg:((W.alloc (.cells #[u] t)).alloc (.cells #[.slice none 0 0,.slice none 0 0,.bool false] 85)).drew.grownBy w6 ap.ownBlock):RowP w6 (W.heap.size+1) (.slice none 0 0) (.slice none 0 0) (.bool false):=by
 refine(hg.block _ (show W.heap.size+1 < ((W.alloc (.cells #[u] t)).alloc (.cells #[.slice none 0 0,.slice none 0 0,.bool false] 85)).heap.size by simp) (fun e=>by have:=hown _ e.symm;omega)).trans ?_;exact(show((W.alloc (.cells #[u] t)).alloc (.cells #[.slice none 0 0,.slice none 0 0,.bool false] 85)).heap[_]?=_ from x6 (by simp))
theorem q2w{W:World}{n₁:Nat}{vp vi:Value}{ps:List Value}{ss:List ByteArray}(h:kg n₁ W vp ps)(h':x9 n₁ W vi ss):∀ g,vp.ownBlock=some g->vi.ownBlock≠some g:=by
 intro g h1 h2;rcases h.2 with ⟨rfl,_⟩|⟨g1,_,_,rfl,_,e1,_⟩
 ·cases h1
 ·rcases h'.2 with ⟨rfl,_⟩|⟨g2,_,_,rfl,_,e2,_⟩
  ·cases h2
  ·simp only[Value.ownBlock,Option.some.injEq]at h1 h2
   rw[h1]at e1;rw[h2]at e2;rw[e1]at e2;exact absurd (Obj.cells.inj (zc e2)).2.1 (by decide)
theorem qpr(W:World)(u:Value)(t:TypeId)(o:Obj):∀ (j:Nat) (x:Value),[u][j]?=some x->((W.alloc o).alloc (.cells #[u] t)).drew.cell? ((⟨W.heap.size+1,0,none⟩:Addr).add j)=some x :=
 fun j x hj=>(show((W.alloc o).alloc (.cells #[u] t)).cell? _=_ from q2l (W.alloc o) u t (W.heap.size+1) (by simp) j x hj)
theorem qo9{n₁ h:Nat}{W w6:World}{ap u:Value}{t:TypeId}(hz:h+1+1+1<=W.heap.size)(hown:∀ g,ap.ownBlock=some g->n₁<=g/\g < h)
  (hg:((W.alloc (.cells #[.slice none 0 0,.slice none 0 0,.bool false] 85)).alloc (.cells #[u] t)).drew.grownBy w6 ap.ownBlock):RowP w6 W.heap.size (.slice none 0 0) (.slice none 0 0) (.bool false):=by
 refine(hg.block _ (show W.heap.size < ((W.alloc (.cells #[.slice none 0 0,.slice none 0 0,.bool false] 85)).alloc (.cells #[u] t)).heap.size by simp;omega) (fun e=>by have:=hown _ e.symm;omega)).trans ?_;exact(show((W.alloc (.cells #[.slice none 0 0,.slice none 0 0,.bool false] 85)).alloc (.cells #[u] t)).heap[_]?=_ from(Below.heap_alloc _ _ _ (by simp)).trans (qm _ _))
structure MidV(n₁ h:Nat)(W V:World)(D:Nat)(v' vp vi:Value)(ps:List Value)(ss:List ByteArray)(p:Value)(wd k7:Bool)(k:Int)(s:ByteArray)(v2:Value):Prop where
 d:RowP V D v' vi (.bool k7)
 a:RowP V h vp vi (.bool wd)
 n:Row3 V (h+1) (.int .i64 k) (.string s) v2
 r:RowP V (h+1+1) (.slice none 0 0) (.slice none 0 0) (.bool false)
 q:kg n₁ V v' (ps++[p])
 p:kg n₁ V vp ps
 s:x9 n₁ V vi ss
 z:h+1+1+1<=D
 k:∀ b,b < h->vp.ownBlock≠some b->V.heap[b]?=W.heap[b]?
 o:∀ g,v'.ownBlock=some g->vp.ownBlock=some g\/h<=g
 x:Below n₁ W V
theorem q4n{n₁:Nat}{w:World}{v:Value}{ps:List Value}{D:Nat}{x y z:Value}(h:kg n₁ w v ps)(hD:RowP w D x y z):∀ g,v.ownBlock=some g->g≠D:=by
 intro g h1 e;subst e;rcases h.2 with ⟨rfl,_⟩|⟨g1,_,_,rfl,_,e1,_⟩
 ·cases h1
 ·simp only[Value.ownBlock,Option.some.injEq]at h1
  rw[h1]at e1;have e2:w.heap[g]?=some (.cells #[x,y,z] 85 (0,0)):=hD;rw[e1]at e2;exact absurd (Obj.cells.inj (zc e2)).2.1 (by decide)
theorem q36{n₁:Nat}{w:World}{v:Value}{ps:List ByteArray}{D:Nat}{x y z:Value}(h:x9 n₁ w v ps)(hD:RowP w D x y z):∀ g,v.ownBlock=some g->g≠D:=by
 intro g h1 e;subst e;rcases h.2 with ⟨rfl,_⟩|⟨g1,_,_,rfl,_,e1,_⟩
 ·cases h1
 ·simp only[Value.ownBlock,Option.some.injEq]at h1
  rw[h1]at e1;have e2:w.heap[g]?=some (.cells #[x,y,z] 85 (0,0)):=hD;rw[e1]at e2;exact absurd (Obj.cells.inj (zc e2)).2.1 (by decide)
theorem qqy{n₁ h:Nat}{W W3 w6:World}{D:Nat}{v' vp vi:Value}{ps:List Value}{ss:List ByteArray}{p:Value}{wd k7:Bool}{k:Int}{s:ByteArray}{v2:Value}(hn:n₁<=h)(hx:Below n₁ W W3)(hz3:h+1+1+1<=W3.heap.size)(hk3:∀ b,b < h->W3.heap[b]?=W.heap[b]?)
  (M:Mid n₁ h W3 w6 vp vi wd k s v2 ss) (hD:RowP w6 D (.slice none 0 0) (.slice none 0 0) (.bool false)) (hDz:h+1+1+1<=D) (Q:kg n₁ w6 v' (ps++[p])) (P:kg n₁ w6 vp ps) (o:∀ g,v'.ownBlock=some g->vp.ownBlock=some g\/h<=g) :
  MidV n₁ h W (((w6.setCell ⟨D,0,none⟩ v').setCell ⟨D,1,none⟩ vi).setCell ⟨D,2,none⟩ (.bool k7)) D v' vp vi ps ss p wd k7 k s v2:=by
 obtain⟨m1,m2,m3,m4,m5,m6,m7⟩:=M
 have far:∀ b,b≠D->(((w6.setCell ⟨D,0,none⟩ v').setCell ⟨D,1,none⟩ vi).setCell ⟨D,2,none⟩ (.bool k7)).heap[b]?=w6.heap[b]?:=fun b hb =>
  (Below.heap_setCell _ _ _ _ (by simp only;exact hb)).trans ((Below.heap_setCell _ _ _ _ (by simp only;exact hb)).trans (Below.heap_setCell _ _ _ _ (by simp only;exact hb)))
 exact⟨hD.put _ _ _,(far _ (by omega)).trans m1,(far _ (by omega)).trans m2,(far _ (by omega)).trans m3,zd Q fun g e=>far g (q4n Q hD g e),zd P fun g e=>far g (q4n P hD g e),zd m4 fun g e=>far g (q36 m4 hD g e),hDz,
  fun b hb hne=>(far b (by omega)).trans ((m6 b (by omega) hne).trans (hk3 b hb)),o,(((hx.trans m7).setCell (p:=⟨D,0,none⟩) (by simp only;omega) _).setCell (p:=⟨D,1,none⟩) (by simp only;omega) _).setCell (p:=⟨D,2,none⟩) (by simp only;omega) _⟩
theorem qrn{n₁ h:Nat}{W W3 w6:World}{v' vp vi:Value}{ps:List Value}{ss:List ByteArray}{p:Value}{wd k7:Bool}{k:Int}{s:ByteArray}{v2:Value}(hn:n₁<=h)(hx:Below n₁ W W3)(hz3:h+1+1+1<=W3.heap.size)(hk3:∀ b,b < h->W3.heap[b]?=W.heap[b]?)
  (M:Mid n₁ h W3 w6 vp vi wd k s v2 ss) (Q:kg n₁ w6 v' (ps++[p])) (P:kg n₁ w6 vp ps) (o:∀ g,v'.ownBlock=some g->vp.ownBlock=some g\/h<=g) :
  MidV n₁ h W (w6.alloc (.cells #[v',vi,.bool k7] 85)) w6.heap.size v' vp vi ps ss p wd k7 k s v2:=by
 obtain⟨m1,m2,m3,m4,m5,m6,m7⟩:=M;have al:∀ b,b < w6.heap.size->(w6.alloc (.cells #[v',vi,.bool k7] 85)).heap[b]?=w6.heap[b]?:=fun b hb=>Below.heap_alloc _ _ _ hb
 exact⟨qm _ _,(al _ m1.lt).trans m1,(al _ m2.lt).trans m2,(al _ m3.lt).trans m3,zd Q fun g e=>al g (World.ownsRow.lt Q g e).2,zd P fun g e=>al g (World.ownsRow.lt P g e).2,zd m4 fun g e=>al g (World.ownsRow.lt m4 g e).2,by omega,fun b hb hne=>(al b (by omega)).trans ((m6 b (by omega) hne).trans (hk3 b hb)),o,(hx.trans m7).alloc (by omega) _⟩
theorem MidV.later{n₁ h:Nat}{W V V':World}{D:Nat}{v' vp vi:Value}{ps:List Value}{ss:List ByteArray}{p:Value}{wd k7:Bool}{k:Int}{s:ByteArray}{v2:Value}(M:MidV n₁ h W V D v' vp vi ps ss p wd k7 k s v2)(hb:Below V.heap.size V V')(hh:h<=V.heap.size)(hn:n₁<=h):MidV n₁ h W V' D v' vp vi ps ss p wd k7 k s v2 :=
 ⟨(hb.block _ M.d.lt).trans M.d,(hb.block _ M.a.lt).trans M.a,(hb.block _ M.n.lt).trans M.n,(hb.block _ M.r.lt).trans M.r,zd M.q fun g e=>hb.block g (World.ownsRow.lt M.q g e).2,zd M.p fun g e=>hb.block g (World.ownsRow.lt M.p g e).2,zd M.s fun g e=>hb.block g (World.ownsRow.lt M.s g e).2,M.z,fun b h1 h2=>(hb.block b (by omega)).trans (M.k b h1 h2),M.o,M.x.trans (hb.mono (by omega))⟩
theorem qau{n₁ h:Nat}{W V F:World}{D:Nat}{g cap:Nat}{vp vi:Value}{ps:List Value}{ss:List ByteArray}{p:Value}{wd k7:Bool}{k:Int}{s:ByteArray}{v2:Value}(M:MidV n₁ h W V D (.slice (some ⟨g,0,none⟩) (ps++[p]).length cap) vp vi ps ss p wd k7 k s v2)(hh:W.heap.size=h)
  (hF:∀ b,b < V.heap.size->b≠D->b≠h+1+1->vi.ownBlock≠some b->F.heap[b]?=V.heap[b]?) (hsz:V.heap.size<=F.heap.size) (hx:Below n₁ V F) {ai:Option Addr} {ci:Nat} {ss':List ByteArray} (hv:x9 n₁ F (.slice ai ss'.length ci) ss') (hvi:x9 n₁ F vi ss)
  (hown:∀ g,vp.ownBlock=some g->n₁<=g/\g < h) (hap:∀ g,vp.ownBlock=some g->vi.ownBlock≠some g) (ho:∀ g,(Value.slice ai ss'.length ci).ownBlock=some g->vi.ownBlock=some g\/W.heap.size<=g) :
  qoi n₁ vp vi ps ss p ss' k7 W (.returned (.agg #[.slice (some ⟨g,0,none⟩) (ps++[p]).length cap,.slice ai ss'.length ci,.bool k7])) F:=by
 have l1:=M.r.lt;have hz:=M.z;refine⟨_,_,_,_,rfl,?_,hv,?_,hvi,by omega,fun b hb h1 h2=>?_,M.x.trans hx,fun g' e=>by rw[hh];exact M.o g' e,ho⟩
 ·exact zd M.q fun g' e=>hF g' (World.ownsRow.lt M.q g' e).2 (q4n M.q M.d g' e) (q4n M.q M.r g' e) (q2w M.q M.s g' e)
 ·exact zd M.p fun g' e=>hF g' (World.ownsRow.lt M.p g' e).2 (by have:=hown g' e;omega) (by have:=hown g' e;omega) (hap g' e)
 ·exact(hF b (by omega) (by omega) (by omega) h2).trans (M.k b (by omega) h1)
def qrb(n₁ h:Nat)(W3:World)(vp:Value)(ps:List Value)(w:World):Prop:=(∀ b,b < h+1+1+1->vp.ownBlock≠some b->w.heap[b]?=W3.heap[b]?)/\kg n₁ w vp ps/\h+1+1+1<=w.heap.size/\Below n₁ W3 w
section
variable {n₁ h:Nat} {W3:World} {vp vi u:Value} {ps:List Value} {w w':World}
abbrev Sb(n₁ h:Nat)(W3:World)(vp vi u:Value)(ps:List Value)(w:World):Prop:=w.cell? ⟨h,0,none⟩=some vp/\w.cell? ⟨h,1,none⟩=some vi/\w.cell? ⟨h+1,0,none⟩=some u/\Hid (qrb n₁ h W3 vp ps w)
theorem qja(hk:∀ b,b < h+1+1+1->vp.ownBlock≠some b->w'.heap[b]?=w.heap[b]?)(hr:kg n₁ w' vp ps)(hz:w.heap.size<=w'.heap.size)(hx:Below n₁ w w')(hown:∀ g,vp.ownBlock=some g->n₁<=g/\g < h)(H:Sb n₁ h W3 vp vi u ps w):Sb n₁ h W3 vp vi u ps w':=by
 obtain⟨c0,c1,c2,hb⟩:=H;have far:∀ b,h<=b->vp.ownBlock≠some b:=fun b hb e=>by have:=hown b e;omega
 exact⟨(World.cell?_of_block (hk h (by omega) (far _ (by omega)))).trans c0,(World.cell?_of_block (hk h (by omega) (far _ (by omega)))).trans c1,(World.cell?_of_block (hk (h+1) (by omega) (far _ (by omega)))).trans c2,
  qh ⟨fun b hb1 hb2=>(hk b hb1 hb2).trans (hb.out.1 b hb1 hb2),hr,ql hb.out.2.2.1 hz,hb.out.2.2.2.trans hx⟩⟩
theorem q8r{o:Obj}(hn:n₁<=h)(hown:∀ g,vp.ownBlock=some g->n₁<=g/\g < h)(H:Sb n₁ h W3 vp vi u ps w):Sb n₁ h W3 vp vi u ps (w.alloc o) :=
 qja (fun b hb _=>Below.heap_alloc _ _ _ (by have:=H.2.2.2.out.2.2.1;omega)) (zd H.2.2.2.out.2.1 fun g e=>Below.heap_alloc _ _ _ (by have:=hown g e;have:=H.2.2.2.out.2.2.1;omega)) (by simp) ((Below.refl _ w).alloc (by have:=H.2.2.2.out.2.2.1;omega) _) hown H
theorem qgt(H:Sb n₁ h W3 vp vi u ps w):Sb n₁ h W3 vp vi u ps w.drew:=⟨H.1,H.2.1,H.2.2.1,qh ⟨H.2.2.2.out.1,H.2.2.2.out.2.1,H.2.2.2.out.2.2.1,H.2.2.2.out.2.2.2.drew⟩⟩
theorem qm6(H:Sb n₁ h W3 vp vi u ps w.drew):Sb n₁ h W3 vp vi u ps w:=⟨H.1,H.2.1,H.2.2.1,qh ⟨H.2.2.2.out.1,H.2.2.2.out.2.1,H.2.2.2.out.2.2.1,⟨H.2.2.2.out.2.2.2.os,H.2.2.2.out.2.2.2.tape,H.2.2.2.out.2.2.2.output,H.2.2.2.out.2.2.2.size,H.2.2.2.out.2.2.2.block⟩⟩⟩
theorem qm7{o:Obj}(hn:n₁<=h)(hown:∀ g,vp.ownBlock=some g->n₁<=g/\g < h)(H:Sb n₁ h W3 vp vi u ps w.drew):Sb n₁ h W3 vp vi u ps (w.alloc o).drew:=qgt (q8r hn hown (qm6 H))
theorem qo2(hn:n₁<=h)(hown:∀ g,vp.ownBlock=some g->n₁<=g/\g < h)(hg:w.grownBy w' vp.ownBlock)(hr:kg n₁ w' vp ps)(H:Sb n₁ h W3 vp vi u ps w):Sb n₁ h W3 vp vi u ps w' :=
 qja (fun b hb hne=>hg.block b (by have:=H.2.2.2.out.2.2.1;omega) (fun e=>hne e.symm)) hr hg.size ((Below.refl _ w).grown hg (by have:=H.2.2.2.out.2.2.1;omega) (fun k e=>(hown k e).1)) hown H
theorem qgs{D:Nat}{u0 u1 u2:Value}(hn:n₁<=h)(hown:∀ g,vp.ownBlock=some g->n₁<=g/\g < h)(hD:h+1+1+1<=D)(H:Sb n₁ h W3 vp vi u ps w):Sb n₁ h W3 vp vi u ps (((w.setCell ⟨D,0,none⟩ u0).setCell ⟨D,1,none⟩ u1).setCell ⟨D,2,none⟩ u2):=by
 have far:∀ b,b≠D->(((w.setCell ⟨D,0,none⟩ u0).setCell ⟨D,1,none⟩ u1).setCell ⟨D,2,none⟩ u2).heap[b]?=w.heap[b]?:=fun b hb =>
  (Below.heap_setCell _ _ _ _ (by simp only;exact hb)).trans ((Below.heap_setCell _ _ _ _ (by simp only;exact hb)).trans (Below.heap_setCell _ _ _ _ (by simp only;exact hb)))
 exact qja (fun b hb _=>far b (by omega)) (zd H.2.2.2.out.2.1 fun g e=>far g (by have:=hown g e;omega)) (by simp) ((((Below.refl _ w).setCell (p:=⟨D,0,none⟩) (by simp only;omega) _).setCell (p:=⟨D,1,none⟩) (by simp only;omega) _).setCell (p:=⟨D,2,none⟩) (by simp only;omega) _) hown H
theorem qr9(H:Sb n₁ h W3 vp vi u ps w):kg n₁ w vp ps:=H.2.2.2.out.2.1
theorem qel{wd:Bool}{k:Int}{s:ByteArray}{v2:Value}{ss:List ByteArray}(hz:W3.heap.size=h+1+1+1)(hown:∀ g,vp.ownBlock=some g->n₁<=g/\g < h)
  (hA:RowP W3 h vp vi (.bool wd)) (hN:Row3 W3 (h+1) (.int .i64 k) (.string s) v2) (hR:RowP W3 (h+1+1) (.slice none 0 0) (.slice none 0 0) (.bool false)) (hS:x9 n₁ W3 vi ss) (hap:∀ g,vp.ownBlock=some g->vi.ownBlock≠some g)
  (H:Sb n₁ h W3 vp vi u ps w):Mid n₁ h W3 w vp vi wd k s v2 ss:=by
 have hb:=H.2.2.2.out;have far:∀ b,h<=b->vp.ownBlock≠some b:=fun b hb e=>by have:=hown b e;omega
 exact⟨(hb.1 h (by omega) (far _ (by omega))).trans hA,(hb.1 _ (by omega) (far _ (by omega))).trans hN,(hb.1 _ (by omega) (far _ (by omega))).trans hR,zd hS fun g e=>hb.1 g (by have:=(World.ownsRow.lt hS g e).2;omega) (fun e2=>hap g e2 e),by have:=hb.2.2.1;omega,fun b h1 h2=>hb.1 b (by omega) h2,hb.2.2.2⟩
end
theorem qpt(W:World)(u:Value)(t:TypeId):∀ (j:Nat) (x:Value),[u][j]?=some x->(W.alloc (.cells #[u] t)).drew.cell? ((⟨W.heap.size,0,none⟩:Addr).add j)=some x :=
 fun j x hj=>(show(W.alloc (.cells #[u] t)).cell? _=_ from q2l W u t _ rfl j x hj)
theorem q6b{n₁:Nat}{w:World}{g cap:Nat}{ps:List Value}{p:Value}(h:w.ownsRow n₁ 3 1 (.slice (some ⟨g,0,none⟩) (ps.length+1) cap) (ps.length+1) (ps++[p])):kg n₁ w (.slice (some ⟨g,0,none⟩) (ps.length+1) cap) (ps++[p]):=by
 have e:(ps++[p]).length=ps.length+1:=by simp
 unfold kg;rw[e];exact h
theorem q2f{n₁:Nat}{w:World}{g cap:Nat}{ss:List ByteArray}{x:ByteArray}(h:w.ownsRow n₁ 9 1 (.slice (some ⟨g,0,none⟩) ((ss.map Value.string).length+1) cap) ((ss.map Value.string).length+1) (ss.map Value.string++[.string x])):x9 n₁ w (.slice (some ⟨g,0,none⟩) (ss++[x]).length cap) (ss++[x]):=by
 unfold x9;have e1:(ss++[x]).map Value.string=ss.map Value.string++[.string x]:=by simp
 have e2:((ss++[x]).map Value.string).length=(ss.map Value.string).length+1:=by simp
 have e3:(ss++[x]).length=(ss.map Value.string).length+1:=by simp
 rw[e2,e3,e1];exact h
theorem q2h{vp:Value}{g n cap h z:Nat}(hg:vp.ownBlock=some g\/z<=g)(hz:h<=z):∀ g',(Value.slice (some ⟨g,0,none⟩) n cap).ownBlock=some g'->vp.ownBlock=some g'\/h<=g':=by
 intro g' e;simp only[Value.ownBlock,Option.some.injEq]at e;subst e;rcases hg with hg|hg
 ·exact .inl hg
 ·exact .inr (ql hz hg)
theorem qm1(n₁:Nat)(k:Int)(s:ByteArray)(a:Option Addr)(len cap i:Nat)(ap ai:Option Addr)(cp ci:Nat)(ps:List Value)(ss:List ByteArray)(wd:Bool)(W:World)(hn:n₁<=W.heap.size)
  (hp:kg n₁ W (.slice ap ps.length cp) ps) (hs:x9 n₁ W (.slice ai ss.length ci) ss) (hpl:ps.length<=100000) (hsl:ss.length<=100000) (hlen:len<=maxLen) (_hi:i < len) (V:Bool) (hV:(y3 k && decide (i+1=len))=V) (ss':List ByteArray) (hss:(if V=true then ss++[s] else ss)=ss') :
  Calls Tryz.prog 122 #[.agg #[.slice ap ps.length cp,.slice ai ss.length ci,.bool wd],.agg #[.int .i64 k,.string s,.slice a len cap],.int .i64 i] W
   (qoi n₁ (.slice ap ps.length cp) (.slice ai ss.length ci) ps ss (.int .i64 i) ss' (k==7) W):=by
 unfold maxLen at hlen;obtain⟨iI,hI,hIz,hIs,hIb⟩:=info_parts qpd;obtain⟨iS,hS,hSz,hSs,hSb⟩:=info_parts qaq;have CB:=qh (fun w=>qdy k s a len cap w);have hap:=qh (q2w hp hs);have HX0:=qh hss;have HL1:Hid ((ps++[Value.int .i64 (i:Int)]).length=ps.length+1):=qh (by simp);clear hss;obtain⟨h,hh⟩:∃ h,W.heap.size=h:=⟨_,rfl⟩;have hownp:∀ g,(Value.slice ap ps.length cp).ownBlock=some g->n₁<=g/\g < h:=fun g e=>by rw[<-hh];exact World.ownsRow.lt hp g e
 have howns:∀ g,(Value.slice ai ss.length ci).ownBlock=some g->n₁<=g/\g < h:=fun g e=>by rw[<-hh];exact World.ownsRow.lt hs g e
 rw[hh]at hn;obtain⟨R,hR⟩:∃ R,y3 k=R:=⟨_,rfl⟩;rw[hR]at CB hV;obtain⟨K7,h7⟩:∃ K7,(k==7)=K7:=⟨_,rfl⟩;go_enter Tryz.func122,Tryz.ntmps122
 go_wp2_with fail
 obtain⟨W3,hW3⟩:∃ W3,((W.alloc (.cells #[.slice ap ps.length cp,.slice ai ss.length ci,.bool wd] 85)).alloc (.cells #[.int .i64 k,.string s,.slice a len cap] 25)).alloc (.cells #[.slice none 0 0,.slice none 0 0,.bool false] 85)=W3:=⟨_,rfl⟩;have z3:W3.heap.size=h+1+1+1:=by rw[<-hW3];simp[hh]
 have k3:∀ b,b < h->W3.heap[b]?=W.heap[b]?:=fun b hb=>by
  rw[<-hW3];exact(Below.heap_alloc _ _ _ (by simp only[q6];omega)).trans ((Below.heap_alloc _ _ _ (by simp only[q6];omega)).trans (Below.heap_alloc _ _ _ (by omega)))
 have A3:RowP W3 h (.slice ap ps.length cp) (.slice ai ss.length ci) (.bool wd):=by
  rw[<-hW3,<-hh];exact(Below.heap_alloc _ _ _ (by simp only[q6];omega)).trans ((Below.heap_alloc _ _ _ (by simp only[q6];omega)).trans (qm _ _))
 have N3:Row3 W3 (h+1) (.int .i64 k) (.string s) (.slice a len cap):=by
  rw[<-hW3,<-hh];exact(Below.heap_alloc _ _ _ (by simp only[q6];omega)).trans (x6 (by simp))
 have R3:RowP W3 (h+1+1) (.slice none 0 0) (.slice none 0 0) (.bool false):=by
  rw[<-hW3,<-hh];exact x6 (by simp)
 have P3:kg n₁ W3 (.slice ap ps.length cp) ps:=zd hp fun g hg=>k3 g (by have:=hownp g hg;omega)
 have S3:x9 n₁ W3 (.slice ai ss.length ci) ss:=zd hs fun g hg=>k3 g (by have:=howns g hg;omega)
 rw[hW3];have HW3:=qh k3;have HB3:Hid (Below n₁ W W3):=qh (by rw[<-hW3];exact(((Below.refl _ W).alloc (by omega) _).alloc (by simp only[q6];omega) _).alloc (by simp only[q6];omega) _);have Z3:=qh z3;have HA3:=qh A3;have HN3:=qh N3;have HR3:=qh R3;have HP3:=qh P3;have HS3:=qh S3;have HH:=qh hh;have H7:=qh h7;have HV:=qh hV;have HR:=qh hR;obtain⟨⟨a0,a1,a2⟩,_⟩:=A3.cells;obtain⟨⟨b0,b1,b2⟩,_⟩:=N3.cells;clear hW3 k3 z3 A3 N3 R3 P3 S3 hh hV hR hp hs;have a0':=fun o=>(World.cell?_alloc_past (w:=W3) o h 0 HA3.out.lt).trans a0
 have a1':=fun o=>(World.cell?_alloc_past (w:=W3) o h 1 HA3.out.lt).trans a1
 have b0':=fun o=>(World.cell?_alloc_past (w:=W3) o (h+1) 0 HN3.out.lt).trans b0
 have a0'':=fun o o'=>(World.cell?_alloc_past (w:=W3.alloc o) o' h 0 (by have:=HA3.out.lt;simp;omega)).trans (a0' o)
 have a1'':=fun o o'=>(World.cell?_alloc_past (w:=W3.alloc o) o' h 1 (by have:=HA3.out.lt;simp;omega)).trans (a1' o)
 have b0'':=fun o o'=>(World.cell?_alloc_past (w:=W3.alloc o) o' (h+1) 0 (by have:=HN3.out.lt;simp;omega)).trans (b0' o)
 go_upto_region 1 with fail
 go_cut [7] (fun v7 wx=>∃ D g cap',v7 = .pointer (some ⟨D,0,none⟩)/\Hid (MidV n₁ h W wx D (.slice (some ⟨g,0,none⟩) (ps++[Value.int .i64 i]).length cap') (.slice ap ps.length cp) (.slice ai ss.length ci) ps ss (Value.int .i64 i) wd K7 k s (.slice a len cap)))
 case first =>
  have S0:Sb n₁ h W3 (.slice ap ps.length cp) (.slice ai ss.length ci) (.int .i64 k) ps W3:=⟨a0,a1,b0,qh ⟨fun _ _ _=>rfl,HP3.out,by have:=Z3.out;omega,Below.refl _ _⟩⟩;have S1:=qgt S0;clear a0 a1 a2 b0 b1 b2
  go_region_held3 (fun w'=>w'.cell? ⟨h,0,none⟩=some (.slice ap ps.length cp)/\w'.cell? ⟨h,1,none⟩=some (.slice ai ss.length ci)/\w'.cell? ⟨h+1,0,none⟩=some (.int .i64 k)/\Hid (qrb n₁ h W3 (.slice ap ps.length cp) ps w'))
   (first|with_reducible exact S1|with_reducible exact S6|(with_reducible refine qm7 hn hownp ?_;with_reducible assumption)|(with_reducible refine q8r hn hownp ?_;with_reducible assumption)|exact qgs hn hownp (by have:=Z3.out;have:=S6.2.2.2.out.2.2.1;omega) S6|exact qgs hn hownp (by have:=Z3.out;have:=S6.2.2.2.out.2.2.1;omega) (q8r hn hownp S6))
   (first
    |(refine q90 _ rfl _ _ 83 rfl n₁ 3 iI _ 8 Tryz.underlying83 hI hIz hIs hIb rfl (.slice ap ps.length cp) ps rfl (qr9 (by with_reducible assumption)) _ _ (.int .i64 i) rfl (by first|with_reducible exact qpt _ _ _|with_reducible exact qps _ _ _ _|with_reducible exact qpr _ _ _ _) rfl (by unfold maxLen;omega) (by omega) (by have:=Z3.out;simp;omega) ?_;intro g6 cap6 w6 Q6 P6 G6 hg6;have S6:=qo2 hn hownp G6 P6 (by with_reducible assumption);first|(with_reducible have D6:=(qoa (Nat.le_of_eq Z3.out.symm) hownp G6).cells;obtain⟨⟨f0,f1,f2⟩,f3,f4,f5⟩:=D6)|(with_reducible have D6:=(qo9 (Nat.le_of_eq Z3.out.symm) hownp G6).cells;obtain⟨⟨f0,f1,f2⟩,f3,f4,f5⟩:=D6)|skip))
  all_goals (try go_wp2)
  all_goals go_meet
  ·refine⟨_,g6,cap6,rfl,qh ?_⟩
   rw[HL1.out];exact(qrn hn HB3.out (Nat.le_of_eq Z3.out.symm) HW3.out (qel Z3.out hownp HA3.out HN3.out HR3.out HS3.out hap.out S6) (q6b Q6) P6 (q2h hg6 (by have:=Z3.out;simp;omega)))
  ·refine⟨_,g6,cap6,rfl,qh ?_⟩
   rw[HL1.out];exact(qqy hn HB3.out (Nat.le_of_eq Z3.out.symm) HW3.out (qel Z3.out hownp HA3.out HN3.out HR3.out HS3.out hap.out S6) (qoa (Nat.le_of_eq Z3.out.symm) hownp G6) (by have:=Z3.out;omega) (q6b Q6) P6 (q2h hg6 (by have:=Z3.out;simp;omega)))
  ·refine⟨_,g6,cap6,rfl,qh ?_⟩
   rw[HL1.out];exact(qqy hn HB3.out (Nat.le_of_eq Z3.out.symm) HW3.out (qel Z3.out hownp HA3.out HN3.out HR3.out HS3.out hap.out S6) (qo9 (Nat.le_of_eq Z3.out.symm) hownp G6) (by have:=Z3.out;omega) (q6b Q6) P6 (q2h hg6 (by have:=Z3.out;simp;omega)))
 case rest =>
  obtain⟨D,g,cap',rfl,hM⟩:=hcut;clear a0 a1 a2 b0 b1 b2;obtain⟨⟨n0,n1,n2⟩,_⟩:=hM.out.n.cells
  go_wp2_with fail
  refine(CB.out _).mono ?_;rintro e w8⟨rfl,hb8⟩;clear n0 n1 n2 CB;have M8:=qh (hM.out.later hb8 (by have:=hM.out.r.lt;omega) hn);clear hb8 hM;obtain⟨⟨n0,n1,n2⟩,_⟩:=M8.out.n.cells;obtain⟨⟨d0,d1,d2⟩,df0,df1,df2⟩:=M8.out.d.cells;obtain⟨⟨a0,a1,a2⟩,_⟩:=M8.out.a.cells;obtain⟨⟨r0,r1,r2⟩,rf0,rf1,rf2⟩:=M8.out.r.cells
  cases R with
  |false =>
   have HXs:Hid (ss'=ss):=qh (by rw[<-HX0.out,q7 (by rw[<-HV.out];simp)]);clear HV HX0;go_wp2;refine q6c (RowP.put M8.out.r _ _ _) rfl rfl rfl ?_;rw[HXs.out,H7.out,<-HL1.out];refine qau M8.out HH.out (fun b _ _ hb _=>?_) ?_ ((((Below.refl n₁ w8).setCell (p:=⟨h+1+1,0,none⟩) (by simp only;omega) _).setCell (p:=⟨h+1+1,1,none⟩) (by simp only;omega) _).setCell (p:=⟨h+1+1,2,none⟩) (by simp only;omega) _) ?_ ?_ hownp hap.out (fun g e=>.inl e)
   ·exact(Below.heap_setCell _ _ _ _ (by simp only;omega)).trans ((Below.heap_setCell _ _ _ _ (by simp only;omega)).trans (Below.heap_setCell _ _ _ _ (by simp only;omega)))
   ·exact Nat.le_of_eq (by rw[qq,qq,qq])
   ·exact zd M8.out.s fun g e=>(Below.heap_setCell _ _ _ _ (by have:=howns g e;simp only;omega)).trans ((Below.heap_setCell _ _ _ _ (by have:=howns g e;simp only;omega)).trans (Below.heap_setCell _ _ _ _ (by have:=howns g e;simp only;omega)))
   ·exact zd M8.out.s fun g e=>(Below.heap_setCell _ _ _ _ (by have:=howns g e;simp only;omega)).trans ((Below.heap_setCell _ _ _ _ (by have:=howns g e;simp only;omega)).trans (Below.heap_setCell _ _ _ _ (by have:=howns g e;simp only;omega)))
  |true =>
   by_cases hil:i+1=len
   ·have hc:((i:Int)==(len:Int) - 1)=true:=by rw[beq_iff_eq];omega
    have HXs:Hid (ss'=ss++[s]):=qh (by rw[<-HX0.out,qa (by rw[<-HV.out,decide_eq_true hil];rfl)]);have HIL:=qh hil;clear HV HX0 hil;have z8:h+1+1+1 < w8.heap.size+1:=by have:=M8.out.d.lt;have:=M8.out.z;omega
    have Z8:=qh z8;clear z8
    go_wp2_with (at_builtin;refine q7i _ rfl _ _ 42 rfl n₁ 9 iS _ 16 Tryz.underlying42 hS hSz hSs hSb rfl (.slice ai ss.length ci) (ss.map Value.string) rfl (zd M8.out.s fun g e=>Below.heap_alloc _ _ _ (World.ownsRow.lt M8.out.s g e).2) _ _ (.string s) rfl (q2l _ _ _ _ rfl) rfl (by simp only[qv];unfold maxLen;omega) (by simp only[qv];omega) (by have:=Z8.out;simp only[q6];omega) ?_;intro g9 cap9 w9 Q9 P9 G9 hg9;have D9:=qh (show RowP w9 D _ _ _ from(G9.block D (by have:=M8.out.d.lt;simp only[q6];omega) (fun e=>by have:=howns D e.symm;have:=M8.out.z;omega)).trans ((Below.heap_alloc _ _ _ M8.out.d.lt).trans M8.out.d));have R9:=qh (show RowP w9 (h+1+1) _ _ _ from(G9.block (h+1+1) (by have:=M8.out.r.lt;simp only[q6];omega) (fun e=>by have:=howns _ e.symm;omega)).trans ((Below.heap_alloc _ _ _ M8.out.r.lt).trans M8.out.r));obtain⟨⟨x0,x1,x2⟩,xf0,xf1,xf2⟩:=D9.out.cells;obtain⟨⟨y0,y1,y2⟩,yf0,yf1,yf2⟩:=R9.out.cells;have hDh:D≠h+1+1:=by have:=M8.out.z;omega)
    have Q9':Hid (x9 n₁ w9 (.slice (some ⟨g9,0,none⟩) (ss++[s]).length cap9) (ss++[s])):=qh (q2f Q9);have P9':Hid (x9 n₁ w9 (.slice ai ss.length ci) ss):=qh P9;have e9:ss.length+1=(ss++[s]).length:=by simp
    refine q6c (RowP.put (show RowP (w9.setCell ⟨D,1,none⟩ _) (h+1+1) _ _ _ from(Below.heap_setCell _ _ _ _ (by simp only;omega)).trans R9.out) _ _ _) rfl rfl rfl ?_;rw[HXs.out,H7.out,<-HL1.out,e9]
    have far:∀ (F:World) (v9 u0 u1 u2:Value),F=((((w9.setCell ⟨D,1,none⟩ v9).setCell ⟨h+1+1,0,none⟩ u0).setCell ⟨h+1+1,1,none⟩ u1).setCell ⟨h+1+1,2,none⟩ u2)->∀ b,b≠D->b≠h+1+1->F.heap[b]?=w9.heap[b]?:=fun F v9 u0 u1 u2 e b h1 h2=>by
     rw[e];exact(Below.heap_setCell _ _ _ _ (by simp only;exact h2)).trans ((Below.heap_setCell _ _ _ _ (by simp only;exact h2)).trans ((Below.heap_setCell _ _ _ _ (by simp only;exact h2)).trans (Below.heap_setCell _ _ _ _ (by simp only;exact h1))))
    refine qau M8.out HH.out (fun b hb h1 h2 h3=>(far _ _ _ _ _ rfl b h1 h2).trans ((G9.block b (by simp only[q6];omega) (fun e=>h3 e.symm)).trans (Below.heap_alloc _ _ _ hb))) ?_ ((((((Below.refl n₁ w8).alloc (by have:=Z8.out;omega) _).grown G9 (by have:=Z8.out;simp only[q6];omega) (fun k e=>(howns k e).1)).setCell (p:=⟨D,1,none⟩) (by have:=M8.out.z;simp only;omega) _).setCell (p:=⟨h+1+1,0,none⟩) (by simp only;omega) _).setCell (p:=⟨h+1+1,1,none⟩) (by simp only;omega) _|>.setCell (p:=⟨h+1+1,2,none⟩) (by simp only;omega) _) ?_ ?_ hownp hap.out ?_
    ·have:=G9.size
     simp only[q6]at this;rw[qq,qq,qq,qq];omega
    ·exact zd Q9'.out fun g' e=>far _ _ _ _ _ rfl g' (q36 Q9'.out D9.out g' e) (q36 Q9'.out R9.out g' e)
    ·exact zd P9'.out fun g' e=>far _ _ _ _ _ rfl g' (q36 P9'.out D9.out g' e) (q36 P9'.out R9.out g' e)
    ·exact q2h hg9 (by rw[HH.out];simp only[q6];have:=M8.out.r.lt;omega)
   ·have hc:((i:Int)==(len:Int) - 1)=false:=by rw[q9];omega
    have HXs:Hid (ss'=ss):=qh (by rw[<-HX0.out,q7 (by rw[<-HV.out,decide_eq_false hil];simp)]);clear HV HX0 hil;go_wp2;refine q6c (RowP.put M8.out.r _ _ _) rfl rfl rfl ?_;rw[HXs.out,H7.out,<-HL1.out];refine qau M8.out HH.out (fun b _ _ hb _=>?_) ?_ ((((Below.refl n₁ w8).setCell (p:=⟨h+1+1,0,none⟩) (by simp only;omega) _).setCell (p:=⟨h+1+1,1,none⟩) (by simp only;omega) _).setCell (p:=⟨h+1+1,2,none⟩) (by simp only;omega) _) ?_ ?_ hownp hap.out (fun g e=>.inl e)
    ·exact(Below.heap_setCell _ _ _ _ (by simp only;omega)).trans ((Below.heap_setCell _ _ _ _ (by simp only;omega)).trans (Below.heap_setCell _ _ _ _ (by simp only;omega)))
    ·exact Nat.le_of_eq (by rw[qq,qq,qq])
    ·exact zd M8.out.s fun g e=>(Below.heap_setCell _ _ _ _ (by have:=howns g e;simp only;omega)).trans ((Below.heap_setCell _ _ _ _ (by have:=howns g e;simp only;omega)).trans (Below.heap_setCell _ _ _ _ (by have:=howns g e;simp only;omega)))
    ·exact zd M8.out.s fun g e=>(Below.heap_setCell _ _ _ _ (by have:=howns g e;simp only;omega)).trans ((Below.heap_setCell _ _ _ _ (by have:=howns g e;simp only;omega)).trans (Below.heap_setCell _ _ _ _ (by have:=howns g e;simp only;omega)))
end Go.Proofs.YtkckddojlignpaaGreatDoor
namespace Go.Proofs.YtkckddojlignpaaGreatDoor
open Go.RowKit Go.Shelf
attribute [local go_sem] Oper.semAt_some
theorem qev{w:World}{b o:Nat}{v:Value}(h:w.cell? ⟨b,o,none⟩=some v):∃ c t z,w.heap[b]?=some (.cells c t z):=by
 unfold World.cell? at h
 split at h
 ·rename_i hh
  exact⟨_,_,_,hh⟩
 ·simp at h
def Sup(w W:World):Prop:=∀ (b:Nat) (c:Array Value) (t:TypeId) (z:Nat×Nat),w.heap[b]?=some (Obj.cells c t z)->W.heap[b]?=some (Obj.cells c t z)
theorem Sup.cell{w W:World}(h:Sup w W){b o:Nat}{v:Value}(hc:w.cell? ⟨b,o,none⟩=some v):W.cell? ⟨b,o,none⟩=some v:=by
 obtain⟨c,t,z,e⟩:=qev hc;rw[<-hc];exact World.cell?_of_block (w:=w) ((h b c t z e).trans e.symm)
theorem NdR.sup{w W:World}(hs:Sup w W){t:Nd}{v0 v1 v2:Value}(h:NdR w t v0 v1 v2):NdR W t v0 v1 v2:=by
 induction h with
 |mk k s l a cap b o f0 f1 f2 h1 hl hc ha h0 h1' h2 _ ih =>
  exact .mk k s l a cap b o f0 f1 f2 h1 hl hc ha (fun i hi=>hs.cell (h0 i hi)) (fun i hi=>hs.cell (h1' i hi)) (fun i hi=>hs.cell (h2 i hi)) ih
def Kc(O:World->Nat->Prop)(W W':World):Prop:=W.heap.size<=W'.heap.size/\(∀ (b:Nat) (c:Array Value) (t:TypeId) (z:Nat×Nat),¬ O W b->W.heap[b]?=some (Obj.cells c t z)->W'.heap[b]?=some (Obj.cells c t z))/\∀ b,O W' b->O W b\/W.heap.size<=b
def Kv(O:World->Nat->Prop)(vp vi:Value)(W W':World):Prop:=W.heap.size<=W'.heap.size/\(∀ (b:Nat) (c:Array Value) (t:TypeId) (z:Nat×Nat),¬ O W b->vp.ownBlock≠some b->vi.ownBlock≠some b->W.heap[b]?=some (Obj.cells c t z)->W'.heap[b]?=some (Obj.cells c t z))/\∀ b,O W' b->O W b\/W.heap.size<=b
def Off(O:World->Nat->Prop)(W:World)(v:Value):Prop:=∀ g,v.ownBlock=some g->¬ O W g
def q8s(l:Nat):Value:=.func (.yield l) #[] #[]
abbrev q8u(yb vb:Nat):Value:=.func (.func 121) #[] #[.pointer (some ⟨yb,0,none⟩),.pointer (some ⟨vb,0,none⟩)]
structure Env(O:World->Nat->Prop)(n₁ yb vb l:Nat)(w₀ W:World):Prop where
 y:W.heap[yb]?=some (.cells #[q8s l] 144 (0,0))
 v:W.heap[vb]?=some (.cells #[q8u yb vb] 144 (0,0))
 yl:yb < n₁
 vl:vb < n₁
 yx:¬ O W yb
 vx:¬ O W vb
 s:Sup w₀ W
 z0:w₀.heap.size<=n₁
 x0:∀ b,O W b->w₀.heap.size<=b
 z:n₁<=W.heap.size
section
variable {O:World->Nat->Prop} {n₁ yb vb l:Nat} {w₀ W W':World} {vp vi:Value}
theorem Off.kv(hO:Off O W vi)(hz:∀ g,vi.ownBlock=some g->g < W.heap.size)(h:∀ b,O W' b->O W b\/W.heap.size<=b):Off O W' vi:=fun g e hx=>by
 rcases h g hx with h1|h1
 ·exact hO g e h1
 ·have:=hz g e;omega
theorem Env.kv(E:Env O n₁ yb vb l w₀ W)(hp:∀ g,vp.ownBlock=some g->n₁<=g)(hi:∀ g,vi.ownBlock=some g->n₁<=g)(h:Kv O vp vi W W'):Env O n₁ yb vb l w₀ W':=by
 have far:∀ b,b < n₁->vp.ownBlock≠some b/\vi.ownBlock≠some b:=fun b hb=>⟨fun e=>by have:=hp b e;omega,fun e=>by have:=hi b e;omega⟩
 have z0:=E.z;have z1:=E.yl;have z2:=E.vl;have z3:=E.z0;refine⟨h.2.1 _ _ _ _ E.yx (far _ E.yl).1 (far _ E.yl).2 E.y,h.2.1 _ _ _ _ E.vx (far _ E.vl).1 (far _ E.vl).2 E.v,E.yl,E.vl,fun hx=>?_,fun hx=>?_,fun b c t z e=>?_,E.z0,fun b hx=>?_,ql E.z h.1⟩
 ·rcases h.2.2 _ hx with h1|h1
  ·exact E.yx h1
  ·omega
 ·rcases h.2.2 _ hx with h1|h1
  ·exact E.vx h1
  ·omega
 ·have hb:b < w₀.heap.size:=za e
  exact h.2.1 b c t z (fun hx=>by have:=E.x0 b hx;omega) (far b (by omega)).1 (far b (by omega)).2 (E.s b c t z e)
 ·rcases h.2.2 _ hx with h1|h1
  ·exact E.x0 b h1
  ·omega
theorem Kc.kv(h:Kc O W W'):Kv O vp vi W W':=⟨h.1,fun b c t z h1 _ _ e=>h.2.1 b c t z h1 e,h.2.2⟩
theorem Kv.trans{W'':World}(a:Kv O vp vi W W')(b:Kv O vp vi W' W''):Kv O vp vi W W'':=⟨ql a.1 b.1,fun k c t z h1 h2 h3 e=>b.2.1 k c t z (fun hx=>by
  rcases a.2.2 k hx with h4|h4
  ·exact h1 h4
  ·have:=za e;omega) h2 h3 (a.2.1 k c t z h1 h2 h3 e),fun k hx=>by
  have:=a.1;rcases b.2.2 k hx with h4|h4
  ·exact a.2.2 k h4
  ·exact .inr (by omega)⟩
theorem Kv.alloc(o:Obj)(hO:∀ b,O (W.alloc o) b->O W b):Kv O vp vi W (W.alloc o):=⟨by simp,fun b c t z _ _ _ e=>(Below.heap_alloc _ _ _ (za e)).trans e,fun b hx=>.inl (hO b hx)⟩
theorem Kv.drew(hO:∀ b,O W.drew b->O W b):Kv O vp vi W W.drew:=⟨q5 _,fun _ _ _ _ _ _ _ e=>e,fun b hx=>.inl (hO b hx)⟩
end
structure Given(n₁:Nat)(W:World)(it:It)(vp vi v0 v1 v2:Value)(ps:List Value):Prop where
 d:it.d=ps.length
 p:kg n₁ W vp ps
 i:x9 n₁ W vi it.ins
 t:NdR W it.t v0 v1 v2
theorem q3z{w w':World}{base:Nat}{e:TypeId}{v:Value}{xs:List Value}(h:w.ownsRow base e 1 v xs.length xs)(hk:∀ (g:Nat) (c:Array Value) (t:TypeId) (z:Nat×Nat),v.ownBlock=some g->w.heap[g]?=some (Obj.cells c t z)->w'.heap[g]?=some (Obj.cells c t z)):w'.ownsRow base e 1 v xs.length xs:=by
 refine⟨h.1,?_⟩;rcases h.2 with hn|⟨g,cap,cur,hv,hb,hg,rest⟩
 ·exact .inl hn
 ·exact .inr ⟨g,cap,cur,hv,hb,hk g _ _ _ (by rw[hv];rfl) hg,rest⟩
theorem qd2{w6 w7:World}{base:Nat}{e:TypeId}{v v':Value}{xs ys:List Value}(h6:w6.ownsRow base e 1 v xs.length xs)(h6':w6.ownsRow base e 1 v' (xs++ys).length (xs++ys))(h7:w7.ownsRow base e 1 v' (xs++ys).length (xs++ys))
  (hk:∀ (g:Nat) (c:Array Value) (t:TypeId) (z:Nat×Nat),v.ownBlock=some g->v'.ownBlock≠some g->w6.heap[g]?=some (Obj.cells c t z)->w7.heap[g]?=some (Obj.cells c t z)):w7.ownsRow base e 1 v xs.length xs:=by
 rcases h6.2 with hn|⟨g,cap,cur,rfl,hb,hg,hnn,hm,hs,htk⟩
 ·exact⟨h6.1,.inl hn⟩
 ·by_cases hv:v'.ownBlock=some g
  ·rcases h6'.2 with ⟨rfl,_⟩|⟨g',cap',cur',rfl,hb',hg',hn',hm',hs',htk'⟩
   ·cases hv
   ·simp only[Value.ownBlock,Option.some.injEq]at hv
    subst hv;rw[hg]at hg';obtain rfl:=(Obj.cells.inj (zc hg')).1;obtain rfl:cap=cap':=by omega
    exact qd1 h6 h7
  ·exact q3z h6 fun g2 c t z e1 e2=>by
    have:g2=g:=by simp only[Value.ownBlock,Option.some.injEq]at e1;exact e1.symm
    subst this;exact hk g2 c t z rfl hv e2
theorem qjv{n₁:Nat}{w6 w7:World}{v v':Value}{ss ss' ys:List ByteArray}(hys:ss'=ss++ys)(h6:x9 n₁ w6 v ss)(h6':x9 n₁ w6 v' ss')(h7:x9 n₁ w7 v' ss')
  (hk:∀ (g:Nat) (c:Array Value) (t:TypeId) (z:Nat×Nat),v.ownBlock=some g->v'.ownBlock≠some g->w6.heap[g]?=some (Obj.cells c t z)->w7.heap[g]?=some (Obj.cells c t z)):x9 n₁ w7 v ss:=by
 subst hys;unfold x9 at *;rw[List.map_append]at h6' h7;exact qd2 h6 h6' h7 hk
structure Fr(O:World->Nat->Prop)(n₁ yb vb l:Nat)(w₀ W:World)(h:Nat)(vp vi:Value)(ps:List Value)(ss:List ByteArray)(wd:Bool)(k:Int)(s:ByteArray)(v2:Value)(w:World):Prop where
 e:Env O n₁ yb vb l w₀ w
 kv:Kv O vp vi W w
 a:RowP w h vp vi (.bool wd)
 n:Row3 w (h+1) (.int .i64 k) (.string s) v2
 p:kg n₁ w vp ps
 i:x9 n₁ w vi ss
 op:Off O w vp
 oi:Off O w vi
 oh:¬ O w h
 on:¬ O w (h+1)
section
variable {O:World->Nat->Prop} {n₁ yb vb l:Nat} {w₀ W:World} {h:Nat} {vp vi:Value} {ps:List Value} {ss:List ByteArray} {wd:Bool} {k:Int} {s:ByteArray} {v2:Value} {w w':World}
theorem Fr.step(F:Fr O n₁ yb vb l w₀ W h vp vi ps ss wd k s v2 w)(_hh:n₁<=h)(hp:∀ g,vp.ownBlock=some g->n₁<=g/\g < h)(hi:∀ g,vi.ownBlock=some g->n₁<=g/\g < h)(hk:Kv O vp vi w w')(p:kg n₁ w' vp ps)(i:x9 n₁ w' vi ss):Fr O n₁ yb vb l w₀ W h vp vi ps ss wd k s v2 w':=by
 have far:∀ b,h<=b->vp.ownBlock≠some b/\vi.ownBlock≠some b:=fun b hb=>⟨fun e=>by have:=hp b e;omega,fun e=>by have:=hi b e;omega⟩
 have f0:=far h (q5 _);have f1:=far (h+1) (by omega);have l0:=F.a.lt;have l1:=F.n.lt;refine⟨F.e.kv (fun g e=>(hp g e).1) (fun g e=>(hi g e).1) hk,F.kv.trans hk,hk.2.1 _ _ _ _ F.oh f0.1 f0.2 F.a,hk.2.1 _ _ _ _ F.on f1.1 f1.2 F.n,p,i,F.op.kv (fun g e=>by have:=hp g e;omega) hk.2.2,F.oi.kv (fun g e=>by have:=hi g e;omega) hk.2.2,fun hx=>?_,fun hx=>?_⟩
 ·rcases hk.2.2 _ hx with h1|h1
  ·exact F.oh h1
  ·omega
 ·rcases hk.2.2 _ hx with h1|h1
  ·exact F.on h1
  ·omega
theorem Fr.alloc(F:Fr O n₁ yb vb l w₀ W h vp vi ps ss wd k s v2 w)(hh:n₁<=h)(hp:∀ g,vp.ownBlock=some g->n₁<=g/\g < h)(hi:∀ g,vi.ownBlock=some g->n₁<=g/\g < h)(o:Obj)(hO:∀ b,O (w.alloc o) b->O w b):Fr O n₁ yb vb l w₀ W h vp vi ps ss wd k s v2 (w.alloc o) :=
 F.step hh hp hi (Kv.alloc o hO) (zd F.p fun g e=>Below.heap_alloc _ _ _ (World.ownsRow.lt F.p g e).2) (zd F.i fun g e=>Below.heap_alloc _ _ _ (World.ownsRow.lt F.i g e).2)
theorem Fr.drew(F:Fr O n₁ yb vb l w₀ W h vp vi ps ss wd k s v2 w)(hh:n₁<=h)(hp:∀ g,vp.ownBlock=some g->n₁<=g/\g < h)(hi:∀ g,vi.ownBlock=some g->n₁<=g/\g < h)(hO:∀ b,O w.drew b->O w b):Fr O n₁ yb vb l w₀ W h vp vi ps ss wd k s v2 w.drew :=
 F.step hh hp hi (Kv.drew hO) F.p F.i
theorem Fr.cells(F:Fr O n₁ yb vb l w₀ W h vp vi ps ss wd k s v2 w){X:Nat}{u0 u1 u2:Value}(x:Row3 w X u0 u1 u2) :
  w.cell? ⟨vb,0,none⟩=some (q8u yb vb)/\w.cell? ⟨h,0,none⟩=some vp/\w.cell? ⟨h,1,none⟩=some vi/\w.cell? ⟨h,2,none⟩=some (.bool wd)/\w.cell? ⟨h+1,0,none⟩=some (.int .i64 k)/\w.cell? ⟨h+1,1,none⟩=some (.string s)/\w.cell? ⟨h+1,2,none⟩=some v2 /\
   w.cell? ⟨X,0,none⟩=some u0/\w.cell? ⟨X,1,none⟩=some u1/\w.cell? ⟨X,2,none⟩=some u2 :=
 ⟨qk _ _ _ _ _ _ F.e.v,F.a.cells.1.1,F.a.cells.1.2.1,F.a.cells.1.2.2,F.n.cells.1.1,F.n.cells.1.2.1,F.n.cells.1.2.2,x.cells.1.1,x.cells.1.2.1,x.cells.1.2.2⟩
theorem Kv.down(hz:w.heap.size<=w'.heap.size)(hk:∀ b,b < w.heap.size->vp.ownBlock≠some b->vi.ownBlock≠some b->w'.heap[b]?=w.heap[b]?)(hO:∀ b,O w' b->O w b):Kv O vp vi w w' :=
 ⟨hz,fun b _ _ _ _ h1 h2 e=>(hk b (za e) h1 h2).trans e,fun b hx=>.inl (hO b hx)⟩
theorem Kv.up{w5 w6 w7:World}{vp' vi':Value}(h56:Kv O vp vi w5 w6)(h67:Kv O vp' vi' w6 w7)(hp:∀ g,vp'.ownBlock=some g->vp.ownBlock=some g\/w5.heap.size<=g)(hi:∀ g,vi'.ownBlock=some g->vi.ownBlock=some g\/w5.heap.size<=g):Kv O vp vi w5 w7 :=
 ⟨ql h56.1 h67.1,fun b c t z h1 h2 h3 e=>h67.2.1 b c t z (fun hx=>by
  rcases h56.2.2 b hx with h4|h4
  ·exact h1 h4
  ·have:=za e;omega) (fun e2=>by
  rcases hp b e2 with h4|h4
  ·exact h2 h4
  ·have:=za e;omega) (fun e2=>by
  rcases hi b e2 with h4|h4
  ·exact h3 h4
  ·have:=za e;omega) (h56.2.1 b c t z h1 h2 h3 e),fun b hx=>by
  have:=h56.1;rcases h67.2.2 b hx with h4|h4
  ·exact h56.2.2 b h4
  ·exact .inr (by omega)⟩
end
theorem qjf(all:List It)(O:World->Nat->Prop)(n₁ yb vb l:Nat)(w₀:World)(J Jx:List It->World->Prop)
  (hJN:∀ pre W,J pre W->pre.length<=90000)
  (hJ:∀ pre W W',J pre W->Below n₁ W W'->(∀ b,O W b->W'.heap[b]?=W.heap[b]?)->J pre W')
  (hO:∀ A B,Below n₁ A B->∀ b,O B b->O A b)
  (hJO:∀ pre W,J pre W->∀ b,O W b->b < W.heap.size)
  (hY:∀ m pre it W vp vi v0 v1 v2 ps,J pre W->pre++[it] <+: all->ps.length<=pre.length->Given n₁ W it vp vi v0 v1 v2 ps->YieldAt Fence.wide m Tryz.prog l #[.agg #[vp,vi,.bool it.wd],.agg #[v0,v1,v2]] W
   (fun e W'=>(e = .returned (.bool true)/\J (pre++[it]) W'/\Kc O W W')\/(e = .returned (.bool false)/\Jx (pre++[it]) W'/\Kc O W W')))
  (n:Nat):∀ (t:Nd) (W:World) (vp vi v0 v1 v2:Value) (ps:List Value) (ss:List ByteArray) (wd:Bool) (pre:List It),t.sz<=n->NdR w₀ t v0 v1 v2->Env O n₁ yb vb l w₀ W ->
   kg n₁ W vp ps->x9 n₁ W vi ss->ps.length<=pre.length->ss.length<=ps.length->J pre W->Off O W vp->Off O W vi->pre++xm ps.length ss wd t <+: all ->
   Calls Tryz.prog 121 #[.agg #[vp,vi,.bool wd],.agg #[v0,v1,v2],.pointer (some ⟨yb,0,none⟩),.pointer (some ⟨vb,0,none⟩)] W fun e W' =>
    ∃ B:Bool,e = .returned (.bool B)/\Kv O vp vi W W'/\kg n₁ W' vp ps/\x9 n₁ W' vi ss/\(if B=true then J (pre++xm ps.length ss wd t) W' else ∃ q,q <+: pre++xm ps.length ss wd t/\Jx q W'):=by
 induction n with
 |zero=>intro t W vp vi v0 v1 v2 ps ss wd pre h;cases t;simp only[Nd.sz]at h;omega
 |succ n ih =>
  intro t W vp vi v0 v1 v2 ps ss wd pre hsz ht E hp hi hd hsd hj hop hoi hall;obtain⟨k,s,l',a,cap,rfl,rfl,rfl,rfl,hs,hl⟩:=ht.form;obtain⟨ap,cp,rfl⟩:=yh hp;obtain⟨ai,ci,rfl⟩:=yh hi;obtain⟨L,hL⟩:∃ L,(ss.map Value.string).length=L:=⟨_,rfl⟩;rw[hL]at hi hoi ⊢;rw[qv]at hL;subst hL;unfold maxLen at hl;refine(callsIn_wide (n:=3)).1 ?_;obtain⟨h,hh⟩:∃ h,W.heap.size=h:=⟨_,rfl⟩;obtain⟨W2,hW2⟩:∃ W2,(W.alloc (.cells #[.slice ap ps.length cp,.slice ai ss.length ci,.bool wd] 85)).alloc (.cells #[.int .i64 k,.string s,.slice a l'.length cap] 25)=W2:=⟨_,rfl⟩;have B1:Below n₁ W (W.alloc (.cells #[.slice ap ps.length cp,.slice ai ss.length ci,.bool wd] 85)):=(Below.refl _ W).alloc E.z _;have B2:Below n₁ W W2:=by rw[<-hW2];exact B1.alloc (by have:=E.z;simp only[q6];omega) _
  have K2:Kv O (.slice ap ps.length cp) (.slice ai ss.length ci) W W2:=by
   rw[<-hW2];exact(Kv.alloc _ (hO _ _ B1)).trans (Kv.alloc _ (hO _ _ ((Below.refl _ _).alloc (by have:=E.z;simp only[q6];omega) _)))
  have hjo:=hJO pre W hj;have O2:∀ b,O W2 b->b < h:=fun b hb=>by rw[<-hh];exact hjo b (hO _ _ B2 b hb)
  have OP2:Off O W2 (.slice ap ps.length cp):=fun g e hx=>hop g e (hO _ _ B2 g hx)
  have OI2:Off O W2 (.slice ai ss.length ci):=fun g e hx=>hoi g e (hO _ _ B2 g hx)
  have OH2:¬ O W2 h:=fun hx=>by have:=O2 _ hx;omega
  have ON2:¬ O W2 (h+1):=fun hx=>by have:=O2 _ hx;omega
  have hownp:∀ g,(Value.slice ap ps.length cp).ownBlock=some g->n₁<=g/\g < h:=fun g e=>by rw[<-hh];exact World.ownsRow.lt hp g e
  have howns:∀ g,(Value.slice ai ss.length ci).ownBlock=some g->n₁<=g/\g < h:=fun g e=>by rw[<-hh];exact World.ownsRow.lt hi g e
  have E2:=E.kv (fun g e=>(hownp g e).1) (fun g e=>(howns g e).1) K2;have old2:∀ b,b < h->W2.heap[b]?=W.heap[b]?:=fun b hb=>by rw[<-hW2];exact(Below.heap_alloc _ _ _ (by simp only[q6];omega)).trans (Below.heap_alloc _ _ _ (by omega))
  have P2:kg n₁ W2 (.slice ap ps.length cp) ps:=zd hp fun g e=>old2 g (hownp g e).2
  have S2:x9 n₁ W2 (.slice ai ss.length ci) ss:=zd hi fun g e=>old2 g (howns g e).2
  have A2:RowP W2 h (.slice ap ps.length cp) (.slice ai ss.length ci) (.bool wd):=by rw[<-hW2,<-hh];exact(Below.heap_alloc _ _ _ (by simp only[q6];omega)).trans (qm _ _)
  have N2:Row3 W2 (h+1) (.int .i64 k) (.string s) (.slice a l'.length cap):=by rw[<-hW2,<-hh];exact x6 (by simp)
  have J2:=hJ pre W W2 hj B2 (fun b hb=>old2 b (by have:=hjo b hb;omega));obtain⟨fn,tmps,assign,body,hy,hR⟩:=hY 2 pre ⟨ps.length,ss,wd,.mk k s l'⟩ W2 (.slice ap ps.length cp) (.slice ai ss.length ci) (.int .i64 k) (.string s) (.slice a l'.length cap) ps J2 (List.IsPrefix.trans ⟨vu (ps.length+1) ss (if y3 k then ss++[s] else ss) (k==7) l',by simp only[xm];simp⟩ hall) hd ⟨rfl,P2,S2,ht.sup E2.s⟩;have y2:W2.cell? ⟨yb,0,none⟩=some (q8s l):=qk _ _ _ _ _ _ E2.y;have v2:W2.cell? ⟨vb,0,none⟩=some (q8u yb vb):=qk _ _ _ _ _ _ E2.v;obtain⟨⟨a0,a1,a2⟩,_⟩:=A2.cells;obtain⟨⟨n0,n1,n2⟩,_⟩:=N2.cells;unfold q8s at y2;have HPRE:Hid (xm ps.length ss wd (.mk k s l')=⟨ps.length,ss,wd,.mk k s l'⟩ :: vu (ps.length+1) ss (if y3 k then ss++[s] else ss) (k==7) l'):=qh (by simp only[xm]);have HJN:=qh hJN;have HJ:=qh hJ;have HALL:=qh hall;have HO:=qh hO;have HJO:=qh hJO;have HOP2:=qh OP2;have HOI2:=qh OI2;have HOH2:=qh OH2;have HON2:=qh ON2;have HIH:=qh ih;have HT:=qh ht;have HE2:=qh E2;have HK2:=qh K2;have HB2:=qh B2;have HP2:=qh P2;have HS2:=qh S2;have HA2:=qh A2;have HN2:=qh N2;have HH:=qh hh;have HSZ:=qh hsz;have hnh:n₁<=h:=by rw[<-hh];exact E.z
  clear hall hJN hJ hO hJO hjo O2 OP2 OI2 OH2 ON2 hop hoi B1 ih ht E E2 K2 B2 P2 S2 A2 N2 hp hi hY old2 J2 hj hsz;refine callsIn_of_wp Tryz.func121 rfl trivial ?_ rfl;simp only[Tryz.ntmps121,List.size_toArray,qi,qo,Nat.reduceAdd,Nat.reduceSub,Array.replicate_succ,Array.replicate_zero,List.push_toArray,List.append_toArray,List.nil_append,List.cons_append]
  gi_wp2_with fail
  refine hR.mono ?_;clear hR hy;rintro e W3 (⟨rfl,hJ3,hk3⟩|⟨rfl,hJx3,hk3⟩)
  ·have nb:=trivial
   have P3:=q3z HP2.out fun g c t z e e2=>hk3.2.1 g c t z (HOP2.out g e) e2
   have S3:=q3z HS2.out fun g c t z e e2=>hk3.2.1 g c t z (HOI2.out g e) e2
   have F3:=qh ((⟨HE2.out,HK2.out,HA2.out,HN2.out,HP2.out,HS2.out,HOP2.out,HOI2.out,HOH2.out,HON2.out⟩:Fr O n₁ yb vb l w₀ W h (.slice ap ps.length cp) (.slice ai ss.length ci) ps ss wd k s (.slice a l'.length cap) W2).step hnh hownp howns hk3.kv P3 S3);have J3:=qh hJ3;clear hJ3 hk3 nb y2 v2 a0 a1 a2 n0 n1 n2 P3 S3;obtain⟨⟨n0,n1,n2⟩,_⟩:=F3.out.n.cells
   gi_wp2_with fail
   refine wpIn_wide.2 ?_;obtain⟨il,hil⟩:∃ il,(if y3 k then ss++[s] else ss)=il:=⟨_,rfl⟩;rw[hil]at HPRE;have HIL:=qh hil;clear hil n0 n1 n2
   go_loopw [17] (fun v wr=>∃ (i:Nat) (pre':List It),i<=l'.length/\v = .int .i64 i/\Hid (pre'++vu (ps.length+1) ss il (k==7) (l'.drop i)=pre++xm ps.length ss wd (.mk k s l'))/\Hid (J pre' wr)/\Hid (ps.length+1<=pre'.length) /\
    Hid (Fr O n₁ yb vb l w₀ W h (.slice ap ps.length cp) (.slice ai ss.length ci) ps ss wd k s (.slice a l'.length cap) wr)) (fun v _=>l'.length - (intOf v).toNat)
   case atStart=>exact⟨0,_,qp _,rfl,qh (by rw[HPRE.out,List.drop_zero];simp),J3,qh (by simp;omega),F3⟩
   case round =>
    obtain⟨i,pre',hi,rfl,hrun,hJr,hlen,hF⟩:=hrel
    by_cases hlt:i < l'.length
    ·have hlt':(i:Int) < (l'.length:Int):=by omega
     have hi0:(0:Int)<=(i:Int):=by omega
     obtain⟨b,o,k1,s1,l1,a1,c1,rfl,e1,y0,y1,y2,r1⟩:=HT.out.kid i hlt;have x0:=hF.out.e.s.cell y0;have x1:=hF.out.e.s.cell y1;have x2:=hF.out.e.s.cell y2;have HE1:=qh e1;have HR1:=qh r1;clear e1 r1 y0 y1 y2
     go_upto_region 6 with fail
     have X5:=qh (Row3.new wr (.int .i64 k1) (.string s1) (.slice a1 l1.length c1));have F5:=qh (hF.out.alloc hnh hownp howns (.cells #[.int .i64 k1,.string s1,.slice a1 l1.length c1] 25) (HO.out _ _ ((Below.refl _ wr).alloc hF.out.e.z _)));have hj5:=HJO.out pre' wr hJr.out;have B5:Hid (Below n₁ wr (wr.alloc (.cells #[.int .i64 k1,.string s1,.slice a1 l1.length c1] 25))):=qh ((Below.refl _ wr).alloc hF.out.e.z _);obtain⟨X,hX⟩:∃ X,wr.heap.size=X:=⟨_,rfl⟩;obtain⟨w5,hw5⟩:∃ w5,wr.alloc (.cells #[.int .i64 k1,.string s1,.slice a1 l1.length c1] 25)=w5:=⟨_,rfl⟩;have z5:w5.heap.size=X+1:=by rw[<-hw5,<-hX];simp
     have hXh:h<=X:=by have:=hF.out.a.lt;omega
     rw[hX]at X5 hj5;rw[hw5]at F5 B5 X5;have Z5:=qh z5;rw[hX,hw5];have ho5:∀ b,O w5.drew b->b < X:=fun b hb=>hj5 b (HO.out _ _ (show Below n₁ wr w5.drew from B5.out.drew) b hb)
     have HO5:=qh ho5;have HJ5:=qh hj5;have HOLD5:Hid (∀ b,b < X->w5.drew.heap[b]?=wr.heap[b]?):=qh (fun b hb=>show w5.heap[b]?=wr.heap[b]? from by rw[<-hw5];exact Below.heap_alloc _ _ _ (by rw[hX];exact hb));have HF5:=qh (F5.out.drew hnh hownp howns (fun b hb=>HO.out w5 w5.drew ((Below.refl _ w5).drew) b hb));have S5:=HF5.out.cells (show Row3 w5.drew X _ _ _ from X5.out);clear ho5 hj5;have hdn:Hid (ps.length<=90000):=qh (by have:=HJN.out _ _ hJr.out;have:=hlen.out;omega);obtain⟨ss',hss⟩:∃ ss',(if(y3 k && decide (i+1=l'.length))=true then ss++[s] else ss)=ss':=⟨_,rfl⟩;obtain⟨K7,h7⟩:∃ K7,(k==7)=K7:=⟨_,rfl⟩;have CD0:=(fun w (h1:n₁<=w.heap.size) (h2:kg n₁ w (.slice ap ps.length cp) ps) (h3:x9 n₁ w (.slice ai ss.length ci) ss)=>qm1 n₁ k s (some ⟨b,o,none⟩) l'.length cap i ap ai cp ci ps ss wd w h1 h2 h3 (by have:=hdn.out;omega) (by have:=hdn.out;omega) (by unfold maxLen;omega) hlt _ rfl ss' hss);rw[h7]at CD0;have CD:=qh CD0;clear CD0
     obtain⟨ys,hys⟩:∃ ys,ss'=ss++ys:=by
      rw[<-hss]
      split
      ·exact⟨[s],rfl⟩
      ·exact⟨[],by simp⟩
     have hsl:ss'.length<=ps.length+1:=by
      rw[<-hss]
      split
      ·simp;omega
      ·omega
     have hil2:(if i+1=l'.length then il else ss)=ss':=by
      rw[<-hss,<-HIL.out]
      by_cases h1:i+1=l'.length
      ·rw[qa h1,decide_eq_true h1,Bool.and_true]
      ·rw[q7 h1,decide_eq_false h1,Bool.and_false,q7 (by simp)]
     have HPL:=qh (qk9 (d:=ps.length+1) (ins:=ss) (il:=il) (wd:=(k==7)) hlt);rw[hil2,h7]at HPL;have HL1:Hid ((ps++[Value.int .i64 (i:Int)]).length=ps.length+1):=qh (by simp)
     have HPX:Hid (pre'++xm (ps++[Value.int .i64 (i:Int)]).length ss' K7 (.mk k1 s1 l1) <+: all):=qh (by
      have hr:=hrun.out;have hpl:=HPL.out;rw[h7,hpl,HE1.out]at hr;rw[HL1.out];refine List.IsPrefix.trans ?_ HALL.out;rw[<-hr,<-qe]
      exact List.prefix_append _ _)
     have HYS:=qh hys;have HSL:=qh hsl;have HKL:=qh (Nd.kid_lt k s l' i hlt);have hnX:¬ O w5.drew X/\(Value.slice ap ps.length cp).ownBlock≠some X/\(Value.slice ai ss.length ci).ownBlock≠some X:=⟨fun hx=>by have:=HO5.out X hx;omega,fun e=>by have:=hownp X e;omega,fun e=>by have:=howns X e;omega⟩;have HNX:=qh hnX;have CVf:=qh (fun w7 vp' vi' (E6:Env O n₁ yb vb l w₀ w7) p6 s6 J6 op6 oi6=>HIH.out (.mk k1 s1 l1) w7 vp' vi' (.int .i64 k1) (.string s1) (.slice a1 l1.length c1) (ps++[Value.int .i64 (i:Int)]) ss' K7 pre' (by have:=HKL.out;rw[HE1.out]at this;have:=HSZ.out;omega) HR1.out E6 p6 s6 (by rw[HL1.out];exact hlen.out) (by rw[HL1.out];exact HSL.out) J6 op6 oi6 HPX.out);have H77:=qh h7;clear h7 hX hw5 z5 hss hys hsl hil2 hnX x0 x1 x2
     go_cut [29] (fun v wx=>∃ B:Bool,v = .bool (!B)/\Hid (Fr O n₁ yb vb l w₀ W h (.slice ap ps.length cp) (.slice ai ss.length ci) ps ss wd k s (.slice (some ⟨b,o,none⟩) l'.length cap) wx) /\
      Hid (if B=true then J (pre'++xm (ps.length+1) ss' K7 (.mk k1 s1 l1)) wx else ∃ q,q <+: pre'++xm (ps.length+1) ss' K7 (.mk k1 s1 l1)/\Jx q wx))
     case first =>
      go_region_held3 (fun w'=>w'.cell? ⟨vb,0,none⟩=some (.func (.func 121) #[] #[.pointer (some ⟨yb,0,none⟩),.pointer (some ⟨vb,0,none⟩)])/\w'.cell? ⟨h,0,none⟩=some (.slice ap ps.length cp)/\w'.cell? ⟨h,1,none⟩=some (.slice ai ss.length ci)/\w'.cell? ⟨h,2,none⟩=some (.bool wd)/\w'.cell? ⟨h+1,0,none⟩=some (.int .i64 k)/\w'.cell? ⟨h+1,1,none⟩=some (.string s)/\w'.cell? ⟨h+1,2,none⟩=some (.slice (some ⟨b,o,none⟩) l'.length cap)/\w'.cell? ⟨X,0,none⟩=some (.int .i64 k1)/\w'.cell? ⟨X,1,none⟩=some (.string s1)/\w'.cell? ⟨X,2,none⟩=some (.slice a1 l1.length c1))
       (first|with_reducible exact S5|with_reducible exact SS6|with_reducible exact SS7)
       (first
        |(go_at_call 122;refine(CD.out _ HF5.out.e.z HF5.out.p HF5.out.i).mono ?_;rintro e w6 ⟨ap',ai',cp',ci',rfl,p6,s6,pp6,ss6,z6,k6,b6,o6,oi6⟩;rw[HL1.out]at p6 o6;have O6':=qh (HO.out _ _ b6);have KD6:Hid (Kv O (.slice ap ps.length cp) (.slice ai ss.length ci) w5.drew w6):=qh (Kv.down z6 k6 O6'.out);have F6:=qh (HF5.out.step hnh hownp howns KD6.out pp6 ss6);have sz5:w5.drew.heap.size=X+1:=Z5.out;have PO6:Hid (Off O w6 (.slice ap' (ps++[Value.int .i64 (i:Int)]).length cp')):=qh (fun g e hx=>(o6 g (by rw[HL1.out]at e;exact e)).elim (fun e2=>F6.out.op g e2 hx) (fun h9=>by have:=HO5.out g (O6'.out g hx);omega));have IO6:Hid (Off O w6 (.slice ai' ss'.length ci')):=qh (fun g e hx=>(oi6 g e).elim (fun e2=>F6.out.oi g e2 hx) (fun h9=>by have:=HO5.out g (O6'.out g hx);omega));have X6:Row3 w6 X (.int .i64 k1) (.string s1) (.slice a1 l1.length c1):=(k6 X (show X < w5.heap.size by have:=Z5.out;omega) HNX.out.2.1 HNX.out.2.2).trans X5.out;have SS6:=F6.out.cells X6;have CV:=qh (CVf.out w6 _ _ F6.out.e p6 s6 (HJ.out pre' wr w6 hJr.out (B5.out.drew.trans b6) (fun b hb=>(k6 b (by have:=HJ5.out b hb;omega) (fun e=>hF.out.op b e hb) (fun e=>hF.out.oi b e hb)).trans (HOLD5.out b (HJ5.out b hb)))) (by have:=PO6.out;rw[HL1.out]at this;exact this) IO6.out);have Q6:=qh p6;have T6:=qh s6;have PP6:=qh pp6;have TT6:=qh ss6;have HK6:=qh k6;have HZ6:=qh z6;have O6:=qh o6;have OI6:=qh oi6;clear p6 s6 pp6 ss6 k6 b6 o6 oi6)
        |(go_at_call 121;refine CV.out.mono ?_;rintro e w7 ⟨B,rfl,kv7,p7,s7,h7⟩;have U7:Hid (Kv O (.slice ap ps.length cp) (.slice ai ss.length ci) w5.drew w7):=qh (Kv.up KD6.out kv7 O6.out OI6.out);have V7:Hid (kg n₁ w7 (.slice ap ps.length cp) ps):=qh (qd2 PP6.out Q6.out p7 fun g c t z e1 e2 e3=>kv7.2.1 g c t z (F6.out.op g e1) e2 (q2w PP6.out T6.out g e1) e3);have I7:Hid (x9 n₁ w7 (.slice ai ss.length ci) ss):=qh (qjv HYS.out TT6.out T6.out s7 fun g c t z e1 e2 e3=>kv7.2.1 g c t z (F6.out.oi g e1) (fun e4=>q2w Q6.out TT6.out g e4 e1) e2 e3);have F7:=qh (HF5.out.step hnh hownp howns U7.out V7.out I7.out);have SS7:=F7.out.cells (show Row3 w7 X _ _ _ from U7.out.2.1 X _ _ _ HNX.out.1 HNX.out.2.1 HNX.out.2.2 X5.out);have H7:=qh h7;clear h7 kv7 p7 s7))
      all_goals go_wp2
      all_goals go_meet
      all_goals exact⟨B,rfl,F7,qh (by have:=H7.out;rw[HL1.out]at this;exact this)⟩
     case rest =>
      obtain⟨B,rfl,F7,H7⟩:=hcut;clear S5 CD CVf
      cases B with
      |true =>
       have J7:=qh (show J (pre'++xm (ps.length+1) ss' K7 (.mk k1 s1 l1)) _ from by have:=H7.out;rw[qa rfl]at this;exact this);clear H7;go_wp2;go_roundw
       case rel=>exact⟨i+1,_,hlt,by push_cast;rfl,qh (by have hr:=hrun.out;rw[H77.out]at hr ⊢;rw[qe,<-HE1.out,<-HPL.out];exact hr),J7,qh (by have:=hlen.out;simp;omega),F7⟩
       case measure=>simp[intOf];omega
      |false =>
       obtain⟨q,hq,hjx⟩:=(show ∃ q,q <+: pre'++xm (ps.length+1) ss' K7 (.mk k1 s1 l1)/\Jx q _ from by have:=H7.out;rw[q7 (by simp)]at this;exact this);have HQ:=qh hq;have HX:=qh hjx;clear H7 hq hjx;go_wp2;go_ret;refine⟨false,rfl,F7.out.kv,F7.out.p,F7.out.i,?_⟩;rw[q7 (by simp),<-hrun.out,H77.out,HPL.out,HE1.out];exact⟨q,by rw[<-qe];exact HQ.out.trans (List.prefix_append _ _),HX.out⟩
    ·have hlt':¬ ((i:Int) < (l'.length:Int)):=by omega
     go_wp2
     gi_wp2
     go_ret;refine⟨true,rfl,hF.out.kv,hF.out.p,hF.out.i,?_⟩;rw[qa rfl,<-hrun.out,List.drop_of_length_le (by omega)];simp only[vu,List.append_nil];exact hJr.out
  ·gi_wp2
   go_ret;refine⟨false,rfl,HK2.out.trans hk3.kv,q3z HP2.out fun g c t z e e2=>hk3.2.1 g c t z (HOP2.out g e) e2,q3z HS2.out fun g c t z e e2=>hk3.2.1 g c t z (HOI2.out g e) e2,?_⟩;rw[q7 (by simp),HPRE.out];exact⟨_,⟨vu (ps.length+1) ss (if y3 k then ss++[s] else ss) (k==7) l',by simp⟩,hJx3⟩
attribute [local go_sem] Oper.semAt_some
theorem qcl(k:Int)(s:ByteArray)(a:Option Addr)(n cap:Nat)(w:World) :
  Calls Tryz.prog 59 #[.agg #[.int .i64 k,.string s,.slice a n cap]] w fun e w'=>e = .returned (.func (.func 120) #[] #[.pointer (some ⟨w.heap.size,0,none⟩)])/\w'=w.alloc (.cells #[.int .i64 k,.string s,.slice a n cap] 25):=by
 have hmf:∀ (fn:Fn) (first cap:Array Value) (w:World),(Instr.makeFunc fn first cap).run Tryz.prog w = .ok (.func fn first cap) w:=fun _ _ _ _=>rfl
 go_enter Tryz.func59,Tryz.ntmps59;go_wp2;go_ret;exact⟨rfl,rfl⟩
theorem qaz(O:World->Nat->Prop)(l nb:Nat)(w₀ W:World)(J Jx:List It->World->Prop)(k:Int)(s:ByteArray)(kids:List Nd)(a:Option Addr)(cap:Nat)
  (hJN:∀ pre W,J pre W->pre.length<=90000)
  (hJ:∀ pre A B,J pre A->Below W.heap.size A B->(∀ b,O A b->B.heap[b]?=A.heap[b]?)->J pre B)
  (hO:∀ A B,Below W.heap.size A B->∀ b,O B b->O A b)
  (hJO:∀ pre A,J pre A->∀ b,O A b->b < A.heap.size)
  (hY:∀ m pre it A vp vi v0 v1 v2 n₁ ps,W.heap.size<=n₁->J pre A->pre++[it] <+: xm 0 [] false (.mk k s kids)->ps.length<=pre.length->Given n₁ A it vp vi v0 v1 v2 ps->YieldAt Fence.wide m Tryz.prog l #[.agg #[vp,vi,.bool it.wd],.agg #[v0,v1,v2]] A
   (fun e W'=>(e = .returned (.bool true)/\J (pre++[it]) W'/\Kc O A W')\/(e = .returned (.bool false)/\Jx (pre++[it]) W'/\Kc O A W')))
  (ht:NdR w₀ (.mk k s kids) (.int .i64 k) (.string s) (.slice a kids.length cap)) (hn:Row3 W nb (.int .i64 k) (.string s) (.slice a kids.length cap)) (hs:Sup w₀ W) (hz:w₀.heap.size<=W.heap.size) (hx0:∀ b,O W b->w₀.heap.size<=b) (h0:J [] W) :
  Calls Tryz.prog 120 #[.func (.yield l) #[] #[],.pointer (some ⟨nb,0,none⟩)] W fun e w'=>(∃ v,e = .returned v)/\((J (xm 0 [] false (.mk k s kids)) w')\/∃ q,q <+: xm 0 [] false (.mk k s kids)/\Jx q w'):=by
 have hmf:∀ (fn:Fn) (first cap:Array Value) (w:World),(Instr.makeFunc fn first cap).run Tryz.prog w = .ok (.func fn first cap) w:=fun _ _ _ _=>rfl
 obtain⟨h,hh⟩:∃ h,W.heap.size=h:=⟨_,rfl⟩;rw[hh]at hz hJ hO hY;obtain⟨W3,hW3⟩:∃ W3,(W.alloc (.cells #[q8s l] 144)).alloc (.cells #[q8u h (h+1)] 144)=W3:=⟨_,rfl⟩;have z3:W3.heap.size=h+1+1:=by rw[<-hW3];simp[hh]
 have old:∀ b,b < h->W3.heap[b]?=W.heap[b]?:=fun b hb=>by rw[<-hW3];exact(Below.heap_alloc _ _ _ (by simp only[q6];omega)).trans (Below.heap_alloc _ _ _ (by omega))
 have B3:Below h W W3:=by rw[<-hW3];exact((Below.refl _ W).alloc (by omega) _).alloc (by simp only[q6];omega) _
 have O3:∀ b,O W3 b->O W b:=hO _ _ B3;have hx1:∀ b,O W b->b < h:=fun b hb=>by rw[<-hh];exact hJO [] W h0 b hb
 have E3:Env O (h+1+1) h (h+1) l w₀ W3:=by
  refine⟨?_,?_,by omega,by omega,fun hx=>by have:=hx1 _ (O3 _ hx);omega,fun hx=>by have:=hx1 _ (O3 _ hx);omega,fun b c t z e=>(old b (by have:=za e;omega)).trans (hs b c t z e),by omega,fun b hx=>hx0 b (O3 b hx),by omega⟩
  ·rw[<-hW3,<-hh];exact(Below.heap_alloc _ _ _ (by simp only[q6];omega)).trans (qm _ _)
  ·rw[<-hW3];exact x6 (by simp[hh])
 have C:=qjf (xm 0 [] false (.mk k s kids)) O (h+1+1) h (h+1) l w₀ J Jx hJN (fun pre A B hj hb hk=>hJ pre A B hj (hb.mono (by omega)) hk) (fun A B hb=>hO A B (hb.mono (by omega))) hJO (fun m pre it A vp vi v0 v1 v2 ps hj hal hd hg=>hY m pre it A vp vi v0 v1 v2 _ ps (by omega) hj hal hd hg) _ (.mk k s kids) W3 (.slice none 0 0) (.slice none 0 0) _ _ _ [] [] false [] (q5 _) ht E3 (World.ownsRow_nil _ _ _ _) (World.ownsRow_nil _ _ _ _) (q5 _) (q5 _) (hJ [] W W3 h0 B3 (fun b hb=>old b (hx1 b hb))) (fun g e=>by cases e) (fun g e=>by cases e) (List.prefix_refl _);have HC:=qh C;have N3:=(show Row3 W3 nb _ _ _ from(old nb (by have:=hn.lt;omega)).trans hn);have n00:=hn.lt;rw[hh]at n00;clear C hJN hJ hO hJO hY ht hs hx0 hx1 h0 O3;obtain⟨⟨n0,n1,n2⟩,_⟩:=N3.cells;have v3:W3.cell? ⟨h+1,0,none⟩=some (.func (.func 121) #[] #[.pointer (some ⟨h,0,none⟩),.pointer (some ⟨h+1,0,none⟩)]):=qk _ _ _ _ _ _ E3.v;have Z3:=qh z3;clear E3 B3 old z3 hn N3;go_enter Tryz.func120,Tryz.ntmps120
 go_upto_region 3 with fail
 have hW3':(W.alloc (.cells #[.func (.yield l) #[] #[]] 144)).alloc (.cells #[.func (.func 121) #[] #[.pointer (some ⟨h,0,none⟩),.pointer (some ⟨h+1,0,none⟩)]] 144)=W3:=hW3;rw[hW3'];clear hW3 hW3'
 go_wp2_with fail
 refine HC.out.mono ?_;rintro e w7⟨B,rfl,_,_,_,h7⟩;have H7:=qh h7;clear h7 HC n0 n1 n2 v3;go_wp2;go_end0;refine⟨⟨_,rfl⟩,?_⟩;have h7:=H7.out;simp only[List.nil_append,qo]at h7
 cases B
 ·rw[q7 (by simp)]at h7;exact .inr h7
 ·rw[qa rfl]at h7;exact .inl h7
attribute [local go_sem] Oper.semAt_some
structure JM(h T:Nat)(w:World)(nn lv:Nat)(rl:Loop)(W:World):Prop where
 b:Below h w W
 z:T+1+1 < W.heap.size
 d:W.heap[T+1]?=some (.deferred (some []))
 l:W.heap[T+1+1]?=some (.loop rl)
 n:W.heap[h+1]?=some (.cells #[.int .i64 nn] 3 (0,0))
 v:W.heap[h+1+1]?=some (.cells #[.int .i64 lv] 3 (0,0))
theorem JM.below{h T:Nat}{w A B:World}{nn lv:Nat}{rl:Loop}{N:Nat}(j:JM h T w nn lv rl A)(hb:Below N A B)(hN:T+1+1 < N)(hT:h+1+1 < T):JM h T w nn lv rl B :=
 ⟨j.b.trans (hb.mono (by omega)),qs j.z hb.size,(hb.block _ (by omega)).trans j.d,(hb.block _ (by omega)).trans j.l,(hb.block _ (by omega)).trans j.n,(hb.block _ (by omega)).trans j.v⟩
theorem qf6(t:Nd)(w:World)(v0 v1 v2:Value)(ht:NdR w t v0 v1 v2) :
  Calls Tryz.prog 91 #[.agg #[v0,v1,v2]] w fun e w'=>∃ lv:Nat,e = .returned (.tuple #[.int .i64 ((min t.sz 4001:Nat):Int),.int .i64 (lv:Int)])/\(t.sz<=4000->lv=t.dp)/\Below w.heap.size w w':=by
 obtain⟨k,s,kids,a,cap,rfl,rfl,rfl,rfl,hs,hl⟩:=ht.form;have eg:∀ args w,(callFunc 120 args).run Tryz.prog w = .ok (.enter 120 args) w:=enters_of Tryz.func120 (by kernel_rfl) rfl;refine(callsIn_wide (n:=6)).1 ?_;refine q1o Tryz.func91 rfl ?_;simp only[Tryz.ntmps91,List.size_toArray,qi,qo,Nat.reduceAdd,Nat.reduceSub,Array.replicate_succ,Array.replicate_zero,List.push_toArray,List.append_toArray,List.nil_append,List.cons_append];refine jq (zz ?_)
 gi_wp2
 refine jq (jq (zz ?_))
 gi_wp2_with fail
 refine⟨trivial,((callsIn_wide (n:=5)).2 (qcl k s a kids.length cap _)).mono ?_⟩;rintro e w2⟨rfl,rfl⟩
 gi_wp2
 refine q49 (q0q (gf:=120) (lb:=#[.pointer (some ⟨w.heap.size+1+1+1,0,none⟩)]) rfl eg ?_);intro r hr;have hr1:r.state = .ready:=by rw[hr]
 have hr2:r.pending=none:=by rw[hr]
 have hr3:r.params=#[7,8]:=by rw[hr]
 obtain⟨h,hh⟩:∃ h,w.heap.size=h:=⟨_,rfl⟩;rw[hh]at hr;obtain⟨w3,hw3⟩:∃ w3,(((w.alloc (Obj.cells #[Value.int IntKind.i64 k,Value.string s,Value.slice a kids.length cap] 25)).alloc (Obj.cells #[Value.int IntKind.i64 0] 3)).alloc (Obj.cells #[Value.int IntKind.i64 0] 3)).alloc (Obj.cells #[Value.int IntKind.i64 k,Value.string s,Value.slice a kids.length cap] 25)=w3:=⟨_,rfl⟩;have z3:w3.heap.size=h+1+1+1+1:=by rw[<-hw3];simp[hh]
 have hB3:Below h w w3:=by
  rw[<-hw3,<-hh];exact((((Below.refl _ w).alloc (q5 _) _).alloc (by simp) _).alloc (by simp only[q6];omega) _).alloc (by simp only[q6];omega) _
 have b1:w3.heap[h+1]?=some (.cells #[.int .i64 0] 3 (0,0)):=by
  rw[<-hw3];exact(Below.heap_alloc _ _ _ (by simp only[q6];omega)).trans ((Below.heap_alloc _ _ _ (by simp only[q6];omega)).trans (x6 (by simp[hh])))
 have b2:w3.heap[h+1+1]?=some (.cells #[.int .i64 0] 3 (0,0)):=by
  rw[<-hw3];exact(Below.heap_alloc _ _ _ (by simp only[q6];omega)).trans (x6 (by simp[hh]))
 obtain⟨T,hT⟩:∃ T,h+1+1+1=T:=⟨_,rfl⟩
 have b3:Row3 w3 T (.int .i64 k) (.string s) (.slice a kids.length cap):=by
  rw[<-hw3,<-hT];exact x6 (by simp[hh])
 rw[hw3,hh];rw[hT]at z3 ⊢;have HT:=qh hT;clear hw3;obtain⟨W1,hW1⟩:∃ W1,(w3.alloc (.deferred (some []))).alloc (.loop r)=W1:=⟨_,rfl⟩;have old:∀ b,b < w3.heap.size->W1.heap[b]?=w3.heap[b]?:=fun b hb=>by rw[<-hW1];exact(Below.heap_alloc _ _ _ (by simp only[q6];omega)).trans (Below.heap_alloc _ _ _ hb)
 have zW1:W1.heap.size=T+1+1+1:=by rw[<-hW1];simp[z3]
 have hd1:W1.heap[T+1]?=some (.deferred (some [])):=by rw[<-hW1];exact(Below.heap_alloc _ _ _ (by simp only[q6];omega)).trans (x6 (by omega))
 have hl1:W1.heap[T+1+1]?=some (.loop r):=by rw[<-hW1];exact x6 (by simp only[q6];omega)
 have hB1:Below h w W1:=by rw[<-hW1];exact(hB3.alloc (by omega) _).alloc (by simp only[q6];omega) _
 have j0:JM h T w 0 0 r W1:=⟨hB1,by omega,hd1,hl1,(old _ (by omega)).trans b1,(old _ (by omega)).trans b2⟩
 have hsup:Sup w W1:=fun b c t z e=>by
  have hb:=za e;rw[hh]at hb;exact(hB1.block b hb).trans e
 have hcall:CallsIn Fence.wide 5 Tryz.prog 120 #[.func (.yield (T+1+1)) #[] #[],.pointer (some ⟨T,0,none⟩)] W1
   (fun e w'=>(∃ v,e = .returned v)/\((((xm 0 [] false (.mk k s kids)).length<=4000/\lvs (xm 0 [] false (.mk k s kids))<=(xm 0 [] false (.mk k s kids)).length)/\JM h T w (xm 0 [] false (.mk k s kids)).length (lvs (xm 0 [] false (.mk k s kids))) r w')\/∃ q,q <+: xm 0 [] false (.mk k s kids)/\q.length=4001/\JM h T w 4001 (lvs q) { r with state:=.done,pending:=some (.exit 0) } w')):=by
  refine(callsIn_wide (n:=5)).2 ?_
  refine qaz (fun _ b=>b=h+1\/b=h+1+1) (T+1+1) T w W1 (fun pre W=>(pre.length<=4000/\lvs pre<=pre.length)/\JM h T w pre.length (lvs pre) r W) (fun q W=>q.length=4001/\JM h T w 4001 (lvs q) { r with state:=.done,pending:=some (.exit 0) } W) k s kids a cap
   (fun pre W hj=>by have:=hj.1.1;omega) (fun pre A B hj hb _=>⟨hj.1,hj.2.below hb (by omega) (by omega)⟩) (fun _ _ _ b hb=>hb) (fun pre A hj b hb=>by have:=hj.2.z;omega) ?_ ht ((old T (by omega)).trans b3) hsup (by omega) (fun b hb=>by omega) ⟨⟨by simp,by simp[lvs]⟩,j0⟩
  intro m pre it A vp vi u0 u1 u2 n₁ ps hn1 hj _ hpd hg;obtain⟨R,hR⟩:∃ R:Ending->World->Prop,(fun e W'=>(e = .returned (.bool true)/\((((pre++[it]).length<=4000/\lvs (pre++[it])<=(pre++[it]).length)/\JM h T w (pre++[it]).length (lvs (pre++[it])) r W'))/\Kc (fun _ b=>b=h+1\/b=h+1+1) A W')\/(e = .returned (.bool false)/\((pre++[it]).length=4001/\JM h T w 4001 (lvs (pre++[it])) { r with state:=.done,pending:=some (.exit 0) } W')/\Kc (fun _ b=>b=h+1\/b=h+1+1) A W'))=R:=⟨_,rfl⟩
  show YieldAt Fence.wide m Tryz.prog (T+1+1) _ A (fun e W'=>(e = .returned (.bool true)/\((((pre++[it]).length<=4000/\lvs (pre++[it])<=(pre++[it]).length)/\JM h T w (pre++[it]).length (lvs (pre++[it])) r W'))/\Kc (fun _ b=>b=h+1\/b=h+1+1) A W')\/(e = .returned (.bool false)/\((pre++[it]).length=4001/\JM h T w 4001 (lvs (pre++[it])) { r with state:=.done,pending:=some (.exit 0) } W')/\Kc (fun _ b=>b=h+1\/b=h+1+1) A W'))
  rw[hR];have HR:=qh hR;clear hR;obtain⟨⟨hpl,hlvp⟩,hjm⟩:=hj;obtain⟨hgd,hgp,hgi,hgt⟩:=hg;obtain⟨ap,cp,rfl⟩:=yh hgp;obtain⟨ai,ci,rfl⟩:=yh hgi;obtain⟨k1,s1,l1,a1,c1,ht1,rfl,rfl,rfl,_,_⟩:=hgt.form;refine⟨_,_,_,_,run_yield (P:=Tryz.prog) hjm.l (by rw[hr3];rfl),?_⟩;have hr4:r.fn=91:=by rw[hr]
  rw[hr4];refine q0r trivial Tryz.func91 ?_;have hrs:=hr1;have HJ:=qh hjm;have HRR:=qh hr;have HGD:=qh hgd;simp only[hr];clear hgp hgi hgt hjm hr hr1 hr2 hr3 hr4
  gi_wp2
  refine⟨_,run_beginRound (r:=r) ((Below.heap_alloc _ _ _ (za HJ.out.l)).trans HJ.out.l) hrs,?_⟩;obtain⟨N,hN⟩:∃ N,A.heap.size=N:=⟨_,rfl⟩;obtain⟨W2,hW2⟩:∃ W2,(A.alloc (.cells #[.slice ap ps.length cp,.slice ai it.ins.length ci,.bool it.wd] 85)).putObj (T+1+1) (.loop { r with state:=.busy })=W2:=⟨_,rfl⟩;have hTN:T+1+1 < N:=by have:=HJ.out.z;omega
  have ko:∀ b,b < N->b≠T+1+1->W2.heap[b]?=A.heap[b]?:=fun b hb1 hb2=>by
   rw[<-hW2];exact(World.putObj_heap_other hb2).trans (Below.heap_alloc _ _ _ (by omega))
  have mz:W2.heap.size=N+1:=by rw[<-hW2,World.putObj_size,q6,hN]
  have m5:W2.heap[T+1+1]?=some (.loop { r with state:=.busy }):=by rw[<-hW2];exact World.putObj_heap_same (by rw[q6];omega)
  have mt:RowP W2 N (.slice ap ps.length cp) (.slice ai it.ins.length ci) (.bool it.wd):=by
   rw[<-hW2,<-hN];exact(World.putObj_heap_other (by omega)).trans (qm _ _)
  have mb:Below h w W2:=by rw[<-hW2];exact jo (HJ.out.b.alloc (by omega) _) _ _ (by omega)
  have mn:=(ko (h+1) (by omega) (by omega)).trans HJ.out.n;have mv:=(ko (h+1+1) (by omega) (by omega)).trans HJ.out.v;have md:=(ko (T+1) (by omega) (by omega)).trans HJ.out.d;have mk:Kc (fun _ b=>b=h+1\/b=h+1+1) A W2:=⟨by omega,fun b c t z _ e=>(ko b (by have:=za e;omega) (by rintro rfl;rw[HJ.out.l]at e;cases e)).trans e,fun b hb=>.inl hb⟩;rw[hW2,hN];have c1:W2.cell? ⟨h+1,0,none⟩=some (.int .i64 pre.length):=qk _ _ _ _ _ _ mn;have c2:W2.cell? ⟨h+1+1,0,none⟩=some (.int .i64 (lvs pre)):=qk _ _ _ _ _ _ mv;have g1:W2.frozen? ⟨h+1,0,none⟩=false:=frozen_of_row _ _ _ _ _ mn;have g2:W2.frozen? ⟨h+1+1,0,none⟩=false:=frozen_of_row _ _ _ _ _ mv;obtain⟨⟨p0,p1,p2⟩,_⟩:=mt.cells;have HM:=qh (show(Below h w W2/\W2.heap.size=N+1/\W2.heap[T+1+1]?=some (.loop { r with state:=.busy })/\W2.heap[T+1]?=some (.deferred (some []))/\W2.heap[h+1]?=some (.cells #[.int .i64 pre.length] 3 (0,0))/\W2.heap[h+1+1]?=some (.cells #[.int .i64 (lvs pre)] 3 (0,0))) from⟨mb,mz,m5,md,mn,mv⟩);have HK:=qh mk;have HN:=qh hN;obtain⟨LV,hLV⟩:∃ LV,lvs pre=LV:=⟨_,rfl⟩;obtain⟨PL,hPL⟩:∃ PL,pre.length=PL:=⟨_,rfl⟩;obtain⟨D,hD⟩:∃ D,ps.length=D:=⟨_,rfl⟩;have hlv:LV<=PL:=by omega
  have hdd:D<=PL:=by omega
  rw[hLV]at c2 HM;rw[hPL]at c1 hpl HM;clear hlvp hpd;rw[hD]at p0;have HLV:=qh hLV;have HPL:=qh hPL;have HDD:=qh hD;clear ko mz m5 mb mn mv md mk hW2 hN hLV hPL hD mt;have eM:((max LV (D+1):Nat):Int)=max (LV:Int) ((D:Int)+1):=by omega
  have EM:=qh eM
  have fin:∀ rl:Loop,JM h T w (PL+1) (max LV (D+1)) rl (((W2.setCell ⟨h+1,0,none⟩ (.int .i64 ((PL:Int)+1))).setCell ⟨h+1+1,0,none⟩ (.int .i64 (max (LV:Int) ((D:Int)+1)))).putObj (T+1+1) (.loop rl)) /\
    Kc (fun _ b=>b=h+1\/b=h+1+1) A (((W2.setCell ⟨h+1,0,none⟩ (.int .i64 ((PL:Int)+1))).setCell ⟨h+1+1,0,none⟩ (.int .i64 (max (LV:Int) ((D:Int)+1)))).putObj (T+1+1) (.loop rl)) /\
    ((W2.setCell ⟨h+1,0,none⟩ (.int .i64 ((PL:Int)+1))).setCell ⟨h+1+1,0,none⟩ (.int .i64 (max (LV:Int) ((D:Int)+1)))).heap[T+1+1]?=some (.loop { r with state:=.busy }):=by
   intro rl;obtain⟨mb,mz,m5,md,mn,mv⟩:=HM.out;have hT0:=HT.out;obtain⟨W5,hW5⟩:∃ W5,(W2.setCell ⟨h+1,0,none⟩ (.int .i64 ((PL:Int)+1))).setCell ⟨h+1+1,0,none⟩ (.int .i64 (max (LV:Int) ((D:Int)+1)))=W5:=⟨_,rfl⟩
   have far:∀ b,b≠h+1->b≠h+1+1->W5.heap[b]?=W2.heap[b]?:=fun b h1 h2=>by
    rw[<-hW5];exact(Below.heap_setCell _ _ _ _ (by simp only;exact h2)).trans (Below.heap_setCell _ _ _ _ (by simp only;exact h1))
   have s1:W5.heap[h+1]?=some (.cells #[.int .i64 ((PL+1:Nat):Int)] 3 (0,0)):=by
    rw[<-hW5];exact(Below.heap_setCell _ _ _ _ (by simp only;omega)).trans (heap_setCell_same _ _ 0 _ _ _ mn)
   have s2:W5.heap[h+1+1]?=some (.cells #[.int .i64 ((max LV (D+1):Nat):Int)] 3 (0,0)):=by
    rw[<-hW5,EM.out];exact heap_setCell_same _ _ 0 _ _ _ ((Below.heap_setCell _ _ _ _ (by simp only;omega)).trans mv)
   have sz:W5.heap.size=W2.heap.size:=by rw[<-hW5];simp
   have sb:Below h w W5:=by
    rw[<-hW5];exact(mb.setCell (p:=⟨h+1,0,none⟩) (by simp only;omega) _).setCell (p:=⟨h+1+1,0,none⟩) (by simp only;omega) _
   have l5:W5.heap[T+1+1]?=some (.loop { r with state:=.busy }):=(far _ (by omega) (by omega)).trans m5;have po:∀ b,b≠T+1+1->(W5.putObj (T+1+1) (.loop rl)).heap[b]?=W5.heap[b]?:=fun b hb=>World.putObj_heap_other hb
   rw[hW5];refine⟨⟨jo sb _ _ (by omega),by rw[World.putObj_size];omega,(po _ (by omega)).trans ((far _ (by omega) (by omega)).trans md),World.putObj_heap_same (by omega),(po _ (by omega)).trans s1,(po _ (by omega)).trans s2⟩,⟨by rw[World.putObj_size,sz];exact HK.out.1,fun b c t z hb e=>?_,fun b hb=>.inl hb⟩,l5⟩;have hb1:b≠T+1+1:=by rintro rfl;rw[HJ.out.l]at e;cases e
   exact(po b hb1).trans ((far b (fun h1=>hb (.inl h1)) (fun h1=>hb (.inr h1))).trans (HK.out.2.1 b c t z hb e))
  have HF:=qh fin;have e0:({ ({ r with state:=.busy }:Loop)with state:=.ready,pending:=none }:Loop)=r:=by rw[HRR.out]
  have E0:=qh e0;have HLS:Hid (lvs (pre++[it])=max LV (D+1)):=qh (by rw[qn7,HLV.out,HGD.out,HDD.out]);have HPS:Hid ((pre++[it]).length=PL+1):=qh (by rw[qc,HPL.out];rfl);clear fin e0 eM
  by_cases hc:PL < 4000
  ·have hc':¬ (4000 < (PL:Int)+1):=by omega
   gi_wp2
   refine⟨_,_,run_endRound none (HF.out r).2.2,?_⟩;simp only[Option.isNone_none,if_true];rw[E0.out,<-HR.out];exact .inl ⟨rfl,⟨⟨by rw[HPS.out];omega,by rw[HPS.out,HLS.out];omega⟩,by rw[HPS.out,HLS.out];exact(HF.out r).1⟩,(HF.out r).2.1⟩
  ·have hc':(4000 < (PL:Int)+1):=by omega
   gi_wp2
   refine⟨_,_,run_endRound (some (.exit 0)) (HF.out r).2.2,?_⟩;simp only[Option.isNone_some,Bool.false_eq_true,if_false];rw[<-HR.out];have hp4:PL+1=4001:=by omega
   have hj:=(HF.out { r with state:=.done,pending:=some (.exit 0) }).1;rw[hp4]at hj;exact .inr ⟨rfl,⟨by rw[HPS.out];omega,by rw[HLS.out];exact hj⟩,(HF.out _).2.1⟩
 rw[z3,hW1];refine hcall.mono ?_;clear hcall j0 hsup hd1 hl1 old b1 b2 b3 hB3 hB1;have HSZ:=qh (q87 0 [] false (.mk k s kids));have HDP:=qh (qdo 0 [] false (.mk k s kids));rintro e w'⟨⟨v0,rfl⟩,⟨⟨hp4,_⟩,j⟩|⟨q,hq,hql,j⟩⟩
 ·refine⟨none,w'.putObj (T+1+1) (.loop { r with state:=.exhausted }),?_,?_⟩
  ·refine(run_endLoop (P:=Tryz.prog) j.l (by rw[hr1];simp)).trans ?_
   rw[hr2]
  ·rw[HSZ.out]at hp4 j
   rw[HDP.out,Nat.zero_add]at j;obtain⟨NN,hNN⟩:∃ NN,(Nd.mk k s kids).sz=NN:=⟨_,rfl⟩;obtain⟨LL,hLL⟩:∃ LL,(Nd.mk k s kids).dp=LL:=⟨_,rfl⟩;rw[hNN]at hp4 j;rw[hLL]at j;have HNN:=qh hNN;have HLL:=qh hLL;have HP4:=qh hp4;clear hNN hLL hp4;obtain⟨W4,hW4⟩:∃ W4,w'.putObj (T+1+1) (.loop { r with state:=.exhausted })=W4:=⟨_,rfl⟩;rw[hW4];dsimp only[Exit.inBlock,Exit.then];have n4:W4.heap[h+1]?=some (.cells #[.int .i64 (NN:Nat)] 3 (0,0)):=by rw[<-hW4];exact(World.putObj_heap_other (by have:=HT.out;omega)).trans j.n
   have v4:W4.heap[h+1+1]?=some (.cells #[.int .i64 (LL:Nat)] 3 (0,0)):=by rw[<-hW4];exact(World.putObj_heap_other (by have:=HT.out;omega)).trans j.v
   have d4:W4.heap[T+1]?=some (.deferred (some [])):=by rw[<-hW4];exact(World.putObj_heap_other (by omega)).trans j.d
   have b4:Below h w W4:=by rw[<-hW4];exact jo j.b _ _ (by have:=HT.out;omega)
   have q1:W4.cell? ⟨h+1,0,none⟩=some (.int .i64 (NN:Nat)):=qk _ _ _ _ _ _ n4;have q2:W4.cell? ⟨h+1+1,0,none⟩=some (.int .i64 (LL:Nat)):=qk _ _ _ _ _ _ v4;have q3:W4.frozen? ⟨h+1,0,none⟩=false:=frozen_of_row _ _ _ _ _ n4;have q4:W4.frozen? ⟨h+1+1,0,none⟩=false:=frozen_of_row _ _ _ _ _ v4;have N4:=qh n4;have V4:=qh v4;have D4:=qh d4;have B4:=qh b4;clear n4 v4 d4 b4 hW4 j;refine zz (n:=6) ?_;refine wpIn_wide.2 ?_
   go_wp2_with fail
   go_region
   all_goals go_wp2
   obtain⟨W5,hW5⟩:∃ W5,((W4.setCell ⟨h+1,0,none⟩ (.int .i64 (NN:Nat))).setCell ⟨h+1+1,0,none⟩ (.int .i64 (LL:Nat))).drew=W5:=⟨_,rfl⟩;have hT0:=HT.out
   have far:∀ b,b≠h+1->b≠h+1+1->W5.heap[b]?=W4.heap[b]?:=fun b h1 h2=>by
    rw[<-hW5];exact(show((W4.setCell ⟨h+1,0,none⟩ (.int .i64 (NN:Nat))).setCell ⟨h+1+1,0,none⟩ (.int .i64 (LL:Nat))).heap[b]?=W4.heap[b]? from(Below.heap_setCell _ _ _ _ (by simp only;exact h2)).trans (Below.heap_setCell _ _ _ _ (by simp only;exact h1)))
   have n5:W5.heap[h+1]?=some (.cells #[.int .i64 (NN:Nat)] 3 (0,0)):=by
    rw[<-hW5];exact(show((W4.setCell ⟨h+1,0,none⟩ (.int .i64 (NN:Nat))).setCell ⟨h+1+1,0,none⟩ (.int .i64 (LL:Nat))).heap[h+1]?=_ from(Below.heap_setCell _ _ _ _ (by simp only;omega)).trans (heap_setCell_same _ _ 0 _ _ _ N4.out))
   have v5:W5.heap[h+1+1]?=some (.cells #[.int .i64 (LL:Nat)] 3 (0,0)):=by
    rw[<-hW5];exact(show((W4.setCell ⟨h+1,0,none⟩ (.int .i64 (NN:Nat))).setCell ⟨h+1+1,0,none⟩ (.int .i64 (LL:Nat))).heap[h+1+1]?=_ from heap_setCell_same _ _ 0 _ _ _ ((Below.heap_setCell _ _ _ _ (by simp only;omega)).trans V4.out))
   have d5:W5.heap[T+1]?=some (.deferred (some [])):=(far _ (by omega) (by omega)).trans D4.out
   have b5:Below h w W5:=by
    rw[<-hW5];exact((B4.out.setCell (p:=⟨h+1,0,none⟩) (by simp only;omega) _).setCell (p:=⟨h+1+1,0,none⟩) (by simp only;omega) _).drew
   rw[hW5];refine⟨by simp,.inl ⟨_,_,rfl,run_takeDeferred d5,?_⟩⟩;have r1:(W5.putObj (T+1) (.deferred none)).cell? ⟨h+1,0,none⟩=some (.int .i64 (NN:Nat)):=qk _ _ _ _ _ _ ((World.putObj_heap_other (by omega)).trans n5);have r2:(W5.putObj (T+1) (.deferred none)).cell? ⟨h+1+1,0,none⟩=some (.int .i64 (LL:Nat)):=qk _ _ _ _ _ _ ((World.putObj_heap_other (by omega)).trans v5);refine⟨.tuple #[.int .i64 (NN:Nat),.int .i64 (LL:Nat)],by simp[results,Tryz.results91,go_sem,r1,r2],LL,?_,?_,jo b5 _ _ (by omega)⟩
   ·rw[HNN.out,Nat.min_eq_left (by have:=HP4.out;omega)]
   ·intro _;exact HLL.out.symm
 ·refine⟨some (.exit 0),w'.putObj (T+1+1) (.loop { ({ r with state:=.done,pending:=some (.exit 0) }:Loop)with state:=.exhausted }),?_,?_⟩
  ·exact run_endLoop (P:=Tryz.prog) j.l (by simp)
  ·have h4001:4001<=(Nd.mk k s kids).sz:=by
    have:=hq.length_le;rw[HSZ.out,hql]at this;exact this
   obtain⟨W4,hW4⟩:∃ W4,w'.putObj (T+1+1) (.loop { ({ r with state:=.done,pending:=some (.exit 0) }:Loop)with state:=.exhausted })=W4:=⟨_,rfl⟩;rw[hW4];obtain⟨NN,hNN⟩:∃ NN,4001=NN:=⟨_,rfl⟩;obtain⟨LL,hLL⟩:∃ LL,lvs q=LL:=⟨_,rfl⟩;rw[hNN,hLL]at j;have HNN:=qh hNN;have H41:=qh h4001;clear hLL hNN h4001 hq hql;have n4:W4.heap[h+1]?=some (.cells #[.int .i64 (NN:Nat)] 3 (0,0)):=by rw[<-hW4];exact(World.putObj_heap_other (by have:=HT.out;omega)).trans j.n
   have v4:W4.heap[h+1+1]?=some (.cells #[.int .i64 (LL:Nat)] 3 (0,0)):=by rw[<-hW4];exact(World.putObj_heap_other (by have:=HT.out;omega)).trans j.v
   have d4:W4.heap[T+1]?=some (.deferred (some [])):=by rw[<-hW4];exact(World.putObj_heap_other (by omega)).trans j.d
   have b4:Below h w W4:=by rw[<-hW4];exact jo j.b _ _ (by have:=HT.out;omega)
   have q1:W4.cell? ⟨h+1,0,none⟩=some (.int .i64 (NN:Nat)):=qk _ _ _ _ _ _ n4;have q2:W4.cell? ⟨h+1+1,0,none⟩=some (.int .i64 (LL:Nat)):=qk _ _ _ _ _ _ v4;have q3:W4.frozen? ⟨h+1,0,none⟩=false:=frozen_of_row _ _ _ _ _ n4;have q4:W4.frozen? ⟨h+1+1,0,none⟩=false:=frozen_of_row _ _ _ _ _ v4;clear hr hr1 hr2 hr3;have N4:=qh n4;have V4:=qh v4;have D4:=qh d4;have B4:=qh b4;clear n4 v4 d4 b4 hW4 j
   gi_wp2
   refine zz (n:=6) ?_;refine wpIn_wide.2 ?_
   go_wp2_with fail
   go_region
   all_goals go_wp2
   obtain⟨W5,hW5⟩:∃ W5,((W4.setCell ⟨h+1,0,none⟩ (.int .i64 (NN:Nat))).setCell ⟨h+1+1,0,none⟩ (.int .i64 (LL:Nat))).drew=W5:=⟨_,rfl⟩;have hT0:=HT.out
   have far:∀ b,b≠h+1->b≠h+1+1->W5.heap[b]?=W4.heap[b]?:=fun b h1 h2=>by
    rw[<-hW5];exact(show((W4.setCell ⟨h+1,0,none⟩ (.int .i64 (NN:Nat))).setCell ⟨h+1+1,0,none⟩ (.int .i64 (LL:Nat))).heap[b]?=W4.heap[b]? from(Below.heap_setCell _ _ _ _ (by simp only;exact h2)).trans (Below.heap_setCell _ _ _ _ (by simp only;exact h1)))
   have n5:W5.heap[h+1]?=some (.cells #[.int .i64 (NN:Nat)] 3 (0,0)):=by
    rw[<-hW5];exact(show((W4.setCell ⟨h+1,0,none⟩ (.int .i64 (NN:Nat))).setCell ⟨h+1+1,0,none⟩ (.int .i64 (LL:Nat))).heap[h+1]?=_ from(Below.heap_setCell _ _ _ _ (by simp only;omega)).trans (heap_setCell_same _ _ 0 _ _ _ N4.out))
   have v5:W5.heap[h+1+1]?=some (.cells #[.int .i64 (LL:Nat)] 3 (0,0)):=by
    rw[<-hW5];exact(show((W4.setCell ⟨h+1,0,none⟩ (.int .i64 (NN:Nat))).setCell ⟨h+1+1,0,none⟩ (.int .i64 (LL:Nat))).heap[h+1+1]?=_ from heap_setCell_same _ _ 0 _ _ _ ((Below.heap_setCell _ _ _ _ (by simp only;omega)).trans V4.out))
   have d5:W5.heap[T+1]?=some (.deferred (some [])):=(far _ (by omega) (by omega)).trans D4.out
   have b5:Below h w W5:=by
    rw[<-hW5];exact((B4.out.setCell (p:=⟨h+1,0,none⟩) (by simp only;omega) _).setCell (p:=⟨h+1+1,0,none⟩) (by simp only;omega) _).drew
   rw[hW5];refine⟨by simp,.inl ⟨_,_,rfl,run_takeDeferred d5,?_⟩⟩;have r1:(W5.putObj (T+1) (.deferred none)).cell? ⟨h+1,0,none⟩=some (.int .i64 (NN:Nat)):=qk _ _ _ _ _ _ ((World.putObj_heap_other (by omega)).trans n5);have r2:(W5.putObj (T+1) (.deferred none)).cell? ⟨h+1+1,0,none⟩=some (.int .i64 (LL:Nat)):=qk _ _ _ _ _ _ ((World.putObj_heap_other (by omega)).trans v5);refine⟨.tuple #[.int .i64 (NN:Nat),.int .i64 (LL:Nat)],by simp[results,Tryz.results91,go_sem,r1,r2],LL,?_,?_,jo b5 _ _ (by omega)⟩
   ·rw[Nat.min_eq_right H41.out,HNN.out]
   ·intro hle;have:=H41.out;omega
end Go.Proofs.YtkckddojlignpaaGreatDoor
namespace Go.Proofs.YtkckddojlignpaaGreatDoor
namespace Lx
def headP(P:UInt8->Bool)(l:Bs):Bool:=(l[0]?.map P).getD false
theorem runLen_eq(l:Bs):runLen l=l.length↔l.all part=true:=by
 induction l with
 |nil=>simp[runLen]
 |cons c r ih =>
  rw[runLen_cons,List.all_cons]
  cases hc:part c
  ·simp
  ·simp only[if_true,qi,Bool.true_and]
   rw[<-ih];omega
theorem runTo_zero(l:Bs):runTo l 0=runLen l:=by unfold runTo;rw[List.drop_zero,Nat.zero_add]
theorem part64:part 64=false:=by decide
theorem runLen_halt:∀ (l:Bs) (i:Nat) (c:UInt8),l[i]?=some c->part c=false->runLen l<=i
 |[],i,c,h,_=>by simp at h
 |a :: r,0,c,h,hp=>by
  simp at h;subst h;rw[runLen_cons,hp];simp
 |a :: r,i+1,c,h,hp=>by
  have:=runLen_halt r i c (by simpa using h) hp;rw[runLen_cons];split <;> omega
theorem runLen_cut:∀ (l:Bs) (i:Nat) (c:UInt8),l[i]?=some c->part c=false->(runLen l=i↔(l.take i).all part=true)
 |[],i,c,h,_=>by simp at h
 |a :: r,0,c,h,hp=>by
  simp at h;subst h;rw[runLen_cons,hp];simp
 |a :: r,i+1,c,h,hp=>by
  have ih:=runLen_cut r i c (by simpa using h) hp;rw[runLen_cons,List.take_succ_cons,List.all_cons]
  cases hc:part a
  ·simp
  ·simp only[if_true,Bool.true_and]
   rw[<-ih];omega
theorem slice_all(l:Bs):slice l 0 l.length=l:=by unfold slice;simp
theorem tok_name(l:Bs):tokAt l 0=some (1,l.length)↔(headP small l=true/\nameTo l 0=l.length/\words.contains l=false):=by
 unfold headP tokAt
 cases hl:l[0]? with
 |none=>simp
 |some c =>
  simp only[Option.map_some,Option.getD_some]
  cases hs:small c
  ·simp only[Bool.false_eq_true,if_false,false_and,iff_false]
   split
   ·simp
   ·split
    ·simp
    ·split <;> simp
  ·simp only[if_true,true_and]
   by_cases hn:nameTo l 0=l.length
   ·rw[hn,slice_all]
    have h45:¬ (l=[111]/\l[l.length]?=some 45):=by
     rintro⟨_,h⟩;rw[List.getElem?_eq_none (q5 _)]at h;cases h
    rw[q7 h45]
    cases words.contains l <;> simp
   ·constructor
    ·intro h
     split at h
     ·simp at h
     ·split at h
      ·simp at h
      ·simp at h;exact absurd h hn
    ·intro h;exact absurd h.1 hn
theorem tok_var(l:Bs):tokAt l 0=some (2,l.length)↔(headP capital l=true/\l.all part=true):=by
 unfold headP tokAt
 cases hl:l[0]? with
 |none=>simp
 |some c =>
  simp only[Option.map_some,Option.getD_some]
  cases hs:small c
  ·simp only[Bool.false_eq_true,if_false]
   cases hc:capital c
   ·simp only[Bool.false_eq_true,if_false,false_and,iff_false]
    split
    ·simp
    ·split <;> simp
   ·simp only[if_true,true_and]
    rw[runTo_zero,<-runLen_eq];simp
  ·have hc:capital c=false:=by
    have:=(show small c=true from hs);simp only[small,qd,qf]at this;simp only[capital,Bool.and_eq_false_iff,decide_eq_false_iff_not];omega
   simp only[if_true,hc,Bool.false_eq_true,false_and,iff_false]
   split
   ·simp
   ·split <;> simp
theorem name_miss{l:Bs}(h:Lib.indexByte l 64 = -1):nameTo l 0=l.length↔l.all part=true:=by
 have hn:=Lib.indexByte_none h;unfold nameTo;simp only;rw[q7 (fun hc=>hn _ hc.1),runTo_zero,runLen_eq]
theorem name_hit{l:Bs}{i:Nat}(h:Lib.indexByte l 64=i):nameTo l 0=l.length↔((l.take i).all part=true/\headP small (l.drop (i+1))=true/\(l.drop (i+1)).all part=true):=by
 obtain⟨h64,hlow⟩:=Lib.indexByte_some h;have hi:i < l.length:=(List.getElem?_eq_some_iff.1 h64).1;have hst:=runLen_halt l i 64 h64 part64
 have hh:headP small (l.drop (i+1))=(l[i+1]?.map small).getD false:=by
  unfold headP;rw[List.getElem?_drop,Nat.add_zero]
 rw[hh,<-runLen_cut l i 64 h64 part64,<-runLen_eq];unfold nameTo;simp only[runTo_zero]
 by_cases hr:runLen l=i
 ·rw[hr]
  cases hq:(l[i+1]?.map small)with
  |none=>simp[h64];omega
  |some b =>
   cases b
   ·simp[h64];omega
   ·have:runTo l (i+1)=i+1+runLen (l.drop (i+1)):=rfl
    simp[h64,this,List.length_drop];omega
 ·have hlt:runLen l < i:=by omega
  rw[q7 (fun hc=>hlow _ hlt hc.1)];simp[hr];omega
theorem head_take{P:UInt8->Bool}{l:Bs}{i:Nat}(h:Lib.indexByte l 64=i)(hP:P 64=false):headP P (l.take i)=headP P l:=by
 obtain⟨h64,hlow⟩:=Lib.indexByte_some h;unfold headP
 cases i with
 |zero=>rw[h64];simp[hP]
 |succ i=>simp
end Lx
end Go.Proofs.YtkckddojlignpaaGreatDoor
namespace Go.Proofs.YtkckddojlignpaaGreatDoor
open Go.RowKit
theorem q28{P:UInt8->Bool}(h:(List.range 256).all (fun n=>P n.toUInt8)=true)(c:UInt8):P c=true:=by
 have:=List.all_eq_true.1 h c.toNat (List.mem_range.2 c.toNat_lt)
 rwa [show c.toNat.toUInt8=c from by simp]at this
theorem qip{l:Lx.Bs}{c:UInt8}{k j:Nat}(hc:l[0]?=some c)(h:Lx.tokAt l 0=some (k,j)):Lx.blank c=false/\c.toNat≠37:=by
 have key:(Lx.small c||Lx.capital c||Lx.signB c||(c==45||c==61||c==60))=true:=by
  unfold Lx.tokAt at h;rw[hc]at h;simp only at h
  cases hs:Lx.small c
  ·cases hp:Lx.capital c
   ·cases hg:Lx.signB c
    ·rw[hs,hp,hg]at h
     simp only[Bool.false_eq_true,if_false]at h
     split at h
     ·rename_i hl
      have h0:∀ a b,Lx.pre l 0 [a,b]=true->c=a:=fun a b hab=>by
       have:=(Lx.pre_two hab).1;rw[hc]at this;exact zc this
      simp only[Lx.isLong,Bool.or_eq_true,qd]at hl;rcases hl with ((⟨h1,_⟩|h1)|h1)|h1 <;> (rw[h0 _ _ h1];decide)
     ·cases h
    ·simp
   ·simp
  ·simp
 have:=q28 (P:=fun c=>!(Lx.small c||Lx.capital c||Lx.signB c||(c==45||c==61||c==60))||(!Lx.blank c && !decide (c.toNat=37))) (by decide +kernel) c;simp only[key,Bool.not_true,Bool.false_or,qd,Bool.not_eq_true',decide_eq_false_iff_not]at this;exact this
theorem q4o(k:Nat)(s:ByteArray)(p:Int):q40 ⟨k,s,p⟩=true↔Lx.tokAt (bs s) 0=some (k,(bs s).length):=by
 unfold q40;simp only
 cases Lx.tokAt (bs s) 0 with
 |none=>simp
 |some x =>
  obtain⟨k',j⟩:=x;simp only[qd,qf,Option.some.injEq,Prod.mk.injEq,qr];omega
theorem qby(k:Nat)(s:ByteArray)(p:Int):xg ⟨k,s,p⟩=true↔(s.size<=40/\Lx.tokAt (bs s) 0=some (k,(bs s).length)):=by
 rw[qbx,<-q4o k s p];unfold q4p;simp only
 cases hc:(bs s)[0]? with
 |none =>
  constructor
  ·intro h;cases h
  ·rintro⟨_,h⟩
   rw[q4o]at h;simp[Lx.tokAt,hc]at h
 |some c =>
  simp only[qd,qf]
  constructor
  ·rintro⟨⟨⟨h1,_⟩,_⟩,h2⟩;exact⟨h1,h2⟩
  ·rintro⟨h1,h2⟩
   have:=qip hc ((q4o k s p).1 h2);exact⟨⟨⟨h1,by rw[this.1];rfl⟩,by simpa using this.2⟩,h2⟩
theorem q9y(s:ByteArray)(p:Int):xg ⟨1,s,p⟩=(decide (s.size<=40) && (Lx.headP Lx.small (bs s) && (decide (Lx.nameTo (bs s) 0=(bs s).length) && !Lx.words.contains (bs s)))):=by
 rw[Bool.eq_iff_iff,show xg ⟨1,s,p⟩=xg ⟨((1:Nat):Int),s,p⟩ from rfl,qby,Lx.tok_name];simp only[qd,qf,Bool.not_eq_true']
theorem qlz(s:ByteArray)(p:Int):xg ⟨2,s,p⟩=(decide (s.size<=40) && (Lx.headP Lx.capital (bs s) && (bs s).all Lx.part)):=by
 rw[Bool.eq_iff_iff,show xg ⟨2,s,p⟩=xg ⟨((2:Nat):Int),s,p⟩ from rfl,qby,Lx.tok_var];simp only[qd,qf]
theorem qbt(s:ByteArray):Lib.indexByte s.data.toList 64 = -1\/∃ i:Nat,i < s.size/\Lib.indexByte s.data.toList 64=i:=by
 have hge:=Lib.indexByte_ge s.data.toList 64
 by_cases h:Lib.indexByte s.data.toList 64 = -1
 ·exact .inl h
 ·obtain⟨i,hi⟩:=Int.eq_ofNat_of_zero_le (show 0<=Lib.indexByte s.data.toList 64 from by omega)
  have:=(List.getElem?_eq_some_iff.1 (Lib.indexByte_some hi).1).1;exact .inr ⟨i,this,hi⟩
theorem qhw(s:ByteArray)(h:Lib.indexByte s.data.toList 64 = -1):xg ⟨1,s,0⟩=(decide (s.size<=40) && (Lx.headP Lx.small (bs s) && ((bs s).all Lx.part && !Lx.words.contains (bs s)))):=by
 rw[q9y]
 congr 3
 rw[Bool.eq_iff_iff,qf];exact Lx.name_miss h
theorem qf4(s:ByteArray)(i:Nat)(h:Lib.indexByte s.data.toList 64=i) :
  xg ⟨1,s,0⟩=(decide (s.size<=40) && (Lx.headP Lx.small (bs (s.extract 0 i)) && ((bs (s.extract 0 i)).all Lx.part && (Lx.headP Lx.small (bs (s.extract (i+1) s.size)) && ((bs (s.extract (i+1) s.size)).all Lx.part && !Lx.words.contains (bs s)))))):=by
 have e1:bs (s.extract 0 i)=(bs s).take i:=by rw[yv];unfold Lx.slice;simp
 have e2:bs (s.extract (i+1) s.size)=(bs s).drop (i+1):=by
  rw[yv];unfold Lx.slice;rw[qt (by rw[List.length_drop,qr];omega)]
 rw[q9y,e1,e2,Lx.head_take (l:=bs s) h (by decide)];have:=Lx.name_hit (l:=bs s) h;rw[Bool.eq_iff_iff];simp only[qd,qf,this]
 constructor
 ·rintro⟨a,b,⟨c,d,e⟩,f⟩;exact⟨a,b,c,d,e,f⟩
 ·rintro⟨a,b,c,d,e,f⟩;exact⟨a,b,⟨c,d,e⟩,f⟩
def smallS:ByteArray:=⟨#[97,98,99,100,101,102,103,104,105,106,107,108,109,110,111,112,113,114,115,116,117,118,119,120,121,122]⟩
def capS:ByteArray:=⟨#[65,66,67,68,69,70,71,72,73,74,75,76,77,78,79,80,81,82,83,84,85,86,87,88,89,90]⟩
def partS:ByteArray:=⟨#[97,98,99,100,101,102,103,104,105,106,107,108,109,110,111,112,113,114,115,116,117,118,119,120,121,122,65,66,67,68,69,70,71,72,73,74,75,76,77,78,79,80,81,82,83,84,85,86,87,88,89,90,48,49,50,51,52,53,54,55,56,57,95,39]⟩
theorem q8i(c:UInt8):decide (0<=Lib.indexByte smallS.data.toList c)=Lx.small c:=by
 have:=q28 (P:=fun c=>decide (0<=Lib.indexByte smallS.data.toList c)==Lx.small c) (by decide +kernel) c;exact beq_iff_eq.1 this
theorem qr3(c:UInt8):decide (0<=Lib.indexByte capS.data.toList c)=Lx.capital c:=by
 have:=q28 (P:=fun c=>decide (0<=Lib.indexByte capS.data.toList c)==Lx.capital c) (by decide +kernel) c;exact beq_iff_eq.1 this
theorem qpe(c:UInt8):decide (0<=Lib.indexByte partS.data.toList c)=Lx.part c:=by
 have:=q28 (P:=fun c=>decide (0<=Lib.indexByte partS.data.toList c)==Lx.part c) (by decide +kernel) c;exact beq_iff_eq.1 this
theorem qkw(w:World):Calls Tryz.prog 181 #[] w fun e w'=>e = .returned (.slice (some ⟨w.heap.size,0,none⟩) 17 17)/\w'=w.alloc (.cells (wordsB.map Value.string).toArray 9):=by
 go_enter Tryz.func181,Tryz.ntmps181;go_wp2;go_ret;exact⟨rfl,rfl⟩
theorem q5o(P:UInt8->Bool)(V:Bool)(s L:ByteArray)(w:World)(hP:∀ c,decide (0<=Lib.indexByte L.data.toList c)=P c)(hV:Lx.headP P (bs s)=V) :
  Calls Tryz.prog 118 #[.string s,.string L] w fun e w'=>e = .returned (.bool V)/\w'=w:=by
 by_cases h0:s.size=0
 ·obtain rfl:s=⟨#[]⟩:=by
   obtain⟨⟨l⟩⟩:=s;have:l=[]:=List.eq_nil_of_length_eq_zero (by simpa[ByteArray.size]using h0);rw[this]
  have hVf:V=false:=by rw[<-hV];rfl
  subst hVf;clear hV hP h0;go_enter Tryz.func118,Tryz.ntmps118;go_wp2;go_ret;exact⟨rfl,rfl⟩
 ·have hpos:0 < s.size:=by omega
  have hne2:(s.toList==[])=false:=by
   rw[ByteArray.toList_eq,q9];intro e;have h1:s.data.toList.length=s.size:=rfl;have h2:s.size=([]:List UInt8).length:=h1.symm.trans (congrArg List.length e);simp only[qo]at h2;omega
  have hne:(!(s.toList==[]))=true:=by rw[hne2];rfl
  have hg:(bs s)[0]?=some s[0]:=by rw[qj (by rw[qr];exact hpos),xu hpos]
  have hv:decide ((0:Int)<=Lib.indexByte L.data.toList s[0])=V:=by rw[<-hV,hP];unfold Lx.headP;rw[hg];rfl
  have hlt:s[0].toNat < 256:=s[0].toNat_lt;have C:=fun w=>Tryz.strings_IndexByte L (s[0].toNat:Int) w
  rw[show((s[0].toNat:Int)).toNat.toUInt8=s[0] from by simp]at C;obtain⟨I,hI⟩:∃ I,Lib.indexByte L.data.toList s[0]=I:=⟨_,rfl⟩;rw[hI]at C hv;have HC:=qh C;have HV:=qh hv;clear C hV hP hg hI h0 hv;go_enter Tryz.func118,Tryz.ntmps118
  go_wp2_with fail
  refine(HC.out _).mono ?_;rintro e w1⟨rfl,rfl⟩;go_wp2;go_ret;exact⟨by rw[<-HV.out];rfl,rfl⟩
theorem qo0{l:Lx.Bs}{k:Nat}(h:k < l.length):(l.drop k).all Lx.part=(Lx.part l[k] && (l.drop (k+1)).all Lx.part):=by
 rw[List.drop_eq_getElem_cons h,List.all_cons]
theorem q5a(V:Bool)(s:ByteArray)(w:World)(hs:s.size<=maxLen)(hV:(bs s).all Lx.part=V) :
  Calls Tryz.prog 119 #[.string s] w fun e w'=>e = .returned (.bool V)/\w'=w:=by
 unfold maxLen at hs;have HV:=qh hV;have HL:=qh (qr s);have hby:=xh;have HC:=qh (fun(c:UInt8) w=>Tryz.strings_IndexByte partS (c.toNat:Int) w);clear hV;go_enter Tryz.func119,Tryz.ntmps119;go_wp2
 go_loopw [6] (fun v wr=>∃ k:Nat,k<=s.size/\v = .int .i64 k/\Hid (((bs s).drop k).all Lx.part=V)/\wr=w) (fun v _=>s.size - (intOf v).toNat)
 case atStart=>exact⟨0,qp _,rfl,qh (by rw[List.drop_zero];exact HV.out),rfl⟩
 case round =>
  obtain⟨k,hk,rfl,hall,rfl⟩:=hrel
  by_cases hlt:k < s.size
  ·have hlt':(k:Int) < (s.size:Int):=by omega
   have hst:=qo0 (l:=bs s) (k:=k) (by rw[qr];exact hlt);rw[xu hlt]at hst;have C:=fun w=>HC.out s[k] w
   rw[show((s[k].toNat:Int)).toNat.toUInt8=s[k] from by simp]at C;have hin:=qpe s[k];obtain⟨I,hI⟩:∃ I,Lib.indexByte partS.data.toList s[k]=I:=⟨_,rfl⟩;rw[hI]at C hin;have Hst:=qh hst;have CC:=qh C;have Hin:=qh hin;clear hst C hI hin;unfold partS at CC
   go_wp2_with fail
   refine(CC.out _).mono ?_;rintro e w1⟨rfl,rfl⟩
   by_cases hi:I < 0
   ·go_wp2
    go_ret;exact⟨by rw[<-hall.out,Hst.out,<-Hin.out,decide_eq_false (by omega)];rfl,rfl⟩
   ·go_wp2
    go_roundw
    case rel=>exact⟨k+1,by omega,by push_cast;rfl,qh (by rw[<-hall.out,Hst.out,<-Hin.out,decide_eq_true (by omega)];rfl),trivial⟩
    case measure=>simp[intOf];omega
  ·have hlt':¬ (k:Int) < (s.size:Int):=by omega
   have hVt:V=true:=by rw[<-hall.out,List.drop_of_length_le (by rw[qr];omega)];rfl
   subst hVt;go_wp2;go_ret;exact⟨rfl,rfl⟩
theorem qf9(s:ByteArray)(w:World)(hs:s.size<=maxLen) :
  Calls Tryz.prog 213 #[.string s,.string ⟨#[64]⟩] w fun e w'=>Below w.heap.size w w' /\
   ((Lib.indexByte s.data.toList 64 = -1/\e = .returned (.tuple #[.string s,.string ⟨#[]⟩,.bool false])) \/
    ∃ i:Nat,i < s.size/\Lib.indexByte s.data.toList 64=i/\e = .returned (.tuple #[.string (s.extract 0 i),.string (s.extract (i+1) s.size),.bool true])):=by
 have hc:=qbt s;unfold maxLen at hs;have HC:=fun w=>Tryz.stringslite_Index_one s 64 w
 rcases hc with hm|⟨i,hi,he⟩
 ·rw[hm]at HC
  have HM:=qh hm;have C:=qh HC;clear hm HC;go_enter Tryz.func213,Tryz.ntmps213
  go_wp2_with fail
  refine(C.out _).mono ?_;rintro e w1⟨rfl,rfl⟩;go_wp2
  go_ret3
  exact⟨Below.refl _ _,.inl ⟨HM.out,rfl⟩⟩
 ·rw[he]at HC
  have HM:=qh he;have C:=qh HC;clear he HC;have c1:(0:Int)<=(i:Int):=by omega
  have c2:(i:Int)<=(s.size:Int):=by omega
  have c3:(0:Int)<=(i:Int)+1:=by omega
  have c4:(i:Int)+1<=(s.size:Int):=by omega
  go_enter Tryz.func213,Tryz.ntmps213
  go_wp2_with fail
  refine(C.out _).mono ?_;rintro e w1⟨rfl,rfl⟩
  go_wp2_with fail
  go_quiet (fail)
  go_wp2
  go_ret3
  exact⟨⟨rfl,rfl,rfl,q5 _,fun _ _=>rfl⟩,.inr ⟨i,hi,HM.out,rfl⟩⟩
theorem qgm(s:ByteArray)(w:World)(hs:s.size<=maxLen) :
  Calls Tryz.prog 180 #[.string s,.string ⟨#[64]⟩] w fun e w'=>Below w.heap.size w w' /\
   ((Lib.indexByte s.data.toList 64 = -1/\e = .returned (.tuple #[.string s,.string ⟨#[]⟩,.bool false])) \/
    ∃ i:Nat,i < s.size/\Lib.indexByte s.data.toList 64=i/\e = .returned (.tuple #[.string (s.extract 0 i),.string (s.extract (i+1) s.size),.bool true])):=by
 have C:=qh (fun w=>qf9 s w hs);go_enter Tryz.func180,Tryz.ntmps180
 go_wp2_with fail
 refine(C.out _).mono ?_;rintro e w1⟨hb,⟨hm,rfl⟩|⟨i,hi,he,rfl⟩⟩
 ·have HM:=qh hm
  clear hm;go_wp2
  go_ret3
  exact⟨hb,.inl ⟨HM.out,rfl⟩⟩
 ·have HM:=qh he
  clear he;go_wp2
  go_ret3
  exact⟨hb,.inr ⟨i,hi,HM.out,rfl⟩⟩
theorem qck(x:ByteArray)(w:World)(b:Nat)(hb:∀ k,k < wordsB.length->w.cell? ⟨b,0+k,none⟩=some (.string (wordsB.getD k ByteArray.empty))) :
  Calls Tryz.prog 61 #[.slice (some ⟨b,0,none⟩) 17 17,.string x] w fun e w'=>e = .returned (.bool (Lx.words.contains (bs x)))/\w'=w:=by
 have:=Tryz.slices_Contains_string b 0 17 17 wordsB x w (by decide) (by omega) hb
 rwa [q0o]at this
theorem qbj(w:World)(L:List ByteArray)(t:TypeId)(k:Nat)(hk:k < L.length):(w.alloc (.cells (L.map Value.string).toArray t)).cell? ⟨w.heap.size,0+k,none⟩=some (.string (L.getD k ByteArray.empty)):=by
 rw[World.cell?_alloc_at _ _ _ _ rfl];simp only[Nat.zero_add,List.getElem?_toArray,List.getElem?_map,List.getD_eq_getElem?_getD];rw[qj hk];rfl
theorem qdx(V:Bool)(s:ByteArray)(w:World)(hs:s.size<=maxLen)(hm:Lib.indexByte s.data.toList 64 = -1)(hV:xg ⟨1,s,0⟩=V) :
  Calls Tryz.prog 117 #[.string s] w fun e w'=>e = .returned (.bool V)/\Below w.heap.size w w':=by
 rw[qhw s hm]at hV;have C0:=qh (fun w=>qgm s w hs);obtain⟨p,hp⟩:∃ p,s=p:=⟨_,rfl⟩;have hx1:p.size<=maxLen:=by rw[<-hp];exact hs
 have CW:Hid (∀ w,Calls Tryz.prog 181 #[] w fun e w'=>e = .returned (.slice (some ⟨w.heap.size,0,none⟩) 17 17)/\w'=w.alloc (.cells (wordsB.map Value.string).toArray 9)):=qh qkw;obtain⟨VW,hW⟩:∃ v,Lx.words.contains (bs s)=v:=⟨_,rfl⟩;have CC:=fun w b hb=>qck s w b hb
 rw[hW]at CC;rw[hp]at hV;have hV:=hV;rw[<-hp]at hV;rw[hW]at hV;obtain⟨B1,hB1⟩:∃ v,Lx.headP Lx.small (bs s)=v:=⟨_,rfl⟩;obtain⟨P1,hP1⟩:∃ v,(bs s).all Lx.part=v:=⟨_,rfl⟩;rw[hB1,hP1]at hV;have CB1:=qh (fun w=>q5o Lx.small B1 s smallS w q8i hB1);have CP1:=qh (fun w=>q5a P1 s w hs hP1);unfold smallS at CB1;have CH:=qh CC;have HM:=qh hm;have HV:=qh hV;have HPQ:=qh hp
 by_cases h40:(s.size:Int)<=40
 ·have HD:=qh (decide_eq_true (show s.size<=40 by omega))
  clear CC hW hm hV hp hB1 hP1 hx1;go_enter Tryz.func117,Tryz.ntmps117
  go_wp2_with fail
  refine(C0.out _).mono ?_;rintro e w1⟨hb,⟨_,rfl⟩|⟨i,_,he,_⟩⟩
  case inr=>rw[HM.out]at he;omega
  clear C0;have Hb:=qh hb;clear hb
  go_wp2_with fail
  refine(CB1.out _).mono ?_;rintro e w2⟨rfl,hw⟩;obtain rfl:=hw.symm;clear CB1
  cases B1
  ·go_wp2
   go_ret;exact⟨by rw[<-HV.out,HD.out];rfl,Hb.out⟩
  ·skip
   go_wp2_with fail
   refine(CP1.out _).mono ?_;rintro e w2⟨rfl,hw⟩;obtain rfl:=hw.symm;clear CP1
   cases P1
   ·go_wp2
    go_ret;exact⟨by rw[<-HV.out,HD.out];rfl,Hb.out⟩
   ·skip
    go_wp2_with fail
    refine(CW.out _).mono ?_;rintro e w2⟨rfl,rfl⟩;have CI:=qh (CH.out _ _ (fun k hk=>qbj w1 wordsB 9 k hk));clear CW CH
    go_wp2_with fail
    refine CI.out.mono ?_;rintro e w2⟨rfl,rfl⟩;clear CI
    cases VW
    ·go_wp2
     go_ret;exact⟨by rw[<-HV.out,HD.out];rfl,Hb.out.trans ((Below.refl _ _).alloc Hb.out.size _)⟩
    ·go_wp2
     go_ret;exact⟨by rw[<-HV.out,HD.out];rfl,Hb.out.trans ((Below.refl _ _).alloc Hb.out.size _)⟩
 ·have HD:=qh (decide_eq_false (show ¬ s.size<=40 by omega))
  clear CC hW hm hV hp hB1 hP1 hx1;go_enter Tryz.func117,Tryz.ntmps117
  go_wp2_with fail
  refine(C0.out _).mono ?_;rintro e w1⟨hb,⟨_,rfl⟩|⟨i,_,he,_⟩⟩
  case inr=>rw[HM.out]at he;omega
  clear C0;have Hb:=qh hb;clear hb;go_wp2;go_ret;exact⟨by rw[<-HV.out,HD.out];rfl,Hb.out⟩
theorem qc7(V:Bool)(s:ByteArray)(w:World)(hs:s.size<=maxLen)(i:Nat)(hi:i < s.size)(hm:Lib.indexByte s.data.toList 64=i)(hV:xg ⟨1,s,0⟩=V) :
  Calls Tryz.prog 117 #[.string s] w fun e w'=>e = .returned (.bool V)/\Below w.heap.size w w':=by
 rw[qf4 s i hm]at hV;have hx1:(s.extract 0 i).size<=maxLen:=by rw[ByteArray.size_extract];unfold maxLen at *;omega
 have hx2:(s.extract (i+1) s.size).size<=maxLen:=by rw[ByteArray.size_extract];unfold maxLen at *;omega
 have C0:=qh (fun w=>qgm s w hs);obtain⟨p,hp⟩:∃ p,s.extract 0 i=p:=⟨_,rfl⟩;obtain⟨q,hq⟩:∃ q,s.extract (i+1) s.size=q:=⟨_,rfl⟩;rw[hp]at hx1;rw[hq]at hx2;rw[hp,hq]at hV;have CW:Hid (∀ w,Calls Tryz.prog 181 #[] w fun e w'=>e = .returned (.slice (some ⟨w.heap.size,0,none⟩) 17 17)/\w'=w.alloc (.cells (wordsB.map Value.string).toArray 9)):=qh qkw;obtain⟨VW,hW⟩:∃ v,Lx.words.contains (bs s)=v:=⟨_,rfl⟩;have CC:=fun w b hb=>qck s w b hb
 rw[hW]at CC;rw[hW]at hV;obtain⟨B1,hB1⟩:∃ v,Lx.headP Lx.small (bs p)=v:=⟨_,rfl⟩;obtain⟨P1,hP1⟩:∃ v,(bs p).all Lx.part=v:=⟨_,rfl⟩;rw[hB1,hP1]at hV;obtain⟨B2,hB2⟩:∃ v,Lx.headP Lx.small (bs q)=v:=⟨_,rfl⟩;obtain⟨P2,hP2⟩:∃ v,(bs q).all Lx.part=v:=⟨_,rfl⟩;rw[hB2,hP2]at hV;have CB1:=qh (fun w=>q5o Lx.small B1 p smallS w q8i hB1);have CP1:=qh (fun w=>q5a P1 p w hx1 hP1);unfold smallS at CB1;have CB2:=qh (fun w=>q5o Lx.small B2 q smallS w q8i hB2);have CP2:=qh (fun w=>q5a P2 q w hx2 hP2);unfold smallS at CB2;have CH:=qh CC;have HM:=qh hm;have HV:=qh hV;have HPQ:=qh hp;have HQQ:=qh hq
 by_cases h40:(s.size:Int)<=40
 ·have HD:=qh (decide_eq_true (show s.size<=40 by omega))
  clear CC hW hm hV hp hq hB2 hP2 hx2 hi hB1 hP1 hx1;go_enter Tryz.func117,Tryz.ntmps117
  go_wp2_with fail
  refine(C0.out _).mono ?_;rintro e w1⟨hb,⟨hm,_⟩|⟨i',_,he,rfl⟩⟩
  ·rw[HM.out]at hm;omega
  obtain rfl:i'=i:=by rw[HM.out]at he;omega
  rw[HPQ.out,HQQ.out];clear C0;have Hb:=qh hb;clear hb
  go_wp2_with fail
  refine(CB1.out _).mono ?_;rintro e w2⟨rfl,hw⟩;obtain rfl:=hw.symm;clear CB1
  cases B1
  ·go_wp2
   go_ret;exact⟨by rw[<-HV.out,HD.out];rfl,Hb.out⟩
  ·skip
   go_wp2_with fail
   refine(CP1.out _).mono ?_;rintro e w2⟨rfl,hw⟩;obtain rfl:=hw.symm;clear CP1
   cases P1
   ·go_wp2
    go_ret;exact⟨by rw[<-HV.out,HD.out];rfl,Hb.out⟩
   ·skip
    go_wp2_with fail
    refine(CB2.out _).mono ?_;rintro e w2⟨rfl,hw⟩;obtain rfl:=hw.symm;clear CB2
    cases B2
    ·go_wp2
     go_ret;exact⟨by rw[<-HV.out,HD.out];rfl,Hb.out⟩
    ·skip
     go_wp2_with fail
     refine(CP2.out _).mono ?_;rintro e w2⟨rfl,hw⟩;obtain rfl:=hw.symm;clear CP2
     cases P2
     ·go_wp2
      go_ret;exact⟨by rw[<-HV.out,HD.out];rfl,Hb.out⟩
     ·skip
      go_wp2_with fail
      refine(CW.out _).mono ?_;rintro e w2⟨rfl,rfl⟩;have CI:=qh (CH.out _ _ (fun k hk=>qbj w1 wordsB 9 k hk));clear CW CH
      go_wp2_with fail
      refine CI.out.mono ?_;rintro e w2⟨rfl,rfl⟩;clear CI
      cases VW
      ·go_wp2
       go_ret;exact⟨by rw[<-HV.out,HD.out];rfl,Hb.out.trans ((Below.refl _ _).alloc Hb.out.size _)⟩
      ·go_wp2
       go_ret;exact⟨by rw[<-HV.out,HD.out];rfl,Hb.out.trans ((Below.refl _ _).alloc Hb.out.size _)⟩
 ·have HD:=qh (decide_eq_false (show ¬ s.size<=40 by omega))
  clear CC hW hm hV hp hq hB2 hP2 hx2 hi hB1 hP1 hx1;go_enter Tryz.func117,Tryz.ntmps117
  go_wp2_with fail
  refine(C0.out _).mono ?_;rintro e w1⟨hb,⟨hm,_⟩|⟨i',_,he,rfl⟩⟩
  ·rw[HM.out]at hm;omega
  obtain rfl:i'=i:=by rw[HM.out]at he;omega
  rw[HPQ.out,HQQ.out];clear C0;have Hb:=qh hb;clear hb;go_wp2;go_ret;exact⟨by rw[<-HV.out,HD.out];rfl,Hb.out⟩
theorem qnh(V:Bool)(s:ByteArray)(w:World)(hs:s.size<=maxLen)(hV:xg ⟨1,s,0⟩=V) :
  Calls Tryz.prog 117 #[.string s] w fun e w'=>e = .returned (.bool V)/\Below w.heap.size w w':=by
 rcases qbt s with hm|⟨i,hi,he⟩
 ·exact qdx V s w hs hm hV
 ·exact qc7 V s w hs i hi he hV
theorem qih(s:ByteArray)(w:World)(hs:s.size<=maxLen) :
  Calls Tryz.prog 117 #[.string s] w fun e w'=>e = .returned (.bool (xg ⟨1,s,0⟩))/\Below w.heap.size w w':=qnh _ s w hs rfl
theorem qpb(V:Bool)(s:ByteArray)(w:World)(hs:s.size<=maxLen)(hV:xg ⟨2,s,0⟩=V) :
  Calls Tryz.prog 58 #[.string s] w fun e w'=>e = .returned (.bool V)/\Below w.heap.size w w':=by
 rw[qlz]at hV;obtain⟨B1,hB1⟩:∃ v,Lx.headP Lx.capital (bs s)=v:=⟨_,rfl⟩;obtain⟨P1,hP1⟩:∃ v,(bs s).all Lx.part=v:=⟨_,rfl⟩;rw[hB1,hP1]at hV;have CB1:=qh (fun w=>q5o Lx.capital B1 s capS w qr3 hB1);have CP1:=qh (fun w=>q5a P1 s w hs hP1);unfold capS at CB1;have HV:=qh hV
 by_cases h40:(s.size:Int)<=40
 ·have HD:=qh (decide_eq_true (show s.size<=40 by omega))
  clear hV hB1 hP1;go_enter Tryz.func58,Tryz.ntmps58
  go_wp2_with fail
  refine(CB1.out _).mono ?_;rintro e w1⟨rfl,rfl⟩;clear CB1
  cases B1
  ·go_wp2
   go_ret;exact⟨by rw[<-HV.out,HD.out];rfl,Below.refl _ _⟩
  ·go_wp2_with fail
   refine(CP1.out _).mono ?_;rintro e w2⟨rfl,rfl⟩;clear CP1
   cases P1
   ·go_wp2
    go_ret;exact⟨by rw[<-HV.out,HD.out];rfl,Below.refl _ _⟩
   ·go_wp2
    go_ret;exact⟨by rw[<-HV.out,HD.out];rfl,Below.refl _ _⟩
 ·have HD:=qh (decide_eq_false (show ¬ s.size<=40 by omega))
  clear hV hB1 hP1;go_enter Tryz.func58,Tryz.ntmps58;go_wp2;go_ret;exact⟨by rw[<-HV.out,HD.out];rfl,Below.refl _ _⟩
theorem ql5(s:ByteArray)(w:World)(hs:s.size<=maxLen) :
  Calls Tryz.prog 58 #[.string s] w fun e w'=>e = .returned (.bool (xg ⟨2,s,0⟩))/\Below w.heap.size w w':=qpb _ s w hs rfl
end Go.Proofs.YtkckddojlignpaaGreatDoor
namespace Go.Proofs.YtkckddojlignpaaGreatDoor
open Go.RowKit Go.Shelf
def q22(g:Nat)(B:Nd->Bool)(t:Nd):Prop:=∀ (w:World) (v0 v1 v2:Value),NdR w t v0 v1 v2->Calls Tryz.prog g #[.agg #[v0,v1,v2]] w fun e w'=>e = .returned (.bool (B t))/\Below w.heap.size w w'
theorem qo1{B:Nd->Bool}{l:List Nd}{i:Nat}(h:i < l.length):(l.drop i).all B=(B l[i] && (l.drop (i+1)).all B):=by
 rw[List.drop_eq_getElem_cons h,List.all_cons]
theorem qiu(g c:Nat)(eg:∀ args w,(callFunc g args).run Tryz.prog w = .ok (.enter g args) w)(B:Nd->Bool)(t:Nd)(hB:q22 g B t)(w:World)(v0 v1 v2:Value)(ht:NdR w t v0 v1 v2)(hc:w.cell? ⟨c,0,none⟩=some (.func (.func g) #[] #[])) :
  Calls Tryz.prog 202 #[.agg #[v0,v1,v2],.pointer (some ⟨c,0,none⟩)] w fun e w'=>e = .returned (.bool (!B t))/\Below w.heap.size w w':=by
 obtain⟨k,s,l,a,cap,rfl,rfl,rfl,rfl,hs,hl⟩:=ht.form;have hb0:=((Below.refl w.heap.size w).alloc (q5 _) (.cells #[.int .i64 k,.string s,.slice a l.length cap] 25));have C:=qh (hB _ _ _ _ (ht.later hb0));have HB:=qh hb0;have hc':=(World.cell?_alloc_past (w:=w) (.cells #[.int .i64 k,.string s,.slice a l.length cap] 25) c 0 (qg hc)).trans hc;obtain⟨V,hV⟩:∃ V,B (.mk k s l)=V:=⟨_,rfl⟩;rw[hV]at C ⊢;clear hV hB ht hb0 hc;go_enter Tryz.func202,Tryz.ntmps202
 go_wp2_with fail
 refine C.out.mono ?_;rintro e w1⟨rfl,hb⟩;have HB1:=qh (HB.out.trans (hb.mono HB.out.size));clear hb C hc';go_wp2;go_ret;exact⟨rfl,HB1.out⟩
theorem qc8(g c:Nat)(eg:∀ args w,(callFunc g args).run Tryz.prog w = .ok (.enter g args) w)(B:Nd->Bool)(k:Int)(s:ByteArray)(l:List Nd)(a:Option Addr)(cap:Nat)(w:World)(hl:l.length<=maxLen)
  (hB:∀ i,(h:i < l.length)->q22 g B l[i]) (ht:NdR w (.mk k s l) (.int .i64 k) (.string s) (.slice a l.length cap)) (hc:w.cell? ⟨c,0,none⟩=some (.func (.func g) #[] #[])) :
  Calls Tryz.prog 225 #[.slice a l.length cap,.func (.func 202) #[] #[.pointer (some ⟨c,0,none⟩)]] w fun e w'=>∃ x:Int,e = .returned (.int .i64 x)/\decide (0<=x)=(!l.all B)/\Below w.heap.size w w':=by
 unfold maxLen at hl;have HB:=qh hB;have HT:=qh ht;have HC:=qh hc;have L0:=qg hc;obtain⟨A,hA⟩:∃ A,l.all B=A:=⟨_,rfl⟩;have HA:=qh hA;rw[hA];clear hB ht hc hA;go_enter Tryz.func225,Tryz.ntmps225;go_wp2
 go_loopw [8] (fun v wr=>∃ i:Nat,i<=l.length/\v = .int .i64 i/\Hid ((l.drop i).all B=A)/\Hid (Below w.heap.size w wr)) (fun v _=>l.length - (intOf v).toNat)
 case atStart=>exact⟨0,qp _,rfl,qh (by rw[List.drop_zero];exact HA.out),Below.refl _ _⟩
 case round =>
  obtain⟨i,hi,rfl,hrun,hbl⟩:=hrel
  by_cases hlt:i < l.length
  ·have hlt':(i:Int) < (l.length:Int):=by omega
   have hi0:(0:Int)<=(i:Int):=by omega
   obtain⟨b,o,k1,s1,l1,a1,c1,rfl,e1,x0,x1,x2,r1⟩:=(HT.out.later hbl.out).kid i hlt;obtain⟨V,hV⟩:∃ V,B l[i]=V:=⟨_,rfl⟩;have C:=qiu g c eg B l[i] (HB.out i hlt) wr (.int .i64 k1) (.string s1) (.slice a1 l1.length c1) (by rw[e1];exact r1) ((hbl.out.cell (p:=⟨c,0,none⟩) L0).trans HC.out);have Hst:=qh (qo1 (B:=B) hlt);rw[hV]at C Hst;have CC:=qh C;clear C hV e1 r1
   go_wp2_with fail
   refine CC.out.mono ?_;rintro e w5⟨rfl,hb5⟩;have hbx:Hid (Below w.heap.size w w5):=qh (hbl.out.trans (hb5.mono hbl.out.size));clear hb5 CC x0 x1 x2
   cases V with
   |false =>
    go_wp2;go_ret;exact⟨(i:Int),rfl,by rw[<-hrun.out,Hst.out,decide_eq_true (by omega)];rfl,hbx.out⟩
   |true =>
    go_wp2;go_roundw
    case rel=>exact⟨i+1,hlt,by push_cast;rfl,qh (by rw[<-hrun.out,Hst.out];rfl),hbx⟩
    case measure=>simp[intOf];omega
  ·have hlt':¬ ((i:Int) < (l.length:Int)):=by omega
   have hAt:A=true:=by rw[<-hrun.out,List.drop_of_length_le (by omega)];rfl
   subst hAt;go_wp2;go_ret;exact⟨-1,rfl,by decide,hbl.out⟩
theorem q8k(g c:Nat)(eg:∀ args w,(callFunc g args).run Tryz.prog w = .ok (.enter g args) w)(B:Nd->Bool)(k:Int)(s:ByteArray)(l:List Nd)(a:Option Addr)(cap:Nat)(w:World)(hl:l.length<=maxLen)
  (hB:∀ i,(h:i < l.length)->q22 g B l[i]) (ht:NdR w (.mk k s l) (.int .i64 k) (.string s) (.slice a l.length cap)) (hc:w.cell? ⟨c,0,none⟩=some (.func (.func g) #[] #[])) :
  Calls Tryz.prog 201 #[.slice a l.length cap,.func (.func 202) #[] #[.pointer (some ⟨c,0,none⟩)]] w fun e w'=>e = .returned (.bool (!l.all B))/\Below w.heap.size w w':=by
 have C:=qh (qc8 g c eg B k s l a cap w hl hB ht hc);clear hB ht hc;obtain⟨A,hA⟩:∃ A,(!l.all B)=A:=⟨_,rfl⟩;rw[hA]at C ⊢;clear hA;go_enter Tryz.func201,Tryz.ntmps201
 go_wp2_with fail
 refine C.out.mono ?_;rintro e w1⟨x,rfl,hx,hb⟩;have HX:=qh hx;have HB:=qh hb;clear hx hb C;go_wp2;go_ret;exact⟨by rw[<-HX.out];rfl,HB.out⟩
theorem q6w(g:Nat)(eg:∀ args w,(callFunc g args).run Tryz.prog w = .ok (.enter g args) w)(B:Nd->Bool)(k:Int)(s:ByteArray)(l:List Nd)(a:Option Addr)(cap:Nat)(w:World)(hl:l.length<=maxLen)
  (hB:∀ i,(h:i < l.length)->q22 g B l[i]) (ht:NdR w (.mk k s l) (.int .i64 k) (.string s) (.slice a l.length cap)) :
  Calls Tryz.prog 153 #[.slice a l.length cap,.func (.func g) #[] #[]] w fun e w'=>e = .returned (.bool (l.all B))/\Below w.heap.size w w':=by
 have hmf:∀ (fn:Fn) (first cap:Array Value) (w:World),(Instr.makeFunc fn first cap).run Tryz.prog w = .ok (.func fn first cap) w:=fun _ _ _ _=>rfl
 have hb0:=(Below.refl w.heap.size w).alloc (q5 _) (.cells #[.func (.func g) #[] #[]] 86);have C:=qh (fun w'=>(show NdR w' _ _ _ _->_ from fun h1 hc=>q8k g w.heap.size eg B k s l a cap w' hl hB h1 hc));have HT:=qh (ht.later hb0);have HB:=qh hb0;have HC:=qh (show(w.alloc (.cells #[.func (.func g) #[] #[]] 86)).cell? ⟨w.heap.size,0,none⟩=some (.func (.func g) #[] #[]) from(World.cell?_alloc_at _ _ _ _ rfl).trans rfl);obtain⟨A,hA⟩:∃ A,l.all B=A:=⟨_,rfl⟩;rw[hA]at C ⊢;clear hA hB ht hb0;go_enter Tryz.func153,Tryz.ntmps153
 go_wp2_with fail
 refine(C.out _ HT.out HC.out).mono ?_;rintro e w1⟨rfl,hb⟩;have HB1:=qh (HB.out.trans (hb.mono HB.out.size));clear hb C HT HC
 cases A
 ·go_wp2
  go_ret;exact⟨rfl,HB1.out⟩
 ·go_wp2
  go_ret;exact⟨rfl,HB1.out⟩
def q7f(g:Nat)(N:ByteArray->Bool)(s:ByteArray):Prop:=∀ w:World,Calls Tryz.prog g #[.string s] w fun e w'=>e = .returned (.bool (N s))/\Below w.heap.size w w'
def xf(N:ByteArray->Bool)(lo hi:Int)(B:Nd->Bool)(s:ByteArray)(l:List Nd):Bool:=decide (lo<=(l.length:Int)) && (decide ((l.length:Int)<=hi) && (N s && l.all B))
theorem zv(gn g:Nat)(en:∀ args w,(callFunc gn args).run Tryz.prog w = .ok (.enter gn args) w)(eg:∀ args w,(callFunc g args).run Tryz.prog w = .ok (.enter g args) w)(N:ByteArray->Bool)(B:Nd->Bool)(lo hi:Int)(k:Int)(s:ByteArray)(l:List Nd)(a:Option Addr)(cap:Nat)(w:World)(hl:l.length<=maxLen)
  (hN:q7f gn N s) (hB:∀ i,(h:i < l.length)->q22 g B l[i]) (ht:NdR w (.mk k s l) (.int .i64 k) (.string s) (.slice a l.length cap)) :
  Calls Tryz.prog 150 #[.agg #[.int .i64 k,.string s,.slice a l.length cap],.func (.func gn) #[] #[],.int .i64 lo,.int .i64 hi,.func (.func g) #[] #[]] w fun e w'=>e = .returned (.bool (xf N lo hi B s l))/\Below w.heap.size w w':=by
 have hb0:=(Below.refl w.heap.size w).alloc (q5 _) (.cells #[.int .i64 k,.string s,.slice a l.length cap] 25);obtain⟨W1,hW1⟩:∃ W1,w.alloc (.cells #[.int .i64 k,.string s,.slice a l.length cap] 25)=W1:=⟨_,rfl⟩;obtain⟨h,hh⟩:∃ h,w.heap.size=h:=⟨_,rfl⟩;have R1:Row3 W1 h (.int .i64 k) (.string s) (.slice a l.length cap):=by rw[<-hW1,<-hh];exact Row3.new _ _ _ _
 have CN:=qh (hN W1);have CE:=qh (fun w' (hb:Below W1.heap.size W1 w')=>q6w g eg B k s l a cap w' hl hB (((by rw[<-hW1];exact ht.later hb0:NdR W1 _ _ _ _)).later hb));obtain⟨VN,hVN⟩:∃ V,N s=V:=⟨_,rfl⟩;obtain⟨VB,hVB⟩:∃ V,l.all B=V:=⟨_,rfl⟩;obtain⟨R,hR⟩:∃ R,xf N lo hi B s l=R:=⟨_,rfl⟩;have HR:Hid (R=(decide (lo<=(l.length:Int)) && (decide ((l.length:Int)<=hi) && (VN && VB)))):=qh (by rw[<-hR,<-hVN,<-hVB];rfl);rw[hVN]at CN;rw[hVB]at CE;rw[hR];rw[hW1]at hb0;have HB:=qh hb0;have HR1:=qh R1;obtain⟨⟨n0,n1,n2⟩,_⟩:=R1.cells;have HW:=qh hW1;rw[hh]at HB;clear hVN hVB hR hb0 hN hB ht R1 hW1
 by_cases h1:lo<=(l.length:Int)
 ·have hD1:=qh (decide_eq_true h1)
  by_cases h2:(l.length:Int)<=hi
  ·have hD2:=qh (decide_eq_true h2)
   rw[hD1.out,hD2.out,Bool.true_and,Bool.true_and]at HR;go_enter Tryz.func150,Tryz.ntmps150
   go_upto_region 1 with fail
   rw[HW.out]
   go_wp2_with fail
   refine CN.out.mono ?_;rintro e w2⟨rfl,hb2⟩;have R2:=qh (HR1.out.below hb2 HR1.out.lt);have HB2:=qh hb2;clear hb2 CN n0 n1 n2;obtain⟨⟨n0,n1,n2⟩,_⟩:=R2.out.cells
   cases VN with
   |false =>
    go_wp2;go_ret;exact⟨by rw[HR.out];rfl,by first|exact HB.out.trans (HB2.out.mono (by have:=HB.out.size;have:=HR1.out.lt;omega))|(rw[hh];exact HB.out.trans (HB2.out.mono (by have:=HB.out.size;have:=HR1.out.lt;omega)))⟩
   |true =>
    go_wp2_with fail
    refine(CE.out _ HB2.out).mono ?_;rintro e w3⟨rfl,hb3⟩;have HB3:=qh hb3;clear hb3 CE n0 n1 n2
    cases VB
    ·go_wp2
     go_ret;exact⟨by rw[HR.out];rfl,by first|exact HB.out.trans ((HB2.out.trans (HB3.out.mono HB2.out.size)).mono (by have:=HR1.out.lt;omega))|(rw[hh];exact HB.out.trans ((HB2.out.trans (HB3.out.mono HB2.out.size)).mono (by have:=HR1.out.lt;omega)))⟩
    ·go_wp2
     go_ret;exact⟨by rw[HR.out];rfl,by first|exact HB.out.trans ((HB2.out.trans (HB3.out.mono HB2.out.size)).mono (by have:=HR1.out.lt;omega))|(rw[hh];exact HB.out.trans ((HB2.out.trans (HB3.out.mono HB2.out.size)).mono (by have:=HR1.out.lt;omega)))⟩
  ·have hD2:=qh (decide_eq_false h2)
   rw[hD1.out,hD2.out,Bool.true_and,Bool.false_and]at HR;go_enter Tryz.func150,Tryz.ntmps150
   go_upto_region 1 with fail
   rw[HW.out];go_wp2;go_ret;exact⟨by rw[HR.out];rfl,by first|exact HB.out|(rw[hh];exact HB.out)⟩
 ·have hD1:=qh (decide_eq_false h1)
  rw[hD1.out,Bool.false_and]at HR;go_enter Tryz.func150,Tryz.ntmps150
  go_upto_region 1 with fail
  rw[HW.out];go_wp2;go_ret;exact⟨by rw[HR.out];rfl,by first|exact HB.out|(rw[hh];exact HB.out)⟩
theorem xk:∀ args w,(callFunc 151 args).run Tryz.prog w = .ok (.enter 151 args) w:=enters_of Tryz.func151 (by kernel_rfl) rfl
theorem jd:∀ args w,(callFunc 117 args).run Tryz.prog w = .ok (.enter 117 args) w:=enters_of Tryz.func117 (by kernel_rfl) rfl
theorem qlq:∀ args w,(callFunc 58 args).run Tryz.prog w = .ok (.enter 58 args) w:=enters_of Tryz.func58 (by kernel_rfl) rfl
theorem q0n:∀ args w,(callFunc 152 args).run Tryz.prog w = .ok (.enter 152 args) w:=enters_of Tryz.func152 (by kernel_rfl) rfl
theorem qiv:∀ args w,(callFunc 154 args).run Tryz.prog w = .ok (.enter 154 args) w:=enters_of Tryz.func154 (by kernel_rfl) rfl
theorem q1l:∀ args w,(callFunc 96 args).run Tryz.prog w = .ok (.enter 96 args) w:=enters_of Tryz.func96 (by kernel_rfl) rfl
theorem q5d:∀ args w,(callFunc 95 args).run Tryz.prog w = .ok (.enter 95 args) w:=enters_of Tryz.func95 (by kernel_rfl) rfl
theorem x8:∀ args w,(callFunc 94 args).run Tryz.prog w = .ok (.enter 94 args) w:=enters_of Tryz.func94 (by kernel_rfl) rfl
theorem qiw:∀ args w,(callFunc 93 args).run Tryz.prog w = .ok (.enter 93 args) w:=enters_of Tryz.func93 (by kernel_rfl) rfl
theorem xd(s:ByteArray):q7f 151 qu s:=by
 intro w;have e:(s.toList==[])=qu s:=by unfold qu;cases s.toList <;> rfl
 obtain⟨V,hV⟩:∃ V,qu s=V:=⟨_,rfl⟩;rw[hV]at e ⊢;have HE:=qh e;clear hV;go_enter Tryz.func151,Tryz.ntmps151;go_wp2;go_ret
 first|exact⟨rfl,Below.refl _ _⟩|exact⟨by rw[<-HE.out];rfl,Below.refl _ _⟩
theorem jh(s:ByteArray)(hs:s.size<=maxLen):q7f 117 qy s:=fun w=>qih s w hs
theorem qcm(s:ByteArray)(hs:s.size<=maxLen):q7f 58 ww s:=fun w=>ql5 s w hs
theorem qlc(s:ByteArray)(hs:s.size<=maxLen):q7f 57 (fun s=>qy s||ww s) s:=by
 intro w;have C1:=jh s hs;have C2:=qcm s hs;unfold q7f at C1 C2;obtain⟨V1,h1⟩:∃ V,qy s=V:=⟨_,rfl⟩;obtain⟨V2,h2⟩:∃ V,ww s=V:=⟨_,rfl⟩;simp only[h1,h2]at C1 C2 ⊢;have D1:=qh C1;have D2:=qh C2;clear C1 C2 h1 h2;go_enter Tryz.func57,Tryz.ntmps57
 go_wp2_with fail
 refine(D1.out _).mono ?_;rintro e w1⟨rfl,hb1⟩;have HB1:=qh hb1;clear hb1 D1
 cases V1 with
 |true =>
  go_wp2;go_ret;exact⟨rfl,HB1.out⟩
 |false =>
  go_wp2_with fail
  refine(D2.out _).mono ?_;rintro e w2⟨rfl,hb2⟩;have HB2:=qh (HB1.out.trans (hb2.mono HB1.out.size));clear hb2 D2
  cases V2
  ·go_wp2
   go_ret;exact⟨rfl,HB2.out⟩
  ·go_wp2
   go_ret;exact⟨rfl,HB2.out⟩
theorem q48{B:Nd->Bool}{l:List Nd}:l.all B=true↔∀ i,(h:i < l.length)->B l[i]=true:=by
 rw[List.all_eq_true]
 constructor
 ·intro h i hi;exact h _ (List.getElem_mem hi)
 ·intro h x hx
  obtain⟨i,hi,rfl⟩:=List.getElem_of_mem hx;exact h i hi
theorem q4f(l:List Nd):yo l=l.all zj:=by rw[Bool.eq_iff_iff,q4e,q48]
theorem qb3(l:List Nd):q07 l=l.all zh:=by rw[Bool.eq_iff_iff,q3g,q48]
theorem q6r(l:List Nd):vo l=l.all xa:=by rw[Bool.eq_iff_iff,q18,q48]
theorem qkx(l:List Nd):q0h l=l.all vq:=by rw[Bool.eq_iff_iff,q19,q48]
theorem ql4(l:List Nd):q26 l=l.all itemB:=by rw[Bool.eq_iff_iff,vy,q48]
theorem xx:∀ l:List Nd,xy l=l.all qn
 |[]=>by simp[xy]
 |a :: l=>by simp only[xy,List.all_cons];rw[xx l]
theorem qe1(N:ByteArray->Bool)(lo hi:Nat)(B:Nd->Bool)(s:ByteArray)(l:List Nd):xf N lo hi B s l=(decide (lo<=l.length) && (decide (l.length<=hi) && (N s && l.all B))):=by
 unfold xf
 congr 1
 ·by_cases h:lo<=l.length
  ·rw[decide_eq_true h,decide_eq_true (by omega)]
  ·rw[decide_eq_false h,decide_eq_false (by omega)]
 ·congr 1
  by_cases h:l.length<=hi
  ·rw[decide_eq_true h,decide_eq_true (by omega)]
  ·rw[decide_eq_false h,decide_eq_false (by omega)]
theorem q39(N:ByteArray->Bool)(B:Nd->Bool)(s:ByteArray)(l:List Nd):xf N 0 0 B s l=(decide (l.length=0) && N s):=by
 rw[show xf N 0 0 B s l=xf N ((0:Nat):Int) ((0:Nat):Int) B s l from rfl,qe1]
 cases l with
 |nil=>simp
 |cons a l=>simp
theorem yt(n:Nat):∀ t:Nd,t.sz<=n->q22 152 xa t:=by
 induction n with
 |zero=>intro t h;cases t;simp only[Nd.sz]at h;omega
 |succ n ih =>
  intro t hsz w v0 v1 v2 ht;obtain⟨k,s,l,a,cap,rfl,rfl,rfl,rfl,hs,hl⟩:=ht.form;have hb0:=(Below.refl w.heap.size w).alloc (q5 _) (.cells #[.int .i64 k,.string s,.slice a l.length cap] 25);obtain⟨h,hh⟩:∃ h,w.heap.size=h:=⟨_,rfl⟩;obtain⟨W1,hW1⟩:∃ W1,w.alloc (.cells #[.int .i64 k,.string s,.slice a l.length cap] 25)=W1:=⟨_,rfl⟩;have R1:Row3 W1 h (.int .i64 k) (.string s) (.slice a l.length cap):=by rw[<-hW1,<-hh];exact Row3.new _ _ _ _
  have T1:=ht.later hb0;rw[hW1]at hb0 T1;rw[hh]at hb0;have HB:=qh hb0;have HT1:=qh T1;have HR1:=qh R1;have HW:=qh hW1;obtain⟨⟨n0,n1,n2⟩,_⟩:=R1.cells;have CH_x:=fun w' (hb:Below W1.heap.size W1 w')=>zv 117 152 jd q0n qy xa 0 0 k s l a cap w' hl (jh s hs) (fun i hi=>ih l[i] (ze (qs (Nd.kid_lt _ s l i hi) hsz))) (HT1.out.later hb)
  obtain⟨V,hV⟩:∃ V,xf qy 0 0 xa s l=V:=⟨_,rfl⟩;rw[hV]at CH_x;have CC:=qh CH_x;have HS:Hid (xa (.mk k s l)=(decide (k=15) && V)):=qh (by rw[xa,<-hV,q39]);clear CH_x hV ih ht hb0 T1 R1 hW1 hsz
  by_cases hk:k=15
  ·subst hk
   go_enter Tryz.func152,Tryz.ntmps152
   go_upto_region 1 with fail
   rw[HW.out]
   go_wp2_with fail
   refine(CC.out _ (Below.refl _ _)).mono ?_;rintro e w2⟨rfl,hb2⟩;have HB2:=qh hb2;clear hb2 CC n0 n1 n2
   cases V
   ·skip
    go_wp2;go_ret;exact⟨by rw[HS.out];rfl,by first|exact HB.out.trans (HB2.out.mono (by have:=HR1.out.lt;omega))|(rw[hh];exact HB.out.trans (HB2.out.mono (by have:=HR1.out.lt;omega)))⟩
   ·skip
    go_wp2;go_ret;exact⟨by rw[HS.out];rfl,by first|exact HB.out.trans (HB2.out.mono (by have:=HR1.out.lt;omega))|(rw[hh];exact HB.out.trans (HB2.out.mono (by have:=HR1.out.lt;omega)))⟩
  ·have e1:(k==15)=false:=by rw[q9];exact hk
   have HS2:Hid (xa (.mk k s l)=false):=qh (by rw[HS.out,decide_eq_false hk];rfl);clear hk;go_enter Tryz.func152,Tryz.ntmps152
   go_upto_region 1 with fail
   rw[HW.out];go_wp2;go_ret;exact⟨by rw[HS2.out];rfl,by first|exact HB.out|(rw[hh];exact HB.out)⟩
theorem qii(t:Nd):q22 154 vq t:=by
 intro w v0 v1 v2 ht;obtain⟨k,s,l,a,cap,rfl,rfl,rfl,rfl,hs,hl⟩:=ht.form;have hb0:=(Below.refl w.heap.size w).alloc (q5 _) (.cells #[.int .i64 k,.string s,.slice a l.length cap] 25);obtain⟨h,hh⟩:∃ h,w.heap.size=h:=⟨_,rfl⟩;obtain⟨W1,hW1⟩:∃ W1,w.alloc (.cells #[.int .i64 k,.string s,.slice a l.length cap] 25)=W1:=⟨_,rfl⟩;have R1:Row3 W1 h (.int .i64 k) (.string s) (.slice a l.length cap):=by rw[<-hW1,<-hh];exact Row3.new _ _ _ _
 have T1:=ht.later hb0;rw[hW1]at hb0 T1;rw[hh]at hb0;have HB:=qh hb0;have HT1:=qh T1;have HR1:=qh R1;have HW:=qh hW1;obtain⟨⟨n0,n1,n2⟩,_⟩:=R1.cells;have CL:=yt _ (.mk k s l) (q5 _) W1 _ _ _ HT1.out;obtain⟨V,hV⟩:∃ V,xa (.mk k s l)=V:=⟨_,rfl⟩;rw[hV]at CL;have CC:=qh CL
 have key:vq (.mk k s l)=(V && (s.toList==[105,110]||(s.toList==[111,117,116]||s.toList==[97,110,121]))):=by
  have e:∀ x:List UInt8,decide (s=⟨x.toArray⟩)=(s.toList==x):=fun x=>by
   rw[ByteArray.toList_eq,Bool.eq_iff_iff,qf,beq_iff_eq]
   constructor
   ·intro h;rw[h]
   ·intro h;obtain⟨⟨d⟩⟩:=s;simp only at h;rw[h]
  have m1:qy ⟨#[105,110]⟩=true:=by decide +kernel
  have m2:qy ⟨#[111,117,116]⟩=true:=by decide +kernel
  have m3:qy ⟨#[97,110,121]⟩=true:=by decide +kernel
  rw[vq,<-hV,xa];rw[show(s.toList==[105,110])=decide (s=⟨#[105,110]⟩) from(e _).symm,show(s.toList==[111,117,116])=decide (s=⟨#[111,117,116]⟩) from(e _).symm,show(s.toList==[97,110,121])=decide (s=⟨#[97,110,121]⟩) from(e _).symm]
  by_cases h1:s=⟨#[105,110]⟩
  ·subst h1;rw[m1];simp
  ·by_cases h2:s=⟨#[111,117,116]⟩
   ·subst h2;rw[m2];simp
   ·by_cases h3:s=⟨#[97,110,121]⟩
    ·subst h3;rw[m3];simp
    ·simp[h1,h2,h3]
 obtain⟨B1,hB1⟩:∃ B,(s.toList==[105,110])=B:=⟨_,rfl⟩;obtain⟨B2,hB2⟩:∃ B,(s.toList==[111,117,116])=B:=⟨_,rfl⟩;obtain⟨B3,hB3⟩:∃ B,(s.toList==[97,110,121])=B:=⟨_,rfl⟩;rw[hB1,hB2,hB3]at key;have HS:=qh key;clear CL hV ht hb0 T1 R1 hW1 key;go_enter Tryz.func154,Tryz.ntmps154
 go_upto_region 1 with fail
 rw[HW.out]
 go_wp2_with fail
 refine CC.out.mono ?_;rintro e w2⟨rfl,hb2⟩;have R2:=qh (HR1.out.below hb2 HR1.out.lt);have HB2:=qh hb2;clear hb2 n0 n1 n2;obtain⟨⟨n0,n1,n2⟩,_⟩:=R2.out.cells;clear CC
 cases V with
 |false =>
  go_wp2;go_ret;exact⟨by rw[HS.out];rfl,by first|exact HB.out.trans (HB2.out.mono (by have:=HR1.out.lt;omega))|(rw[hh];exact HB.out.trans (HB2.out.mono (by have:=HR1.out.lt;omega)))⟩
 |true =>
  cases B1 with
  |true =>
   go_wp2;go_ret;exact⟨by rw[HS.out];rfl,by first|exact HB.out.trans (HB2.out.mono (by have:=HR1.out.lt;omega))|(rw[hh];exact HB.out.trans (HB2.out.mono (by have:=HR1.out.lt;omega)))⟩
  |false =>
   cases B2 with
   |true =>
    go_wp2;go_ret;exact⟨by rw[HS.out];rfl,by first|exact HB.out.trans (HB2.out.mono (by have:=HR1.out.lt;omega))|(rw[hh];exact HB.out.trans (HB2.out.mono (by have:=HR1.out.lt;omega)))⟩
   |false =>
    cases B3 with
    |true =>
     go_wp2;go_ret;exact⟨by rw[HS.out];rfl,by first|exact HB.out.trans (HB2.out.mono (by have:=HR1.out.lt;omega))|(rw[hh];exact HB.out.trans (HB2.out.mono (by have:=HR1.out.lt;omega)))⟩
    |false =>
     go_wp2;go_ret;exact⟨by rw[HS.out];rfl,by first|exact HB.out.trans (HB2.out.mono (by have:=HR1.out.lt;omega))|(rw[hh];exact HB.out.trans (HB2.out.mono (by have:=HR1.out.lt;omega)))⟩
theorem q0k(n:Nat):∀ t:Nd,t.sz<=n->q22 96 zj t:=by
 induction n with
 |zero=>intro t h;cases t;simp only[Nd.sz]at h;omega
 |succ n ih =>
  intro t hsz w v0 v1 v2 ht;obtain⟨k,s,l,a,cap,rfl,rfl,rfl,rfl,hs,hl⟩:=ht.form;have hb0:=(Below.refl w.heap.size w).alloc (q5 _) (.cells #[.int .i64 k,.string s,.slice a l.length cap] 25);obtain⟨h,hh⟩:∃ h,w.heap.size=h:=⟨_,rfl⟩;obtain⟨W1,hW1⟩:∃ W1,w.alloc (.cells #[.int .i64 k,.string s,.slice a l.length cap] 25)=W1:=⟨_,rfl⟩;have R1:Row3 W1 h (.int .i64 k) (.string s) (.slice a l.length cap):=by rw[<-hW1,<-hh];exact Row3.new _ _ _ _
  have T1:=ht.later hb0;rw[hW1]at hb0 T1;rw[hh]at hb0;have HB:=qh hb0;have HT1:=qh T1;have HR1:=qh R1;have HW:=qh hW1;obtain⟨⟨n0,n1,n2⟩,_⟩:=R1.cells;have CL:=qh (yt _ (.mk k s l) (q5 _) W1 _ _ _ HT1.out);have CH_x:=fun w' (hb:Below W1.heap.size W1 w')=>zv 151 96 xk q1l qu zj 2 2 k s l a cap w' hl (xd s) (fun i hi=>ih l[i] (ze (qs (Nd.kid_lt _ s l i hi) hsz))) (HT1.out.later hb)
  obtain⟨V,hV⟩:∃ V,xf qu 2 2 zj s l=V:=⟨_,rfl⟩;rw[hV]at CH_x;have CC:=qh CH_x
  by_cases hk:k=31
  ·subst hk
   have HS:Hid (zj (.mk 31 s l)=V):=qh (by
    rw[zj,qa rfl,<-hV,show xf qu 2 2 zj s l=xf qu ((2:Nat):Int) ((2:Nat):Int) zj s l from rfl,qe1,q4f]
    by_cases h2:l.length=2
    ·rw[decide_eq_true h2,decide_eq_true (by omega:2<=l.length),decide_eq_true (by omega:l.length<=2)];rfl
    ·rw[decide_eq_false h2]
     by_cases h3:2<=l.length
     ·rw[decide_eq_false (by omega:¬ l.length<=2)];simp
     ·rw[decide_eq_false h3];simp)
   have HL:Hid (xa (.mk 31 s l)=false):=qh (by rw[xa];rfl);rw[HL.out]at CL;clear CH_x hV ih ht hb0 T1 R1 hW1 hsz;go_enter Tryz.func96,Tryz.ntmps96
   go_upto_region 1 with fail
   rw[HW.out]
   go_wp2_with fail
   refine CL.out.mono ?_;rintro e w2⟨rfl,hb2⟩;have R2:=qh (HR1.out.below hb2 HR1.out.lt);have HB2:=qh hb2;clear hb2 n0 n1 n2;obtain⟨⟨n0,n1,n2⟩,_⟩:=R2.out.cells;clear CL
   go_wp2_with fail
   refine(CC.out _ HB2.out).mono ?_;rintro e w3⟨rfl,hb3⟩;have HB3:=qh (HB2.out.trans (hb3.mono HB2.out.size));clear hb3 CC n0 n1 n2
   cases V
   ·go_wp2
    go_ret;exact⟨by rw[HS.out];rfl,by first|exact HB.out.trans (HB3.out.mono (by have:=HR1.out.lt;omega))|(rw[hh];exact HB.out.trans (HB3.out.mono (by have:=HR1.out.lt;omega)))⟩
   ·go_wp2
    go_ret;exact⟨by rw[HS.out];rfl,by first|exact HB.out.trans (HB3.out.mono (by have:=HR1.out.lt;omega))|(rw[hh];exact HB.out.trans (HB3.out.mono (by have:=HR1.out.lt;omega)))⟩
  ·obtain⟨V2,hV2⟩:∃ V,xa (.mk k s l)=V:=⟨_,rfl⟩
   rw[hV2]at CL;have HS:Hid (zj (.mk k s l)=V2):=qh (by rw[zj,q7 hk,<-hV2,xa]);have e1:(k==31)=false:=by rw[q9];exact hk
   clear CH_x CC hV hV2 ih ht hb0 T1 R1 hW1 hsz hk;go_enter Tryz.func96,Tryz.ntmps96
   go_upto_region 1 with fail
   rw[HW.out]
   go_wp2_with fail
   refine CL.out.mono ?_;rintro e w2⟨rfl,hb2⟩;have R2:=qh (HR1.out.below hb2 HR1.out.lt);have HB2:=qh hb2;clear hb2 n0 n1 n2;obtain⟨⟨n0,n1,n2⟩,_⟩:=R2.out.cells;clear CL
   cases V2
   ·go_wp2
    go_ret;exact⟨by rw[HS.out];rfl,by first|exact HB.out.trans (HB2.out.mono (by have:=HR1.out.lt;omega))|(rw[hh];exact HB.out.trans (HB2.out.mono (by have:=HR1.out.lt;omega)))⟩
   ·go_wp2
    go_ret;exact⟨by rw[HS.out];rfl,by first|exact HB.out.trans (HB2.out.mono (by have:=HR1.out.lt;omega))|(rw[hh];exact HB.out.trans (HB2.out.mono (by have:=HR1.out.lt;omega)))⟩
theorem qg1{w:World}{k k':Int}{s:ByteArray}{l:List Nd}{v0 v1 v2:Value}(h:NdR w (.mk k s l) v0 v1 v2):NdR w (.mk k' ⟨#[]⟩ l) (.int .i64 k') (.string ⟨#[]⟩) v2:=by
 cases h with
 |mk _ _ _ a cap b o f0 f1 f2 hs hl hc ha h0 h1 h2 hr=>exact .mk k' ⟨#[]⟩ l a cap b o f0 f1 f2 (by decide) hl hc ha h0 h1 h2 hr
theorem q70(g:Nat)(eg:∀ args w,(callFunc g args).run Tryz.prog w = .ok (.enter g args) w)(B:Nd->Bool)(k:Int)(s:ByteArray)(l:List Nd)(a:Option Addr)(cap:Nat)(w:World)(hs:s.size<=maxLen)(hl:l.length<=maxLen)
  (hB:∀ i,(h:i < l.length)->q22 g B l[i]) (ht:NdR w (.mk k s l) (.int .i64 k) (.string s) (.slice a l.length cap)) (R:Bool)
  (hR:∀ h:0 < l.length,((decide (l.length=1)||decide (l.length=2)) && ((qy s||ww s) && ((l.take (l.length - 1)).all zj && B (l[l.length - 1]'(by omega)))))=R) (hR0:l.length=0->R=false) :
  Calls Tryz.prog 155 #[.agg #[.int .i64 k,.string s,.slice a l.length cap],.func (.func g) #[] #[]] w fun e w'=>e = .returned (.bool R)/\Below w.heap.size w w':=by
 have hb0:=(Below.refl w.heap.size w).alloc (q5 _) (.cells #[.int .i64 k,.string s,.slice a l.length cap] 25);obtain⟨h,hh⟩:∃ h,w.heap.size=h:=⟨_,rfl⟩;obtain⟨W1,hW1⟩:∃ W1,w.alloc (.cells #[.int .i64 k,.string s,.slice a l.length cap] 25)=W1:=⟨_,rfl⟩;have R1:Row3 W1 h (.int .i64 k) (.string s) (.slice a l.length cap):=by rw[<-hW1,<-hh];exact Row3.new _ _ _ _
 have T1:=ht.later hb0;rw[hW1]at hb0 T1;rw[hh]at hb0;have HB:=qh hb0;have HT1:=qh T1;have HR1:=qh R1;have HW:=qh hW1;obtain⟨⟨n0,n1,n2⟩,_⟩:=R1.cells;have hcap:=ht.cap;have HL0:Hid (NdL W1 l (.slice a l.length cap)):=qh ⟨_,_,_,_,HT1.out⟩;unfold maxLen at hl
 by_cases h0:l.length=0
 ·have hRf:=hR0 h0
  subst hRf;have e1:((l.length:Int) - 1==0)=false:=by rw[q9];omega
  have e2:((l.length:Int) - 1==1)=false:=by rw[q9];omega
  clear h0 hR hR0 hB ht hb0 T1 R1 hW1;go_enter Tryz.func155,Tryz.ntmps155
  go_upto_region 1 with fail
  rw[HW.out];go_wp2;go_ret;exact⟨rfl,by first|exact HB.out|(rw[hh];exact HB.out)⟩
 ·have hpos:0 < l.length:=by omega
  have hRp:=hR hpos
  by_cases h12:l.length=1\/l.length=2
  ·rw[show(decide (l.length=1)||decide (l.length=2))=true from by rcases h12 with h|h <;> simp[h],Bool.true_and]at hRp
   obtain⟨b,o,k1,s1,l1,a1,c1,rfl,e1,x0,x1,x2,r1⟩:=HT1.out.kid (l.length - 1) (by omega);have CN0:=qlc s hs W1
   have CE0:=fun w' (hb:Below W1.heap.size W1 w')=>q6w 96 q1l zj 0 ⟨#[]⟩ (l.take (l.length - 1)) (some ⟨b,o,none⟩) cap w' (by rw[List.length_take];unfold maxLen;omega) (fun i hi=>q0k _ _ (q5 _)) (by
    obtain⟨k9,s9,u0,u1,h9⟩:=(HL0.out.later hb).take (l.length - 1) (by omega) cap (by omega);rw[show(l.take (l.length - 1)).length=l.length - 1 from by rw[List.length_take];omega]
    exact qg1 h9)
   rw[show(l.take (l.length - 1)).length=l.length - 1 from by rw[List.length_take];omega]at CE0;have CG0:=fun w' (hb:Below W1.heap.size W1 w')=>hB (l.length - 1) (by omega) w' (.int .i64 k1) (.string s1) (.slice a1 l1.length c1) (by rw[e1];exact r1.later hb)
   obtain⟨VN,hVN⟩:∃ V,(qy s||ww s)=V:=⟨_,rfl⟩;obtain⟨VE,hVE⟩:∃ V,(l.take (l.length - 1)).all zj=V:=⟨_,rfl⟩;obtain⟨VG,hVG⟩:∃ V,B (l[l.length - 1]'(by omega))=V:=⟨_,rfl⟩;rw[hVN,hVE,hVG]at hRp;simp only[hVN]at CN0;rw[hVE]at CE0;rw[hVG]at CG0;obtain⟨M,hM⟩:∃ M,l.length - 1=M:=⟨_,rfl⟩;obtain⟨L,hL⟩:∃ L,l.length=L:=⟨_,rfl⟩;have hML:((L:Nat):Int) - 1=(M:Int):=by omega
   rw[hM]at CE0 x0 x1 x2;rw[hL]at n2 hcap hl h12 hpos;have CN:=qh CN0;have CE:=qh CE0;have CG:=qh CG0;have HRp:=qh hRp;have HR2:Hid (Row3 W1 h (.int .i64 k) (.string s) (.slice (some ⟨b,o,none⟩) L cap)):=by rw[<-hL];exact HR1
   have HW2:Hid (w.alloc (.cells #[.int .i64 k,.string s,.slice (some ⟨b,o,none⟩) L cap] 25)=W1):=by rw[<-hL];exact HW
   have L2:=qh (qg x0);have HX:=qh (show W1.cell? ⟨b,o+M*3,none⟩=some (.int .i64 k1)/\W1.cell? ⟨b,o+M*3+1,none⟩=some (.string s1)/\W1.cell? ⟨b,o+M*3+2,none⟩=some (.slice a1 l1.length c1) from⟨x0,x1,x2⟩);have hM2:M=0\/M=1:=by omega
   have hMc:M<=cap:=by omega
   rw[hL];clear hR hR0 hB ht hb0 T1 R1 hW1 hRp hVN hVE hVG CN0 CE0 CG0 e1 r1 x0 x1 x2 HT1 HL0 HR1 HW hL;rcases hM2 with rfl|rfl
   ·have hL1:L=1:=by omega
    subst hL1;obtain⟨⟨n0,n1,n2⟩,_⟩:=HR2.out.cells;go_enter Tryz.func155,Tryz.ntmps155
    go_upto_region 1 with fail
    rw[HW2.out]
    go_wp2_with fail
    refine CN.out.mono ?_;rintro e w2⟨rfl,hb2⟩;have R2:=qh (HR2.out.below hb2 HR2.out.lt);have HB2:=qh hb2;clear hb2 n0 n1 n2 CN;obtain⟨⟨n0,n1,n2⟩,_⟩:=R2.out.cells
    cases VN with
    |false =>
     go_wp2;go_ret;exact⟨by rw[<-HRp.out];rfl,by first|exact HB.out.trans (HB2.out.mono (by have:=HR2.out.lt;omega))|(rw[hh];exact HB.out.trans (HB2.out.mono (by have:=HR2.out.lt;omega)))⟩
    |true =>
     go_wp2_with fail
     refine(CE.out _ HB2.out).mono ?_;rintro e w3⟨rfl,hb3⟩;have HB3:=qh (HB2.out.trans (hb3.mono HB2.out.size));clear hb3 n0 n1 n2 CE;obtain⟨⟨n0,n1,n2⟩,_⟩:=(HR2.out.below HB3.out HR2.out.lt).cells;have x0:=(HB3.out.cell (p:=⟨b,o+0*3,none⟩) L2.out).trans HX.out.1;have x1:=(HB3.out.cell (p:=⟨b,o+0*3+1,none⟩) L2.out).trans HX.out.2.1;have x2:=(HB3.out.cell (p:=⟨b,o+0*3+2,none⟩) L2.out).trans HX.out.2.2;simp only[Nat.zero_mul,Nat.add_zero]at x0 x1 x2
     cases VE with
     |false =>
      go_wp2;go_ret;exact⟨by rw[<-HRp.out];rfl,by first|exact HB.out.trans (HB3.out.mono (by have:=HR2.out.lt;omega))|(rw[hh];exact HB.out.trans (HB3.out.mono (by have:=HR2.out.lt;omega)))⟩
     |true =>
      go_wp2_with fail
      refine(CG.out _ HB3.out).mono ?_;rintro e w4⟨rfl,hb4⟩;have HB4:=qh (HB3.out.trans (hb4.mono HB3.out.size));clear hb4 n0 n1 n2 x0 x1 x2 CG
      cases VG
      ·skip
       go_wp2;go_ret;exact⟨by rw[<-HRp.out];rfl,by first|exact HB.out.trans (HB4.out.mono (by have:=HR2.out.lt;omega))|(rw[hh];exact HB.out.trans (HB4.out.mono (by have:=HR2.out.lt;omega)))⟩
      ·skip
       go_wp2;go_ret;exact⟨by rw[<-HRp.out];rfl,by first|exact HB.out.trans (HB4.out.mono (by have:=HR2.out.lt;omega))|(rw[hh];exact HB.out.trans (HB4.out.mono (by have:=HR2.out.lt;omega)))⟩
   ·have hL1:L=2:=by omega
    subst hL1;obtain⟨⟨n0,n1,n2⟩,_⟩:=HR2.out.cells;go_enter Tryz.func155,Tryz.ntmps155
    go_upto_region 1 with fail
    rw[HW2.out]
    go_wp2_with fail
    refine CN.out.mono ?_;rintro e w2⟨rfl,hb2⟩;have R2:=qh (HR2.out.below hb2 HR2.out.lt);have HB2:=qh hb2;clear hb2 n0 n1 n2 CN;obtain⟨⟨n0,n1,n2⟩,_⟩:=R2.out.cells
    cases VN with
    |false =>
     go_wp2;go_ret;exact⟨by rw[<-HRp.out];rfl,by first|exact HB.out.trans (HB2.out.mono (by have:=HR2.out.lt;omega))|(rw[hh];exact HB.out.trans (HB2.out.mono (by have:=HR2.out.lt;omega)))⟩
    |true =>
     go_wp2_with fail
     refine(CE.out _ HB2.out).mono ?_;rintro e w3⟨rfl,hb3⟩;have HB3:=qh (HB2.out.trans (hb3.mono HB2.out.size));clear hb3 n0 n1 n2 CE;obtain⟨⟨n0,n1,n2⟩,_⟩:=(HR2.out.below HB3.out HR2.out.lt).cells;have x0:=(HB3.out.cell (p:=⟨b,o+1*3,none⟩) L2.out).trans HX.out.1;have x1:=(HB3.out.cell (p:=⟨b,o+1*3+1,none⟩) L2.out).trans HX.out.2.1;have x2:=(HB3.out.cell (p:=⟨b,o+1*3+2,none⟩) L2.out).trans HX.out.2.2;simp only[Nat.one_mul]at x0 x1 x2
     cases VE with
     |false =>
      go_wp2;go_ret;exact⟨by rw[<-HRp.out];rfl,by first|exact HB.out.trans (HB3.out.mono (by have:=HR2.out.lt;omega))|(rw[hh];exact HB.out.trans (HB3.out.mono (by have:=HR2.out.lt;omega)))⟩
     |true =>
      go_wp2_with fail
      refine(CG.out _ HB3.out).mono ?_;rintro e w4⟨rfl,hb4⟩;have HB4:=qh (HB3.out.trans (hb4.mono HB3.out.size));clear hb4 n0 n1 n2 x0 x1 x2 CG
      cases VG
      ·skip
       go_wp2;go_ret;exact⟨by rw[<-HRp.out];rfl,by first|exact HB.out.trans (HB4.out.mono (by have:=HR2.out.lt;omega))|(rw[hh];exact HB.out.trans (HB4.out.mono (by have:=HR2.out.lt;omega)))⟩
      ·skip
       go_wp2;go_ret;exact⟨by rw[<-HRp.out];rfl,by first|exact HB.out.trans (HB4.out.mono (by have:=HR2.out.lt;omega))|(rw[hh];exact HB.out.trans (HB4.out.mono (by have:=HR2.out.lt;omega)))⟩
  ·have e1:((l.length:Int) - 1==0)=false:=by rw[q9];omega
   have e2:((l.length:Int) - 1==1)=false:=by rw[q9];omega
   have hRf:R=false:=by rw[<-hRp,decide_eq_false (fun h=>h12 (.inl h)),decide_eq_false (fun h=>h12 (.inr h))];rfl
   subst hRf;clear hR hR0 hB ht hb0 T1 R1 hW1 hRp;go_enter Tryz.func155,Tryz.ntmps155
   go_upto_region 1 with fail
   rw[HW.out];go_wp2;go_ret;exact⟨rfl,by first|exact HB.out|(rw[hh];exact HB.out)⟩
theorem q8o(s:ByteArray)(l:List Nd)(h:0 < l.length)(X:Bool):((decide (l.length=1)||decide (l.length=2)) && ((qy s||ww s) && ((l.take (l.length - 1)).all zj && X)))=(je s l && X):=by
 unfold je
 match l,h with
 |[a],_=>simp
 |[a,b],_=>cases (qy s||ww s) <;> cases h:zj a <;> cases X <;> simp[wk,h]
 |a :: b :: c :: l,_=>simp
theorem qil(N:ByteArray->Bool)(lo hi:Nat)(a b:Int)(ha:a=(lo:Int))(hb:b=(hi:Int))(B:Nd->Bool)(s:ByteArray)(l:List Nd):xf N a b B s l=(decide (lo<=l.length) && (decide (l.length<=hi) && (N s && l.all B))):=by
 subst ha;subst hb;exact qe1 N lo hi B s l
theorem qhq{k:Int}(h1:k≠22)(h2:k≠23)(h3:k≠24)(h4:k≠25)(h5:k≠26)(h6:k≠27)(h7:k≠28):yu k=false:=by
 unfold yu;rw[Bool.and_eq_false_iff,decide_eq_false_iff_not,decide_eq_false_iff_not];omega
theorem qom(n m:Nat):(decide (n<=m) && decide (m<=n))=decide (m=n):=by
 by_cases h:m=n
 ·rw[decide_eq_true h,decide_eq_true (by omega),decide_eq_true (by omega)];rfl
 ·rw[decide_eq_false h]
  by_cases h2:n<=m
  ·rw[decide_eq_false (by omega:¬ m<=n),Bool.and_false]
  ·rw[decide_eq_false h2,Bool.false_and]
theorem vf(N:ByteArray->Bool)(n:Nat)(a:Int)(ha:a=(n:Int))(B:Nd->Bool)(s:ByteArray)(l:List Nd):xf N a a B s l=(N s && (decide (l.length=n) && l.all B)):=by
 rw[qil N n n a a ha ha,<-Bool.and_assoc,qom]
 cases N s <;> cases decide (l.length=n) <;> cases l.all B <;> rfl
theorem q3u(N:ByteArray->Bool)(B:Nd->Bool)(s:ByteArray)(l:List Nd):xf N 0 8 B s l=(N s && (l.all B && decide (l.length<=8))):=by
 rw[qil N 0 8 0 8 rfl rfl,decide_eq_true (qp _)]
 cases N s <;> cases decide (l.length<=8) <;> cases l.all B <;> rfl
theorem qe3(N:ByteArray->Bool)(lo:Nat)(a:Int)(ha:a=(lo:Int))(B:Nd->Bool)(s:ByteArray)(l:List Nd):xf N a (l.length:Int) B s l=(N s && (decide (lo<=l.length) && l.all B)):=by
 rw[qil N lo l.length a _ ha rfl,decide_eq_true (q5 _)]
 cases N s <;> cases decide (lo<=l.length) <;> cases l.all B <;> rfl
theorem q9m(n:Nat):∀ t:Nd,t.sz<=n->q22 95 zh t:=by
 induction n with
 |zero=>intro t h;cases t;simp only[Nd.sz]at h;omega
 |succ n ih =>
  intro t hsz w v0 v1 v2 ht;obtain⟨k,s,l,a,cap,rfl,rfl,rfl,rfl,hs,hl⟩:=ht.form;have hb0:=(Below.refl w.heap.size w).alloc (q5 _) (.cells #[.int .i64 k,.string s,.slice a l.length cap] 25);obtain⟨h,hh⟩:∃ h,w.heap.size=h:=⟨_,rfl⟩;obtain⟨W1,hW1⟩:∃ W1,w.alloc (.cells #[.int .i64 k,.string s,.slice a l.length cap] 25)=W1:=⟨_,rfl⟩;have R1:Row3 W1 h (.int .i64 k) (.string s) (.slice a l.length cap):=by rw[<-hW1,<-hh];exact Row3.new _ _ _ _
  have T1:=ht.later hb0;rw[hW1]at hb0 T1;rw[hh]at hb0;have HB:=qh hb0;have HT1:=qh T1;have HR1:=qh R1;have HW:=qh hW1;obtain⟨⟨n0,n1,n2⟩,_⟩:=R1.cells
  by_cases hk15:k=15
  ·subst hk15
   have CH:=fun w' (hb:Below W1.heap.size W1 w')=>zv 117 95 jd q5d qy zh 0 8 15 s l a cap w' hl (jh s hs) (fun i hi=>ih l[i] (ze (qs (Nd.kid_lt _ s l i hi) hsz))) (HT1.out.later hb)
   obtain⟨V,hV⟩:∃ V,xf qy 0 8 zh s l=V:=⟨_,rfl⟩;rw[hV]at CH;have CC:=qh CH;have HS:Hid (zh (.mk 15 s l)=V):=qh (by rw[<-hV];rw[zh,qa rfl,qb3,q3u]);clear CH hV;clear ht hb0 T1 R1 hW1 ih hsz;go_enter Tryz.func95,Tryz.ntmps95
   go_upto_region 1 with fail
   rw[HW.out]
   go_wp2_with fail
   refine(CC.out _ (Below.refl _ _)).mono ?_;rintro e w2⟨rfl,hb2⟩;have HB2:=qh hb2;clear hb2 CC n0 n1 n2
   cases V
   ·skip
    go_wp2;go_ret;exact⟨by rw[HS.out];rfl,by first|exact HB.out.trans (HB2.out.mono (by have:=HR1.out.lt;omega))|(rw[hh];exact HB.out.trans (HB2.out.mono (by have:=HR1.out.lt;omega)))⟩
   ·skip
    go_wp2;go_ret;exact⟨by rw[HS.out];rfl,by first|exact HB.out.trans (HB2.out.mono (by have:=HR1.out.lt;omega))|(rw[hh];exact HB.out.trans (HB2.out.mono (by have:=HR1.out.lt;omega)))⟩
  ·skip
   by_cases hk16:k=16
   ·subst hk16
    have CH:=fun w' (hb:Below W1.heap.size W1 w')=>zv 58 95 qlq q5d ww zh 0 8 16 s l a cap w' hl (qcm s hs) (fun i hi=>ih l[i] (ze (qs (Nd.kid_lt _ s l i hi) hsz))) (HT1.out.later hb)
    obtain⟨V,hV⟩:∃ V,xf ww 0 8 zh s l=V:=⟨_,rfl⟩;rw[hV]at CH;have CC:=qh CH;have HS:Hid (zh (.mk 16 s l)=V):=qh (by rw[<-hV];rw[zh,q7 (by decide),qa rfl,qb3,q3u]);clear CH hV;clear ht hb0 T1 R1 hW1 ih hsz;go_enter Tryz.func95,Tryz.ntmps95
    go_upto_region 1 with fail
    rw[HW.out]
    go_wp2_with fail
    refine(CC.out _ (Below.refl _ _)).mono ?_;rintro e w2⟨rfl,hb2⟩;have HB2:=qh hb2;clear hb2 CC n0 n1 n2
    cases V
    ·skip
     go_wp2;go_ret;exact⟨by rw[HS.out];rfl,by first|exact HB.out.trans (HB2.out.mono (by have:=HR1.out.lt;omega))|(rw[hh];exact HB.out.trans (HB2.out.mono (by have:=HR1.out.lt;omega)))⟩
    ·skip
     go_wp2;go_ret;exact⟨by rw[HS.out];rfl,by first|exact HB.out.trans (HB2.out.mono (by have:=HR1.out.lt;omega))|(rw[hh];exact HB.out.trans (HB2.out.mono (by have:=HR1.out.lt;omega)))⟩
   ·skip
    by_cases hk17:k=17
    ·subst hk17
     obtain⟨V,hV⟩:∃ V,zh (.mk 17 s l)=V:=⟨_,rfl⟩;have hV2:(je s l && wq l)=V:=by rw[<-hV];rw[zh,q7 (by decide),q7 (by decide),decide_eq_true rfl,Bool.true_and]
     have CC:=qh (fun w' (hb:Below W1.heap.size W1 w')=>q70 95 q5d zh 17 s l a cap w' hs hl (fun i hi=>ih l[i] (ze (qs (Nd.kid_lt _ s l i hi) hsz))) (HT1.out.later hb) V (fun h=>by rw[q8o s l h,<-q65 h];exact hV2) (fun h=>by rw[<-hV2,List.eq_nil_of_length_eq_zero h,wq,Bool.and_false]));have HS:Hid (zh (.mk 17 s l)=V):=qh hV;clear hV hV2;clear ht hb0 T1 R1 hW1 ih hsz;go_enter Tryz.func95,Tryz.ntmps95
     go_upto_region 1 with fail
     rw[HW.out]
     go_wp2_with fail
     refine(CC.out _ (Below.refl _ _)).mono ?_;rintro e w2⟨rfl,hb2⟩;have HB2:=qh hb2;clear hb2 CC n0 n1 n2
     cases V
     ·skip
      go_wp2;go_ret;exact⟨by rw[HS.out];rfl,by first|exact HB.out.trans (HB2.out.mono (by have:=HR1.out.lt;omega))|(rw[hh];exact HB.out.trans (HB2.out.mono (by have:=HR1.out.lt;omega)))⟩
     ·skip
      go_wp2;go_ret;exact⟨by rw[HS.out];rfl,by first|exact HB.out.trans (HB2.out.mono (by have:=HR1.out.lt;omega))|(rw[hh];exact HB.out.trans (HB2.out.mono (by have:=HR1.out.lt;omega)))⟩
    ·skip
     have HS:Hid (zh (.mk k s l)=false):=qh (by rw[zh,q7 hk15,q7 hk16,decide_eq_false hk17];rfl);have e15:(k==15)=false:=by rw[q9];exact hk15
     have e16:(k==16)=false:=by rw[q9];exact hk16
     have e17:(k==17)=false:=by rw[q9];exact hk17
     clear ht hb0 T1 R1 hW1 hk15 hk16 hk17 ih hsz;go_enter Tryz.func95,Tryz.ntmps95
     go_upto_region 1 with fail
     rw[HW.out];go_wp2;go_ret;exact⟨by rw[HS.out];rfl,by first|exact HB.out|(rw[hh];exact HB.out)⟩
theorem q1j(n:Nat):∀ t:Nd,t.sz<=n->q22 94 qn t:=by
 induction n with
 |zero=>intro t h;cases t;simp only[Nd.sz]at h;omega
 |succ n ih =>
  intro t hsz w v0 v1 v2 ht;obtain⟨k,s,l,a,cap,rfl,rfl,rfl,rfl,hs,hl⟩:=ht.form;have hb0:=(Below.refl w.heap.size w).alloc (q5 _) (.cells #[.int .i64 k,.string s,.slice a l.length cap] 25);obtain⟨h,hh⟩:∃ h,w.heap.size=h:=⟨_,rfl⟩;obtain⟨W1,hW1⟩:∃ W1,w.alloc (.cells #[.int .i64 k,.string s,.slice a l.length cap] 25)=W1:=⟨_,rfl⟩;have R1:Row3 W1 h (.int .i64 k) (.string s) (.slice a l.length cap):=by rw[<-hW1,<-hh];exact Row3.new _ _ _ _
  have T1:=ht.later hb0;rw[hW1]at hb0 T1;rw[hh]at hb0;have HB:=qh hb0;have HT1:=qh T1;have HR1:=qh R1;have HW:=qh hW1;obtain⟨⟨n0,n1,n2⟩,_⟩:=R1.cells
  by_cases hk15:k=15
  ·subst hk15
   obtain⟨V,hV⟩:∃ V,zh (.mk 15 s l)=V:=⟨_,rfl⟩;have CH:=fun w' (hb:Below W1.heap.size W1 w')=>q9m _ (.mk 15 s l) (q5 _) w' _ _ _ (HT1.out.later hb)
   rw[hV]at CH;have CC:=qh CH;have HS:Hid (qn (.mk 15 s l)=V):=qh (by rw[<-hV];rw[qn,qa rfl]);clear CH hV;clear ht hb0 T1 R1 hW1 ih hsz;go_enter Tryz.func94,Tryz.ntmps94
   go_upto_region 1 with fail
   rw[HW.out]
   go_wp2_with fail
   refine(CC.out _ (Below.refl _ _)).mono ?_;rintro e w2⟨rfl,hb2⟩;have HB2:=qh hb2;clear hb2 CC n0 n1 n2
   cases V
   ·skip
    go_wp2;go_ret;exact⟨by rw[HS.out];rfl,by first|exact HB.out.trans (HB2.out.mono (by have:=HR1.out.lt;omega))|(rw[hh];exact HB.out.trans (HB2.out.mono (by have:=HR1.out.lt;omega)))⟩
   ·skip
    go_wp2;go_ret;exact⟨by rw[HS.out];rfl,by first|exact HB.out.trans (HB2.out.mono (by have:=HR1.out.lt;omega))|(rw[hh];exact HB.out.trans (HB2.out.mono (by have:=HR1.out.lt;omega)))⟩
  ·skip
   by_cases hk18:k=18
   ·subst hk18
    obtain⟨V,hV⟩:∃ V,qn (.mk 18 s l)=V:=⟨_,rfl⟩;have hV2:(je s l && vr l)=V:=by rw[<-hV];rw[qn,q7 (by decide),qa (by decide)]
    have CC:=qh (fun w' (hb:Below W1.heap.size W1 w')=>q70 94 x8 qn 18 s l a cap w' hs hl (fun i hi=>ih l[i] (ze (qs (Nd.kid_lt _ s l i hi) hsz))) (HT1.out.later hb) V (fun h=>by rw[q8o s l h,<-q2k h];exact hV2) (fun h=>by rw[<-hV2,List.eq_nil_of_length_eq_zero h,vr,Bool.and_false]));have HS:Hid (qn (.mk 18 s l)=V):=qh hV;clear hV hV2;clear ht hb0 T1 R1 hW1 ih hsz;go_enter Tryz.func94,Tryz.ntmps94
    go_upto_region 1 with fail
    rw[HW.out]
    go_wp2_with fail
    refine(CC.out _ (Below.refl _ _)).mono ?_;rintro e w2⟨rfl,hb2⟩;have HB2:=qh hb2;clear hb2 CC n0 n1 n2
    cases V
    ·skip
     go_wp2;go_ret;exact⟨by rw[HS.out];rfl,by first|exact HB.out.trans (HB2.out.mono (by have:=HR1.out.lt;omega))|(rw[hh];exact HB.out.trans (HB2.out.mono (by have:=HR1.out.lt;omega)))⟩
    ·skip
     go_wp2;go_ret;exact⟨by rw[HS.out];rfl,by first|exact HB.out.trans (HB2.out.mono (by have:=HR1.out.lt;omega))|(rw[hh];exact HB.out.trans (HB2.out.mono (by have:=HR1.out.lt;omega)))⟩
   ·skip
    by_cases hk19:k=19
    ·subst hk19
     obtain⟨V,hV⟩:∃ V,qn (.mk 19 s l)=V:=⟨_,rfl⟩;have hV2:(je s l && vr l)=V:=by rw[<-hV];rw[qn,q7 (by decide),qa (by decide)]
     have CC:=qh (fun w' (hb:Below W1.heap.size W1 w')=>q70 94 x8 qn 19 s l a cap w' hs hl (fun i hi=>ih l[i] (ze (qs (Nd.kid_lt _ s l i hi) hsz))) (HT1.out.later hb) V (fun h=>by rw[q8o s l h,<-q2k h];exact hV2) (fun h=>by rw[<-hV2,List.eq_nil_of_length_eq_zero h,vr,Bool.and_false]));have HS:Hid (qn (.mk 19 s l)=V):=qh hV;clear hV hV2;clear ht hb0 T1 R1 hW1 ih hsz;go_enter Tryz.func94,Tryz.ntmps94
     go_upto_region 1 with fail
     rw[HW.out]
     go_wp2_with fail
     refine(CC.out _ (Below.refl _ _)).mono ?_;rintro e w2⟨rfl,hb2⟩;have HB2:=qh hb2;clear hb2 CC n0 n1 n2
     cases V
     ·skip
      go_wp2;go_ret;exact⟨by rw[HS.out];rfl,by first|exact HB.out.trans (HB2.out.mono (by have:=HR1.out.lt;omega))|(rw[hh];exact HB.out.trans (HB2.out.mono (by have:=HR1.out.lt;omega)))⟩
     ·skip
      go_wp2;go_ret;exact⟨by rw[HS.out];rfl,by first|exact HB.out.trans (HB2.out.mono (by have:=HR1.out.lt;omega))|(rw[hh];exact HB.out.trans (HB2.out.mono (by have:=HR1.out.lt;omega)))⟩
    ·skip
     by_cases hk20:k=20
     ·subst hk20
      have CH:=fun w' (hb:Below W1.heap.size W1 w')=>zv 151 94 xk x8 qu qn 0 0 20 s l a cap w' hl (xd s) (fun i hi=>ih l[i] (ze (qs (Nd.kid_lt _ s l i hi) hsz))) (HT1.out.later hb)
      obtain⟨V,hV⟩:∃ V,xf qu 0 0 qn s l=V:=⟨_,rfl⟩;rw[hV]at CH;have CC:=qh CH;have HS:Hid (qn (.mk 20 s l)=V):=qh (by rw[<-hV];rw[qn,q7 (by decide),q7 (by decide),qa (by decide),q39,Bool.and_comm]);clear CH hV;clear ht hb0 T1 R1 hW1 ih hsz;go_enter Tryz.func94,Tryz.ntmps94
      go_upto_region 1 with fail
      rw[HW.out]
      go_wp2_with fail
      refine(CC.out _ (Below.refl _ _)).mono ?_;rintro e w2⟨rfl,hb2⟩;have HB2:=qh hb2;clear hb2 CC n0 n1 n2
      cases V
      ·skip
       go_wp2;go_ret;exact⟨by rw[HS.out];rfl,by first|exact HB.out.trans (HB2.out.mono (by have:=HR1.out.lt;omega))|(rw[hh];exact HB.out.trans (HB2.out.mono (by have:=HR1.out.lt;omega)))⟩
      ·skip
       go_wp2;go_ret;exact⟨by rw[HS.out];rfl,by first|exact HB.out.trans (HB2.out.mono (by have:=HR1.out.lt;omega))|(rw[hh];exact HB.out.trans (HB2.out.mono (by have:=HR1.out.lt;omega)))⟩
     ·skip
      by_cases hk21:k=21
      ·subst hk21
       have CH:=fun w' (hb:Below W1.heap.size W1 w')=>zv 151 94 xk x8 qu qn 0 0 21 s l a cap w' hl (xd s) (fun i hi=>ih l[i] (ze (qs (Nd.kid_lt _ s l i hi) hsz))) (HT1.out.later hb)
       obtain⟨V,hV⟩:∃ V,xf qu 0 0 qn s l=V:=⟨_,rfl⟩;rw[hV]at CH;have CC:=qh CH;have HS:Hid (qn (.mk 21 s l)=V):=qh (by rw[<-hV];rw[qn,q7 (by decide),q7 (by decide),qa (by decide),q39,Bool.and_comm]);clear CH hV;clear ht hb0 T1 R1 hW1 ih hsz;go_enter Tryz.func94,Tryz.ntmps94
       go_upto_region 1 with fail
       rw[HW.out]
       go_wp2_with fail
       refine(CC.out _ (Below.refl _ _)).mono ?_;rintro e w2⟨rfl,hb2⟩;have HB2:=qh hb2;clear hb2 CC n0 n1 n2
       cases V
       ·skip
        go_wp2;go_ret;exact⟨by rw[HS.out];rfl,by first|exact HB.out.trans (HB2.out.mono (by have:=HR1.out.lt;omega))|(rw[hh];exact HB.out.trans (HB2.out.mono (by have:=HR1.out.lt;omega)))⟩
       ·skip
        go_wp2;go_ret;exact⟨by rw[HS.out];rfl,by first|exact HB.out.trans (HB2.out.mono (by have:=HR1.out.lt;omega))|(rw[hh];exact HB.out.trans (HB2.out.mono (by have:=HR1.out.lt;omega)))⟩
      ·skip
       by_cases hk29:k=29
       ·subst hk29
        have CH:=fun w' (hb:Below W1.heap.size W1 w')=>zv 151 94 xk x8 qu qn 1 1 29 s l a cap w' hl (xd s) (fun i hi=>ih l[i] (ze (qs (Nd.kid_lt _ s l i hi) hsz))) (HT1.out.later hb)
        obtain⟨V,hV⟩:∃ V,xf qu 1 1 qn s l=V:=⟨_,rfl⟩;rw[hV]at CH;have CC:=qh CH;have HS:Hid (qn (.mk 29 s l)=V):=qh (by rw[<-hV];rw[qn,q7 (by decide),q7 (by decide),q7 (by decide),qa (by decide),vf qu 1 1 rfl,xx]);clear CH hV;clear ht hb0 T1 R1 hW1 ih hsz;go_enter Tryz.func94,Tryz.ntmps94
        go_upto_region 1 with fail
        rw[HW.out]
        go_wp2_with fail
        refine(CC.out _ (Below.refl _ _)).mono ?_;rintro e w2⟨rfl,hb2⟩;have HB2:=qh hb2;clear hb2 CC n0 n1 n2
        cases V
        ·skip
         go_wp2;go_ret;exact⟨by rw[HS.out];rfl,by first|exact HB.out.trans (HB2.out.mono (by have:=HR1.out.lt;omega))|(rw[hh];exact HB.out.trans (HB2.out.mono (by have:=HR1.out.lt;omega)))⟩
        ·skip
         go_wp2;go_ret;exact⟨by rw[HS.out];rfl,by first|exact HB.out.trans (HB2.out.mono (by have:=HR1.out.lt;omega))|(rw[hh];exact HB.out.trans (HB2.out.mono (by have:=HR1.out.lt;omega)))⟩
       ·skip
        by_cases hk30:k=30
        ·subst hk30
         have CH:=fun w' (hb:Below W1.heap.size W1 w')=>zv 151 94 xk x8 qu qn 1 1 30 s l a cap w' hl (xd s) (fun i hi=>ih l[i] (ze (qs (Nd.kid_lt _ s l i hi) hsz))) (HT1.out.later hb)
         obtain⟨V,hV⟩:∃ V,xf qu 1 1 qn s l=V:=⟨_,rfl⟩;rw[hV]at CH;have CC:=qh CH;have HS:Hid (qn (.mk 30 s l)=V):=qh (by rw[<-hV];rw[qn,q7 (by decide),q7 (by decide),q7 (by decide),qa (by decide),vf qu 1 1 rfl,xx]);clear CH hV;clear ht hb0 T1 R1 hW1 ih hsz;go_enter Tryz.func94,Tryz.ntmps94
         go_upto_region 1 with fail
         rw[HW.out]
         go_wp2_with fail
         refine(CC.out _ (Below.refl _ _)).mono ?_;rintro e w2⟨rfl,hb2⟩;have HB2:=qh hb2;clear hb2 CC n0 n1 n2
         cases V
         ·skip
          go_wp2;go_ret;exact⟨by rw[HS.out];rfl,by first|exact HB.out.trans (HB2.out.mono (by have:=HR1.out.lt;omega))|(rw[hh];exact HB.out.trans (HB2.out.mono (by have:=HR1.out.lt;omega)))⟩
         ·skip
          go_wp2;go_ret;exact⟨by rw[HS.out];rfl,by first|exact HB.out.trans (HB2.out.mono (by have:=HR1.out.lt;omega))|(rw[hh];exact HB.out.trans (HB2.out.mono (by have:=HR1.out.lt;omega)))⟩
        ·skip
         by_cases hk22:k=22
         ·subst hk22
          have CH:=fun w' (hb:Below W1.heap.size W1 w')=>zv 151 94 xk x8 qu qn 2 2 22 s l a cap w' hl (xd s) (fun i hi=>ih l[i] (ze (qs (Nd.kid_lt _ s l i hi) hsz))) (HT1.out.later hb)
          obtain⟨V,hV⟩:∃ V,xf qu 2 2 qn s l=V:=⟨_,rfl⟩;rw[hV]at CH;have CC:=qh CH;have HS:Hid (qn (.mk 22 s l)=V):=qh (by rw[<-hV];rw[qn,q7 (by decide),q7 (by decide),q7 (by decide),q7 (by decide),vf qu 2 2 rfl,xx];rfl);clear CH hV;clear ht hb0 T1 R1 hW1 ih hsz;go_enter Tryz.func94,Tryz.ntmps94
          go_upto_region 1 with fail
          rw[HW.out]
          go_wp2_with fail
          refine(CC.out _ (Below.refl _ _)).mono ?_;rintro e w2⟨rfl,hb2⟩;have HB2:=qh hb2;clear hb2 CC n0 n1 n2
          cases V
          ·skip
           go_wp2;go_ret;exact⟨by rw[HS.out];rfl,by first|exact HB.out.trans (HB2.out.mono (by have:=HR1.out.lt;omega))|(rw[hh];exact HB.out.trans (HB2.out.mono (by have:=HR1.out.lt;omega)))⟩
          ·skip
           go_wp2;go_ret;exact⟨by rw[HS.out];rfl,by first|exact HB.out.trans (HB2.out.mono (by have:=HR1.out.lt;omega))|(rw[hh];exact HB.out.trans (HB2.out.mono (by have:=HR1.out.lt;omega)))⟩
         ·skip
          by_cases hk23:k=23
          ·subst hk23
           have CH:=fun w' (hb:Below W1.heap.size W1 w')=>zv 151 94 xk x8 qu qn 2 2 23 s l a cap w' hl (xd s) (fun i hi=>ih l[i] (ze (qs (Nd.kid_lt _ s l i hi) hsz))) (HT1.out.later hb)
           obtain⟨V,hV⟩:∃ V,xf qu 2 2 qn s l=V:=⟨_,rfl⟩;rw[hV]at CH;have CC:=qh CH;have HS:Hid (qn (.mk 23 s l)=V):=qh (by rw[<-hV];rw[qn,q7 (by decide),q7 (by decide),q7 (by decide),q7 (by decide),vf qu 2 2 rfl,xx];rfl);clear CH hV;clear ht hb0 T1 R1 hW1 ih hsz;go_enter Tryz.func94,Tryz.ntmps94
           go_upto_region 1 with fail
           rw[HW.out]
           go_wp2_with fail
           refine(CC.out _ (Below.refl _ _)).mono ?_;rintro e w2⟨rfl,hb2⟩;have HB2:=qh hb2;clear hb2 CC n0 n1 n2
           cases V
           ·skip
            go_wp2;go_ret;exact⟨by rw[HS.out];rfl,by first|exact HB.out.trans (HB2.out.mono (by have:=HR1.out.lt;omega))|(rw[hh];exact HB.out.trans (HB2.out.mono (by have:=HR1.out.lt;omega)))⟩
           ·skip
            go_wp2;go_ret;exact⟨by rw[HS.out];rfl,by first|exact HB.out.trans (HB2.out.mono (by have:=HR1.out.lt;omega))|(rw[hh];exact HB.out.trans (HB2.out.mono (by have:=HR1.out.lt;omega)))⟩
          ·skip
           by_cases hk24:k=24
           ·subst hk24
            have CH:=fun w' (hb:Below W1.heap.size W1 w')=>zv 151 94 xk x8 qu qn 2 2 24 s l a cap w' hl (xd s) (fun i hi=>ih l[i] (ze (qs (Nd.kid_lt _ s l i hi) hsz))) (HT1.out.later hb)
            obtain⟨V,hV⟩:∃ V,xf qu 2 2 qn s l=V:=⟨_,rfl⟩;rw[hV]at CH;have CC:=qh CH;have HS:Hid (qn (.mk 24 s l)=V):=qh (by rw[<-hV];rw[qn,q7 (by decide),q7 (by decide),q7 (by decide),q7 (by decide),vf qu 2 2 rfl,xx];rfl);clear CH hV;clear ht hb0 T1 R1 hW1 ih hsz;go_enter Tryz.func94,Tryz.ntmps94
            go_upto_region 1 with fail
            rw[HW.out]
            go_wp2_with fail
            refine(CC.out _ (Below.refl _ _)).mono ?_;rintro e w2⟨rfl,hb2⟩;have HB2:=qh hb2;clear hb2 CC n0 n1 n2
            cases V
            ·skip
             go_wp2;go_ret;exact⟨by rw[HS.out];rfl,by first|exact HB.out.trans (HB2.out.mono (by have:=HR1.out.lt;omega))|(rw[hh];exact HB.out.trans (HB2.out.mono (by have:=HR1.out.lt;omega)))⟩
            ·skip
             go_wp2;go_ret;exact⟨by rw[HS.out];rfl,by first|exact HB.out.trans (HB2.out.mono (by have:=HR1.out.lt;omega))|(rw[hh];exact HB.out.trans (HB2.out.mono (by have:=HR1.out.lt;omega)))⟩
           ·skip
            by_cases hk25:k=25
            ·subst hk25
             have CH:=fun w' (hb:Below W1.heap.size W1 w')=>zv 151 94 xk x8 qu qn 2 2 25 s l a cap w' hl (xd s) (fun i hi=>ih l[i] (ze (qs (Nd.kid_lt _ s l i hi) hsz))) (HT1.out.later hb)
             obtain⟨V,hV⟩:∃ V,xf qu 2 2 qn s l=V:=⟨_,rfl⟩;rw[hV]at CH;have CC:=qh CH;have HS:Hid (qn (.mk 25 s l)=V):=qh (by rw[<-hV];rw[qn,q7 (by decide),q7 (by decide),q7 (by decide),q7 (by decide),vf qu 2 2 rfl,xx];rfl);clear CH hV;clear ht hb0 T1 R1 hW1 ih hsz;go_enter Tryz.func94,Tryz.ntmps94
             go_upto_region 1 with fail
             rw[HW.out]
             go_wp2_with fail
             refine(CC.out _ (Below.refl _ _)).mono ?_;rintro e w2⟨rfl,hb2⟩;have HB2:=qh hb2;clear hb2 CC n0 n1 n2
             cases V
             ·skip
              go_wp2;go_ret;exact⟨by rw[HS.out];rfl,by first|exact HB.out.trans (HB2.out.mono (by have:=HR1.out.lt;omega))|(rw[hh];exact HB.out.trans (HB2.out.mono (by have:=HR1.out.lt;omega)))⟩
             ·skip
              go_wp2;go_ret;exact⟨by rw[HS.out];rfl,by first|exact HB.out.trans (HB2.out.mono (by have:=HR1.out.lt;omega))|(rw[hh];exact HB.out.trans (HB2.out.mono (by have:=HR1.out.lt;omega)))⟩
            ·skip
             by_cases hk26:k=26
             ·subst hk26
              have CH:=fun w' (hb:Below W1.heap.size W1 w')=>zv 151 94 xk x8 qu qn 2 2 26 s l a cap w' hl (xd s) (fun i hi=>ih l[i] (ze (qs (Nd.kid_lt _ s l i hi) hsz))) (HT1.out.later hb)
              obtain⟨V,hV⟩:∃ V,xf qu 2 2 qn s l=V:=⟨_,rfl⟩;rw[hV]at CH;have CC:=qh CH;have HS:Hid (qn (.mk 26 s l)=V):=qh (by rw[<-hV];rw[qn,q7 (by decide),q7 (by decide),q7 (by decide),q7 (by decide),vf qu 2 2 rfl,xx];rfl);clear CH hV;clear ht hb0 T1 R1 hW1 ih hsz;go_enter Tryz.func94,Tryz.ntmps94
              go_upto_region 1 with fail
              rw[HW.out]
              go_wp2_with fail
              refine(CC.out _ (Below.refl _ _)).mono ?_;rintro e w2⟨rfl,hb2⟩;have HB2:=qh hb2;clear hb2 CC n0 n1 n2
              cases V
              ·skip
               go_wp2;go_ret;exact⟨by rw[HS.out];rfl,by first|exact HB.out.trans (HB2.out.mono (by have:=HR1.out.lt;omega))|(rw[hh];exact HB.out.trans (HB2.out.mono (by have:=HR1.out.lt;omega)))⟩
              ·skip
               go_wp2;go_ret;exact⟨by rw[HS.out];rfl,by first|exact HB.out.trans (HB2.out.mono (by have:=HR1.out.lt;omega))|(rw[hh];exact HB.out.trans (HB2.out.mono (by have:=HR1.out.lt;omega)))⟩
             ·skip
              by_cases hk27:k=27
              ·subst hk27
               have CH:=fun w' (hb:Below W1.heap.size W1 w')=>zv 151 94 xk x8 qu qn 2 2 27 s l a cap w' hl (xd s) (fun i hi=>ih l[i] (ze (qs (Nd.kid_lt _ s l i hi) hsz))) (HT1.out.later hb)
               obtain⟨V,hV⟩:∃ V,xf qu 2 2 qn s l=V:=⟨_,rfl⟩;rw[hV]at CH;have CC:=qh CH;have HS:Hid (qn (.mk 27 s l)=V):=qh (by rw[<-hV];rw[qn,q7 (by decide),q7 (by decide),q7 (by decide),q7 (by decide),vf qu 2 2 rfl,xx];rfl);clear CH hV;clear ht hb0 T1 R1 hW1 ih hsz;go_enter Tryz.func94,Tryz.ntmps94
               go_upto_region 1 with fail
               rw[HW.out]
               go_wp2_with fail
               refine(CC.out _ (Below.refl _ _)).mono ?_;rintro e w2⟨rfl,hb2⟩;have HB2:=qh hb2;clear hb2 CC n0 n1 n2
               cases V
               ·skip
                go_wp2;go_ret;exact⟨by rw[HS.out];rfl,by first|exact HB.out.trans (HB2.out.mono (by have:=HR1.out.lt;omega))|(rw[hh];exact HB.out.trans (HB2.out.mono (by have:=HR1.out.lt;omega)))⟩
               ·skip
                go_wp2;go_ret;exact⟨by rw[HS.out];rfl,by first|exact HB.out.trans (HB2.out.mono (by have:=HR1.out.lt;omega))|(rw[hh];exact HB.out.trans (HB2.out.mono (by have:=HR1.out.lt;omega)))⟩
              ·skip
               by_cases hk28:k=28
               ·subst hk28
                have CH:=fun w' (hb:Below W1.heap.size W1 w')=>zv 151 94 xk x8 qu qn 2 2 28 s l a cap w' hl (xd s) (fun i hi=>ih l[i] (ze (qs (Nd.kid_lt _ s l i hi) hsz))) (HT1.out.later hb)
                obtain⟨V,hV⟩:∃ V,xf qu 2 2 qn s l=V:=⟨_,rfl⟩;rw[hV]at CH;have CC:=qh CH;have HS:Hid (qn (.mk 28 s l)=V):=qh (by rw[<-hV];rw[qn,q7 (by decide),q7 (by decide),q7 (by decide),q7 (by decide),vf qu 2 2 rfl,xx];rfl);clear CH hV;clear ht hb0 T1 R1 hW1 ih hsz;go_enter Tryz.func94,Tryz.ntmps94
                go_upto_region 1 with fail
                rw[HW.out]
                go_wp2_with fail
                refine(CC.out _ (Below.refl _ _)).mono ?_;rintro e w2⟨rfl,hb2⟩;have HB2:=qh hb2;clear hb2 CC n0 n1 n2
                cases V
                ·skip
                 go_wp2;go_ret;exact⟨by rw[HS.out];rfl,by first|exact HB.out.trans (HB2.out.mono (by have:=HR1.out.lt;omega))|(rw[hh];exact HB.out.trans (HB2.out.mono (by have:=HR1.out.lt;omega)))⟩
                ·skip
                 go_wp2;go_ret;exact⟨by rw[HS.out];rfl,by first|exact HB.out.trans (HB2.out.mono (by have:=HR1.out.lt;omega))|(rw[hh];exact HB.out.trans (HB2.out.mono (by have:=HR1.out.lt;omega)))⟩
               ·skip
                have HS:Hid (qn (.mk k s l)=false):=qh (by rw[qn,q7 hk15,q7 (by rintro(h|h) <;> contradiction),q7 (by rintro(h|h) <;> contradiction),q7 (by rintro(h|h) <;> contradiction),qhq hk22 hk23 hk24 hk25 hk26 hk27 hk28];rfl);have e15:(k==15)=false:=by rw[q9];exact hk15
                have e18:(k==18)=false:=by rw[q9];exact hk18
                have e19:(k==19)=false:=by rw[q9];exact hk19
                have e20:(k==20)=false:=by rw[q9];exact hk20
                have e21:(k==21)=false:=by rw[q9];exact hk21
                have e29:(k==29)=false:=by rw[q9];exact hk29
                have e30:(k==30)=false:=by rw[q9];exact hk30
                have e22:(k==22)=false:=by rw[q9];exact hk22
                have e23:(k==23)=false:=by rw[q9];exact hk23
                have e24:(k==24)=false:=by rw[q9];exact hk24
                have e25:(k==25)=false:=by rw[q9];exact hk25
                have e26:(k==26)=false:=by rw[q9];exact hk26
                have e27:(k==27)=false:=by rw[q9];exact hk27
                have e28:(k==28)=false:=by rw[q9];exact hk28
                clear ht hb0 T1 R1 hW1 hk15 hk18 hk19 hk20 hk21 hk29 hk30 hk22 hk23 hk24 hk25 hk26 hk27 hk28 ih hsz;go_enter Tryz.func94,Tryz.ntmps94
                go_upto_region 1 with fail
                rw[HW.out];go_wp2;go_ret;exact⟨by rw[HS.out];rfl,by first|exact HB.out|(rw[hh];exact HB.out)⟩
theorem qnj(s:ByteArray)(l:List Nd)(w:World)(a:Option Addr)(cap:Nat)(_hs:s.size<=maxLen)(hl:l.length<=maxLen)(ht:NdR w (.mk 3 s l) (.int .i64 3) (.string s) (.slice a l.length cap)) :
  Calls Tryz.prog 93 #[.agg #[.int .i64 3,.string s,.slice a l.length cap]] w fun e w'=>e = .returned (.bool (itemB (.mk 3 s l)))/\Below w.heap.size w w':=by
 have hb0:=(Below.refl w.heap.size w).alloc (q5 _) (.cells #[.int .i64 3,.string s,.slice a l.length cap] 25);obtain⟨h,hh⟩:∃ h,w.heap.size=h:=⟨_,rfl⟩;obtain⟨W1,hW1⟩:∃ W1,w.alloc (.cells #[.int .i64 3,.string s,.slice a l.length cap] 25)=W1:=⟨_,rfl⟩;have R1:Row3 W1 h (.int .i64 3) (.string s) (.slice a l.length cap):=by rw[<-hW1,<-hh];exact Row3.new _ _ _ _
 have T1:=ht.later hb0;rw[hW1]at hb0 T1;rw[hh]at hb0;have HB:=qh hb0;have HT1:=qh T1;have HR1:=qh R1;have HW:=qh hW1;obtain⟨⟨n0,n1,n2⟩,_⟩:=R1.cells;have hcap:=ht.cap;have HL0:Hid (NdL W1 l (.slice a l.length cap)):=qh ⟨_,_,_,_,HT1.out⟩
 have hItem:itemB (.mk 3 s l)=(qu s && (decide (2<=l.length) && ((l.take (l.length - 1)).all xa && q32 l))):=by
  rw[itemB,q7 (by decide),qa rfl,q6r]
 unfold maxLen at hl
 by_cases h2:2<=l.length
 ·rw[decide_eq_true h2,Bool.true_and,q31 (show 0 < l.length by omega)]at hItem
  obtain⟨b,o,k1,s1,l1,a1,c1,rfl,e1,x0,x1,x2,r1⟩:=HT1.out.kid (l.length - 1) (by omega);have CN0:=xd s W1
  have CE0:=fun w' (hb:Below W1.heap.size W1 w')=>q6w 152 q0n xa 0 ⟨#[]⟩ (l.take (l.length - 1)) (some ⟨b,o,none⟩) cap w' (by rw[List.length_take];unfold maxLen;omega) (fun i hi=>yt _ _ (q5 _)) (by
   obtain⟨k9,s9,u0,u1,h9⟩:=(HL0.out.later hb).take (l.length - 1) (by omega) cap (by omega);rw[show(l.take (l.length - 1)).length=l.length - 1 from by rw[List.length_take];omega]
   exact qg1 h9)
  rw[show(l.take (l.length - 1)).length=l.length - 1 from by rw[List.length_take];omega]at CE0;have CG0:=fun w' (hb:Below W1.heap.size W1 w')=>q0k _ (l[l.length - 1]'(by omega)) (q5 _) w' (.int .i64 k1) (.string s1) (.slice a1 l1.length c1) (by rw[e1];exact r1.later hb)
  obtain⟨VN,hVN⟩:∃ V,qu s=V:=⟨_,rfl⟩;obtain⟨VE,hVE⟩:∃ V,(l.take (l.length - 1)).all xa=V:=⟨_,rfl⟩;obtain⟨VG,hVG⟩:∃ V,zj (l[l.length - 1]'(by omega))=V:=⟨_,rfl⟩;rw[hVN,hVE,hVG]at hItem;rw[hVN]at CN0;rw[hVE]at CE0;rw[hVG]at CG0;obtain⟨R,hR⟩:∃ R,itemB (.mk 3 s l)=R:=⟨_,rfl⟩;rw[hR]at hItem ⊢;obtain⟨M,hM⟩:∃ M,l.length - 1=M:=⟨_,rfl⟩;obtain⟨L,hL⟩:∃ L,l.length=L:=⟨_,rfl⟩;have hML:((L:Nat):Int) - 1=(M:Int):=by omega
  rw[hM]at CE0 x0 x1 x2;rw[hL]at n2 hcap hl h2;have CN:=qh CN0;have CE:=qh CE0;have CG:=qh CG0;have HRp:=qh hItem;have HR2:Hid (Row3 W1 h (.int .i64 3) (.string s) (.slice (some ⟨b,o,none⟩) L cap)):=by rw[<-hL];exact HR1
  have HW2:Hid (w.alloc (.cells #[.int .i64 3,.string s,.slice (some ⟨b,o,none⟩) L cap] 25)=W1):=by rw[<-hL];exact HW
  have L2:=qh (qg x0);have HX:=qh (show W1.cell? ⟨b,o+M*3,none⟩=some (.int .i64 k1)/\W1.cell? ⟨b,o+M*3+1,none⟩=some (.string s1)/\W1.cell? ⟨b,o+M*3+2,none⟩=some (.slice a1 l1.length c1) from⟨x0,x1,x2⟩);have hM1:0 < (M:Int):=by omega
  have hM0:(0:Int)<=(M:Int):=by omega
  have hMc:(M:Int)<=(cap:Int):=by omega
  have hMl:(M:Int) < (L:Int):=by omega
  have hMn:M<=cap:=by omega
  have hMm:M < L:=by omega
  have h63:(L:Int)<=9223372036854775807:=by omega
  rw[hL];have HLL:=qh hL;clear ht hb0 T1 R1 hW1 hItem hR hVN hVE hVG CN0 CE0 CG0 e1 r1 x0 x1 x2 HT1 HL0 HR1 HW hL hM;go_enter Tryz.func93,Tryz.ntmps93
  go_upto_region 1 with fail
  rw[HW2.out]
  go_wp2_with fail
  refine CN.out.mono ?_;rintro e w2⟨rfl,hb2⟩;have R2:=qh (HR2.out.below hb2 HR2.out.lt);have HB2:=qh hb2;clear hb2 n0 n1 n2 CN;obtain⟨⟨n0,n1,n2⟩,_⟩:=R2.out.cells
  cases VN with
  |false =>
   go_wp2;go_ret;exact⟨by rw[HRp.out];rfl,by first|exact HB.out.trans (HB2.out.mono (by have:=HR2.out.lt;omega))|(rw[hh];exact HB.out.trans (HB2.out.mono (by have:=HR2.out.lt;omega)))⟩
  |true =>
   go_wp2_with fail
   refine(CE.out _ HB2.out).mono ?_;rintro e w3⟨rfl,hb3⟩;have HB3:=qh (HB2.out.trans (hb3.mono HB2.out.size));clear hb3 n0 n1 n2 CE;obtain⟨⟨n0,n1,n2⟩,_⟩:=(HR2.out.below HB3.out HR2.out.lt).cells;have x0:=(HB3.out.cell (p:=⟨b,o+M*3,none⟩) L2.out).trans HX.out.1;have x1:=(HB3.out.cell (p:=⟨b,o+M*3+1,none⟩) L2.out).trans HX.out.2.1;have x2:=(HB3.out.cell (p:=⟨b,o+M*3+2,none⟩) L2.out).trans HX.out.2.2
   cases VE with
   |false =>
    go_wp2;go_ret;exact⟨by rw[HRp.out];rfl,by first|exact HB.out.trans (HB3.out.mono (by have:=HR2.out.lt;omega))|(rw[hh];exact HB.out.trans (HB3.out.mono (by have:=HR2.out.lt;omega)))⟩
   |true =>
    go_wp2_with fail
    refine(CG.out _ HB3.out).mono ?_;rintro e w4⟨rfl,hb4⟩;have HB4:=qh (HB3.out.trans (hb4.mono HB3.out.size));clear hb4 n0 n1 n2 x0 x1 x2 CG
    cases VG
    ·skip
     go_wp2;go_ret;exact⟨by rw[HRp.out];rfl,by first|exact HB.out.trans (HB4.out.mono (by have:=HR2.out.lt;omega))|(rw[hh];exact HB.out.trans (HB4.out.mono (by have:=HR2.out.lt;omega)))⟩
    ·skip
     go_wp2;go_ret;exact⟨by rw[HRp.out];rfl,by first|exact HB.out.trans (HB4.out.mono (by have:=HR2.out.lt;omega))|(rw[hh];exact HB.out.trans (HB4.out.mono (by have:=HR2.out.lt;omega)))⟩
 ·have hRf:itemB (.mk 3 s l)=false:=by rw[hItem,decide_eq_false h2];simp
  have e1:¬ (0:Int) < (l.length:Int) - 1:=by omega
  have hl0:(l.length:Int)<=9223372036854775807:=by omega
  rw[hRf];clear ht hb0 T1 R1 hW1 hItem hRf h2;go_enter Tryz.func93,Tryz.ntmps93
  go_upto_region 1 with fail
  rw[HW.out];go_wp2;go_ret;exact⟨rfl,by first|exact HB.out|(rw[hh];exact HB.out)⟩
theorem q58:∀ t:Nd,q22 93 itemB t:=by
 intro t w v0 v1 v2 ht;obtain⟨k,s,l,a,cap,rfl,rfl,rfl,rfl,hs,hl⟩:=ht.form
 by_cases hk3:k=3
 ·subst hk3;exact qnj s l w a cap hs hl ht
 have e3:(k==3)=false:=by rw[q9];exact hk3
 have hb0:=(Below.refl w.heap.size w).alloc (q5 _) (.cells #[.int .i64 k,.string s,.slice a l.length cap] 25);obtain⟨h,hh⟩:∃ h,w.heap.size=h:=⟨_,rfl⟩;obtain⟨W1,hW1⟩:∃ W1,w.alloc (.cells #[.int .i64 k,.string s,.slice a l.length cap] 25)=W1:=⟨_,rfl⟩;have R1:Row3 W1 h (.int .i64 k) (.string s) (.slice a l.length cap):=by rw[<-hW1,<-hh];exact Row3.new _ _ _ _
 have T1:=ht.later hb0;rw[hW1]at hb0 T1;rw[hh]at hb0;have HB:=qh hb0;have HT1:=qh T1;have HR1:=qh R1;have HW:=qh hW1;obtain⟨⟨n0,n1,n2⟩,_⟩:=R1.cells
 by_cases hk2:k=2
 ·subst hk2
  clear e3 hk3;have CH:=fun w' (hb:Below W1.heap.size W1 w')=>zv 151 152 xk q0n qu xa 1 l.length 2 s l a cap w' hl (xd s) (fun i hi=>yt _ l[i] (q5 _)) (HT1.out.later hb)
  obtain⟨V,hV⟩:∃ V,xf qu 1 l.length xa s l=V:=⟨_,rfl⟩;rw[hV]at CH;have CC:=qh CH;have HS:Hid (itemB (.mk 2 s l)=V):=qh (by rw[<-hV];rw[itemB,qa (by decide),q6r,qe3 qu 1 1 rfl]);clear CH hV;clear ht hb0 T1 R1 hW1;go_enter Tryz.func93,Tryz.ntmps93
  go_upto_region 1 with fail
  rw[HW.out]
  go_wp2_with fail
  refine(CC.out _ (Below.refl _ _)).mono ?_;rintro e w2⟨rfl,hb2⟩;have HB2:=qh hb2;clear hb2 CC n0 n1 n2
  cases V
  ·skip
   go_wp2;go_ret;exact⟨by rw[HS.out];rfl,by first|exact HB.out.trans (HB2.out.mono (by have:=HR1.out.lt;omega))|(rw[hh];exact HB.out.trans (HB2.out.mono (by have:=HR1.out.lt;omega)))⟩
  ·skip
   go_wp2;go_ret;exact⟨by rw[HS.out];rfl,by first|exact HB.out.trans (HB2.out.mono (by have:=HR1.out.lt;omega))|(rw[hh];exact HB.out.trans (HB2.out.mono (by have:=HR1.out.lt;omega)))⟩
 ·skip
  by_cases hk14:k=14
  ·subst hk14
   clear e3 hk3;have CH:=fun w' (hb:Below W1.heap.size W1 w')=>zv 151 152 xk q0n qu xa 1 l.length 14 s l a cap w' hl (xd s) (fun i hi=>yt _ l[i] (q5 _)) (HT1.out.later hb)
   obtain⟨V,hV⟩:∃ V,xf qu 1 l.length xa s l=V:=⟨_,rfl⟩;rw[hV]at CH;have CC:=qh CH;have HS:Hid (itemB (.mk 14 s l)=V):=qh (by rw[<-hV];rw[itemB,qa (by decide),q6r,qe3 qu 1 1 rfl]);clear CH hV;clear ht hb0 T1 R1 hW1;go_enter Tryz.func93,Tryz.ntmps93
   go_upto_region 1 with fail
   rw[HW.out]
   go_wp2_with fail
   refine(CC.out _ (Below.refl _ _)).mono ?_;rintro e w2⟨rfl,hb2⟩;have HB2:=qh hb2;clear hb2 CC n0 n1 n2
   cases V
   ·skip
    go_wp2;go_ret;exact⟨by rw[HS.out];rfl,by first|exact HB.out.trans (HB2.out.mono (by have:=HR1.out.lt;omega))|(rw[hh];exact HB.out.trans (HB2.out.mono (by have:=HR1.out.lt;omega)))⟩
   ·skip
    go_wp2;go_ret;exact⟨by rw[HS.out];rfl,by first|exact HB.out.trans (HB2.out.mono (by have:=HR1.out.lt;omega))|(rw[hh];exact HB.out.trans (HB2.out.mono (by have:=HR1.out.lt;omega)))⟩
  ·skip
   by_cases hk4:k=4
   ·subst hk4
    clear e3 hk3;have CH:=fun w' (hb:Below W1.heap.size W1 w')=>zv 117 96 jd q1l qy zj 0 8 4 s l a cap w' hl (jh s hs) (fun i hi=>q0k _ l[i] (q5 _)) (HT1.out.later hb)
    obtain⟨V,hV⟩:∃ V,xf qy 0 8 zj s l=V:=⟨_,rfl⟩;rw[hV]at CH;have CC:=qh CH;have HS:Hid (itemB (.mk 4 s l)=V):=qh (by rw[<-hV];rw[itemB,q7 (by decide),q7 (by decide),qa (by decide),q4f,q3u]);clear CH hV;clear ht hb0 T1 R1 hW1;go_enter Tryz.func93,Tryz.ntmps93
    go_upto_region 1 with fail
    rw[HW.out]
    go_wp2_with fail
    refine(CC.out _ (Below.refl _ _)).mono ?_;rintro e w2⟨rfl,hb2⟩;have HB2:=qh hb2;clear hb2 CC n0 n1 n2
    cases V
    ·skip
     go_wp2;go_ret;exact⟨by rw[HS.out];rfl,by first|exact HB.out.trans (HB2.out.mono (by have:=HR1.out.lt;omega))|(rw[hh];exact HB.out.trans (HB2.out.mono (by have:=HR1.out.lt;omega)))⟩
    ·skip
     go_wp2;go_ret;exact⟨by rw[HS.out];rfl,by first|exact HB.out.trans (HB2.out.mono (by have:=HR1.out.lt;omega))|(rw[hh];exact HB.out.trans (HB2.out.mono (by have:=HR1.out.lt;omega)))⟩
   ·skip
    by_cases hk5:k=5
    ·subst hk5
     clear e3 hk3;have CH:=fun w' (hb:Below W1.heap.size W1 w')=>zv 117 96 jd q1l qy zj 0 8 5 s l a cap w' hl (jh s hs) (fun i hi=>q0k _ l[i] (q5 _)) (HT1.out.later hb)
     obtain⟨V,hV⟩:∃ V,xf qy 0 8 zj s l=V:=⟨_,rfl⟩;rw[hV]at CH;have CC:=qh CH;have HS:Hid (itemB (.mk 5 s l)=V):=qh (by rw[<-hV];rw[itemB,q7 (by decide),q7 (by decide),qa (by decide),q4f,q3u]);clear CH hV;clear ht hb0 T1 R1 hW1;go_enter Tryz.func93,Tryz.ntmps93
     go_upto_region 1 with fail
     rw[HW.out]
     go_wp2_with fail
     refine(CC.out _ (Below.refl _ _)).mono ?_;rintro e w2⟨rfl,hb2⟩;have HB2:=qh hb2;clear hb2 CC n0 n1 n2
     cases V
     ·skip
      go_wp2;go_ret;exact⟨by rw[HS.out];rfl,by first|exact HB.out.trans (HB2.out.mono (by have:=HR1.out.lt;omega))|(rw[hh];exact HB.out.trans (HB2.out.mono (by have:=HR1.out.lt;omega)))⟩
     ·skip
      go_wp2;go_ret;exact⟨by rw[HS.out];rfl,by first|exact HB.out.trans (HB2.out.mono (by have:=HR1.out.lt;omega))|(rw[hh];exact HB.out.trans (HB2.out.mono (by have:=HR1.out.lt;omega)))⟩
    ·skip
     by_cases hk6:k=6
     ·subst hk6
      clear e3 hk3;have CH:=fun w' (hb:Below W1.heap.size W1 w')=>zv 117 96 jd q1l qy zj 0 8 6 s l a cap w' hl (jh s hs) (fun i hi=>q0k _ l[i] (q5 _)) (HT1.out.later hb)
      obtain⟨V,hV⟩:∃ V,xf qy 0 8 zj s l=V:=⟨_,rfl⟩;rw[hV]at CH;have CC:=qh CH;have HS:Hid (itemB (.mk 6 s l)=V):=qh (by rw[<-hV];rw[itemB,q7 (by decide),q7 (by decide),qa (by decide),q4f,q3u]);clear CH hV;clear ht hb0 T1 R1 hW1;go_enter Tryz.func93,Tryz.ntmps93
      go_upto_region 1 with fail
      rw[HW.out]
      go_wp2_with fail
      refine(CC.out _ (Below.refl _ _)).mono ?_;rintro e w2⟨rfl,hb2⟩;have HB2:=qh hb2;clear hb2 CC n0 n1 n2
      cases V
      ·skip
       go_wp2;go_ret;exact⟨by rw[HS.out];rfl,by first|exact HB.out.trans (HB2.out.mono (by have:=HR1.out.lt;omega))|(rw[hh];exact HB.out.trans (HB2.out.mono (by have:=HR1.out.lt;omega)))⟩
      ·skip
       go_wp2;go_ret;exact⟨by rw[HS.out];rfl,by first|exact HB.out.trans (HB2.out.mono (by have:=HR1.out.lt;omega))|(rw[hh];exact HB.out.trans (HB2.out.mono (by have:=HR1.out.lt;omega)))⟩
     ·skip
      by_cases hk7:k=7
      ·subst hk7
       clear e3 hk3;have CH:=fun w' (hb:Below W1.heap.size W1 w')=>zv 117 154 jd qiv qy vq 0 8 7 s l a cap w' hl (jh s hs) (fun i hi=>qii l[i]) (HT1.out.later hb)
       obtain⟨V,hV⟩:∃ V,xf qy 0 8 vq s l=V:=⟨_,rfl⟩;rw[hV]at CH;have CC:=qh CH;have HS:Hid (itemB (.mk 7 s l)=V):=qh (by rw[<-hV];rw[itemB,q7 (by decide),q7 (by decide),q7 (by decide),qa rfl,qkx,q3u]);clear CH hV;clear ht hb0 T1 R1 hW1;go_enter Tryz.func93,Tryz.ntmps93
       go_upto_region 1 with fail
       rw[HW.out]
       go_wp2_with fail
       refine(CC.out _ (Below.refl _ _)).mono ?_;rintro e w2⟨rfl,hb2⟩;have HB2:=qh hb2;clear hb2 CC n0 n1 n2
       cases V
       ·skip
        go_wp2;go_ret;exact⟨by rw[HS.out];rfl,by first|exact HB.out.trans (HB2.out.mono (by have:=HR1.out.lt;omega))|(rw[hh];exact HB.out.trans (HB2.out.mono (by have:=HR1.out.lt;omega)))⟩
       ·skip
        go_wp2;go_ret;exact⟨by rw[HS.out];rfl,by first|exact HB.out.trans (HB2.out.mono (by have:=HR1.out.lt;omega))|(rw[hh];exact HB.out.trans (HB2.out.mono (by have:=HR1.out.lt;omega)))⟩
      ·skip
       by_cases hk8:k=8
       ·subst hk8
        clear e3 hk3;have CH:=fun w' (hb:Below W1.heap.size W1 w')=>zv 117 94 jd x8 qy qn 1 1 8 s l a cap w' hl (jh s hs) (fun i hi=>q1j _ l[i] (q5 _)) (HT1.out.later hb)
        obtain⟨V,hV⟩:∃ V,xf qy 1 1 qn s l=V:=⟨_,rfl⟩;rw[hV]at CH;have CC:=qh CH;have HS:Hid (itemB (.mk 8 s l)=V):=qh (by rw[<-hV];rw[itemB,q7 (by decide),q7 (by decide),q7 (by decide),q7 (by decide),qa (by decide),xx,vf qy 1 1 rfl]);clear CH hV;clear ht hb0 T1 R1 hW1;go_enter Tryz.func93,Tryz.ntmps93
        go_upto_region 1 with fail
        rw[HW.out]
        go_wp2_with fail
        refine(CC.out _ (Below.refl _ _)).mono ?_;rintro e w2⟨rfl,hb2⟩;have HB2:=qh hb2;clear hb2 CC n0 n1 n2
        cases V
        ·skip
         go_wp2;go_ret;exact⟨by rw[HS.out];rfl,by first|exact HB.out.trans (HB2.out.mono (by have:=HR1.out.lt;omega))|(rw[hh];exact HB.out.trans (HB2.out.mono (by have:=HR1.out.lt;omega)))⟩
        ·skip
         go_wp2;go_ret;exact⟨by rw[HS.out];rfl,by first|exact HB.out.trans (HB2.out.mono (by have:=HR1.out.lt;omega))|(rw[hh];exact HB.out.trans (HB2.out.mono (by have:=HR1.out.lt;omega)))⟩
       ·skip
        by_cases hk9:k=9
        ·subst hk9
         clear e3 hk3;have CH:=fun w' (hb:Below W1.heap.size W1 w')=>zv 117 94 jd x8 qy qn 1 1 9 s l a cap w' hl (jh s hs) (fun i hi=>q1j _ l[i] (q5 _)) (HT1.out.later hb)
         obtain⟨V,hV⟩:∃ V,xf qy 1 1 qn s l=V:=⟨_,rfl⟩;rw[hV]at CH;have CC:=qh CH;have HS:Hid (itemB (.mk 9 s l)=V):=qh (by rw[<-hV];rw[itemB,q7 (by decide),q7 (by decide),q7 (by decide),q7 (by decide),qa (by decide),xx,vf qy 1 1 rfl]);clear CH hV;clear ht hb0 T1 R1 hW1;go_enter Tryz.func93,Tryz.ntmps93
         go_upto_region 1 with fail
         rw[HW.out]
         go_wp2_with fail
         refine(CC.out _ (Below.refl _ _)).mono ?_;rintro e w2⟨rfl,hb2⟩;have HB2:=qh hb2;clear hb2 CC n0 n1 n2
         cases V
         ·skip
          go_wp2;go_ret;exact⟨by rw[HS.out];rfl,by first|exact HB.out.trans (HB2.out.mono (by have:=HR1.out.lt;omega))|(rw[hh];exact HB.out.trans (HB2.out.mono (by have:=HR1.out.lt;omega)))⟩
         ·skip
          go_wp2;go_ret;exact⟨by rw[HS.out];rfl,by first|exact HB.out.trans (HB2.out.mono (by have:=HR1.out.lt;omega))|(rw[hh];exact HB.out.trans (HB2.out.mono (by have:=HR1.out.lt;omega)))⟩
        ·skip
         by_cases hk10:k=10
         ·subst hk10
          clear e3 hk3;have CH:=fun w' (hb:Below W1.heap.size W1 w')=>zv 117 94 jd x8 qy qn 1 1 10 s l a cap w' hl (jh s hs) (fun i hi=>q1j _ l[i] (q5 _)) (HT1.out.later hb)
          obtain⟨V,hV⟩:∃ V,xf qy 1 1 qn s l=V:=⟨_,rfl⟩;rw[hV]at CH;have CC:=qh CH;have HS:Hid (itemB (.mk 10 s l)=V):=qh (by rw[<-hV];rw[itemB,q7 (by decide),q7 (by decide),q7 (by decide),q7 (by decide),qa (by decide),xx,vf qy 1 1 rfl]);clear CH hV;clear ht hb0 T1 R1 hW1;go_enter Tryz.func93,Tryz.ntmps93
          go_upto_region 1 with fail
          rw[HW.out]
          go_wp2_with fail
          refine(CC.out _ (Below.refl _ _)).mono ?_;rintro e w2⟨rfl,hb2⟩;have HB2:=qh hb2;clear hb2 CC n0 n1 n2
          cases V
          ·skip
           go_wp2;go_ret;exact⟨by rw[HS.out];rfl,by first|exact HB.out.trans (HB2.out.mono (by have:=HR1.out.lt;omega))|(rw[hh];exact HB.out.trans (HB2.out.mono (by have:=HR1.out.lt;omega)))⟩
          ·skip
           go_wp2;go_ret;exact⟨by rw[HS.out];rfl,by first|exact HB.out.trans (HB2.out.mono (by have:=HR1.out.lt;omega))|(rw[hh];exact HB.out.trans (HB2.out.mono (by have:=HR1.out.lt;omega)))⟩
         ·skip
          by_cases hk11:k=11
          ·subst hk11
           clear e3 hk3;have CH:=fun w' (hb:Below W1.heap.size W1 w')=>zv 117 94 jd x8 qy qn 1 1 11 s l a cap w' hl (jh s hs) (fun i hi=>q1j _ l[i] (q5 _)) (HT1.out.later hb)
           obtain⟨V,hV⟩:∃ V,xf qy 1 1 qn s l=V:=⟨_,rfl⟩;rw[hV]at CH;have CC:=qh CH;have HS:Hid (itemB (.mk 11 s l)=V):=qh (by rw[<-hV];rw[itemB,q7 (by decide),q7 (by decide),q7 (by decide),q7 (by decide),qa (by decide),xx,vf qy 1 1 rfl]);clear CH hV;clear ht hb0 T1 R1 hW1;go_enter Tryz.func93,Tryz.ntmps93
           go_upto_region 1 with fail
           rw[HW.out]
           go_wp2_with fail
           refine(CC.out _ (Below.refl _ _)).mono ?_;rintro e w2⟨rfl,hb2⟩;have HB2:=qh hb2;clear hb2 CC n0 n1 n2
           cases V
           ·skip
            go_wp2;go_ret;exact⟨by rw[HS.out];rfl,by first|exact HB.out.trans (HB2.out.mono (by have:=HR1.out.lt;omega))|(rw[hh];exact HB.out.trans (HB2.out.mono (by have:=HR1.out.lt;omega)))⟩
           ·skip
            go_wp2;go_ret;exact⟨by rw[HS.out];rfl,by first|exact HB.out.trans (HB2.out.mono (by have:=HR1.out.lt;omega))|(rw[hh];exact HB.out.trans (HB2.out.mono (by have:=HR1.out.lt;omega)))⟩
          ·skip
           by_cases hk12:k=12
           ·subst hk12
            clear e3 hk3;have CH:=fun w' (hb:Below W1.heap.size W1 w')=>zv 117 152 jd q0n qy xa 0 0 12 s l a cap w' hl (jh s hs) (fun i hi=>yt _ l[i] (q5 _)) (HT1.out.later hb)
            obtain⟨V,hV⟩:∃ V,xf qy 0 0 xa s l=V:=⟨_,rfl⟩;rw[hV]at CH;have CC:=qh CH;have HS:Hid (itemB (.mk 12 s l)=V):=qh (by rw[<-hV];rw[itemB,q7 (by decide),q7 (by decide),q7 (by decide),q7 (by decide),q7 (by decide),qa (by decide),q39,Bool.and_comm]);clear CH hV;clear ht hb0 T1 R1 hW1;go_enter Tryz.func93,Tryz.ntmps93
            go_upto_region 1 with fail
            rw[HW.out]
            go_wp2_with fail
            refine(CC.out _ (Below.refl _ _)).mono ?_;rintro e w2⟨rfl,hb2⟩;have HB2:=qh hb2;clear hb2 CC n0 n1 n2
            cases V
            ·skip
             go_wp2;go_ret;exact⟨by rw[HS.out];rfl,by first|exact HB.out.trans (HB2.out.mono (by have:=HR1.out.lt;omega))|(rw[hh];exact HB.out.trans (HB2.out.mono (by have:=HR1.out.lt;omega)))⟩
            ·skip
             go_wp2;go_ret;exact⟨by rw[HS.out];rfl,by first|exact HB.out.trans (HB2.out.mono (by have:=HR1.out.lt;omega))|(rw[hh];exact HB.out.trans (HB2.out.mono (by have:=HR1.out.lt;omega)))⟩
           ·skip
            by_cases hk13:k=13
            ·subst hk13
             clear e3 hk3;have CH:=fun w' (hb:Below W1.heap.size W1 w')=>zv 117 152 jd q0n qy xa 0 0 13 s l a cap w' hl (jh s hs) (fun i hi=>yt _ l[i] (q5 _)) (HT1.out.later hb)
             obtain⟨V,hV⟩:∃ V,xf qy 0 0 xa s l=V:=⟨_,rfl⟩;rw[hV]at CH;have CC:=qh CH;have HS:Hid (itemB (.mk 13 s l)=V):=qh (by rw[<-hV];rw[itemB,q7 (by decide),q7 (by decide),q7 (by decide),q7 (by decide),q7 (by decide),qa (by decide),q39,Bool.and_comm]);clear CH hV;clear ht hb0 T1 R1 hW1;go_enter Tryz.func93,Tryz.ntmps93
             go_upto_region 1 with fail
             rw[HW.out]
             go_wp2_with fail
             refine(CC.out _ (Below.refl _ _)).mono ?_;rintro e w2⟨rfl,hb2⟩;have HB2:=qh hb2;clear hb2 CC n0 n1 n2
             cases V
             ·skip
              go_wp2;go_ret;exact⟨by rw[HS.out];rfl,by first|exact HB.out.trans (HB2.out.mono (by have:=HR1.out.lt;omega))|(rw[hh];exact HB.out.trans (HB2.out.mono (by have:=HR1.out.lt;omega)))⟩
             ·skip
              go_wp2;go_ret;exact⟨by rw[HS.out];rfl,by first|exact HB.out.trans (HB2.out.mono (by have:=HR1.out.lt;omega))|(rw[hh];exact HB.out.trans (HB2.out.mono (by have:=HR1.out.lt;omega)))⟩
            ·skip
             have HS:Hid (itemB (.mk k s l)=false):=qh (by rw[itemB,q7 (by rintro(h|h) <;> contradiction),q7 hk3,q7 (by rintro(h|h|h) <;> contradiction),q7 hk7,q7 (by rintro(h|h|h|h) <;> contradiction),q7 (by rintro(h|h) <;> contradiction),Bool.and_false]);have e2:(k==2)=false:=by rw[q9];exact hk2
             have e14:(k==14)=false:=by rw[q9];exact hk14
             have e4:(k==4)=false:=by rw[q9];exact hk4
             have e5:(k==5)=false:=by rw[q9];exact hk5
             have e6:(k==6)=false:=by rw[q9];exact hk6
             have e7:(k==7)=false:=by rw[q9];exact hk7
             have e8:(k==8)=false:=by rw[q9];exact hk8
             have e9:(k==9)=false:=by rw[q9];exact hk9
             have e10:(k==10)=false:=by rw[q9];exact hk10
             have e11:(k==11)=false:=by rw[q9];exact hk11
             have e12:(k==12)=false:=by rw[q9];exact hk12
             have e13:(k==13)=false:=by rw[q9];exact hk13
             clear ht hb0 T1 R1 hW1 hk2 hk14 hk4 hk5 hk6 hk7 hk8 hk9 hk10 hk11 hk12 hk13;go_enter Tryz.func93,Tryz.ntmps93
             go_upto_region 1 with fail
             rw[HW.out];go_wp2;go_ret;exact⟨by rw[HS.out];rfl,by first|exact HB.out|(rw[hh];exact HB.out)⟩
theorem qig(t:Nd):q22 92 xq t:=by
 intro w v0 v1 v2 ht;obtain⟨k,s,l,a,cap,rfl,rfl,rfl,rfl,hs,hl⟩:=ht.form;have hb0:=(Below.refl w.heap.size w).alloc (q5 _) (.cells #[.int .i64 k,.string s,.slice a l.length cap] 25);obtain⟨h,hh⟩:∃ h,w.heap.size=h:=⟨_,rfl⟩;obtain⟨W1,hW1⟩:∃ W1,w.alloc (.cells #[.int .i64 k,.string s,.slice a l.length cap] 25)=W1:=⟨_,rfl⟩;have R1:Row3 W1 h (.int .i64 k) (.string s) (.slice a l.length cap):=by rw[<-hW1,<-hh];exact Row3.new _ _ _ _
 have T1:=ht.later hb0;rw[hW1]at hb0 T1;rw[hh]at hb0;have HB:=qh hb0;have HT1:=qh T1;have HR1:=qh R1;have HW:=qh hW1;obtain⟨⟨n0,n1,n2⟩,_⟩:=R1.cells;have CH:=fun w' (hb:Below W1.heap.size W1 w')=>zv 151 93 xk qiw qu itemB 0 l.length k s l a cap w' hl (xd s) (fun i hi=>q58 l[i]) (HT1.out.later hb)
 obtain⟨V,hV⟩:∃ V,xf qu 0 l.length itemB s l=V:=⟨_,rfl⟩;rw[hV]at CH;have CC:=qh CH;have hv2:(qu s && q26 l)=V:=by rw[<-hV,qe3 qu 0 0 rfl,ql4,decide_eq_true (qp _),Bool.true_and]
 have HS0:=qh hv2;clear CH hV hv2 ht hb0 T1 R1 hW1
 by_cases hk:k=1
 ·subst hk
  have HS:Hid (xq (.mk 1 s l)=V):=qh (by rw[xq,decide_eq_true rfl,Bool.true_and];exact HS0.out);clear HS0;go_enter Tryz.func92,Tryz.ntmps92
  go_upto_region 1 with fail
  rw[HW.out]
  go_wp2_with fail
  refine(CC.out _ (Below.refl _ _)).mono ?_;rintro e w2⟨rfl,hb2⟩;have HB2:=qh hb2;clear hb2 CC n0 n1 n2
  cases V
  ·skip
   go_wp2;go_ret;exact⟨by rw[HS.out];rfl,by first|exact HB.out.trans (HB2.out.mono (by have:=HR1.out.lt;omega))|(rw[hh];exact HB.out.trans (HB2.out.mono (by have:=HR1.out.lt;omega)))⟩
  ·skip
   go_wp2;go_ret;exact⟨by rw[HS.out];rfl,by first|exact HB.out.trans (HB2.out.mono (by have:=HR1.out.lt;omega))|(rw[hh];exact HB.out.trans (HB2.out.mono (by have:=HR1.out.lt;omega)))⟩
 ·have e1:(k==1)=false:=by rw[q9];exact hk
  have HS:Hid (xq (.mk k s l)=false):=qh (by rw[xq,decide_eq_false hk];rfl);clear hk HS0;go_enter Tryz.func92,Tryz.ntmps92
  go_upto_region 1 with fail
  rw[HW.out];go_wp2;go_ret;exact⟨by rw[HS.out];rfl,by first|exact HB.out|(rw[hh];exact HB.out)⟩
theorem q1n(t:Nd)(w:World)(v0 v1 v2:Value)(ht:NdR w t v0 v1 v2) :
  Calls Tryz.prog 45 #[.agg #[v0,v1,v2]] w fun e w'=>e = .returned (.int .i64 (xv t))/\Below w.heap.size w w':=by
 obtain⟨k,s,l,a,cap,rfl,rfl,rfl,rfl,hs,hl⟩:=ht.form;have hb0:=(Below.refl w.heap.size w).alloc (q5 _) (.cells #[.int .i64 k,.string s,.slice a l.length cap] 25);obtain⟨h,hh⟩:∃ h,w.heap.size=h:=⟨_,rfl⟩;obtain⟨W1,hW1⟩:∃ W1,w.alloc (.cells #[.int .i64 k,.string s,.slice a l.length cap] 25)=W1:=⟨_,rfl⟩;have R1:Row3 W1 h (.int .i64 k) (.string s) (.slice a l.length cap):=by rw[<-hW1,<-hh];exact Row3.new _ _ _ _
 have T1:=ht.later hb0;rw[hW1]at hb0 T1;rw[hh]at hb0;have HB:=qh hb0;have HT1:=qh T1;have HR1:=qh R1;have HW:=qh hW1;obtain⟨⟨n0,n1,n2⟩,_⟩:=R1.cells;have CM:=qh (qf6 _ W1 _ _ _ HT1.out);have C1:=qh (fun w' (hb:Below W1.heap.size W1 w')=>qig (.mk k s l) w' _ _ _ (HT1.out.later hb));have C2:=qh (fun w' (hb:Below W1.heap.size W1 w')=>q58 (.mk k s l) w' _ _ _ (HT1.out.later hb));have C3:=qh (fun w' (hb:Below W1.heap.size W1 w')=>q1j _ (.mk k s l) (q5 _) w' _ _ _ (HT1.out.later hb));have C4:=qh (fun w' (hb:Below W1.heap.size W1 w')=>q9m _ (.mk k s l) (q5 _) w' _ _ _ (HT1.out.later hb));have C5:=qh (fun w' (hb:Below W1.heap.size W1 w')=>q0k _ (.mk k s l) (q5 _) w' _ _ _ (HT1.out.later hb));obtain⟨R,hR⟩:∃ R,xv (.mk k s l)=R:=⟨_,rfl⟩;rw[hR];have HR:Hid ((if 4000 < (Nd.mk k s l).sz then 2 else if 100 < (Nd.mk k s l).dp then 5 else if zj (.mk k s l)||(zh (.mk k s l)||(qn (.mk k s l)||(itemB (.mk k s l)||xq (.mk k s l)))) then 0 else 21)=R):=qh hR;obtain⟨S,hS⟩:∃ S,(Nd.mk k s l).sz=S:=⟨_,rfl⟩;obtain⟨D,hD⟩:∃ D,(Nd.mk k s l).dp=D:=⟨_,rfl⟩;obtain⟨B1,h1⟩:∃ B,xq (.mk k s l)=B:=⟨_,rfl⟩;obtain⟨B2,h2⟩:∃ B,itemB (.mk k s l)=B:=⟨_,rfl⟩;obtain⟨B3,h3⟩:∃ B,qn (.mk k s l)=B:=⟨_,rfl⟩;obtain⟨B4,h4⟩:∃ B,zh (.mk k s l)=B:=⟨_,rfl⟩;obtain⟨B5,h5⟩:∃ B,zj (.mk k s l)=B:=⟨_,rfl⟩;rw[hS,hD,h1,h2,h3,h4,h5]at HR;rw[hS,hD]at CM;rw[h1]at C1;rw[h2]at C2;rw[h3]at C3;rw[h4]at C4;rw[h5]at C5;clear hR hS hD h1 h2 h3 h4 h5 ht hb0 T1 R1 hW1
 by_cases hS:4000 < S
 ·have e0:(min S 4001:Nat)=4001:=by omega
  rw[e0]at CM;have HRv:Hid (R=2):=qh (by rw[<-HR.out,qa hS]);clear e0 hS C1 C2 C3 C4 C5 HR;go_enter Tryz.func45,Tryz.ntmps45
  go_upto_region 1 with fail
  rw[HW.out]
  go_wp2_with fail
  refine CM.out.mono ?_;rintro e w2⟨lv,rfl,_,hb2⟩;have HB2:=qh hb2;clear hb2 n0 n1 n2 CM;go_wp2;go_ret;exact⟨by rw[HRv.out];rfl,by first|exact HB.out.trans (HB2.out.mono (by have:=HR1.out.lt;omega))|(rw[hh];exact HB.out.trans (HB2.out.mono (by have:=HR1.out.lt;omega)))⟩
 ·have e0:(min S 4001:Nat)=S:=by omega
  rw[e0]at CM;rw[q7 hS]at HR;go_enter Tryz.func45,Tryz.ntmps45
  go_upto_region 1 with fail
  rw[HW.out]
  go_wp2_with fail
  refine CM.out.mono ?_;rintro e w2⟨lv,rfl,hlv,hb2⟩;obtain rfl:=hlv (by omega);have R2:=qh (HR1.out.below hb2 HR1.out.lt);have HB2:=qh hb2;have hS':¬ (4000:Int) < (S:Int):=by omega
  clear hlv hb2 n0 n1 n2 CM e0 hS;obtain⟨⟨n0,n1,n2⟩,_⟩:=R2.out.cells
  by_cases hD:100 < lv
  ·have hD':(100:Int) < (lv:Int):=by omega
   have HRv:Hid (R=5):=qh (by rw[<-HR.out,qa hD]);clear hD C1 C2 C3 C4 C5 HR;go_wp2;go_ret;exact⟨by rw[HRv.out];rfl,by first|exact HB.out.trans (HB2.out.mono (by have:=HR1.out.lt;omega))|(rw[hh];exact HB.out.trans (HB2.out.mono (by have:=HR1.out.lt;omega)))⟩
  ·have hD':¬ (100:Int) < (lv:Int):=by omega
   rw[q7 hD]at HR;clear hD
   go_wp2_with fail
   refine(C1.out _ HB2.out).mono ?_;rintro e w3⟨rfl,hbn⟩;have HB3:=qh (HB2.out.trans (hbn.mono HB2.out.size));clear hbn n0 n1 n2 C1;obtain⟨⟨n0,n1,n2⟩,_⟩:=(HR1.out.below HB3.out HR1.out.lt).cells
   cases B1 with
   |true =>
    have HRv:Hid (R=0):=qh (by rw[<-HR.out];simp);go_wp2;go_ret;exact⟨by rw[HRv.out];rfl,by first|exact HB.out.trans (HB3.out.mono (by have:=HR1.out.lt;omega))|(rw[hh];exact HB.out.trans (HB3.out.mono (by have:=HR1.out.lt;omega)))⟩
   |false =>
    go_wp2_with fail
    refine(C2.out _ HB3.out).mono ?_;rintro e w4⟨rfl,hbn⟩;have HB4:=qh (HB3.out.trans (hbn.mono HB3.out.size));clear hbn n0 n1 n2 C2;obtain⟨⟨n0,n1,n2⟩,_⟩:=(HR1.out.below HB4.out HR1.out.lt).cells
    cases B2 with
    |true =>
     have HRv:Hid (R=0):=qh (by rw[<-HR.out];simp);go_wp2;go_ret;exact⟨by rw[HRv.out];rfl,by first|exact HB.out.trans (HB4.out.mono (by have:=HR1.out.lt;omega))|(rw[hh];exact HB.out.trans (HB4.out.mono (by have:=HR1.out.lt;omega)))⟩
    |false =>
     go_wp2_with fail
     refine(C3.out _ HB4.out).mono ?_;rintro e w5⟨rfl,hbn⟩;have HB5:=qh (HB4.out.trans (hbn.mono HB4.out.size));clear hbn n0 n1 n2 C3;obtain⟨⟨n0,n1,n2⟩,_⟩:=(HR1.out.below HB5.out HR1.out.lt).cells
     cases B3 with
     |true =>
      have HRv:Hid (R=0):=qh (by rw[<-HR.out];simp);go_wp2;go_ret;exact⟨by rw[HRv.out];rfl,by first|exact HB.out.trans (HB5.out.mono (by have:=HR1.out.lt;omega))|(rw[hh];exact HB.out.trans (HB5.out.mono (by have:=HR1.out.lt;omega)))⟩
     |false =>
      go_wp2_with fail
      refine(C4.out _ HB5.out).mono ?_;rintro e w6⟨rfl,hbn⟩;have HB6:=qh (HB5.out.trans (hbn.mono HB5.out.size));clear hbn n0 n1 n2 C4;obtain⟨⟨n0,n1,n2⟩,_⟩:=(HR1.out.below HB6.out HR1.out.lt).cells
      cases B4 with
      |true =>
       have HRv:Hid (R=0):=qh (by rw[<-HR.out];simp);go_wp2;go_ret;exact⟨by rw[HRv.out];rfl,by first|exact HB.out.trans (HB6.out.mono (by have:=HR1.out.lt;omega))|(rw[hh];exact HB.out.trans (HB6.out.mono (by have:=HR1.out.lt;omega)))⟩
      |false =>
       go_wp2_with fail
       refine(C5.out _ HB6.out).mono ?_;rintro e w7⟨rfl,hbn⟩;have HB7:=qh (HB6.out.trans (hbn.mono HB6.out.size));clear hbn n0 n1 n2 C5;obtain⟨⟨n0,n1,n2⟩,_⟩:=(HR1.out.below HB7.out HR1.out.lt).cells
       cases B5 with
       |true =>
        have HRv:Hid (R=0):=qh (by rw[<-HR.out];simp);go_wp2;go_ret;exact⟨by rw[HRv.out];rfl,by first|exact HB.out.trans (HB7.out.mono (by have:=HR1.out.lt;omega))|(rw[hh];exact HB.out.trans (HB7.out.mono (by have:=HR1.out.lt;omega)))⟩
       |false =>
        have HRv:Hid (R=21):=qh (by rw[<-HR.out];rfl);go_wp2;go_ret;exact⟨by rw[HRv.out];rfl,by first|exact HB.out.trans (HB7.out.mono (by have:=HR1.out.lt;omega))|(rw[hh];exact HB.out.trans (HB7.out.mono (by have:=HR1.out.lt;omega)))⟩
theorem qp9{ts:List Lx.Tok}{f p:Nat}{a:Nd}{q:Nat}(h:Sx.item ts f p = .ok a q):q<=ts.length:=by
 unfold Sx.item at h
 split at h
 ·cases h
 ·split at h
  ·cases h
  ·split at h
   ·rename_i ht
    cases h;have:=Sx.txt_lt (ts:=ts) (p:=_) (by rw[ht];simp);omega
   ·cases h
theorem qdw(ts:List Lx.Tok):∀ (f:Nat) (acc:List Nd) (p:Nat) (l:List Nd) (q:Nat),p<=ts.length->Sx.items ts f acc p = .ok l q->q<=ts.length
 |0,_,_,_,_,_,h=>by simp only[Sx.items]at h;cases h
 |f+1,acc,p,l,q,hp,h=>by
  simp only[Sx.items]at h
  split at h
  ·split at h
   ·cases h
   ·rename_i a q1 hi
    exact qdw ts f _ q1 l q (qp9 hi) h
  ·cases h;exact hp
theorem qm9{ts:List Lx.Tok}{f:Nat}{what:Int}{n:Nd}{q:Nat}(h:Sx.whole ts f what = .ok n q):q<=ts.length:=by
 unfold Sx.whole at h
 split at h
 ·exact((Sx.form_goes ts f).2.2.1 0 _ _ h).2
 ·split at h
  ·exact((Sx.term_goes ts f).1 0 _ _ h).2
  ·split at h
   ·exact((Sx.typed_goes ts f).1 0 _ _ h).2
   ·split at h
    ·cases h
    ·rename_i l q1 hi
     cases h;exact qdw ts f _ _ _ _ (qp _) hi
def q5j(t:Nd):Nat:=(xv t).toNat
theorem qly(t:Nd):((q5j t:Nat):Int)=xv t:=by
 unfold q5j
 have h:0<=xv t:=by
  unfold xv
  split
  ·decide
  ·split
   ·decide
   ·split <;> decide
 exact Int.toNat_of_nonneg h
def x3(l:Lx.Bs)(what:Int):Option Nd×Nat×Nat:=match Lx.scan l with
 | .bad p er=>(none,p,er)
 | .toks ts=>match Sx.whole ts (Sx.fuel ts) what with
  | .bad q=>(none,q88 ts l.length q,20)
  | .ok nd q=>if q < ts.length then(none,q88 ts l.length q,20) else if q5j nd=0 then(some nd,0,0) else(none,0,q5j nd)
def NodeIs(B:Nat)(w:World)(k:Int)(s:ByteArray)(a:Option Addr)(n c:Nat):Option Nd->Prop
 |none=>k=0/\s=⟨#[]⟩/\a=none/\n=0/\c=0
 |some t=>NdS (fun b=>B<=b) w t (.int .i64 k) (.string s) (.slice a n c)
def wb(r:Option Nd×Nat×Nat)(w:World)(e:Ending)(w':World):Prop :=
 ∃ k s a n c,e = .returned (.tuple #[.agg #[.int .i64 k,.string s,.slice a n c],.int .i64 (r.2.1:Nat),.int .i64 (r.2.2:Nat)])/\Below w.heap.size w w'/\NodeIs w.heap.size w' k s a n c r.1
theorem q3j(s:ByteArray)(what:Int)(w:World)(hw:2<=w.heap.size)(gl:GLw w)(hs:s.size<=maxLen)(g:Nat)(eg:∀ args w,(callFunc g args).run Tryz.prog w = .ok (.enter g args) w)
  (CW:∀ (E:PE) w,vt E.ts->PS E 0 w->Calls Tryz.prog g #[.pointer (some ⟨E.pb,0,none⟩)] w (Gr E w (Sx.whole E.ts (Sx.fuel E.ts) what))) :
  Calls Tryz.prog 39 #[.string s,F_ g] w (wb (x3 (bs s) what) w):=by
 have hlen:(bs s).length=s.size:=qr s
 cases hsc:Lx.scan (bs s)with
 |bad p er =>
  refine(qki s p er hsc (by rcases qcy hsc with h|h|h <;> omega) w hs (F_ g)).mono ?_;rintro e w'⟨rfl,hb⟩;have hp:x3 (bs s) what=(none,p,er):=by unfold x3;rw[hsc]
  rw[hp];exact⟨0,⟨#[]⟩,none,0,0,rfl,hb,rfl,rfl,rfl,rfl,rfl⟩
 |toks l =>
  refine(qkj s l hsc w hw gl hs g eg (Sx.whole l (Sx.fuel l) what) (fun n q h=>qm9 h) q5j (fun E w h1 h2 h3=>by
   have:=CW E w (by rw[h1];exact qhb hsc) h3;rw[h1]at this
   exact this) (fun k sx kids va vc w h=>(q1n _ w _ _ _ h).mono fun e w' hq=>⟨by rw[hq.1,qly],hq.2⟩)).mono ?_
  rintro e w'⟨hb,ho⟩
  have hp:x3 (bs s) what=match Sx.whole l (Sx.fuel l) what with
   | .bad q=>(none,q88 l s.size q,20)
   | .ok nd q=>if q < l.length then(none,q88 l s.size q,20) else if q5j nd=0 then(some nd,0,0) else(none,0,q5j nd):=by
   unfold x3;rw[hsc,hlen]
  rw[hp]
  cases hr:Sx.whole l (Sx.fuel l) what with
  |bad q =>
   rw[hr]at ho;exact⟨0,⟨#[]⟩,none,0,0,ho,hb,rfl,rfl,rfl,rfl,rfl⟩
  |ok nd q =>
   obtain⟨k,sx,kids⟩:=nd;rw[hr]at ho;simp only at ho ⊢
   by_cases hq:q < l.length
   ·rw[qa hq]at ho ⊢
    exact⟨0,⟨#[]⟩,none,0,0,ho,hb,rfl,rfl,rfl,rfl,rfl⟩
   ·rw[q7 hq]at ho ⊢
    by_cases h0:q5j (.mk k sx kids)=0
    ·rw[qa h0]at ho ⊢
     obtain⟨va,vc,he,hn⟩:=ho;exact⟨k,sx,va,kids.length,vc,he,hb,hn⟩
    ·rw[q7 h0]at ho ⊢
     exact⟨0,⟨#[]⟩,none,0,0,ho,hb,rfl,rfl,rfl,rfl,rfl⟩
theorem qpg(E:PE)(w:World)(hs:vt E.ts)(h:PS E 0 w):Calls Tryz.prog 40 #[.pointer (some ⟨E.pb,0,none⟩)] w (Gr E w (Sx.whole E.ts (Sx.fuel E.ts) 1)):=by
 have:=qjj E hs 0 w h (Sx.fuel E.ts) (by unfold Sx.fuel;omega)
 have e:Sx.whole E.ts (Sx.fuel E.ts) 1=q06 1 Sx.noS (Sx.items E.ts (Sx.fuel E.ts) [] 0):=by
  unfold Sx.whole;rw[q7 (by decide),q7 (by decide),q7 (by decide)]
  all_goals (cases Sx.items E.ts (Sx.fuel E.ts) [] 0 <;> rfl)
 rw[e];exact this
theorem qpi(E:PE)(w:World)(hs:vt E.ts)(h:PS E 0 w):Calls Tryz.prog 42 #[.pointer (some ⟨E.pb,0,none⟩)] w (Gr E w (Sx.whole E.ts (Sx.fuel E.ts) 18)):=by
 have:=qe4 E hs (Sx.fuel E.ts) 0 w h (by unfold Sx.fuel;omega);unfold Sx.whole;rw[qa rfl];exact this
theorem qph(E:PE)(w:World)(hs:vt E.ts)(h:PS E 0 w):Calls Tryz.prog 43 #[.pointer (some ⟨E.pb,0,none⟩)] w (Gr E w (Sx.whole E.ts (Sx.fuel E.ts) 17)):=by
 have:=qco E hs (Sx.fuel E.ts) 0 w h (by unfold Sx.fuel;omega);unfold Sx.whole;rw[q7 (by decide),qa rfl];exact this
theorem qpf(E:PE)(w:World)(h:PS E 0 w):Calls Tryz.prog 44 #[.pointer (some ⟨E.pb,0,none⟩)] w (Gr E w (Sx.whole E.ts (Sx.fuel E.ts) 31)):=by
 have:=q2c E (Sx.fuel E.ts) 0 w h (by unfold Sx.fuel;omega);unfold Sx.whole;rw[q7 (by decide),q7 (by decide),qa rfl];exact this
theorem yi{W:World}{b:Nat}{v0 v1 v2:Value}{fn:Func}{t u u':Nat}{a:Act}{R:Ending->World->Prop}{v v':Value}(h:Row3 W b v0 v1 v2)(hr:fn.results=#[ResultVar.cell t 25,ResultVar.tmp u,ResultVar.tmp u'])(hv:(a.tmps[u]?).getD undef=v)(hv':(a.tmps[u']?).getD undef=v')(hd:a.defers=[])(ha:(a.tmps[t]?).getD undef = .pointer (some ⟨b,0,none⟩))
  (hR:R (.returned (.tuple #[.agg #[v0,v1,v2],v,v'])) W):bodyPost Tryz.prog fn R .ret a W:=by
 obtain⟨⟨c0,c1,c2⟩,_⟩:=h.cells;exact bodyPost_ret (v:=.tuple #[.agg #[v0,v1,v2],v,v']) (by simp[results,hr,go_sem,ha,hv,hv',c0,c1,c2]) hd hR
theorem qc1(s:ByteArray)(w:World)(hw:2<=w.heap.size)(gl:GLw w)(hs:s.size<=maxLen) :
  Calls Tryz.prog 9 #[.string s] w (wb (x3 (bs s) 1) w):=by
 have eg:∀ args w,(callFunc 40 args).run Tryz.prog w = .ok (.enter 40 args) w:=enters_of Tryz.func40 (by kernel_rfl) rfl;have hb0:=(Below.refl w.heap.size w).alloc (q5 _) (.cells #[.int .i64 0,.string ⟨#[]⟩,.slice none 0 0] 25);have C:=qh (q3j s 1 (w.alloc (.cells #[.int .i64 0,.string ⟨#[]⟩,.slice none 0 0] 25)) (by simp;omega) (gl.keep fun b hb1 hb2=>hb0.block b hb2) hs _ eg (fun E w hs h=>qpg E w hs h));obtain⟨r,hr⟩:∃ r,x3 (bs s) 1=r:=⟨_,rfl⟩;rw[hr]at C ⊢;obtain⟨r0,at0,er⟩:=r;have HB:=qh hb0;have R1:=qh (Row3.new w (.int .i64 0) (.string ⟨#[]⟩) (.slice none 0 0));unfold F_ at C;clear hr hb0 eg gl hw;go_enter Tryz.func9,Tryz.ntmps9
 go_wp2_with fail
 refine C.out.mono ?_;rintro e w1⟨k,sx,a,n,c,rfl,hb,hn⟩;have R2:=qh (R1.out.below hb R1.out.lt);have HB1:=qh hb;have HN:=qh hn;clear hb hn C;obtain⟨⟨n0,n1,n2⟩,m0,m1,m2⟩:=R2.out.cells;go_wp2;refine yi (Row3.put R2.out _ _ _) rfl rfl rfl rfl rfl ⟨k,sx,a,n,c,rfl,?_,?_⟩
 ·exact(((HB.out.trans (HB1.out.mono (by simp))).setCell (p:=⟨w.heap.size,0,none⟩) (q5 _) _).setCell (p:=⟨w.heap.size,1,none⟩) (q5 _) _).setCell (p:=⟨w.heap.size,2,none⟩) (q5 _) _
 ·have h:=HN.out
  cases r0 with
  |none=>exact h
  |some t=>exact NdS.keep (fun b hb1 hb2=>⟨(Below.heap_setCell _ _ _ _ (by simp at hb1;simp only;omega)).trans ((Below.heap_setCell _ _ _ _ (by simp at hb1;simp only;omega)).trans (Below.heap_setCell _ _ _ _ (by simp at hb1;simp only;omega))),by simp at hb1;omega⟩) h
theorem q2r(s:ByteArray)(w:World)(hw:2<=w.heap.size)(gl:GLw w)(hs:s.size<=maxLen) :
  Calls Tryz.prog 11 #[.string s] w (wb (x3 (bs s) 18) w):=by
 have eg:∀ args w,(callFunc 42 args).run Tryz.prog w = .ok (.enter 42 args) w:=enters_of Tryz.func42 (by kernel_rfl) rfl;have hb0:=(Below.refl w.heap.size w).alloc (q5 _) (.cells #[.int .i64 0,.string ⟨#[]⟩,.slice none 0 0] 25);have C:=qh (q3j s 18 (w.alloc (.cells #[.int .i64 0,.string ⟨#[]⟩,.slice none 0 0] 25)) (by simp;omega) (gl.keep fun b hb1 hb2=>hb0.block b hb2) hs _ eg (fun E w hs h=>qpi E w hs h));obtain⟨r,hr⟩:∃ r,x3 (bs s) 18=r:=⟨_,rfl⟩;rw[hr]at C ⊢;obtain⟨r0,at0,er⟩:=r;have HB:=qh hb0;have R1:=qh (Row3.new w (.int .i64 0) (.string ⟨#[]⟩) (.slice none 0 0));unfold F_ at C;clear hr hb0 eg gl hw;go_enter Tryz.func11,Tryz.ntmps11
 go_wp2_with fail
 refine C.out.mono ?_;rintro e w1⟨k,sx,a,n,c,rfl,hb,hn⟩;have R2:=qh (R1.out.below hb R1.out.lt);have HB1:=qh hb;have HN:=qh hn;clear hb hn C;obtain⟨⟨n0,n1,n2⟩,m0,m1,m2⟩:=R2.out.cells;go_wp2;refine yi (Row3.put R2.out _ _ _) rfl rfl rfl rfl rfl ⟨k,sx,a,n,c,rfl,?_,?_⟩
 ·exact(((HB.out.trans (HB1.out.mono (by simp))).setCell (p:=⟨w.heap.size,0,none⟩) (q5 _) _).setCell (p:=⟨w.heap.size,1,none⟩) (q5 _) _).setCell (p:=⟨w.heap.size,2,none⟩) (q5 _) _
 ·have h:=HN.out
  cases r0 with
  |none=>exact h
  |some t=>exact NdS.keep (fun b hb1 hb2=>⟨(Below.heap_setCell _ _ _ _ (by simp at hb1;simp only;omega)).trans ((Below.heap_setCell _ _ _ _ (by simp at hb1;simp only;omega)).trans (Below.heap_setCell _ _ _ _ (by simp at hb1;simp only;omega))),by simp at hb1;omega⟩) h
theorem qcd(s:ByteArray)(w:World)(hw:2<=w.heap.size)(gl:GLw w)(hs:s.size<=maxLen) :
  Calls Tryz.prog 13 #[.string s] w (wb (x3 (bs s) 17) w):=by
 have eg:∀ args w,(callFunc 43 args).run Tryz.prog w = .ok (.enter 43 args) w:=enters_of Tryz.func43 (by kernel_rfl) rfl;have hb0:=(Below.refl w.heap.size w).alloc (q5 _) (.cells #[.int .i64 0,.string ⟨#[]⟩,.slice none 0 0] 25);have C:=qh (q3j s 17 (w.alloc (.cells #[.int .i64 0,.string ⟨#[]⟩,.slice none 0 0] 25)) (by simp;omega) (gl.keep fun b hb1 hb2=>hb0.block b hb2) hs _ eg (fun E w hs h=>qph E w hs h));obtain⟨r,hr⟩:∃ r,x3 (bs s) 17=r:=⟨_,rfl⟩;rw[hr]at C ⊢;obtain⟨r0,at0,er⟩:=r;have HB:=qh hb0;have R1:=qh (Row3.new w (.int .i64 0) (.string ⟨#[]⟩) (.slice none 0 0));unfold F_ at C;clear hr hb0 eg gl hw;go_enter Tryz.func13,Tryz.ntmps13
 go_wp2_with fail
 refine C.out.mono ?_;rintro e w1⟨k,sx,a,n,c,rfl,hb,hn⟩;have R2:=qh (R1.out.below hb R1.out.lt);have HB1:=qh hb;have HN:=qh hn;clear hb hn C;obtain⟨⟨n0,n1,n2⟩,m0,m1,m2⟩:=R2.out.cells;go_wp2;refine yi (Row3.put R2.out _ _ _) rfl rfl rfl rfl rfl ⟨k,sx,a,n,c,rfl,?_,?_⟩
 ·exact(((HB.out.trans (HB1.out.mono (by simp))).setCell (p:=⟨w.heap.size,0,none⟩) (q5 _) _).setCell (p:=⟨w.heap.size,1,none⟩) (q5 _) _).setCell (p:=⟨w.heap.size,2,none⟩) (q5 _) _
 ·have h:=HN.out
  cases r0 with
  |none=>exact h
  |some t=>exact NdS.keep (fun b hb1 hb2=>⟨(Below.heap_setCell _ _ _ _ (by simp at hb1;simp only;omega)).trans ((Below.heap_setCell _ _ _ _ (by simp at hb1;simp only;omega)).trans (Below.heap_setCell _ _ _ _ (by simp at hb1;simp only;omega))),by simp at hb1;omega⟩) h
theorem qcc(s:ByteArray)(w:World)(hw:2<=w.heap.size)(gl:GLw w)(hs:s.size<=maxLen) :
  Calls Tryz.prog 15 #[.string s] w (wb (x3 (bs s) 31) w):=by
 have eg:∀ args w,(callFunc 44 args).run Tryz.prog w = .ok (.enter 44 args) w:=enters_of Tryz.func44 (by kernel_rfl) rfl;have hb0:=(Below.refl w.heap.size w).alloc (q5 _) (.cells #[.int .i64 0,.string ⟨#[]⟩,.slice none 0 0] 25);have C:=qh (q3j s 31 (w.alloc (.cells #[.int .i64 0,.string ⟨#[]⟩,.slice none 0 0] 25)) (by simp;omega) (gl.keep fun b hb1 hb2=>hb0.block b hb2) hs _ eg (fun E w hs h=>qpf E w h));obtain⟨r,hr⟩:∃ r,x3 (bs s) 31=r:=⟨_,rfl⟩;rw[hr]at C ⊢;obtain⟨r0,at0,er⟩:=r;have HB:=qh hb0;have R1:=qh (Row3.new w (.int .i64 0) (.string ⟨#[]⟩) (.slice none 0 0));unfold F_ at C;clear hr hb0 eg gl hw;go_enter Tryz.func15,Tryz.ntmps15
 go_wp2_with fail
 refine C.out.mono ?_;rintro e w1⟨k,sx,a,n,c,rfl,hb,hn⟩;have R2:=qh (R1.out.below hb R1.out.lt);have HB1:=qh hb;have HN:=qh hn;clear hb hn C;obtain⟨⟨n0,n1,n2⟩,m0,m1,m2⟩:=R2.out.cells;go_wp2;refine yi (Row3.put R2.out _ _ _) rfl rfl rfl rfl rfl ⟨k,sx,a,n,c,rfl,?_,?_⟩
 ·exact(((HB.out.trans (HB1.out.mono (by simp))).setCell (p:=⟨w.heap.size,0,none⟩) (q5 _) _).setCell (p:=⟨w.heap.size,1,none⟩) (q5 _) _).setCell (p:=⟨w.heap.size,2,none⟩) (q5 _) _
 ·have h:=HN.out
  cases r0 with
  |none=>exact h
  |some t=>exact NdS.keep (fun b hb1 hb2=>⟨(Below.heap_setCell _ _ _ _ (by simp at hb1;simp only;omega)).trans ((Below.heap_setCell _ _ _ _ (by simp at hb1;simp only;omega)).trans (Below.heap_setCell _ _ _ _ (by simp at hb1;simp only;omega))),by simp at hb1;omega⟩) h
end Go.Proofs.YtkckddojlignpaaGreatDoor
namespace Go.Proofs.YtkckddojlignpaaGreatDoor
open Go.RowKit
theorem q59:(Tryz.prog.info? 5).map (fun i=>(i.zero,i.size,i.bytes))=some (some (.int .u8 0),1,1):=by kernel_rfl
end Go.Proofs.YtkckddojlignpaaGreatDoor
namespace Go.Proofs.YtkckddojlignpaaGreatDoor
open Go.RowKit Go.Shelf
theorem q38{w:World}{base e size n:Nat}{v:Value}{xs:List Value}(h:w.ownsRow base e size v n xs):∀ g,v.ownBlock=some g->∃ c fz,w.heap[g]?=some (.cells c e fz):=by
 intro g hg;rcases h.2 with ⟨rfl,_⟩|⟨g',cap,cur,rfl,hb,hh,_⟩
 ·simp[Value.ownBlock]at hg
 ·obtain rfl:g'=g:=by simpa[Value.ownBlock]using hg
  exact⟨_,_,hh⟩
theorem q23:(Tryz.prog.info? 122).map (·.size)=some 2:=by kernel_rfl
theorem qfe:liesAt Tryz.prog Tryz.prog.depth 124 (2 / Tryz.prog.cellsOf 124) 0 122 1=true:=by kernel_rfl
theorem q3k(b:Nat)(w:World)(h0:w.cell? ⟨b,0,none⟩=some (.pointer (some ⟨b,0,none⟩))) :
  Calls Tryz.prog 177 #[.pointer (some ⟨b,0,none⟩)] w fun e w'=>e = .returned (.tuple #[])/\w'=w:=by
 obtain⟨j,hj,_⟩:=Option.map_eq_some_iff.1 q23;go_enter Tryz.func177,Tryz.ntmps177;go_wp2;rw[Lib.run_neq_ptr_same w _ Tryz.underlying119 hj];go_wp2;go_end0;exact⟨rfl,rfl⟩
theorem q8c(b:Nat)(w:World)(h0:w.cell? ⟨b,0,none⟩=some (.pointer none))(hsh:w.shape? b=some (124,2))(hfz:w.frozen? ⟨b,0,none⟩=false) :
  Calls Tryz.prog 177 #[.pointer (some ⟨b,0,none⟩)] w fun e w'=>e = .returned (.tuple #[])/\w'=w.setCell ⟨b,0,none⟩ (.pointer (some ⟨b,0,none⟩)):=by
 obtain⟨j,hj,hjs⟩:=Option.map_eq_some_iff.1 q23;go_enter Tryz.func177,Tryz.ntmps177;go_wp2;rw[Lib.run_to_unsafe w ⟨b,0,none⟩ Tryz.underlying119 Tryz.underlying196 hj (by rw[hjs];decide) hsh (Nat.zero_lt_succ 1)];simp only[Result.andThen];rw[Oper.upon_value];go_wp2;rw[run_callFunc_extern Tryz.func211 (by kernel_rfl) (by kernel_rfl) (by kernel_rfl) (e:=Extern.AbiNoEscape.same) (by kernel_rfl)];rw[Lib.run_noEscape];simp only[Result.andThen];rw[Oper.upon_value];go_wp2;rw[Lib.run_from_unsafe w ⟨b,0,none⟩ Tryz.underlying196 Tryz.underlying119 hj hsh qfe];simp only[Result.andThen];rw[Oper.upon_value];go_wp2;go_end0;exact⟨rfl,rfl⟩
theorem qai(B b:Nat)(bs:List Value)(w:World)(h:Lib.IsBuilder 124 5 B b bs w) :
  Calls Tryz.prog 177 #[.pointer (some ⟨b,0,none⟩)] w fun e w'=>e = .returned (.tuple #[])/\(Lib.BuilderAt 124 5 B b (.pointer (some ⟨b,0,none⟩)) bs w'/\Below B w w'/\Lib.OthersKept 5 (some b) w w'):=by
 rcases h with h|h
 ·refine(q8c b w h.cell0 h.shape h.frozen0).mono ?_
  rintro e w'⟨rfl,rfl⟩;exact⟨rfl,h.used _,(Below.refl B w).setCell (p:=⟨b,0,none⟩) h.1 _,(Lib.OthersKept.refl _ _ w).setCell ⟨b,0,none⟩ rfl _⟩
 ·refine(q3k b w h.cell0).mono ?_
  rintro e w'⟨rfl,rfl⟩;exact⟨rfl,h,Below.refl B _,Lib.OthersKept.refl _ _ _⟩
theorem q8b(B b:Nat)(bs:List Value)(s:ByteArray)(w:World)(h:Lib.IsBuilder 124 5 B b bs w)(hlen:bs.length+s.size<=140737488355328)(hBw:B<=w.heap.size) :
  Calls Tryz.prog 111 #[.pointer (some ⟨b,0,none⟩),.string s] w fun e w'=>e = .returned (.tuple #[.int .i64 s.size,.nilIface])/\(Lib.BuilderAt 124 5 B b (.pointer (some ⟨b,0,none⟩)) (bs++Lib.strCells s) w'/\Below B w w'/\Lib.OthersKept 5 (some b) w w'):=by
 obtain⟨i0,hi,hz0,hz1,hz2⟩:=info_parts q59;go_enter Tryz.func111,Tryz.ntmps111
 go_wp2_with fail
 refine(qai B b bs _ h).mono ?_;rintro e w1⟨rfl,h1,hb1,hk1⟩;obtain⟨hB,v,hbk,hown,hne⟩:=h1;have c0:w1.cell? ⟨b,0,none⟩=some (.pointer (some ⟨b,0,none⟩)):=by rw[zb hbk];rfl
 have c1:w1.cell? ⟨b,1,none⟩=some v:=by rw[zb hbk];rfl
 go_wp2_with (at_builtin;refine Lib.wpList_append_own_string _ rfl _ _ 120 9 rfl B 5 i0 Tryz.underlying120 Tryz.underlying9 hi hz0 hz1 hz2 _ _ _ rfl hown s rfl ?c3 ?c4 ?c5 ?_)
 case c3=>unfold maxLen;omega
 case c4=>omega
 case c5=>have:=hb1.size;omega
 intro v' w2 hown' hgrow _
 have hlt:b < w1.heap.size:=by
  rcases Nat.lt_or_ge b w1.heap.size with h'|h'
  ·exact h'
  ·simp[Array.getElem?_eq_none h']at hbk
 have hb2:w2.heap[b]?=some (.cells #[.pointer (some ⟨b,0,none⟩),v] 124 (0,0)):=by
  rw[hgrow.block b hlt (fun e=>hne e.symm)];exact hbk
 have d0:w2.cell? ⟨b,0,none⟩=some (.pointer (some ⟨b,0,none⟩)):=by rw[zb hb2];rfl
 have d1:w2.cell? ⟨b,1,none⟩=some v:=by rw[zb hb2];rfl
 have f1:w2.frozen? ⟨b,1,none⟩=false:=Lib.frozen_of_heap hb2 1
 obtain⟨ao,n',cap,rfl⟩:∃ ao n' cap,v' = .slice ao n' cap:=by
  rcases hown'.2 with ⟨hv,_⟩|⟨g,cap,cur,hv,_⟩
  ·exact⟨_,_,_,hv⟩
  ·exact⟨_,_,_,hv⟩
 go_wp2;go_ret2;refine⟨rfl,?_,?_,(hk1.grown hgrow (q38 hown)).setCell ⟨b,1,none⟩ rfl _⟩
 ·exact Lib.BuilderAt.put (T:=124) (e:=5) hB hb2 (bs':=bs++Lib.strCells s) (by simpa[Lib.strCells_length]using hown') (by decide)
 ·exact(hb1.grown hgrow (by have:=hb1.size;omega) (fun k hk=>(hown.lt k hk).1)).setCell (p:=⟨b,1,none⟩) hB _
structure Wr(B b:Nat)(w w':World):Prop where
 bl:Below B w w'
 kp:Lib.OthersKept 5 (some b) w w'
theorem Wr.refl(B b:Nat)(w:World):Wr B b w w:=⟨Below.refl _ _,Lib.OthersKept.refl _ _ _⟩
theorem Wr.trans{B b:Nat}{w w1 w2:World}(h:Wr B b w w1)(h2:Wr B b w1 w2):Wr B b w w2:=⟨h.bl.trans h2.bl,fun k o e1 e2 e3=>h2.kp k o (h.kp k o e1 e2 e3) e2 e3⟩
theorem Wr.alloc{B b:Nat}{w w1:World}(h:Wr B b w w1)(hB:B<=w1.heap.size)(o:Obj):Wr B b w (w1.alloc o):=⟨h.bl.alloc hB o,h.kp.alloc o⟩
def PrW(B b:Nat)(l:List UInt8)(w:World):Prop:=Lib.IsBuilder 124 5 B b (Lib.byteCells l) w
theorem PrW.alloc{B b:Nat}{l:List UInt8}{w:World}(h:PrW B b l w)(o:Obj):PrW B b l (w.alloc o):=by
 rcases h with ⟨h1,v,h2,h3,h4⟩|⟨h1,v,h2,h3,h4⟩
 ·exact .inl ⟨h1,v,(Below.heap_alloc _ _ _ (za h2)).trans h2,zi h3 fun k _ hk _=>Below.heap_alloc _ _ _ hk,h4⟩
 ·exact .inr ⟨h1,v,(Below.heap_alloc _ _ _ (za h2)).trans h2,zi h3 fun k _ hk _=>Below.heap_alloc _ _ _ hk,h4⟩
theorem PrW.lt{B b:Nat}{l:List UInt8}{w:World}(h:PrW B b l w):b < w.heap.size:=by
 rcases h with ⟨h1,v,h2,h3,h4⟩|⟨h1,v,h2,h3,h4⟩ <;> exact za h2
theorem Wr.row3{B b:Nat}{w w':World}(h:Wr B b w w'){X:Nat}{v0 v1 v2:Value}(r:Row3 w X v0 v1 v2)(hX:X≠b):Row3 w' X v0 v1 v2 :=
 h.kp X _ r (fun e=>hX (zc e)) (fun c fz e=>absurd (Obj.cells.inj e).2.1 (by decide))
theorem q0t(a b:List UInt8):Lib.byteCells (a++b)=Lib.byteCells a++Lib.byteCells b:=by simp[Lib.byteCells]
theorem q20(a:List UInt8):(Lib.byteCells a).length=a.length:=by simp[Lib.byteCells]
theorem qqs(B b:Nat)(l:List UInt8)(s:ByteArray)(w:World)(h:PrW B b l w)(hlen:l.length+s.size<=140737488355328)(hBw:B<=w.heap.size) :
  Calls Tryz.prog 111 #[.pointer (some ⟨b,0,none⟩),.string s] w fun e w'=>e = .returned (.tuple #[.int .i64 s.size,.nilIface])/\PrW B b (l++bs s) w'/\Wr B b w w':=by
 refine(q8b B b _ s w h (by rw[q20];exact hlen) hBw).mono ?_;rintro e w'⟨rfl,h1,h2,h3⟩;refine⟨rfl,?_,⟨h2,h3⟩⟩;unfold PrW;rw[q0t];exact .inr h1
def xn(L:List ByteArray):List UInt8:=L.flatMap bs
theorem q62{L:List ByteArray}{i:Nat}(h:i < L.length):xn (L.take (i+1))=xn (L.take i)++bs L[i]:=by
 unfold xn;rw[qw h,qx];simp
theorem qos(B b c:Nat)(l:List UInt8)(L:List ByteArray)(n cap:Nat)(w:World)(h:PrW B b l w)(hBw:B<=w.heap.size)(hn:n=L.length)(hL:L.length<=1000)(hlen:l.length+(xn L).length<=100000000)(hcb:c≠b)
  (hc:w.heap[c]?=some (.cells (L.map Value.string).toArray 9 (0,0))) :
  Calls Tryz.prog 157 #[.pointer (some ⟨b,0,none⟩),.slice (some ⟨c,0,none⟩) n cap] w fun e w'=>e = .returned (.tuple #[])/\PrW B b (l++xn L) w'/\Wr B b w w':=by
 subst hn;have HC:=qh hc;have HLN:=qh hlen;clear hc hlen;go_enter Tryz.func157,Tryz.ntmps157;go_wp2
 go_loopw [8] (fun v wr=>∃ i:Nat,i<=L.length/\v = .int .i64 i/\Hid (PrW B b (l++xn (L.take i)) wr)/\Hid (Wr B b w wr)) (fun v _=>L.length - (intOf v).toNat)
 case atStart=>exact⟨0,qp _,rfl,qh (by rw[List.take_zero];simpa[xn]using h),Wr.refl _ _ _⟩
 case round =>
  obtain⟨i,hi,rfl,hP,hW⟩:=hrel
  by_cases hlt:i < L.length
  ·have hlt':(i:Int) < (L.length:Int):=by omega
   have hi0:(0:Int)<=(i:Int):=by omega
   have hrow:wr.heap[c]?=some (.cells (L.map Value.string).toArray 9 (0,0)):=hW.out.kp c _ HC.out (fun e=>hcb (zc e)) (fun _ _ e=>absurd (Obj.cells.inj e).2.1 (by decide))
   have x0:wr.cell? ⟨c,i,none⟩=some (.string L[i]):=by
    rw[qk _ _ _ _ _ _ hrow];simp[hlt]
   have hsz:(l++xn (L.take i)).length+(L[i]).size<=140737488355328:=by
    have h1:=HLN.out
    have h2:(xn (L.take (i+1))).length<=(xn L).length:=by
     conv=>rhs;rw[<-List.take_append_drop (i+1) L]
     unfold xn;rw[qx,qc];omega
    rw[q62 hlt,qc,qr]at h2;rw[qc];omega
   have C:=qh (qqs B b _ L[i] wr hP.out hsz (ql hBw hW.out.bl.size));have HT:=qh (q62 hlt);clear hsz hrow
   go_wp2_with fail
   refine C.out.mono ?_;rintro e w5⟨rfl,hp5,hw5⟩;have P5:Hid (PrW B b (l++xn (L.take (i+1))) w5):=qh (by rw[HT.out,<-qe];exact hp5);have W5:=qh (hW.out.trans hw5);clear hp5 hw5 C x0;go_wp2;go_roundw
   case rel=>exact⟨i+1,hlt,by push_cast;rfl,P5,W5⟩
   case measure=>simp[intOf];omega
  ·have hlt':¬ ((i:Int) < (L.length:Int)):=by omega
   go_wp2;go_end0;refine⟨rfl,?_,hW.out⟩;have:=hP.out
   rwa [qt (by omega)]at this
end Go.Proofs.YtkckddojlignpaaGreatDoor
