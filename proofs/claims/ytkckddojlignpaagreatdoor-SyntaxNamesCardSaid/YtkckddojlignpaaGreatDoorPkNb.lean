/- A part of the proof, packed: see the last text of this claim. -/
import Derived.Test.YtkckddojlignpaaGreatDoorPkNa
import Derived.Lib.SlicesS
import Derived.Deep.AppendLies
import Derived.Deep.DeepAppendRoom
import Derived.ArgAppend
import Derived.Deep.RegionLaw
import Derived.StillTailTactics
import Derived.WalkSmall
import Derived.Deep.RegionHeld3
import Derived.RangeFuncNested
import Derived.RangeFuncCalls
import Derived.RangeFuncLeaves
import Derived.Shelf.Abstract
import Derived.OwnWalkIn
import Derived.TacticsInMore
import Derived.LoopNIn
import Derived.LoopIn
import Derived.Maps.OwnSet
import Derived.RegionDies
set_option maxHeartbeats 20000000
set_option maxRecDepth 100000
namespace Go.Proofs.YtkckddojlignpaaGreatDoor
structure It where
 d:Nat
 ins:List ByteArray
 wd:Bool
 t:Nd
def zo(k:Int):Bool:=k==17||(k==18||k==19)
mutual
def zq(d:Nat)(ins:List ByteArray)(wd:Bool):Nd->List It
 | .mk k s l=>⟨d,ins,wd,.mk k s l⟩ :: xq (d+1) ins (if zo k then ins++[s] else ins) (k==7) l
def xq(d:Nat)(ins il:List ByteArray)(wd:Bool):List Nd->List It
 |[]=>[]
 |a :: l=>zq d (if l.isEmpty then il else ins) wd a++xq d ins il wd l
end
mutual
theorem q1f(d:Nat)(ins:List ByteArray)(wd:Bool):∀ t:Nd,(zq d ins wd t).length=t.sz
 | .mk k s l=>by simp only[zq,Nd.sz,qr];rw[qbb];omega
theorem qbb(d:Nat)(ins il:List ByteArray)(wd:Bool):∀ l:List Nd,(xq d ins il wd l).length=Nd.szL l
 |[]=>by simp only[xq,Nd.szL,qz]
 |a :: l=>by simp only[xq,Nd.szL,qg];rw[q1f,qbb]
end
def lvs:List It->Nat
 |[]=>0
 |x :: l=>max (x.d+1) (lvs l)
theorem q4g:∀ a b:List It,lvs (a++b)=max (lvs a) (lvs b)
 |[],b=>by simp[lvs]
 |x :: a,b=>by simp only[List.cons_append,lvs];rw[q4g a b];omega
theorem qk7(a:List It)(x:It):lvs (a++[x])=max (lvs a) (x.d+1):=by rw[q4g];simp[lvs]
mutual
theorem qbl(d:Nat)(ins:List ByteArray)(wd:Bool):∀ t:Nd,lvs (zq d ins wd t)=d+t.dp
 | .mk k s l=>by
  simp only[zq,Nd.dp,lvs];have:=qbm (d+1) ins (if zo k then ins++[s] else ins) (k==7) l;omega
theorem qbm(d:Nat)(ins il:List ByteArray)(wd:Bool):∀ l:List Nd,max d (lvs (xq d ins il wd l))=d+Nd.dpL l
 |[]=>by simp[xq,Nd.dpL,lvs]
 |a :: l=>by
  simp only[xq,Nd.dpL];rw[q4g,qbl];have:=qbm d ins il wd l;omega
end
theorem qho{d:Nat}{ins il:List ByteArray}{wd:Bool}{l:List Nd}{i:Nat}(h:i < l.length) :
  xq d ins il wd (l.drop i)=zq d (if i+1=l.length then il else ins) wd l[i]++xq d ins il wd (l.drop (i+1)):=by
 rw[List.drop_eq_getElem_cons h];simp only[xq]
 by_cases he:i+1=l.length
 ·rw[qj he,qj (by rw[List.isEmpty_iff,List.drop_eq_nil_iff];omega)]
 ·rw[qd he,qd (by rw[List.isEmpty_iff,List.drop_eq_nil_iff];omega)]
def Nd.k':Nd->Int| .mk k _ _=>k
def Nd.s':Nd->ByteArray| .mk _ s _=>s
def It.fr(x:It):Bool:=(x.t.k'==15||x.t.k'==16) && (!x.wd && !Lib.containsS x.ins x.t.s')
def occ(kind:Int)(out:List ByteArray)(x:It):List ByteArray :=
 if(x.t.k'==kind && (x.fr && !Lib.containsS out x.t.s'))=true then out++[x.t.s'] else out
theorem qne{x:It}{k:Int}{s:ByteArray}{l:List Nd}(h:x.t = .mk k s l){V:Bool}(hV:((k==15||k==16) && (!x.wd && !Lib.containsS x.ins s))=V)(kind:Int)(out:List ByteArray) :
  occ kind out x=if(k==kind && (V && !Lib.containsS out s))=true then out++[s] else out:=by
 subst hV;obtain⟨d,ins,wd,t⟩:=x;subst h;rfl
def ye(kind:Int)(its:List It):List ByteArray:=its.foldl (occ kind) []
theorem qhy(kind:Int)(its:List It)(x:It):ye kind (its++[x])=occ kind (ye kind its) x:=by
 unfold ye;rw[List.foldl_append];rfl
theorem qlk(kind:Int)(out:List ByteArray)(x:It):(occ kind out x).length<=out.length+1:=by
 unfold occ
 split
 ·simp
 ·omega
theorem q9p(kind:Int):∀ (its:List It) (out:List ByteArray),(its.foldl (occ kind) out).length<=out.length+its.length
 |[],out=>by simp
 |x :: l,out=>by
  have h1:=q9p kind l (occ kind out x);have h2:=qlk kind out x;simp only[List.foldl_cons,qr];omega
theorem qbj(kind:Int)(its:List It):(ye kind its).length<=its.length:=by
 have:=q9p kind its [];unfold ye;simpa using this
mutual
theorem q68(d:Nat)(ins:List ByteArray)(wd:Bool):∀ t:Nd,∀ x∈zq d ins wd t,x.ins.length<=ins.length+t.sz
 | .mk k s l,x,hx=>by
  simp only[zq,List.mem_cons]at hx;simp only[Nd.sz];rcases hx with rfl|hx
  ·simp only;omega
  ·have:=qbs (d+1) ins (if zo k then ins++[s] else ins) (k==7) l (by split <;> simp) x hx
   omega
theorem qbs(d:Nat)(ins il:List ByteArray)(wd:Bool):∀ l:List Nd,il.length<=ins.length+1->∀ x∈xq d ins il wd l,x.ins.length<=ins.length+1+Nd.szL l
 |[],_,x,hx=>by simp[xq]at hx
 |a :: l,h,x,hx=>by
  simp only[xq,List.mem_append]at hx;simp only[Nd.szL];rcases hx with hx|hx
  ·have h1:=q68 d _ wd a x hx
   split at h1 <;> omega
  ·have:=qbs d ins il wd l h x hx
   omega
end
mutual
def q0k(kind:Int)(bound out:List ByteArray):Nd->List ByteArray
 | .mk k s l=>if k=7 then out else wh kind bound (if zo k then bound++[s] else bound) (if(k==kind && !Lib.containsS bound s) && !Lib.containsS out s then out++[s] else out) l
def wh(kind:Int)(ins il out:List ByteArray):List Nd->List ByteArray
 |[]=>out
 |a :: l=>wh kind ins il (q0k kind (if l.isEmpty then il else ins) out a) l
end
def qny:Nd->Prop:=fun t=>∀ (d:Nat) (ins:List ByteArray) (kind:Int) (out:List ByteArray),kind=15\/kind=16->(zq d ins true t).foldl (occ kind) out=out
mutual
def q1h:Nd->Prop
 | .mk k _ l=>if k=7 then ∀ x∈l,∃ k s,x = .mk k s [] else mdL l
def mdL:List Nd->Prop
 |[]=>True
 |a :: l=>q1h a/\mdL l
end
theorem qlp(k:Int)(s:ByteArray):qny (.mk k s []):=by
 intro d ins kind out _;simp only[zq,xq,List.foldl_cons,List.foldl_nil];unfold occ It.fr;simp
theorem qd6{l:List Nd}(h:∀ x∈l,∃ k s,x = .mk k s [])(d:Nat)(ins il:List ByteArray)(kind:Int)(hk:kind=15\/kind=16)(out:List ByteArray):(xq d ins il true l).foldl (occ kind) out=out:=by
 induction l with
 |nil=>simp only[xq,List.foldl_nil]
 |cons a l ih =>
  obtain⟨k,s,rfl⟩:=h a (by simp);simp only[xq,List.foldl_append];rw[qlp k s d _ kind out hk];exact ih fun x hx=>h x (by simp[hx])
mutual
theorem q9y(kind:Int)(hk:kind=15\/kind=16)(d:Nat)(bound out:List ByteArray):∀ t:Nd,q1h t->(zq d bound false t).foldl (occ kind) out=q0k kind bound out t
 | .mk k s l,h=>by
  simp only[zq,q0k,List.foldl_cons];simp only[q1h]at h
  by_cases h7:k=7
  ·subst h7
   rw[qj rfl]at h;rw[qj rfl]
   have e:occ kind out ⟨d,bound,false,.mk 7 s l⟩=out:=by
    unfold occ It.fr Nd.k';simp
   rw[e];exact qd6 h _ _ _ kind hk out
  ·rw[qd h7]at h
   rw[qd h7];have e7:(k==7)=false:=by rw[qc];exact h7
   rw[e7]
   have e:occ kind out ⟨d,bound,false,.mk k s l⟩=(if(k==kind && !Lib.containsS bound s) && !Lib.containsS out s then out++[s] else out):=by
    unfold occ It.fr Nd.k' Nd.s'
    by_cases hkk:k=kind
    ·subst hkk
     have h1:(k==15||k==16)=true:=by rcases hk with rfl|rfl <;> decide
     simp[h1]
    ·have h1:(k==kind)=false:=by rw[qc];exact hkk
     simp[h1]
   rw[e];exact q8d kind hk (d+1) bound _ _ l h
theorem q8d(kind:Int)(hk:kind=15\/kind=16)(d:Nat)(ins il out:List ByteArray):∀ l:List Nd,mdL l->(xq d ins il false l).foldl (occ kind) out=wh kind ins il out l
 |[],_=>by simp only[xq,wh,List.foldl_nil]
 |a :: l,h=>by
  simp only[mdL]at h;simp only[xq,wh,List.foldl_append];rw[q9y kind hk d _ out a h.1];exact q8d kind hk d ins il _ l h.2
end
mutual
def smN:Nd->Prop
 | .mk _ s l=>s.size<=64/\smL l
def smL:List Nd->Prop
 |[]=>True
 |a :: l=>smN a/\smL l
end
theorem qdr:∀ l:List Nd,smL l↔∀ x∈l,smN x
 |[]=>by simp[smL]
 |a :: l=>by simp only[smL,List.forall_mem_cons];rw[qdr l]
theorem qe3:∀ l:List Nd,mdL l↔∀ x∈l,q1h x
 |[]=>by simp[mdL]
 |a :: l=>by simp only[mdL,List.forall_mem_cons];rw[qe3 l]
mutual
theorem qh4(d:Nat)(ins:List ByteArray)(wd:Bool):∀ t:Nd,smN t->∀ x∈zq d ins wd t,x.t.s'.size<=64
 | .mk k s l,h,x,hx=>by
  simp only[zq,List.mem_cons]at hx;simp only[smN]at h;rcases hx with rfl|hx
  ·exact h.1
  ·exact qdq (d+1) ins _ _ l h.2 x hx
theorem qdq(d:Nat)(ins il:List ByteArray)(wd:Bool):∀ l:List Nd,smL l->∀ x∈xq d ins il wd l,x.t.s'.size<=64
 |[],_,x,hx=>by simp[xq]at hx
 |a :: l,h,x,hx=>by
  simp only[xq,List.mem_append]at hx;simp only[smL]at h;rcases hx with hx|hx
  ·exact qh4 d _ wd a h.1 x hx
  ·exact qdq d ins il wd l h.2 x hx
end
end Go.Proofs.YtkckddojlignpaaGreatDoor
namespace Go.Proofs.YtkckddojlignpaaGreatDoor
open Go.RowKit
inductive Bld (P:List Value->List ByteArray->Bool->Nd->Prop) (ch:List Value->List ByteArray->Bool->Nd->Nd):List Value->List ByteArray->Bool->Nd->Nd->Prop
 |mk (ps:List Value) (ins:List ByteArray) (wd:Bool) (t:Nd) (k:Int) (s:ByteArray) (l l':List Nd) (hP:P ps ins wd t) (hc:ch ps ins wd t = .mk k s l) (hl:l'.length=l.length)
   (hr:∀ i (h:i < l.length),Bld P ch (ps++[.int .i64 i]) (if(zo k && decide (i+1=l.length))=true then ins++[s] else ins) (k==7) l[i] (l'[i]'(by omega))):Bld P ch ps ins wd t (.mk k s l')
theorem q39(t:Nd):1<=t.sz:=by cases t;simp only[Nd.sz];omega
theorem qds:∀ {l:List Nd},smL l->∀ i (h:i < l.length),smN l[i]
 |a :: l,h,0,_=>by simp only[smL]at h;exact h.1
 |a :: l,h,i+1,hi=>by
  simp only[smL]at h;exact qds h.2 i (by simpa using hi)
theorem q2a:∀ l:List Nd,l.length<=Nd.szL l
 |[]=>by simp
 |a :: l=>by
  have h1:=q2a l;have h2:=q39 a;simp only[qr,Nd.szL];omega
section
variable {P:Program} (w:World)
theorem zr{w:World}{base:Nat}{e:TypeId}{v:Value}{xs:List Value}(h:w.ownsRow base e 1 v xs.length xs):∃ a cap,v = .slice a xs.length cap:=by
 rcases h.2 with ⟨rfl,h0⟩|⟨g,cap,cur,rfl,_⟩
 ·exact⟨none,0,by rw[h0]⟩
 ·exact⟨_,_,rfl⟩
theorem qy{w w':World}{base:Nat}{e:TypeId}{v:Value}{xs:List Value}(h:w.ownsRow base e 1 v xs.length xs)(hk:∀ g,v.ownBlock=some g->w'.heap[g]?=w.heap[g]?):w'.ownsRow base e 1 v xs.length xs:=by
 refine⟨h.1,?_⟩;rcases h.2 with hn|⟨g,cap,cur,hv,hb,hg,rest⟩
 ·exact .inl hn
 ·exact .inr ⟨g,cap,cur,hv,hb,(hk g (by rw[hv];rfl)).trans hg,rest⟩
theorem qaz{w w':World}{base:Nat}{e:TypeId}{g cap:Nat}{xs ys:List Value}(h:w.ownsRow base e 1 (.slice (some ⟨g,0,none⟩) xs.length cap) xs.length xs)
  (h':w'.ownsRow base e 1 (.slice (some ⟨g,0,none⟩) (xs++ys).length cap) (xs++ys).length (xs++ys)):w'.ownsRow base e 1 (.slice (some ⟨g,0,none⟩) xs.length cap) xs.length xs:=by
 refine⟨h.1,?_⟩;rcases h'.2 with ⟨h0,_⟩|⟨g',cap',cur,hv,hb,hg,hn,hm,hs,ht⟩
 ·cases h0
 ·cases hv
  refine .inr ⟨g,cap,cur,rfl,hb,hg,by rw[qg]at hn;omega,hm,hs,?_⟩;have:=congrArg (List.take (xs.length*1)) ht;rw[List.take_take,Nat.min_eq_left (by rw[qg];omega)]at this;rw[this,Nat.mul_one,List.take_left]
theorem yk(t ty:TypeId)(base:Nat)(e:TypeId)(i:TypeInfo)(z:Value)(bytes:Nat)(ht:P.underlying t=some (.slice e))(hi:P.info? e=some i)(hz:i.zero=some z)
  (hsize:i.size=1) (hby:i.bytes=bytes) (hzs:z.cells.size=1)
  (v:Value) (xs:List Value) (hown:w.ownsRow base e 1 v xs.length xs)
  (ad:Addr) (c:Nat) (u:Value) (hnews:∀ j x,[u][j]?=some x->w.cell? (ad.add j)=some x) (h1:u.oneCell'=true)
  (h63:xs.length+1<=maxLen) (hbytes:(xs.length+1)*bytes<=140737488355328) (hbase:base<=w.heap.size) :
  ∃ g cap w',(Builtin.append_ #[t,t] ty #[v,.slice (some ad) 1 c]).run P w = .ok (.slice (some ⟨g,0,none⟩) (xs.length+1) cap) w' /\
   w'.ownsRow base e 1 (.slice (some ⟨g,0,none⟩) (xs.length+1) cap) (xs.length+1) (xs++[u])/\w'.ownsRow base e 1 v xs.length xs/\w.grownBy w' v.ownBlock/\(v.ownBlock=some g\/w.heap.size<=g):=by
 have hone:∀ x∈[u],x.oneCell'=true:=fun x hx=>by rw[List.mem_singleton.1 hx];exact h1
 rcases hown.2 with ⟨rfl,h0⟩|⟨g,cap,cur,rfl,hb,hg,hn,hm,hs,htk⟩
 ·obtain⟨g,cap,w',hr,h2,h3,h4,_⟩:=run_append_lies (P:=P) w t ty base e i z 1 bytes ht hi hz hsize hby hzs (by decide) (.slice none 0 0) xs.length xs hown ad 1 c [u] rfl hnews hone (by decide) h63 hbytes hbase _ rfl
  refine⟨g,cap,w',hr,h2,?_,h3,?_⟩
  ·refine⟨hown.1,.inl ⟨rfl,h0⟩⟩
  ·rcases h4 with h4|h4
   ·exact .inl h4
   ·exact .inr (by omega)
 ·by_cases hroom:xs.length+1<=cap
  ·obtain⟨w',hr,h2,h3⟩:=run_append_own_spare (P:=P) w base t ty e i 1 ht hi hsize g xs.length cap xs hown ad 1 c [u] rfl hnews hone hroom
   refine⟨g,cap,w',hr,h2,qaz hown (ys:=[u]) (by rw[qg];exact h2),h3,.inl rfl⟩
  ·have holds:∀ j x,xs[j]?=some x->w.cell? ((⟨g,0,none⟩:Addr).add j)=some x:=fun j x hx=>hown.cells (g:=g) rfl j x hx
   obtain⟨v',w',hr,h2,h3⟩:=run_append_arg_grows (P:=P) w t ty e i z 1 bytes ht hi hz hsize hby hzs (by decide) ⟨g,0,none⟩ xs.length cap xs (by omega) holds ad 1 c [u] rfl hnews (by omega) h63 hbytes;obtain⟨g',cap',rfl,hge,_⟩:=h2.form (by omega);refine⟨g',cap',w',hr,ju h2 hbase,qy hown fun k hk=>?_,⟨h3.os,h3.tape,h3.output,h3.size,fun k hk _=>h3.block k hk (by simp)⟩,.inr hge⟩
   cases hk;exact h3.block g (zg hg) (by simp)
theorem q4t{o:Oper}{a:Act}{K:Act->World->Prop}{Q:Exit->Act->World->Prop}(s x:Operand)(t:TypeId)
  (ho:o.op = .call { callee:=.builtin .append,args:=#[s,x],argTypes:=#[t,t] })
  (base:Nat) (e:TypeId) (i:TypeInfo) (z:Value) (bytes:Nat) (ht:P.underlying t=some (.slice e)) (hi:P.info? e=some i) (hz:i.zero=some z)
  (hsize:i.size=1) (hby:i.bytes=bytes) (hzs:z.cells.size=1)
  (v:Value) (xs:List Value) (hs:a.eval s=v) (hown:w.ownsRow base e 1 v xs.length xs)
  (ad:Addr) (c:Nat) (u:Value) (hx:a.eval x = .slice (some ad) 1 c) (hnews:∀ j x,[u][j]?=some x->w.cell? (ad.add j)=some x) (h1:u.oneCell'=true)
  (h63:xs.length+1<=maxLen) (hbytes:(xs.length+1)*bytes<=140737488355328) (hbase:base<=w.heap.size)
  (h:∀ g cap w',w'.ownsRow base e 1 (.slice (some ⟨g,0,none⟩) (xs.length+1) cap) (xs.length+1) (xs++[u])->w'.ownsRow base e 1 v xs.length xs->w.grownBy w' v.ownBlock->(v.ownBlock=some g\/w.heap.size<=g)->K (a.put o.dst (.slice (some ⟨g,0,none⟩) (xs.length+1) cap)) w'):o.wp P a w K Q:=by
 obtain⟨g,cap,w',hr,h2,h3,h4,h5⟩:=yk (P:=P) w t o.type base e i z bytes ht hi hz hsize hby hzs v xs hown ad c u hnews h1 h63 hbytes hbase;unfold Oper.wp execOp;simp only[ho,resolve,invoke,builtin,Sem.run_bind,Sem.run_pure,Result.andThen_ok,List.map_toArray,List.map_cons,List.map_nil,hs,hx,hr];exact h g cap w' h2 h3 h4 h5
theorem q6g{ops:Array Oper}{rest:List Oper}{o:Oper}{a:Act}{Q:Exit->Act->World->Prop}(hgd:o.guard=none)(s x:Operand)(t:TypeId)
  (ho:o.op = .call { callee:=.builtin .append,args:=#[s,x],argTypes:=#[t,t] })
  (base:Nat) (e:TypeId) (i:TypeInfo) (z:Value) (bytes:Nat) (ht:P.underlying t=some (.slice e)) (hi:P.info? e=some i) (hz:i.zero=some z)
  (hsize:i.size=1) (hby:i.bytes=bytes) (hzs:z.cells.size=1)
  (v:Value) (xs:List Value) (hs:a.eval s=v) (hown:w.ownsRow base e 1 v xs.length xs)
  (ad:Addr) (c:Nat) (u:Value) (hx:a.eval x = .slice (some ad) 1 c) (hnews:∀ j x,[u][j]?=some x->w.cell? (ad.add j)=some x) (h1:u.oneCell'=true)
  (h63:xs.length+1<=maxLen) (hbytes:(xs.length+1)*bytes<=140737488355328) (hbase:base<=w.heap.size)
  (h:∀ g cap w',w'.ownsRow base e 1 (.slice (some ⟨g,0,none⟩) (xs.length+1) cap) (xs.length+1) (xs++[u])->w'.ownsRow base e 1 v xs.length xs->w.grownBy w' v.ownBlock->(v.ownBlock=some g\/w.heap.size<=g)->wpList P ops Q rest (a.put o.dst (.slice (some ⟨g,0,none⟩) (xs.length+1) cap)) w'):wpList P ops Q (o :: rest) a w :=
 wpList_plain hgd fun _ hK=>q4t w s x t ho base e i z bytes ht hi hz hsize hby hzs v xs hs hown ad c u hx hnews h1 h63 hbytes hbase fun g cap w' h2 h3 h4 h5=>hK _ _ (h g cap w' h2 h3 h4 h5)
theorem q7p{ops:Array Oper}{o:Oper}{a:Act}{K:Act->World->Prop}{Q:Exit->Act->World->Prop}{E:Prop}(hgd:o.guard=none)(s x:Operand)(t:TypeId)
  (ho:o.op = .call { callee:=.builtin .append,args:=#[s,x],argTypes:=#[t,t] })
  (base:Nat) (e:TypeId) (i:TypeInfo) (z:Value) (bytes:Nat) (ht:P.underlying t=some (.slice e)) (hi:P.info? e=some i) (hz:i.zero=some z)
  (hsize:i.size=1) (hby:i.bytes=bytes) (hzs:z.cells.size=1)
  (v:Value) (xs:List Value) (hs:a.eval s=v) (hown:w.ownsRow base e 1 v xs.length xs)
  (ad:Addr) (c:Nat) (u:Value) (hx:a.eval x = .slice (some ad) 1 c) (hnews:∀ j x,[u][j]?=some x->w.cell? (ad.add j)=some x) (h1:u.oneCell'=true)
  (h63:xs.length+1<=maxLen) (hbytes:(xs.length+1)*bytes<=140737488355328) (hbase:base<=w.heap.size)
  (h:∀ g cap w',w'.ownsRow base e 1 (.slice (some ⟨g,0,none⟩) (xs.length+1) cap) (xs.length+1) (xs++[u])->w'.ownsRow base e 1 v xs.length xs->w.grownBy w' v.ownBlock->(v.ownBlock=some g\/w.heap.size<=g)->K (a.put o.dst (.slice (some ⟨g,0,none⟩) (xs.length+1) cap)) w') :
  if Region.wanted o (yielded ops a.tmps)=true then Oper.wp P o a w K Q else E:=by
 have hw:Region.wanted o (yielded ops a.tmps)=true:=by simp[Region.wanted,hgd]
 rw[qj hw];exact q4t w s x t ho base e i z bytes ht hi hz hsize hby hzs v xs hs hown ad c u hx hnews h1 h63 hbytes hbase h
end
theorem PS.cells{E:PE}{q:Nat}{w:World}(h:PS E q w):w.cell? ⟨E.pb,0,none⟩=some (.slice E.a E.ts.length E.cap)/\w.cell? ⟨E.pb,1,none⟩=some (.int .i64 (q:Nat))/\w.cell? ⟨E.pb,2,none⟩=some (.int .i64 (E.en:Nat)) /\
  w.cell? ⟨E.pb,3,none⟩=some (.map (some E.mi))/\w.cell? ⟨E.pb,4,none⟩=some (.map (some E.mp)) :=
 ⟨qm _ _ _ _ _ _ h.row,qm _ _ _ _ _ _ h.row,qm _ _ _ _ _ _ h.row,qm _ _ _ _ _ _ h.row,qm _ _ _ _ _ _ h.row⟩
theorem PS.frozen{E:PE}{q:Nat}{w:World}(h:PS E q w)(o:Nat):w.frozen? ⟨E.pb,o,none⟩=false:=by
 simp[World.frozen?,h.row]
theorem ya{B:Nat}{a w:World}(h:Below B a w){b:Nat}(hb:B<=b)(u0 u1 u2:Value):Below B a (((w.setCell ⟨b,0,none⟩ u0).setCell ⟨b,1,none⟩ u1).setCell ⟨b,2,none⟩ u2) :=
 ((h.setCell (p:=⟨b,0,none⟩) hb _).setCell (p:=⟨b,1,none⟩) hb _).setCell (p:=⟨b,2,none⟩) hb _
theorem qmr{l:Lx.Bs}{s:ByteArray}(h:l=bs s):Sx.str l=s:=by rw[h];rfl
theorem ki{a b:ByteArray}(h:a.toList=b.toList):a=b:=by
 rw[ByteArray.toList_eq,ByteArray.toList_eq]at h
 cases a;cases b;congr;exact Array.toList_inj.1 h
theorem qc7{a b:ByteArray}(h:a≠b):(a.toList==b.toList)=false:=by
 rw[qc];exact fun e=>h (ki e)
theorem qmq{l:Lx.Bs}{s:ByteArray}(h:l≠bs s):Sx.str l≠s:=fun e=>h (by rw[<-e];rfl)
theorem jr(k:Int)(b c:Value)(w:World):(Instr.field 111 (.agg #[.int .i64 k,b,c]) 0).run Tryz.prog w = .ok (.int .i64 k) w:=by rfl
theorem jp(a c:Value)(s:ByteArray)(w:World):(Instr.field 111 (.agg #[a,.string s,c]) 1).run Tryz.prog w = .ok (.string s) w:=by rfl
theorem jo(a b:Value)(k:Int)(w:World):(Instr.field 111 (.agg #[a,b,.int .i64 k]) 2).run Tryz.prog w = .ok (.int .i64 k) w:=by rfl
attribute [local go_sem] jr jp jo
def yy(E:PE)(q:Nat):Value:=.agg #[.int .i64 (Sx.knd E.ts q:Nat),.string (Sx.str (Sx.txt E.ts q)),.int .i64 (E.pos q:Nat)]
theorem kg(E:PE)(q:Nat)(w:World)(h:PS E q w):Calls Tryz.prog 142 #[.pointer (some ⟨E.pb,0,none⟩)] w fun e w'=>e = .returned (yy E q)/\Below w.heap.size w w':=by
 obtain⟨c0,c1,c2,c3,c4⟩:=h.cells;have hlt:=h.lt;have hfew:=h.g.few;clear c3 c4
 by_cases hq:q < E.ts.length
 ·have d0:=h.g.c0 q hq
  have d1:=h.g.c1 q hq;have d2:=h.g.c2 q hq;have HA:=qh (h.g.ha (fun e=>by rw[e]at hq;simp at hq));have dl:=qi d0;obtain⟨R,hR⟩:∃ R,yy E q=R:=⟨_,rfl⟩;have HR:Hid (Value.agg #[.int .i64 (E.ts[q].kind:Nat),.string (Sx.str E.ts[q].text),.int .i64 (E.ts[q].pos:Nat)]=R):=qh (by rw[<-hR];unfold yy;rw[qlr hq,ql5 hq,qn3 hq]);rw[hR];clear hR h;rw[HA.out]at c0;obtain⟨k0,hk0⟩:∃ k,(E.ts[q].kind:Int)=k:=⟨_,rfl⟩;obtain⟨k1,hk1⟩:∃ k,Sx.str E.ts[q].text=k:=⟨_,rfl⟩;obtain⟨k2,hk2⟩:∃ k,(E.ts[q].pos:Int)=k:=⟨_,rfl⟩;rw[hk0,hk1,hk2]at HR;rw[hk0]at d0;rw[hk1]at d1;rw[hk2]at d2;clear hk0 hk1 hk2;obtain⟨n,hn⟩:∃ n,E.ts.length=n:=⟨_,rfl⟩;rw[hn]at hq c0 hfew;clear hn;have i0:(q:Int) < (n:Int):=by omega
  have i1:(0:Int)<=(q:Int):=by omega
  go_enter Tryz.func142,Tryz.ntmps142;go_wp2
  go_quiet (fail)
  go_wp2
  go_region
  all_goals go_wp2
  all_goals rw[<-HR.out]
  all_goals refine bodyPost_ret (v:=.agg #[.int .i64 k0,.string k1,.int .i64 k2]) (by simp[results,Tryz.results142,go_sem]) rfl ⟨rfl,?_⟩
  all_goals exact ya (below_drewN ((Below.refl _ w).alloc (q9 _) _) _) (q9 _) _ _ _
 ·have hq':¬ ((q:Int) < (E.ts.length:Int)):=by omega
  obtain⟨R,hR⟩:∃ R,yy E q=R:=⟨_,rfl⟩;have HR:Hid (Value.agg #[.int .i64 0,.string ⟨#[]⟩,.int .i64 (E.en:Nat)]=R):=qh (by rw[<-hR];unfold yy;rw[qls (by omega),qdl (by omega),qlg (by omega)];rfl);rw[hR];clear hR h;obtain⟨n,hn⟩:∃ n,E.ts.length=n:=⟨_,rfl⟩;rw[hn]at hq hq' c0 hfew;clear hn;go_enter Tryz.func142,Tryz.ntmps142;go_wp2
  go_quiet (fail)
  go_wp2;rw[<-HR.out];refine bodyPost_ret (v:=.agg #[.int .i64 0,.string ⟨#[]⟩,.int .i64 E.en]) (by simp[results,Tryz.results142,go_sem]) rfl ⟨rfl,?_⟩;exact ya (below_drewN ((Below.refl _ w).alloc (q9 _) _) _) (q9 _) _ _ _
theorem q03(E:PE)(q:Nat)(w:World)(h:PS E q w):Calls Tryz.prog 81 #[.pointer (some ⟨E.pb,0,none⟩)] w fun e w'=>e = .panicked [{ v:=je E q,recovered:=false }]/\Below w.heap.size w w':=by
 have C:=qh (kg E q w h);clear h;go_enter Tryz.func81,Tryz.ntmps81;unfold yy at C
 go_wp2_with fail
 refine C.out.mono ?_;rintro e w1⟨rfl,hb⟩;go_wp2;exact⟨rfl,rfl,hb⟩
theorem Mv.step{E:PE}{q q':Nat}{w w1:World}(hp:PS E q w)(hb:Below w.heap.size w w1):Mv E q' w (w1.setCell ⟨E.pb,1,none⟩ (.int .i64 (q':Nat))):=by
 have hp1:=hp.later hb;refine Mv.of hp hb.os hb.tape hb.output (by rw[qs];exact hb.size) (fun b h1 h2=>(Below.heap_setCell _ _ _ _ h2).trans (hb.block b h1)) ?_;rw[zp hp1.row];rfl
theorem yd(E:PE)(q:Nat)(s:ByteArray)(w:World)(h:PS E q w)(hs:Sx.txt E.ts q=bs s)(h0:bs s≠[]):Calls Tryz.prog 87 #[.pointer (some ⟨E.pb,0,none⟩),.string s] w fun e w'=>e = .returned (.bool true)/\Mv E (q+1) w w'/\PS E (q+1) w':=by
 have C:=qh (kg E q w h);have hq:q < E.ts.length:=Sx.txt_lt (by rw[hs];exact h0);have hfew:=h.g.few;have HP:=qh h;have e1:=qmr hs;clear h hs h0;unfold yy at C;rw[e1]at C;clear e1;go_enter Tryz.func87,Tryz.ntmps87
 go_wp2_with fail
 refine C.out.mono ?_;rintro e w1⟨rfl,hb⟩;have h1:=HP.out.later hb;obtain⟨c0,c1,_⟩:=h1.cells;have f1:=h1.frozen 1;have HB:=qh hb;have H1:=qh h1;have hl:=h1.lt;clear hb h1 C c0;go_wp2;go_ret;have hm:=Mv.step (q':=q+1) HP.out HB.out;push_cast at hm;exact⟨rfl,hm,hm.ps HP.out hq⟩
theorem yt(E:PE)(q:Nat)(s:ByteArray)(w:World)(h:PS E q w)(hs:Sx.txt E.ts q≠bs s):Calls Tryz.prog 87 #[.pointer (some ⟨E.pb,0,none⟩),.string s] w fun e w'=>e = .returned (.bool false)/\Below w.heap.size w w':=by
 have C:=qh (kg E q w h);have e1:=qmq hs;obtain⟨x,hx⟩:∃ x,Sx.str (Sx.txt E.ts q)=x:=⟨_,rfl⟩;unfold yy at C;rw[hx]at C e1;have e2:(!(x.toList==s.toList))=true:=by rw[qc7 e1];rfl
 clear h hs hx e1;go_enter Tryz.func87,Tryz.ntmps87
 go_wp2_with fail
 refine C.out.mono ?_;rintro e w1⟨rfl,hb⟩;have HB:=qh hb;clear hb C;go_wp2;refine bodyPost_ret (v:=.bool false) (by simp[results,Tryz.results87,go_sem]) rfl ?_;exact⟨rfl,HB.out⟩
theorem kh(E:PE)(q:Nat)(s:ByteArray)(w:World)(h:PS E q w)(hs:Sx.txt E.ts q=bs s)(h0:bs s≠[]):Calls Tryz.prog 83 #[.pointer (some ⟨E.pb,0,none⟩),.string s] w fun e w'=>e = .returned (.tuple #[])/\Mv E (q+1) w w'/\PS E (q+1) w':=by
 have C:=qh (yd E q s w h hs h0);clear h hs h0;go_enter Tryz.func83,Tryz.ntmps83
 go_wp2_with fail
 refine C.out.mono ?_;rintro e w1⟨rfl,hb⟩;clear C;go_wp2;go_end0;exact⟨rfl,hb⟩
theorem q05(E:PE)(q:Nat)(s:ByteArray)(w:World)(h:PS E q w)(hs:Sx.txt E.ts q≠bs s):Calls Tryz.prog 83 #[.pointer (some ⟨E.pb,0,none⟩),.string s] w fun e w'=>e = .panicked [{ v:=je E q,recovered:=false }]/\Below w.heap.size w w':=by
 have C:=qh (yt E q s w h hs);have HP:=qh h;clear h hs;go_enter Tryz.func83,Tryz.ntmps83
 go_wp2_with fail
 refine C.out.mono ?_;rintro e w1⟨rfl,hb⟩;have HB:=qh hb;have C2:=qh (q03 E q w1 (HP.out.later hb));clear C hb
 go_wp2_with fail
 refine C2.out.mono ?_;rintro e w2⟨rfl,hb⟩;clear C2;go_wp2;exact⟨rfl,rfl,HB.out.trans (hb.mono HB.out.size)⟩
def Row3(W:World)(b:Nat)(v0 v1 v2:Value):Prop:=W.heap[b]?=some (.cells #[v0,v1,v2] 25 (0,0))
section
variable {W:World} {b:Nat} {v0 v1 v2:Value}
theorem Row3.lt(h:Row3 W b v0 v1 v2):b < W.heap.size:=zg h
theorem Row3.new(W:World)(v0 v1 v2:Value):Row3 (W.alloc (.cells #[v0,v1,v2] 25)) W.heap.size v0 v1 v2:=qk W _
theorem Row3.newAt{W:World}{n:Nat}{v0 v1 v2:Value}(hn:n=W.heap.size):Row3 (W.alloc (.cells #[v0,v1,v2] 25)) n v0 v1 v2:=by subst hn;exact Row3.new W v0 v1 v2
theorem za{W:World}{n:Nat}{o:Obj}(hn:n=W.heap.size):(W.alloc o).heap[n]?=some o:=by subst hn;exact qk W _
theorem Row3.alloc(h:Row3 W b v0 v1 v2)(o:Obj):Row3 (W.alloc o) b v0 v1 v2:=(Below.heap_alloc _ _ _ h.lt).trans h
theorem Row3.below{W':World}{n:Nat}(h:Row3 W b v0 v1 v2)(hb:Below n W W')(hn:b < n):Row3 W' b v0 v1 v2:=(hb.block b hn).trans h
theorem Row3.mv{E:PE}{q':Nat}{W':World}(h:Row3 W b v0 v1 v2)(hm:Mv E q' W W')(hn:b≠E.pb):Row3 W' b v0 v1 v2:=(hm.blk b h.lt hn).trans h
theorem Row3.other(h:Row3 W b v0 v1 v2){p:Addr}(u:Value)(hn:b≠p.block):Row3 (W.setCell p u) b v0 v1 v2:=(Below.heap_setCell _ _ _ _ hn).trans h
theorem Row3.put3o(h:Row3 W b v0 v1 v2){c:Nat}(hn:b≠c)(u0 u1 u2:Value):Row3 (((W.setCell ⟨c,0,none⟩ u0).setCell ⟨c,1,none⟩ u1).setCell ⟨c,2,none⟩ u2) b v0 v1 v2:=((h.other _ hn).other _ hn).other _ hn
theorem Row3.drewN(h:Row3 W b v0 v1 v2)(n:Nat):Row3 (W.drewN n) b v0 v1 v2:=h
theorem Row3.put(h:Row3 W b v0 v1 v2)(u0 u1 u2:Value):Row3 (((W.setCell ⟨b,0,none⟩ u0).setCell ⟨b,1,none⟩ u1).setCell ⟨b,2,none⟩ u2) b u0 u1 u2:=by
 have h0:W.heap[b]?=some (.cells #[v0,v1,v2] 25 (0,0)):=h;exact(zp (zp (zp h0))).trans rfl
theorem Row3.put2(h:Row3 W b v0 v1 v2)(u2:Value):Row3 (W.setCell ⟨b,2,none⟩ u2) b v0 v1 u2:=by
 have h0:W.heap[b]?=some (.cells #[v0,v1,v2] 25 (0,0)):=h;exact(zp h0).trans rfl
theorem Row3.cells(h:Row3 W b v0 v1 v2):(W.cell? ⟨b,0,none⟩=some v0/\W.cell? ⟨b,1,none⟩=some v1/\W.cell? ⟨b,2,none⟩=some v2)/\W.frozen? ⟨b,0,none⟩=false/\W.frozen? ⟨b,1,none⟩=false/\W.frozen? ⟨b,2,none⟩=false:=by
 have h0:W.heap[b]?=some (.cells #[v0,v1,v2] 25 (0,0)):=h;exact⟨⟨qm _ _ _ _ _ _ h0,qm _ _ _ _ _ _ h0,qm _ _ _ _ _ _ h0⟩,by simp[World.frozen?,h0],by simp[World.frozen?,h0],by simp[World.frozen?,h0]⟩
theorem kr{fn:Func}{t u:Nat}{a:Act}{R:Ending->World->Prop}{v:Value}(h:Row3 W b v0 v1 v2)(hr:fn.results=#[ResultVar.cell t 25,ResultVar.tmp u])(hv:(a.tmps[u]?).getD undef=v)(hd:a.defers=[])(ha:(a.tmps[t]?).getD undef = .pointer (some ⟨b,0,none⟩))
  (hR:R (.returned (.tuple #[.agg #[v0,v1,v2],v])) W):bodyPost Tryz.prog fn R .ret a W:=by
 obtain⟨⟨c0,c1,c2⟩,_⟩:=h.cells;exact bodyPost_ret (v:=.tuple #[.agg #[v0,v1,v2],v]) (by simp[results,hr,go_sem,ha,hv,c0,c1,c2]) hd hR
theorem zh{fn:Func}{t:Nat}{a:Act}{R:Ending->World->Prop}(h:Row3 W b v0 v1 v2)(hr:fn.results=#[ResultVar.cell t 25])(hd:a.defers=[])(ha:(a.tmps[t]?).getD undef = .pointer (some ⟨b,0,none⟩))
  (hR:R (.returned (.agg #[v0,v1,v2])) W):bodyPost Tryz.prog fn R .ret a W:=by
 obtain⟨⟨c0,c1,c2⟩,_⟩:=h.cells;exact bodyPost_ret (v:=.agg #[v0,v1,v2]) (by simp[results,hr,go_sem,ha,c0,c1,c2]) hd hR
end
theorem Mv.put3{E:PE}{q':Nat}{w W:World}(hm:Mv E q' w W){b:Nat}(hb:w.heap.size<=b)(u0 u1 u2:Value):Mv E q' w (((W.setCell ⟨b,0,none⟩ u0).setCell ⟨b,1,none⟩ u1).setCell ⟨b,2,none⟩ u2):=ya hm hb _ _ _
theorem Mv.alloc{E:PE}{q':Nat}{w W:World}(hm:Mv E q' w W)(o:Obj):Mv E q' w (W.alloc o):=Below.alloc hm hm.size o
def qfj(k:Int)(s:ByteArray):Value:=.tuple #[.agg #[.int .i64 k,.string s,.slice none 0 0],.bool true]
theorem qbk(E:PE)(q:Nat)(w:World)(h:PS E q w)(hk:Sx.knd E.ts q=1):Calls Tryz.prog 149 #[.pointer (some ⟨E.pb,0,none⟩)] w fun e w'=>e = .returned (qfj 15 (Sx.str (Sx.txt E.ts q)))/\Mv E (q+1) w w'/\PS E (q+1) w':=by
 have C:=qh (fun o=>kg E q (w.alloc o) (h.later ((Below.refl _ w).alloc (q9 _) o)));have hq:q < E.ts.length:=Sx.knd_lt (by omega);have hfew:=h.g.few;have HP:=qh h;have hpl:=h.lt;obtain⟨x,hx⟩:∃ x,Sx.str (Sx.txt E.ts q)=x:=⟨_,rfl⟩;unfold yy at C;rw[hk,hx]at C;rw[hx];have C':Hid (∀ o:Obj,Calls Tryz.prog 142 #[.pointer (some ⟨E.pb,0,none⟩)] (w.alloc o) fun e w'=>e = .returned (.agg #[.int .i64 1,.string x,.int .i64 (E.pos q:Nat)])/\Below (w.alloc o).heap.size (w.alloc o) w'):=C;clear h hk hx C;go_enter Tryz.func149,Tryz.ntmps149
 go_wp2_with fail
 refine(C'.out _).mono ?_;rintro e w1⟨rfl,hb⟩;have hB:Below w.heap.size w w1:=((Below.refl _ w).alloc (q9 _) _).trans (hb.mono (by simp));have h1:=HP.out.later hB;obtain⟨c0,c1,_⟩:=h1.cells;have f1:=h1.frozen 1;have HB:=qh hB;have hl:=h1.lt;have hz:w.heap.size < w1.heap.size:=by have:=hb.size;simp at this;omega
 have hr:=(Row3.new w (.int .i64 0) (.string ⟨#[]⟩) (.slice none 0 0)).below hb (by simp);have hz:w.heap.size < w1.heap.size:=hr.lt;obtain⟨⟨n0,n1,n2⟩,g0,g1,g2⟩:=hr.cells;have HRo:=qh hr;clear hb hB h1 C' c0 hr;go_wp2;have hm:=Mv.step (q':=q+1) HP.out HB.out;push_cast at hm;have hM:=(hm.put3 (b:=w.heap.size) (q9 _) (.int .i64 15) (.string x) (.slice none 0 0)).alloc (.cells #[.int .i64 1,.string x,.int .i64 (E.pos q:Nat)] 111);exact kr (((HRo.out.other _ (by simp only;omega)).put _ _ _).alloc _) Tryz.results149 rfl rfl rfl ⟨rfl,hM,hM.ps HP.out hq⟩
theorem qk6(E:PE)(q:Nat)(w:World)(h:PS E q w)(hk:Sx.knd E.ts q=2):Calls Tryz.prog 149 #[.pointer (some ⟨E.pb,0,none⟩)] w fun e w'=>e = .returned (qfj 16 (Sx.str (Sx.txt E.ts q)))/\Mv E (q+1) w w'/\PS E (q+1) w':=by
 have C:=qh (fun o=>kg E q (w.alloc o) (h.later ((Below.refl _ w).alloc (q9 _) o)));have hq:q < E.ts.length:=Sx.knd_lt (by omega);have hfew:=h.g.few;have HP:=qh h;have hpl:=h.lt;obtain⟨x,hx⟩:∃ x,Sx.str (Sx.txt E.ts q)=x:=⟨_,rfl⟩;unfold yy at C;rw[hk,hx]at C;rw[hx];have C':Hid (∀ o:Obj,Calls Tryz.prog 142 #[.pointer (some ⟨E.pb,0,none⟩)] (w.alloc o) fun e w'=>e = .returned (.agg #[.int .i64 2,.string x,.int .i64 (E.pos q:Nat)])/\Below (w.alloc o).heap.size (w.alloc o) w'):=C;clear h hk hx C;go_enter Tryz.func149,Tryz.ntmps149
 go_wp2_with fail
 refine(C'.out _).mono ?_;rintro e w1⟨rfl,hb⟩;have hB:Below w.heap.size w w1:=((Below.refl _ w).alloc (q9 _) _).trans (hb.mono (by simp));have h1:=HP.out.later hB;obtain⟨c0,c1,_⟩:=h1.cells;have f1:=h1.frozen 1;have HB:=qh hB;have hl:=h1.lt;have hr:=(Row3.new w (.int .i64 0) (.string ⟨#[]⟩) (.slice none 0 0)).below hb (by simp);have hz:w.heap.size < w1.heap.size:=hr.lt;obtain⟨⟨n0,n1,n2⟩,g0,g1,g2⟩:=hr.cells;have HRo:=qh hr;clear hb hB h1 C' c0 hr;go_wp2;have hm:=Mv.step (q':=q+1) HP.out HB.out;push_cast at hm;have hM:=(hm.put3 (b:=w.heap.size) (q9 _) (.int .i64 16) (.string x) (.slice none 0 0)).alloc (.cells #[.int .i64 2,.string x,.int .i64 (E.pos q:Nat)] 111);exact kr (((HRo.out.other _ (by simp only;omega)).put _ _ _).alloc _) Tryz.results149 rfl rfl rfl ⟨rfl,hM,hM.ps HP.out hq⟩
def q85:Value:=.tuple #[.agg #[.int .i64 0,.string ⟨#[]⟩,.slice none 0 0],.bool false]
theorem qlm(E:PE)(q:Nat)(w:World)(h:PS E q w)(h1:Sx.knd E.ts q≠1)(h2:Sx.knd E.ts q≠2):Calls Tryz.prog 149 #[.pointer (some ⟨E.pb,0,none⟩)] w fun e w'=>e = .returned q85/\Below w.heap.size w w':=by
 have C:=qh (fun o=>kg E q (w.alloc o) (h.later ((Below.refl _ w).alloc (q9 _) o)));have e1:(((Sx.knd E.ts q:Nat):Int)==1)=false:=by rw[qc];omega
 have e2:(((Sx.knd E.ts q:Nat):Int)==2)=false:=by rw[qc];omega
 unfold yy at C;obtain⟨k,hk⟩:∃ k,((Sx.knd E.ts q:Nat):Int)=k:=⟨_,rfl⟩;rw[hk]at C e1 e2;clear h h1 h2 hk;go_enter Tryz.func149,Tryz.ntmps149
 go_wp2_with fail
 refine(C.out _).mono ?_;rintro e w1⟨rfl,hb⟩;have HB:=qh (((Below.refl _ w).alloc (q9 _) (.cells #[.int .i64 0,.string ⟨#[]⟩,.slice none 0 0] 25)).trans (hb.mono (by simp)));have hr:=(Row3.new w (.int .i64 0) (.string ⟨#[]⟩) (.slice none 0 0)).below hb (by simp);have hz:w.heap.size < w1.heap.size:=hr.lt;obtain⟨⟨n0,n1,n2⟩,g0,g1,g2⟩:=hr.cells;have HRo:=qh hr;have hl:=hr.lt;clear hb C hr;go_wp2;exact kr ((HRo.out.put _ _ _).alloc _) Tryz.results149 rfl rfl rfl ⟨rfl,(ya HB.out (q9 _) _ _ _).alloc (by simp only[qs];exact HB.out.size) _⟩
theorem qbr(k:Int)(s:ByteArray)(a:Option Addr)(n cap:Nat)(w:World) :
  Calls Tryz.prog 183 #[.agg #[.int .i64 k,.string s,.slice a n cap]] w fun e w'=>e = .returned (.bool (zo k))/\Below w.heap.size w w':=by
 have HB:=qh ((Below.refl w.heap.size w).alloc (q9 _) (.cells #[.int .i64 k,.string s,.slice a n cap] 25));obtain⟨R,hR⟩:∃ R,zo k=R:=⟨_,rfl⟩;have HR:=qh hR;rw[hR];clear hR
 cases h1:(k==17)with
 |true =>
  have HS:Hid (R=true):=qh (by rw[<-HR.out];unfold zo;rw[h1];rfl);go_enter Tryz.func183,Tryz.ntmps183;go_wp2;go_ret;exact⟨by rw[HS.out];rfl,HB.out⟩
 |false =>
  cases h2:(k==18)with
  |true =>
   have HS:Hid (R=true):=qh (by rw[<-HR.out];unfold zo;rw[h1,h2];rfl);go_enter Tryz.func183,Tryz.ntmps183;go_wp2;go_ret;exact⟨by rw[HS.out];rfl,HB.out⟩
  |false =>
   cases h3:(k==19)with
   |true =>
    have HS:Hid (R=true):=qh (by rw[<-HR.out];unfold zo;rw[h1,h2,h3];rfl);go_enter Tryz.func183,Tryz.ntmps183;go_wp2;go_ret;exact⟨by rw[HS.out];rfl,HB.out⟩
   |false =>
    have HS:Hid (R=false):=qh (by rw[<-HR.out];unfold zo;rw[h1,h2,h3];rfl);go_enter Tryz.func183,Tryz.ntmps183;go_wp2;go_ret;exact⟨by rw[HS.out];rfl,HB.out⟩
theorem qly:(Tryz.prog.info? 3).map (fun i=>(i.zero,i.size,i.bytes))=some (some (.int .i64 0),1,8):=by kernel_rfl
theorem q69:(Tryz.prog.info? 9).map (fun i=>(i.zero,i.size,i.bytes))=some (some (.string ⟨#[]⟩),1,16):=by kernel_rfl
def xa(n₁:Nat)(W:World)(v:Value)(ps:List Value):Prop:=W.ownsRow n₁ 3 1 v ps.length ps
def ze(n₁:Nat)(W:World)(v:Value)(ss:List ByteArray):Prop:=W.ownsRow n₁ 9 1 v (ss.map Value.string).length (ss.map Value.string)
def RowP(W:World)(b:Nat)(v0 v1 v2:Value):Prop:=W.heap[b]?=some (.cells #[v0,v1,v2] 85 (0,0))
section
variable {W:World} {b:Nat} {v0 v1 v2:Value}
theorem RowP.cells(h:RowP W b v0 v1 v2):(W.cell? ⟨b,0,none⟩=some v0/\W.cell? ⟨b,1,none⟩=some v1/\W.cell? ⟨b,2,none⟩=some v2)/\W.frozen? ⟨b,0,none⟩=false/\W.frozen? ⟨b,1,none⟩=false/\W.frozen? ⟨b,2,none⟩=false:=by
 have h0:W.heap[b]?=some (.cells #[v0,v1,v2] 85 (0,0)):=h;exact⟨⟨qm _ _ _ _ _ _ h0,qm _ _ _ _ _ _ h0,qm _ _ _ _ _ _ h0⟩,by simp[World.frozen?,h0],by simp[World.frozen?,h0],by simp[World.frozen?,h0]⟩
theorem RowP.lt(h:RowP W b v0 v1 v2):b < W.heap.size:=zg h
theorem RowP.put(h:RowP W b v0 v1 v2)(u0 u1 u2:Value):RowP (((W.setCell ⟨b,0,none⟩ u0).setCell ⟨b,1,none⟩ u1).setCell ⟨b,2,none⟩ u2) b u0 u1 u2:=by
 have h0:W.heap[b]?=some (.cells #[v0,v1,v2] 85 (0,0)):=h;exact(zp (zp (zp h0))).trans rfl
theorem q58{fn:Func}{t:Nat}{a:Act}{R:Ending->World->Prop}(h:RowP W b v0 v1 v2)(hr:fn.results=#[ResultVar.cell t 85])(hd:a.defers=[])(ha:(a.tmps[t]?).getD undef = .pointer (some ⟨b,0,none⟩))
  (hR:R (.returned (.agg #[v0,v1,v2])) W):bodyPost Tryz.prog fn R .ret a W:=by
 obtain⟨⟨c0,c1,c2⟩,_⟩:=h.cells;exact bodyPost_ret (v:=.agg #[v0,v1,v2]) (by simp[results,hr,go_sem,ha,c0,c1,c2]) hd hR
end
def ql4(n₁:Nat)(vp vi:Value)(ps:List Value)(ss:List ByteArray)(p:Value)(ss':List ByteArray)(wd:Bool)(W:World)(e:Ending)(W':World):Prop :=
 ∃ (ap ai:Option Addr) (cp ci:Nat),e = .returned (.agg #[.slice ap (ps++[p]).length cp,.slice ai ss'.length ci,.bool wd]) /\
  xa n₁ W' (.slice ap (ps++[p]).length cp) (ps++[p])/\ze n₁ W' (.slice ai ss'.length ci) ss'/\xa n₁ W' vp ps/\ze n₁ W' vi ss/\W.heap.size<=W'.heap.size /\
  (∀ b,b < W.heap.size->vp.ownBlock≠some b->vi.ownBlock≠some b->W'.heap[b]?=W.heap[b]?) /\
  Below n₁ W W' /\
  (∀ g,(Value.slice ap (ps++[p]).length cp).ownBlock=some g->vp.ownBlock=some g\/W.heap.size<=g) /\
  (∀ g,(Value.slice ai ss'.length ci).ownBlock=some g->vi.ownBlock=some g\/W.heap.size<=g)
theorem q1b(W:World)(u:Value)(t:TypeId)(n:Nat)(hn:n=W.heap.size):∀ (j:Nat) (x:Value),[u][j]?=some x->(W.alloc (.cells #[u] t)).cell? ((⟨n,0,none⟩:Addr).add j)=some x:=by
 intro j x hj
 have h0:j=0:=by
  rcases j with _|j
  ·rfl
  ·simp at hj
 subst h0;subst hn;simp at hj;subst hj;have hadd:(⟨W.heap.size,0,none⟩:Addr).add 0=⟨W.heap.size,0,none⟩:=by unfold Addr.add;split <;> simp_all
 rw[hadd,World.cell?_alloc_at _ _ _ _ rfl];rfl
theorem qmc(W:World)(u:Value)(t:TypeId)(o:Obj):∀ (j:Nat) (x:Value),[u][j]?=some x->((W.alloc (.cells #[u] t)).alloc o).drew.cell? ((⟨W.heap.size,0,none⟩:Addr).add j)=some x:=by
 intro j x hj
 have h0:j=0:=by
  rcases j with _|j
  ·rfl
  ·simp at hj
 subst h0;have hadd:(⟨W.heap.size,0,none⟩:Addr).add 0=⟨W.heap.size,0,none⟩:=by unfold Addr.add;split <;> simp_all
 have:=q1b W u t _ rfl 0 x hj;rw[hadd]at this ⊢;exact(show((W.alloc (.cells #[u] t)).alloc o).cell? _=_ from(World.cell?_alloc_past _ _ _ (by simp)).trans this)
def Mid(n₁ h:Nat)(W w6:World)(ap:Value)(ai:Value)(wd:Bool)(k:Int)(s:ByteArray)(v2:Value)(ss:List ByteArray):Prop :=
 RowP w6 h ap ai (.bool wd)/\Row3 w6 (h+1) (.int .i64 k) (.string s) v2/\RowP w6 (h+1+1) (.slice none 0 0) (.slice none 0 0) (.bool false)/\ze n₁ w6 ai ss/\W.heap.size<=w6.heap.size /\
  (∀ b,b < W.heap.size->ap.ownBlock≠some b->w6.heap[b]?=W.heap[b]?)/\Below n₁ W w6
theorem qky{n₁ h:Nat}{W w6:World}{ap u:Value}{t:TypeId}(hz:h+1+1+1<=W.heap.size)(hown:∀ g,ap.ownBlock=some g->n₁<=g/\g < h)
  (hg:((W.alloc (.cells #[u] t)).alloc (.cells #[.slice none 0 0,.slice none 0 0,.bool false] 85)).drew.grownBy w6 ap.ownBlock):RowP w6 (W.heap.size+1) (.slice none 0 0) (.slice none 0 0) (.bool false):=by
 refine(hg.block _ (show W.heap.size+1 < ((W.alloc (.cells #[u] t)).alloc (.cells #[.slice none 0 0,.slice none 0 0,.bool false] 85)).heap.size by simp) (fun e=>by have:=hown _ e.symm;omega)).trans ?_;exact(show((W.alloc (.cells #[u] t)).alloc (.cells #[.slice none 0 0,.slice none 0 0,.bool false] 85)).heap[_]?=_ from za (by simp))
theorem km{W:World}{n₁:Nat}{vp vi:Value}{ps:List Value}{ss:List ByteArray}(h:xa n₁ W vp ps)(h':ze n₁ W vi ss):∀ g,vp.ownBlock=some g->vi.ownBlock≠some g:=by
 intro g h1 h2;rcases h.2 with ⟨rfl,_⟩|⟨g1,_,_,rfl,_,e1,_⟩
 ·cases h1
 ·rcases h'.2 with ⟨rfl,_⟩|⟨g2,_,_,rfl,_,e2,_⟩
  ·cases h2
  ·simp only[Value.ownBlock,Option.some.injEq]at h1 h2
   rw[h1]at e1;rw[h2]at e2;rw[e1]at e2;exact absurd (Obj.cells.inj (zn e2)).2.1 (by decide)
theorem qmb(W:World)(u:Value)(t:TypeId)(o:Obj):∀ (j:Nat) (x:Value),[u][j]?=some x->((W.alloc o).alloc (.cells #[u] t)).drew.cell? ((⟨W.heap.size+1,0,none⟩:Addr).add j)=some x :=
 fun j x hj=>(show((W.alloc o).alloc (.cells #[u] t)).cell? _=_ from q1b (W.alloc o) u t (W.heap.size+1) (by simp) j x hj)
theorem qkx{n₁ h:Nat}{W w6:World}{ap u:Value}{t:TypeId}(hz:h+1+1+1<=W.heap.size)(hown:∀ g,ap.ownBlock=some g->n₁<=g/\g < h)
  (hg:((W.alloc (.cells #[.slice none 0 0,.slice none 0 0,.bool false] 85)).alloc (.cells #[u] t)).drew.grownBy w6 ap.ownBlock):RowP w6 W.heap.size (.slice none 0 0) (.slice none 0 0) (.bool false):=by
 refine(hg.block _ (show W.heap.size < ((W.alloc (.cells #[.slice none 0 0,.slice none 0 0,.bool false] 85)).alloc (.cells #[u] t)).heap.size by simp;omega) (fun e=>by have:=hown _ e.symm;omega)).trans ?_;exact(show((W.alloc (.cells #[.slice none 0 0,.slice none 0 0,.bool false] 85)).alloc (.cells #[u] t)).heap[_]?=_ from(Below.heap_alloc _ _ _ (by simp)).trans (qk _ _))
structure MidV(n₁ h:Nat)(W V:World)(D:Nat)(v' vp vi:Value)(ps:List Value)(ss:List ByteArray)(p:Value)(wd k7:Bool)(k:Int)(s:ByteArray)(v2:Value):Prop where
 d:RowP V D v' vi (.bool k7)
 a:RowP V h vp vi (.bool wd)
 n:Row3 V (h+1) (.int .i64 k) (.string s) v2
 r:RowP V (h+1+1) (.slice none 0 0) (.slice none 0 0) (.bool false)
 q:xa n₁ V v' (ps++[p])
 p:xa n₁ V vp ps
 s:ze n₁ V vi ss
 z:h+1+1+1<=D
 k:∀ b,b < h->vp.ownBlock≠some b->V.heap[b]?=W.heap[b]?
 o:∀ g,v'.ownBlock=some g->vp.ownBlock=some g\/h<=g
 x:Below n₁ W V
theorem q42{n₁:Nat}{w:World}{v:Value}{ps:List Value}{D:Nat}{x y z:Value}(h:xa n₁ w v ps)(hD:RowP w D x y z):∀ g,v.ownBlock=some g->g≠D:=by
 intro g h1 e;subst e;rcases h.2 with ⟨rfl,_⟩|⟨g1,_,_,rfl,_,e1,_⟩
 ·cases h1
 ·simp only[Value.ownBlock,Option.some.injEq]at h1
  rw[h1]at e1;have e2:w.heap[g]?=some (.cells #[x,y,z] 85 (0,0)):=hD;rw[e1]at e2;exact absurd (Obj.cells.inj (zn e2)).2.1 (by decide)
theorem q2i{n₁:Nat}{w:World}{v:Value}{ps:List ByteArray}{D:Nat}{x y z:Value}(h:ze n₁ w v ps)(hD:RowP w D x y z):∀ g,v.ownBlock=some g->g≠D:=by
 intro g h1 e;subst e;rcases h.2 with ⟨rfl,_⟩|⟨g1,_,_,rfl,_,e1,_⟩
 ·cases h1
 ·simp only[Value.ownBlock,Option.some.injEq]at h1
  rw[h1]at e1;have e2:w.heap[g]?=some (.cells #[x,y,z] 85 (0,0)):=hD;rw[e1]at e2;exact absurd (Obj.cells.inj (zn e2)).2.1 (by decide)
theorem qng{n₁ h:Nat}{W W3 w6:World}{D:Nat}{v' vp vi:Value}{ps:List Value}{ss:List ByteArray}{p:Value}{wd k7:Bool}{k:Int}{s:ByteArray}{v2:Value}(hn:n₁<=h)(hx:Below n₁ W W3)(hz3:h+1+1+1<=W3.heap.size)(hk3:∀ b,b < h->W3.heap[b]?=W.heap[b]?)
  (M:Mid n₁ h W3 w6 vp vi wd k s v2 ss) (hD:RowP w6 D (.slice none 0 0) (.slice none 0 0) (.bool false)) (hDz:h+1+1+1<=D) (Q:xa n₁ w6 v' (ps++[p])) (P:xa n₁ w6 vp ps) (o:∀ g,v'.ownBlock=some g->vp.ownBlock=some g\/h<=g) :
  MidV n₁ h W (((w6.setCell ⟨D,0,none⟩ v').setCell ⟨D,1,none⟩ vi).setCell ⟨D,2,none⟩ (.bool k7)) D v' vp vi ps ss p wd k7 k s v2:=by
 obtain⟨m1,m2,m3,m4,m5,m6,m7⟩:=M
 have far:∀ b,b≠D->(((w6.setCell ⟨D,0,none⟩ v').setCell ⟨D,1,none⟩ vi).setCell ⟨D,2,none⟩ (.bool k7)).heap[b]?=w6.heap[b]?:=fun b hb =>
  (Below.heap_setCell _ _ _ _ (by simp only;exact hb)).trans ((Below.heap_setCell _ _ _ _ (by simp only;exact hb)).trans (Below.heap_setCell _ _ _ _ (by simp only;exact hb)))
 exact⟨hD.put _ _ _,(far _ (by omega)).trans m1,(far _ (by omega)).trans m2,(far _ (by omega)).trans m3,qy Q fun g e=>far g (q42 Q hD g e),qy P fun g e=>far g (q42 P hD g e),qy m4 fun g e=>far g (q2i m4 hD g e),hDz,
  fun b hb hne=>(far b (by omega)).trans ((m6 b (by omega) hne).trans (hk3 b hb)),o,(((hx.trans m7).setCell (p:=⟨D,0,none⟩) (by simp only;omega) _).setCell (p:=⟨D,1,none⟩) (by simp only;omega) _).setCell (p:=⟨D,2,none⟩) (by simp only;omega) _⟩
theorem qo0{n₁ h:Nat}{W W3 w6:World}{v' vp vi:Value}{ps:List Value}{ss:List ByteArray}{p:Value}{wd k7:Bool}{k:Int}{s:ByteArray}{v2:Value}(hn:n₁<=h)(hx:Below n₁ W W3)(hz3:h+1+1+1<=W3.heap.size)(hk3:∀ b,b < h->W3.heap[b]?=W.heap[b]?)
  (M:Mid n₁ h W3 w6 vp vi wd k s v2 ss) (Q:xa n₁ w6 v' (ps++[p])) (P:xa n₁ w6 vp ps) (o:∀ g,v'.ownBlock=some g->vp.ownBlock=some g\/h<=g) :
  MidV n₁ h W (w6.alloc (.cells #[v',vi,.bool k7] 85)) w6.heap.size v' vp vi ps ss p wd k7 k s v2:=by
 obtain⟨m1,m2,m3,m4,m5,m6,m7⟩:=M;have al:∀ b,b < w6.heap.size->(w6.alloc (.cells #[v',vi,.bool k7] 85)).heap[b]?=w6.heap[b]?:=fun b hb=>Below.heap_alloc _ _ _ hb
 exact⟨qk _ _,(al _ m1.lt).trans m1,(al _ m2.lt).trans m2,(al _ m3.lt).trans m3,qy Q fun g e=>al g (World.ownsRow.lt Q g e).2,qy P fun g e=>al g (World.ownsRow.lt P g e).2,qy m4 fun g e=>al g (World.ownsRow.lt m4 g e).2,by omega,fun b hb hne=>(al b (by omega)).trans ((m6 b (by omega) hne).trans (hk3 b hb)),o,(hx.trans m7).alloc (by omega) _⟩
theorem MidV.later{n₁ h:Nat}{W V V':World}{D:Nat}{v' vp vi:Value}{ps:List Value}{ss:List ByteArray}{p:Value}{wd k7:Bool}{k:Int}{s:ByteArray}{v2:Value}(M:MidV n₁ h W V D v' vp vi ps ss p wd k7 k s v2)(hb:Below V.heap.size V V')(hh:h<=V.heap.size)(hn:n₁<=h):MidV n₁ h W V' D v' vp vi ps ss p wd k7 k s v2 :=
 ⟨(hb.block _ M.d.lt).trans M.d,(hb.block _ M.a.lt).trans M.a,(hb.block _ M.n.lt).trans M.n,(hb.block _ M.r.lt).trans M.r,qy M.q fun g e=>hb.block g (World.ownsRow.lt M.q g e).2,qy M.p fun g e=>hb.block g (World.ownsRow.lt M.p g e).2,qy M.s fun g e=>hb.block g (World.ownsRow.lt M.s g e).2,M.z,fun b h1 h2=>(hb.block b (by omega)).trans (M.k b h1 h2),M.o,M.x.trans (hb.mono (by omega))⟩
theorem q93{n₁ h:Nat}{W V F:World}{D:Nat}{g cap:Nat}{vp vi:Value}{ps:List Value}{ss:List ByteArray}{p:Value}{wd k7:Bool}{k:Int}{s:ByteArray}{v2:Value}(M:MidV n₁ h W V D (.slice (some ⟨g,0,none⟩) (ps++[p]).length cap) vp vi ps ss p wd k7 k s v2)(hh:W.heap.size=h)
  (hF:∀ b,b < V.heap.size->b≠D->b≠h+1+1->vi.ownBlock≠some b->F.heap[b]?=V.heap[b]?) (hsz:V.heap.size<=F.heap.size) (hx:Below n₁ V F) {ai:Option Addr} {ci:Nat} {ss':List ByteArray} (hv:ze n₁ F (.slice ai ss'.length ci) ss') (hvi:ze n₁ F vi ss)
  (hown:∀ g,vp.ownBlock=some g->n₁<=g/\g < h) (hap:∀ g,vp.ownBlock=some g->vi.ownBlock≠some g) (ho:∀ g,(Value.slice ai ss'.length ci).ownBlock=some g->vi.ownBlock=some g\/W.heap.size<=g) :
  ql4 n₁ vp vi ps ss p ss' k7 W (.returned (.agg #[.slice (some ⟨g,0,none⟩) (ps++[p]).length cap,.slice ai ss'.length ci,.bool k7])) F:=by
 have l1:=M.r.lt;have hz:=M.z;refine⟨_,_,_,_,rfl,?_,hv,?_,hvi,by omega,fun b hb h1 h2=>?_,M.x.trans hx,fun g' e=>by rw[hh];exact M.o g' e,ho⟩
 ·exact qy M.q fun g' e=>hF g' (World.ownsRow.lt M.q g' e).2 (q42 M.q M.d g' e) (q42 M.q M.r g' e) (km M.q M.s g' e)
 ·exact qy M.p fun g' e=>hF g' (World.ownsRow.lt M.p g' e).2 (by have:=hown g' e;omega) (by have:=hown g' e;omega) (hap g' e)
 ·exact(hF b (by omega) (by omega) (by omega) h2).trans (M.k b (by omega) h1)
def qns(n₁ h:Nat)(W3:World)(vp:Value)(ps:List Value)(w:World):Prop:=(∀ b,b < h+1+1+1->vp.ownBlock≠some b->w.heap[b]?=W3.heap[b]?)/\xa n₁ w vp ps/\h+1+1+1<=w.heap.size/\Below n₁ W3 w
section
variable {n₁ h:Nat} {W3:World} {vp vi u:Value} {ps:List Value} {w w':World}
abbrev Sb(n₁ h:Nat)(W3:World)(vp vi u:Value)(ps:List Value)(w:World):Prop:=w.cell? ⟨h,0,none⟩=some vp/\w.cell? ⟨h,1,none⟩=some vi/\w.cell? ⟨h+1,0,none⟩=some u/\Hid (qns n₁ h W3 vp ps w)
theorem qgq(hk:∀ b,b < h+1+1+1->vp.ownBlock≠some b->w'.heap[b]?=w.heap[b]?)(hr:xa n₁ w' vp ps)(hz:w.heap.size<=w'.heap.size)(hx:Below n₁ w w')(hown:∀ g,vp.ownBlock=some g->n₁<=g/\g < h)(H:Sb n₁ h W3 vp vi u ps w):Sb n₁ h W3 vp vi u ps w':=by
 obtain⟨c0,c1,c2,hb⟩:=H;have far:∀ b,h<=b->vp.ownBlock≠some b:=fun b hb e=>by have:=hown b e;omega
 exact⟨(World.cell?_of_block (hk h (by omega) (far _ (by omega)))).trans c0,(World.cell?_of_block (hk h (by omega) (far _ (by omega)))).trans c1,(World.cell?_of_block (hk (h+1) (by omega) (far _ (by omega)))).trans c2,
  qh ⟨fun b hb1 hb2=>(hk b hb1 hb2).trans (hb.out.1 b hb1 hb2),hr,qo hb.out.2.2.1 hz,hb.out.2.2.2.trans hx⟩⟩
theorem q7j{o:Obj}(hn:n₁<=h)(hown:∀ g,vp.ownBlock=some g->n₁<=g/\g < h)(H:Sb n₁ h W3 vp vi u ps w):Sb n₁ h W3 vp vi u ps (w.alloc o) :=
 qgq (fun b hb _=>Below.heap_alloc _ _ _ (by have:=H.2.2.2.out.2.2.1;omega)) (qy H.2.2.2.out.2.1 fun g e=>Below.heap_alloc _ _ _ (by have:=hown g e;have:=H.2.2.2.out.2.2.1;omega)) (by simp) ((Below.refl _ w).alloc (by have:=H.2.2.2.out.2.2.1;omega) _) hown H
theorem qed(H:Sb n₁ h W3 vp vi u ps w):Sb n₁ h W3 vp vi u ps w.drew:=⟨H.1,H.2.1,H.2.2.1,qh ⟨H.2.2.2.out.1,H.2.2.2.out.2.1,H.2.2.2.out.2.2.1,H.2.2.2.out.2.2.2.drew⟩⟩
theorem qj3(H:Sb n₁ h W3 vp vi u ps w.drew):Sb n₁ h W3 vp vi u ps w:=⟨H.1,H.2.1,H.2.2.1,qh ⟨H.2.2.2.out.1,H.2.2.2.out.2.1,H.2.2.2.out.2.2.1,⟨H.2.2.2.out.2.2.2.os,H.2.2.2.out.2.2.2.tape,H.2.2.2.out.2.2.2.output,H.2.2.2.out.2.2.2.size,H.2.2.2.out.2.2.2.block⟩⟩⟩
theorem qj4{o:Obj}(hn:n₁<=h)(hown:∀ g,vp.ownBlock=some g->n₁<=g/\g < h)(H:Sb n₁ h W3 vp vi u ps w.drew):Sb n₁ h W3 vp vi u ps (w.alloc o).drew:=qed (q7j hn hown (qj3 H))
theorem qks(hn:n₁<=h)(hown:∀ g,vp.ownBlock=some g->n₁<=g/\g < h)(hg:w.grownBy w' vp.ownBlock)(hr:xa n₁ w' vp ps)(H:Sb n₁ h W3 vp vi u ps w):Sb n₁ h W3 vp vi u ps w' :=
 qgq (fun b hb hne=>hg.block b (by have:=H.2.2.2.out.2.2.1;omega) (fun e=>hne e.symm)) hr hg.size ((Below.refl _ w).grown hg (by have:=H.2.2.2.out.2.2.1;omega) (fun k e=>(hown k e).1)) hown H
theorem qec{D:Nat}{u0 u1 u2:Value}(hn:n₁<=h)(hown:∀ g,vp.ownBlock=some g->n₁<=g/\g < h)(hD:h+1+1+1<=D)(H:Sb n₁ h W3 vp vi u ps w):Sb n₁ h W3 vp vi u ps (((w.setCell ⟨D,0,none⟩ u0).setCell ⟨D,1,none⟩ u1).setCell ⟨D,2,none⟩ u2):=by
 have far:∀ b,b≠D->(((w.setCell ⟨D,0,none⟩ u0).setCell ⟨D,1,none⟩ u1).setCell ⟨D,2,none⟩ u2).heap[b]?=w.heap[b]?:=fun b hb =>
  (Below.heap_setCell _ _ _ _ (by simp only;exact hb)).trans ((Below.heap_setCell _ _ _ _ (by simp only;exact hb)).trans (Below.heap_setCell _ _ _ _ (by simp only;exact hb)))
 exact qgq (fun b hb _=>far b (by omega)) (qy H.2.2.2.out.2.1 fun g e=>far g (by have:=hown g e;omega)) (by simp) ((((Below.refl _ w).setCell (p:=⟨D,0,none⟩) (by simp only;omega) _).setCell (p:=⟨D,1,none⟩) (by simp only;omega) _).setCell (p:=⟨D,2,none⟩) (by simp only;omega) _) hown H
theorem qnp(H:Sb n₁ h W3 vp vi u ps w):xa n₁ w vp ps:=H.2.2.2.out.2.1
theorem qcd{wd:Bool}{k:Int}{s:ByteArray}{v2:Value}{ss:List ByteArray}(hz:W3.heap.size=h+1+1+1)(hown:∀ g,vp.ownBlock=some g->n₁<=g/\g < h)
  (hA:RowP W3 h vp vi (.bool wd)) (hN:Row3 W3 (h+1) (.int .i64 k) (.string s) v2) (hR:RowP W3 (h+1+1) (.slice none 0 0) (.slice none 0 0) (.bool false)) (hS:ze n₁ W3 vi ss) (hap:∀ g,vp.ownBlock=some g->vi.ownBlock≠some g)
  (H:Sb n₁ h W3 vp vi u ps w):Mid n₁ h W3 w vp vi wd k s v2 ss:=by
 have hb:=H.2.2.2.out;have far:∀ b,h<=b->vp.ownBlock≠some b:=fun b hb e=>by have:=hown b e;omega
 exact⟨(hb.1 h (by omega) (far _ (by omega))).trans hA,(hb.1 _ (by omega) (far _ (by omega))).trans hN,(hb.1 _ (by omega) (far _ (by omega))).trans hR,qy hS fun g e=>hb.1 g (by have:=(World.ownsRow.lt hS g e).2;omega) (fun e2=>hap g e2 e),by have:=hb.2.2.1;omega,fun b h1 h2=>hb.1 b (by omega) h2,hb.2.2.2⟩
end
theorem qmd(W:World)(u:Value)(t:TypeId):∀ (j:Nat) (x:Value),[u][j]?=some x->(W.alloc (.cells #[u] t)).drew.cell? ((⟨W.heap.size,0,none⟩:Addr).add j)=some x :=
 fun j x hj=>(show(W.alloc (.cells #[u] t)).cell? _=_ from q1b W u t _ rfl j x hj)
theorem q57{n₁:Nat}{w:World}{g cap:Nat}{ps:List Value}{p:Value}(h:w.ownsRow n₁ 3 1 (.slice (some ⟨g,0,none⟩) (ps.length+1) cap) (ps.length+1) (ps++[p])):xa n₁ w (.slice (some ⟨g,0,none⟩) (ps.length+1) cap) (ps++[p]):=by
 have e:(ps++[p]).length=ps.length+1:=by simp
 unfold xa;rw[e];exact h
theorem q0r{n₁:Nat}{w:World}{g cap:Nat}{ss:List ByteArray}{x:ByteArray}(h:w.ownsRow n₁ 9 1 (.slice (some ⟨g,0,none⟩) ((ss.map Value.string).length+1) cap) ((ss.map Value.string).length+1) (ss.map Value.string++[.string x])):ze n₁ w (.slice (some ⟨g,0,none⟩) (ss++[x]).length cap) (ss++[x]):=by
 unfold ze;have e1:(ss++[x]).map Value.string=ss.map Value.string++[.string x]:=by simp
 have e2:((ss++[x]).map Value.string).length=(ss.map Value.string).length+1:=by simp
 have e3:(ss++[x]).length=(ss.map Value.string).length+1:=by simp
 rw[e2,e3,e1];exact h
theorem q11{vp:Value}{g n cap h z:Nat}(hg:vp.ownBlock=some g\/z<=g)(hz:h<=z):∀ g',(Value.slice (some ⟨g,0,none⟩) n cap).ownBlock=some g'->vp.ownBlock=some g'\/h<=g':=by
 intro g' e;simp only[Value.ownBlock,Option.some.injEq]at e;subst e;rcases hg with hg|hg
 ·exact .inl hg
 ·exact .inr (qo hz hg)
theorem qa9(n₁:Nat)(k:Int)(s:ByteArray)(a:Option Addr)(len cap i:Nat)(ap ai:Option Addr)(cp ci:Nat)(ps:List Value)(ss:List ByteArray)(wd:Bool)(W:World)(hn:n₁<=W.heap.size)
  (hp:xa n₁ W (.slice ap ps.length cp) ps) (hs:ze n₁ W (.slice ai ss.length ci) ss) (hpl:ps.length<=100000) (hsl:ss.length<=100000) (hlen:len<=maxLen) (_hi:i < len) (V:Bool) (hV:(zo k && decide (i+1=len))=V) (ss':List ByteArray) (hss:(if V=true then ss++[s] else ss)=ss') :
  Calls Tryz.prog 122 #[.agg #[.slice ap ps.length cp,.slice ai ss.length ci,.bool wd],.agg #[.int .i64 k,.string s,.slice a len cap],.int .i64 i] W
   (ql4 n₁ (.slice ap ps.length cp) (.slice ai ss.length ci) ps ss (.int .i64 i) ss' (k==7) W):=by
 unfold maxLen at hlen;obtain⟨iI,hI,hIz,hIs,hIb⟩:=info_parts qly;obtain⟨iS,hS,hSz,hSs,hSb⟩:=info_parts q69;have CB:=qh (fun w=>qbr k s a len cap w);have hap:=qh (km hp hs);have HX0:=qh hss;have HL1:Hid ((ps++[Value.int .i64 (i:Int)]).length=ps.length+1):=qh (by simp);clear hss;obtain⟨h,hh⟩:∃ h,W.heap.size=h:=⟨_,rfl⟩;have hownp:∀ g,(Value.slice ap ps.length cp).ownBlock=some g->n₁<=g/\g < h:=fun g e=>by rw[<-hh];exact World.ownsRow.lt hp g e
 have howns:∀ g,(Value.slice ai ss.length ci).ownBlock=some g->n₁<=g/\g < h:=fun g e=>by rw[<-hh];exact World.ownsRow.lt hs g e
 rw[hh]at hn;obtain⟨R,hR⟩:∃ R,zo k=R:=⟨_,rfl⟩;rw[hR]at CB hV;obtain⟨K7,h7⟩:∃ K7,(k==7)=K7:=⟨_,rfl⟩;go_enter Tryz.func122,Tryz.ntmps122
 go_wp2_with fail
 obtain⟨W3,hW3⟩:∃ W3,((W.alloc (.cells #[.slice ap ps.length cp,.slice ai ss.length ci,.bool wd] 85)).alloc (.cells #[.int .i64 k,.string s,.slice a len cap] 25)).alloc (.cells #[.slice none 0 0,.slice none 0 0,.bool false] 85)=W3:=⟨_,rfl⟩;have z3:W3.heap.size=h+1+1+1:=by rw[<-hW3];simp[hh]
 have k3:∀ b,b < h->W3.heap[b]?=W.heap[b]?:=fun b hb=>by
  rw[<-hW3];exact(Below.heap_alloc _ _ _ (by simp only[q6];omega)).trans ((Below.heap_alloc _ _ _ (by simp only[q6];omega)).trans (Below.heap_alloc _ _ _ (by omega)))
 have A3:RowP W3 h (.slice ap ps.length cp) (.slice ai ss.length ci) (.bool wd):=by
  rw[<-hW3,<-hh];exact(Below.heap_alloc _ _ _ (by simp only[q6];omega)).trans ((Below.heap_alloc _ _ _ (by simp only[q6];omega)).trans (qk _ _))
 have N3:Row3 W3 (h+1) (.int .i64 k) (.string s) (.slice a len cap):=by
  rw[<-hW3,<-hh];exact(Below.heap_alloc _ _ _ (by simp only[q6];omega)).trans (za (by simp))
 have R3:RowP W3 (h+1+1) (.slice none 0 0) (.slice none 0 0) (.bool false):=by
  rw[<-hW3,<-hh];exact za (by simp)
 have P3:xa n₁ W3 (.slice ap ps.length cp) ps:=qy hp fun g hg=>k3 g (by have:=hownp g hg;omega)
 have S3:ze n₁ W3 (.slice ai ss.length ci) ss:=qy hs fun g hg=>k3 g (by have:=howns g hg;omega)
 rw[hW3];have HW3:=qh k3;have HB3:Hid (Below n₁ W W3):=qh (by rw[<-hW3];exact(((Below.refl _ W).alloc (by omega) _).alloc (by simp only[q6];omega) _).alloc (by simp only[q6];omega) _);have Z3:=qh z3;have HA3:=qh A3;have HN3:=qh N3;have HR3:=qh R3;have HP3:=qh P3;have HS3:=qh S3;have HH:=qh hh;have H7:=qh h7;have HV:=qh hV;have HR:=qh hR;obtain⟨⟨a0,a1,a2⟩,_⟩:=A3.cells;obtain⟨⟨b0,b1,b2⟩,_⟩:=N3.cells;clear hW3 k3 z3 A3 N3 R3 P3 S3 hh hV hR hp hs;have a0':=fun o=>(World.cell?_alloc_past (w:=W3) o h 0 HA3.out.lt).trans a0
 have a1':=fun o=>(World.cell?_alloc_past (w:=W3) o h 1 HA3.out.lt).trans a1
 have b0':=fun o=>(World.cell?_alloc_past (w:=W3) o (h+1) 0 HN3.out.lt).trans b0
 have a0'':=fun o o'=>(World.cell?_alloc_past (w:=W3.alloc o) o' h 0 (by have:=HA3.out.lt;simp;omega)).trans (a0' o)
 have a1'':=fun o o'=>(World.cell?_alloc_past (w:=W3.alloc o) o' h 1 (by have:=HA3.out.lt;simp;omega)).trans (a1' o)
 have b0'':=fun o o'=>(World.cell?_alloc_past (w:=W3.alloc o) o' (h+1) 0 (by have:=HN3.out.lt;simp;omega)).trans (b0' o)
 go_upto_region 1 with fail
 go_cut [7] (fun v7 wx=>∃ D g cap',v7 = .pointer (some ⟨D,0,none⟩)/\Hid (MidV n₁ h W wx D (.slice (some ⟨g,0,none⟩) (ps++[Value.int .i64 i]).length cap') (.slice ap ps.length cp) (.slice ai ss.length ci) ps ss (Value.int .i64 i) wd K7 k s (.slice a len cap)))
 case first =>
  have S0:Sb n₁ h W3 (.slice ap ps.length cp) (.slice ai ss.length ci) (.int .i64 k) ps W3:=⟨a0,a1,b0,qh ⟨fun _ _ _=>rfl,HP3.out,by have:=Z3.out;omega,Below.refl _ _⟩⟩;have S1:=qed S0;clear a0 a1 a2 b0 b1 b2
  go_region_held3 (fun w'=>w'.cell? ⟨h,0,none⟩=some (.slice ap ps.length cp)/\w'.cell? ⟨h,1,none⟩=some (.slice ai ss.length ci)/\w'.cell? ⟨h+1,0,none⟩=some (.int .i64 k)/\Hid (qns n₁ h W3 (.slice ap ps.length cp) ps w'))
   (first|with_reducible exact S1|with_reducible exact S6|(with_reducible refine qj4 hn hownp ?_;with_reducible assumption)|(with_reducible refine q7j hn hownp ?_;with_reducible assumption)|exact qec hn hownp (by have:=Z3.out;have:=S6.2.2.2.out.2.2.1;omega) S6|exact qec hn hownp (by have:=Z3.out;have:=S6.2.2.2.out.2.2.1;omega) (q7j hn hownp S6))
   (first
    |(refine q7p _ rfl _ _ 83 rfl n₁ 3 iI _ 8 Tryz.underlying83 hI hIz hIs hIb rfl (.slice ap ps.length cp) ps rfl (qnp (by with_reducible assumption)) _ _ (.int .i64 i) rfl (by first|with_reducible exact qmd _ _ _|with_reducible exact qmc _ _ _ _|with_reducible exact qmb _ _ _ _) rfl (by unfold maxLen;omega) (by omega) (by have:=Z3.out;simp;omega) ?_;intro g6 cap6 w6 Q6 P6 G6 hg6;have S6:=qks hn hownp G6 P6 (by with_reducible assumption);first|(with_reducible have D6:=(qky (Nat.le_of_eq Z3.out.symm) hownp G6).cells;obtain⟨⟨f0,f1,f2⟩,f3,f4,f5⟩:=D6)|(with_reducible have D6:=(qkx (Nat.le_of_eq Z3.out.symm) hownp G6).cells;obtain⟨⟨f0,f1,f2⟩,f3,f4,f5⟩:=D6)|skip))
  all_goals (try go_wp2)
  all_goals go_meet
  ·refine⟨_,g6,cap6,rfl,qh ?_⟩
   rw[HL1.out];exact(qo0 hn HB3.out (Nat.le_of_eq Z3.out.symm) HW3.out (qcd Z3.out hownp HA3.out HN3.out HR3.out HS3.out hap.out S6) (q57 Q6) P6 (q11 hg6 (by have:=Z3.out;simp;omega)))
  ·refine⟨_,g6,cap6,rfl,qh ?_⟩
   rw[HL1.out];exact(qng hn HB3.out (Nat.le_of_eq Z3.out.symm) HW3.out (qcd Z3.out hownp HA3.out HN3.out HR3.out HS3.out hap.out S6) (qky (Nat.le_of_eq Z3.out.symm) hownp G6) (by have:=Z3.out;omega) (q57 Q6) P6 (q11 hg6 (by have:=Z3.out;simp;omega)))
  ·refine⟨_,g6,cap6,rfl,qh ?_⟩
   rw[HL1.out];exact(qng hn HB3.out (Nat.le_of_eq Z3.out.symm) HW3.out (qcd Z3.out hownp HA3.out HN3.out HR3.out HS3.out hap.out S6) (qkx (Nat.le_of_eq Z3.out.symm) hownp G6) (by have:=Z3.out;omega) (q57 Q6) P6 (q11 hg6 (by have:=Z3.out;simp;omega)))
 case rest =>
  obtain⟨D,g,cap',rfl,hM⟩:=hcut;clear a0 a1 a2 b0 b1 b2;obtain⟨⟨n0,n1,n2⟩,_⟩:=hM.out.n.cells
  go_wp2_with fail
  refine(CB.out _).mono ?_;rintro e w8⟨rfl,hb8⟩;clear n0 n1 n2 CB;have M8:=qh (hM.out.later hb8 (by have:=hM.out.r.lt;omega) hn);clear hb8 hM;obtain⟨⟨n0,n1,n2⟩,_⟩:=M8.out.n.cells;obtain⟨⟨d0,d1,d2⟩,df0,df1,df2⟩:=M8.out.d.cells;obtain⟨⟨a0,a1,a2⟩,_⟩:=M8.out.a.cells;obtain⟨⟨r0,r1,r2⟩,rf0,rf1,rf2⟩:=M8.out.r.cells
  cases R with
  |false =>
   have HXs:Hid (ss'=ss):=qh (by rw[<-HX0.out,qd (by rw[<-HV.out];simp)]);clear HV HX0;go_wp2;refine q58 (RowP.put M8.out.r _ _ _) rfl rfl rfl ?_;rw[HXs.out,H7.out,<-HL1.out];refine q93 M8.out HH.out (fun b _ _ hb _=>?_) ?_ ((((Below.refl n₁ w8).setCell (p:=⟨h+1+1,0,none⟩) (by simp only;omega) _).setCell (p:=⟨h+1+1,1,none⟩) (by simp only;omega) _).setCell (p:=⟨h+1+1,2,none⟩) (by simp only;omega) _) ?_ ?_ hownp hap.out (fun g e=>.inl e)
   ·exact(Below.heap_setCell _ _ _ _ (by simp only;omega)).trans ((Below.heap_setCell _ _ _ _ (by simp only;omega)).trans (Below.heap_setCell _ _ _ _ (by simp only;omega)))
   ·exact Nat.le_of_eq (by rw[qs,qs,qs])
   ·exact qy M8.out.s fun g e=>(Below.heap_setCell _ _ _ _ (by have:=howns g e;simp only;omega)).trans ((Below.heap_setCell _ _ _ _ (by have:=howns g e;simp only;omega)).trans (Below.heap_setCell _ _ _ _ (by have:=howns g e;simp only;omega)))
   ·exact qy M8.out.s fun g e=>(Below.heap_setCell _ _ _ _ (by have:=howns g e;simp only;omega)).trans ((Below.heap_setCell _ _ _ _ (by have:=howns g e;simp only;omega)).trans (Below.heap_setCell _ _ _ _ (by have:=howns g e;simp only;omega)))
  |true =>
   by_cases hil:i+1=len
   ·have hc:((i:Int)==(len:Int) - 1)=true:=by rw[beq_iff_eq];omega
    have HXs:Hid (ss'=ss++[s]):=qh (by rw[<-HX0.out,qj (by rw[<-HV.out,decide_eq_true hil];rfl)]);have HIL:=qh hil;clear HV HX0 hil;have z8:h+1+1+1 < w8.heap.size+1:=by have:=M8.out.d.lt;have:=M8.out.z;omega
    have Z8:=qh z8;clear z8
    go_wp2_with (at_builtin;refine q6g _ rfl _ _ 42 rfl n₁ 9 iS _ 16 Tryz.underlying42 hS hSz hSs hSb rfl (.slice ai ss.length ci) (ss.map Value.string) rfl (qy M8.out.s fun g e=>Below.heap_alloc _ _ _ (World.ownsRow.lt M8.out.s g e).2) _ _ (.string s) rfl (q1b _ _ _ _ rfl) rfl (by simp only[qx];unfold maxLen;omega) (by simp only[qx];omega) (by have:=Z8.out;simp only[q6];omega) ?_;intro g9 cap9 w9 Q9 P9 G9 hg9;have D9:=qh (show RowP w9 D _ _ _ from(G9.block D (by have:=M8.out.d.lt;simp only[q6];omega) (fun e=>by have:=howns D e.symm;have:=M8.out.z;omega)).trans ((Below.heap_alloc _ _ _ M8.out.d.lt).trans M8.out.d));have R9:=qh (show RowP w9 (h+1+1) _ _ _ from(G9.block (h+1+1) (by have:=M8.out.r.lt;simp only[q6];omega) (fun e=>by have:=howns _ e.symm;omega)).trans ((Below.heap_alloc _ _ _ M8.out.r.lt).trans M8.out.r));obtain⟨⟨x0,x1,x2⟩,xf0,xf1,xf2⟩:=D9.out.cells;obtain⟨⟨y0,y1,y2⟩,yf0,yf1,yf2⟩:=R9.out.cells;have hDh:D≠h+1+1:=by have:=M8.out.z;omega)
    have Q9':Hid (ze n₁ w9 (.slice (some ⟨g9,0,none⟩) (ss++[s]).length cap9) (ss++[s])):=qh (q0r Q9);have P9':Hid (ze n₁ w9 (.slice ai ss.length ci) ss):=qh P9;have e9:ss.length+1=(ss++[s]).length:=by simp
    refine q58 (RowP.put (show RowP (w9.setCell ⟨D,1,none⟩ _) (h+1+1) _ _ _ from(Below.heap_setCell _ _ _ _ (by simp only;omega)).trans R9.out) _ _ _) rfl rfl rfl ?_;rw[HXs.out,H7.out,<-HL1.out,e9]
    have far:∀ (F:World) (v9 u0 u1 u2:Value),F=((((w9.setCell ⟨D,1,none⟩ v9).setCell ⟨h+1+1,0,none⟩ u0).setCell ⟨h+1+1,1,none⟩ u1).setCell ⟨h+1+1,2,none⟩ u2)->∀ b,b≠D->b≠h+1+1->F.heap[b]?=w9.heap[b]?:=fun F v9 u0 u1 u2 e b h1 h2=>by
     rw[e];exact(Below.heap_setCell _ _ _ _ (by simp only;exact h2)).trans ((Below.heap_setCell _ _ _ _ (by simp only;exact h2)).trans ((Below.heap_setCell _ _ _ _ (by simp only;exact h2)).trans (Below.heap_setCell _ _ _ _ (by simp only;exact h1))))
    refine q93 M8.out HH.out (fun b hb h1 h2 h3=>(far _ _ _ _ _ rfl b h1 h2).trans ((G9.block b (by simp only[q6];omega) (fun e=>h3 e.symm)).trans (Below.heap_alloc _ _ _ hb))) ?_ ((((((Below.refl n₁ w8).alloc (by have:=Z8.out;omega) _).grown G9 (by have:=Z8.out;simp only[q6];omega) (fun k e=>(howns k e).1)).setCell (p:=⟨D,1,none⟩) (by have:=M8.out.z;simp only;omega) _).setCell (p:=⟨h+1+1,0,none⟩) (by simp only;omega) _).setCell (p:=⟨h+1+1,1,none⟩) (by simp only;omega) _|>.setCell (p:=⟨h+1+1,2,none⟩) (by simp only;omega) _) ?_ ?_ hownp hap.out ?_
    ·have:=G9.size
     simp only[q6]at this;rw[qs,qs,qs,qs];omega
    ·exact qy Q9'.out fun g' e=>far _ _ _ _ _ rfl g' (q2i Q9'.out D9.out g' e) (q2i Q9'.out R9.out g' e)
    ·exact qy P9'.out fun g' e=>far _ _ _ _ _ rfl g' (q2i P9'.out D9.out g' e) (q2i P9'.out R9.out g' e)
    ·exact q11 hg9 (by rw[HH.out];simp only[q6];have:=M8.out.r.lt;omega)
   ·have hc:((i:Int)==(len:Int) - 1)=false:=by rw[qc];omega
    have HXs:Hid (ss'=ss):=qh (by rw[<-HX0.out,qd (by rw[<-HV.out,decide_eq_false hil];simp)]);clear HV HX0 hil;go_wp2;refine q58 (RowP.put M8.out.r _ _ _) rfl rfl rfl ?_;rw[HXs.out,H7.out,<-HL1.out];refine q93 M8.out HH.out (fun b _ _ hb _=>?_) ?_ ((((Below.refl n₁ w8).setCell (p:=⟨h+1+1,0,none⟩) (by simp only;omega) _).setCell (p:=⟨h+1+1,1,none⟩) (by simp only;omega) _).setCell (p:=⟨h+1+1,2,none⟩) (by simp only;omega) _) ?_ ?_ hownp hap.out (fun g e=>.inl e)
    ·exact(Below.heap_setCell _ _ _ _ (by simp only;omega)).trans ((Below.heap_setCell _ _ _ _ (by simp only;omega)).trans (Below.heap_setCell _ _ _ _ (by simp only;omega)))
    ·exact Nat.le_of_eq (by rw[qs,qs,qs])
    ·exact qy M8.out.s fun g e=>(Below.heap_setCell _ _ _ _ (by have:=howns g e;simp only;omega)).trans ((Below.heap_setCell _ _ _ _ (by have:=howns g e;simp only;omega)).trans (Below.heap_setCell _ _ _ _ (by have:=howns g e;simp only;omega)))
    ·exact qy M8.out.s fun g e=>(Below.heap_setCell _ _ _ _ (by have:=howns g e;simp only;omega)).trans ((Below.heap_setCell _ _ _ _ (by have:=howns g e;simp only;omega)).trans (Below.heap_setCell _ _ _ _ (by have:=howns g e;simp only;omega)))
end Go.Proofs.YtkckddojlignpaaGreatDoor
namespace Go.Proofs.YtkckddojlignpaaGreatDoor
open Go.RowKit Go.Shelf
attribute [local go_sem] Oper.semAt_some
theorem qcl{w:World}{b o:Nat}{v:Value}(h:w.cell? ⟨b,o,none⟩=some v):∃ c t z,w.heap[b]?=some (.cells c t z):=by
 unfold World.cell? at h
 split at h
 ·rename_i hh
  exact⟨_,_,_,hh⟩
 ·simp at h
def Sup(w W:World):Prop:=∀ (b:Nat) (c:Array Value) (t:TypeId) (z:Nat×Nat),w.heap[b]?=some (Obj.cells c t z)->W.heap[b]?=some (Obj.cells c t z)
theorem Sup.cell{w W:World}(h:Sup w W){b o:Nat}{v:Value}(hc:w.cell? ⟨b,o,none⟩=some v):W.cell? ⟨b,o,none⟩=some v:=by
 obtain⟨c,t,z,e⟩:=qcl hc;rw[<-hc];exact World.cell?_of_block (w:=w) ((h b c t z e).trans e.symm)
theorem NdR.sup{w W:World}(hs:Sup w W){t:Nd}{v0 v1 v2:Value}(h:NdR w t v0 v1 v2):NdR W t v0 v1 v2:=by
 induction h with
 |mk k s l a cap b o f0 f1 f2 h1 hl hc ha h0 h1' h2 _ ih =>
  exact .mk k s l a cap b o f0 f1 f2 h1 hl hc ha (fun i hi=>hs.cell (h0 i hi)) (fun i hi=>hs.cell (h1' i hi)) (fun i hi=>hs.cell (h2 i hi)) ih
def Kc(O:World->Nat->Prop)(W W':World):Prop:=W.heap.size<=W'.heap.size/\(∀ (b:Nat) (c:Array Value) (t:TypeId) (z:Nat×Nat),¬ O W b->W.heap[b]?=some (Obj.cells c t z)->W'.heap[b]?=some (Obj.cells c t z))/\∀ b,O W' b->O W b\/W.heap.size<=b
def Kv(O:World->Nat->Prop)(vp vi:Value)(W W':World):Prop:=W.heap.size<=W'.heap.size/\(∀ (b:Nat) (c:Array Value) (t:TypeId) (z:Nat×Nat),¬ O W b->vp.ownBlock≠some b->vi.ownBlock≠some b->W.heap[b]?=some (Obj.cells c t z)->W'.heap[b]?=some (Obj.cells c t z))/\∀ b,O W' b->O W b\/W.heap.size<=b
def Off(O:World->Nat->Prop)(W:World)(v:Value):Prop:=∀ g,v.ownBlock=some g->¬ O W g
def q7k(l:Nat):Value:=.func (.yield l) #[] #[]
abbrev q7l(yb vb:Nat):Value:=.func (.func 121) #[] #[.pointer (some ⟨yb,0,none⟩),.pointer (some ⟨vb,0,none⟩)]
structure Env(O:World->Nat->Prop)(n₁ yb vb l:Nat)(w₀ W:World):Prop where
 y:W.heap[yb]?=some (.cells #[q7k l] 144 (0,0))
 v:W.heap[vb]?=some (.cells #[q7l yb vb] 144 (0,0))
 yl:yb < n₁
 vl:vb < n₁
 yx:¬ O W yb
 vx:¬ O W vb
 s:Sup w₀ W
 z0:w₀.heap.size<=n₁
 x0:∀ b,O W b->w₀.heap.size<=b
 z:n₁<=W.heap.size
section
variable {O:World->Nat->Prop} {n₁ yb vb l:Nat} {w₀ W W':World} {vp vi:Value}
theorem Off.kv(hO:Off O W vi)(hz:∀ g,vi.ownBlock=some g->g < W.heap.size)(h:∀ b,O W' b->O W b\/W.heap.size<=b):Off O W' vi:=fun g e hx=>by
 rcases h g hx with h1|h1
 ·exact hO g e h1
 ·have:=hz g e;omega
theorem Env.kv(E:Env O n₁ yb vb l w₀ W)(hp:∀ g,vp.ownBlock=some g->n₁<=g)(hi:∀ g,vi.ownBlock=some g->n₁<=g)(h:Kv O vp vi W W'):Env O n₁ yb vb l w₀ W':=by
 have far:∀ b,b < n₁->vp.ownBlock≠some b/\vi.ownBlock≠some b:=fun b hb=>⟨fun e=>by have:=hp b e;omega,fun e=>by have:=hi b e;omega⟩
 have z0:=E.z;have z1:=E.yl;have z2:=E.vl;have z3:=E.z0;refine⟨h.2.1 _ _ _ _ E.yx (far _ E.yl).1 (far _ E.yl).2 E.y,h.2.1 _ _ _ _ E.vx (far _ E.vl).1 (far _ E.vl).2 E.v,E.yl,E.vl,fun hx=>?_,fun hx=>?_,fun b c t z e=>?_,E.z0,fun b hx=>?_,qo E.z h.1⟩
 ·rcases h.2.2 _ hx with h1|h1
  ·exact E.yx h1
  ·omega
 ·rcases h.2.2 _ hx with h1|h1
  ·exact E.vx h1
  ·omega
 ·have hb:b < w₀.heap.size:=zg e
  exact h.2.1 b c t z (fun hx=>by have:=E.x0 b hx;omega) (far b (by omega)).1 (far b (by omega)).2 (E.s b c t z e)
 ·rcases h.2.2 _ hx with h1|h1
  ·exact E.x0 b h1
  ·omega
theorem Kc.kv(h:Kc O W W'):Kv O vp vi W W':=⟨h.1,fun b c t z h1 _ _ e=>h.2.1 b c t z h1 e,h.2.2⟩
theorem Kv.trans{W'':World}(a:Kv O vp vi W W')(b:Kv O vp vi W' W''):Kv O vp vi W W'':=⟨qo a.1 b.1,fun k c t z h1 h2 h3 e=>b.2.1 k c t z (fun hx=>by
  rcases a.2.2 k hx with h4|h4
  ·exact h1 h4
  ·have:=zg e;omega) h2 h3 (a.2.1 k c t z h1 h2 h3 e),fun k hx=>by
  have:=a.1;rcases b.2.2 k hx with h4|h4
  ·exact a.2.2 k h4
  ·exact .inr (by omega)⟩
theorem Kv.alloc(o:Obj)(hO:∀ b,O (W.alloc o) b->O W b):Kv O vp vi W (W.alloc o):=⟨by simp,fun b c t z _ _ _ e=>(Below.heap_alloc _ _ _ (zg e)).trans e,fun b hx=>.inl (hO b hx)⟩
theorem Kv.drew(hO:∀ b,O W.drew b->O W b):Kv O vp vi W W.drew:=⟨q9 _,fun _ _ _ _ _ _ _ e=>e,fun b hx=>.inl (hO b hx)⟩
end
structure Given(n₁:Nat)(W:World)(it:It)(vp vi v0 v1 v2:Value)(ps:List Value):Prop where
 d:it.d=ps.length
 p:xa n₁ W vp ps
 i:ze n₁ W vi it.ins
 t:NdR W it.t v0 v1 v2
theorem q3c{w w':World}{base:Nat}{e:TypeId}{v:Value}{xs:List Value}(h:w.ownsRow base e 1 v xs.length xs)(hk:∀ (g:Nat) (c:Array Value) (t:TypeId) (z:Nat×Nat),v.ownBlock=some g->w.heap[g]?=some (Obj.cells c t z)->w'.heap[g]?=some (Obj.cells c t z)):w'.ownsRow base e 1 v xs.length xs:=by
 refine⟨h.1,?_⟩;rcases h.2 with hn|⟨g,cap,cur,hv,hb,hg,rest⟩
 ·exact .inl hn
 ·exact .inr ⟨g,cap,cur,hv,hb,hk g _ _ _ (by rw[hv];rfl) hg,rest⟩
theorem q74{w6 w7:World}{base:Nat}{e:TypeId}{v v':Value}{xs ys:List Value}(h6:w6.ownsRow base e 1 v xs.length xs)(h6':w6.ownsRow base e 1 v' (xs++ys).length (xs++ys))(h7:w7.ownsRow base e 1 v' (xs++ys).length (xs++ys))
  (hk:∀ (g:Nat) (c:Array Value) (t:TypeId) (z:Nat×Nat),v.ownBlock=some g->v'.ownBlock≠some g->w6.heap[g]?=some (Obj.cells c t z)->w7.heap[g]?=some (Obj.cells c t z)):w7.ownsRow base e 1 v xs.length xs:=by
 rcases h6.2 with hn|⟨g,cap,cur,rfl,hb,hg,hnn,hm,hs,htk⟩
 ·exact⟨h6.1,.inl hn⟩
 ·by_cases hv:v'.ownBlock=some g
  ·rcases h6'.2 with ⟨rfl,_⟩|⟨g',cap',cur',rfl,hb',hg',hn',hm',hs',htk'⟩
   ·cases hv
   ·simp only[Value.ownBlock,Option.some.injEq]at hv
    subst hv;rw[hg]at hg';obtain rfl:=(Obj.cells.inj (zn hg')).1;obtain rfl:cap=cap':=by omega
    exact qaz h6 h7
  ·exact q3c h6 fun g2 c t z e1 e2=>by
    have:g2=g:=by simp only[Value.ownBlock,Option.some.injEq]at e1;exact e1.symm
    subst this;exact hk g2 c t z rfl hv e2
theorem q9h{n₁:Nat}{w6 w7:World}{v v':Value}{ss ss' ys:List ByteArray}(hys:ss'=ss++ys)(h6:ze n₁ w6 v ss)(h6':ze n₁ w6 v' ss')(h7:ze n₁ w7 v' ss')
  (hk:∀ (g:Nat) (c:Array Value) (t:TypeId) (z:Nat×Nat),v.ownBlock=some g->v'.ownBlock≠some g->w6.heap[g]?=some (Obj.cells c t z)->w7.heap[g]?=some (Obj.cells c t z)):ze n₁ w7 v ss:=by
 subst hys;unfold ze at *;rw[List.map_append]at h6' h7;exact q74 h6 h6' h7 hk
structure Fr(O:World->Nat->Prop)(n₁ yb vb l:Nat)(w₀ W:World)(h:Nat)(vp vi:Value)(ps:List Value)(ss:List ByteArray)(wd:Bool)(k:Int)(s:ByteArray)(v2:Value)(w:World):Prop where
 e:Env O n₁ yb vb l w₀ w
 kv:Kv O vp vi W w
 a:RowP w h vp vi (.bool wd)
 n:Row3 w (h+1) (.int .i64 k) (.string s) v2
 p:xa n₁ w vp ps
 i:ze n₁ w vi ss
 op:Off O w vp
 oi:Off O w vi
 oh:¬ O w h
 on:¬ O w (h+1)
section
variable {O:World->Nat->Prop} {n₁ yb vb l:Nat} {w₀ W:World} {h:Nat} {vp vi:Value} {ps:List Value} {ss:List ByteArray} {wd:Bool} {k:Int} {s:ByteArray} {v2:Value} {w w':World}
theorem Fr.step(F:Fr O n₁ yb vb l w₀ W h vp vi ps ss wd k s v2 w)(_hh:n₁<=h)(hp:∀ g,vp.ownBlock=some g->n₁<=g/\g < h)(hi:∀ g,vi.ownBlock=some g->n₁<=g/\g < h)(hk:Kv O vp vi w w')(p:xa n₁ w' vp ps)(i:ze n₁ w' vi ss):Fr O n₁ yb vb l w₀ W h vp vi ps ss wd k s v2 w':=by
 have far:∀ b,h<=b->vp.ownBlock≠some b/\vi.ownBlock≠some b:=fun b hb=>⟨fun e=>by have:=hp b e;omega,fun e=>by have:=hi b e;omega⟩
 have f0:=far h (q9 _);have f1:=far (h+1) (by omega);have l0:=F.a.lt;have l1:=F.n.lt;refine⟨F.e.kv (fun g e=>(hp g e).1) (fun g e=>(hi g e).1) hk,F.kv.trans hk,hk.2.1 _ _ _ _ F.oh f0.1 f0.2 F.a,hk.2.1 _ _ _ _ F.on f1.1 f1.2 F.n,p,i,F.op.kv (fun g e=>by have:=hp g e;omega) hk.2.2,F.oi.kv (fun g e=>by have:=hi g e;omega) hk.2.2,fun hx=>?_,fun hx=>?_⟩
 ·rcases hk.2.2 _ hx with h1|h1
  ·exact F.oh h1
  ·omega
 ·rcases hk.2.2 _ hx with h1|h1
  ·exact F.on h1
  ·omega
theorem Fr.alloc(F:Fr O n₁ yb vb l w₀ W h vp vi ps ss wd k s v2 w)(hh:n₁<=h)(hp:∀ g,vp.ownBlock=some g->n₁<=g/\g < h)(hi:∀ g,vi.ownBlock=some g->n₁<=g/\g < h)(o:Obj)(hO:∀ b,O (w.alloc o) b->O w b):Fr O n₁ yb vb l w₀ W h vp vi ps ss wd k s v2 (w.alloc o) :=
 F.step hh hp hi (Kv.alloc o hO) (qy F.p fun g e=>Below.heap_alloc _ _ _ (World.ownsRow.lt F.p g e).2) (qy F.i fun g e=>Below.heap_alloc _ _ _ (World.ownsRow.lt F.i g e).2)
theorem Fr.drew(F:Fr O n₁ yb vb l w₀ W h vp vi ps ss wd k s v2 w)(hh:n₁<=h)(hp:∀ g,vp.ownBlock=some g->n₁<=g/\g < h)(hi:∀ g,vi.ownBlock=some g->n₁<=g/\g < h)(hO:∀ b,O w.drew b->O w b):Fr O n₁ yb vb l w₀ W h vp vi ps ss wd k s v2 w.drew :=
 F.step hh hp hi (Kv.drew hO) F.p F.i
theorem Fr.cells(F:Fr O n₁ yb vb l w₀ W h vp vi ps ss wd k s v2 w){X:Nat}{u0 u1 u2:Value}(x:Row3 w X u0 u1 u2) :
  w.cell? ⟨vb,0,none⟩=some (q7l yb vb)/\w.cell? ⟨h,0,none⟩=some vp/\w.cell? ⟨h,1,none⟩=some vi/\w.cell? ⟨h,2,none⟩=some (.bool wd)/\w.cell? ⟨h+1,0,none⟩=some (.int .i64 k)/\w.cell? ⟨h+1,1,none⟩=some (.string s)/\w.cell? ⟨h+1,2,none⟩=some v2 /\
   w.cell? ⟨X,0,none⟩=some u0/\w.cell? ⟨X,1,none⟩=some u1/\w.cell? ⟨X,2,none⟩=some u2 :=
 ⟨qm _ _ _ _ _ _ F.e.v,F.a.cells.1.1,F.a.cells.1.2.1,F.a.cells.1.2.2,F.n.cells.1.1,F.n.cells.1.2.1,F.n.cells.1.2.2,x.cells.1.1,x.cells.1.2.1,x.cells.1.2.2⟩
theorem Kv.down(hz:w.heap.size<=w'.heap.size)(hk:∀ b,b < w.heap.size->vp.ownBlock≠some b->vi.ownBlock≠some b->w'.heap[b]?=w.heap[b]?)(hO:∀ b,O w' b->O w b):Kv O vp vi w w' :=
 ⟨hz,fun b _ _ _ _ h1 h2 e=>(hk b (zg e) h1 h2).trans e,fun b hx=>.inl (hO b hx)⟩
theorem Kv.up{w5 w6 w7:World}{vp' vi':Value}(h56:Kv O vp vi w5 w6)(h67:Kv O vp' vi' w6 w7)(hp:∀ g,vp'.ownBlock=some g->vp.ownBlock=some g\/w5.heap.size<=g)(hi:∀ g,vi'.ownBlock=some g->vi.ownBlock=some g\/w5.heap.size<=g):Kv O vp vi w5 w7 :=
 ⟨qo h56.1 h67.1,fun b c t z h1 h2 h3 e=>h67.2.1 b c t z (fun hx=>by
  rcases h56.2.2 b hx with h4|h4
  ·exact h1 h4
  ·have:=zg e;omega) (fun e2=>by
  rcases hp b e2 with h4|h4
  ·exact h2 h4
  ·have:=zg e;omega) (fun e2=>by
  rcases hi b e2 with h4|h4
  ·exact h3 h4
  ·have:=zg e;omega) (h56.2.1 b c t z h1 h2 h3 e),fun b hx=>by
  have:=h56.1;rcases h67.2.2 b hx with h4|h4
  ·exact h56.2.2 b h4
  ·exact .inr (by omega)⟩
end
theorem qgu(all:List It)(O:World->Nat->Prop)(n₁ yb vb l:Nat)(w₀:World)(J Jx:List It->World->Prop)
  (hJN:∀ pre W,J pre W->pre.length<=90000)
  (hJ:∀ pre W W',J pre W->Below n₁ W W'->(∀ b,O W b->W'.heap[b]?=W.heap[b]?)->J pre W')
  (hO:∀ A B,Below n₁ A B->∀ b,O B b->O A b)
  (hJO:∀ pre W,J pre W->∀ b,O W b->b < W.heap.size)
  (hY:∀ m pre it W vp vi v0 v1 v2 ps,J pre W->pre++[it] <+: all->ps.length<=pre.length->Given n₁ W it vp vi v0 v1 v2 ps->YieldAt Fence.wide m Tryz.prog l #[.agg #[vp,vi,.bool it.wd],.agg #[v0,v1,v2]] W
   (fun e W'=>(e = .returned (.bool true)/\J (pre++[it]) W'/\Kc O W W')\/(e = .returned (.bool false)/\Jx (pre++[it]) W'/\Kc O W W')))
  (n:Nat):∀ (t:Nd) (W:World) (vp vi v0 v1 v2:Value) (ps:List Value) (ss:List ByteArray) (wd:Bool) (pre:List It),t.sz<=n->NdR w₀ t v0 v1 v2->Env O n₁ yb vb l w₀ W ->
   xa n₁ W vp ps->ze n₁ W vi ss->ps.length<=pre.length->ss.length<=ps.length->J pre W->Off O W vp->Off O W vi->pre++zq ps.length ss wd t <+: all ->
   Calls Tryz.prog 121 #[.agg #[vp,vi,.bool wd],.agg #[v0,v1,v2],.pointer (some ⟨yb,0,none⟩),.pointer (some ⟨vb,0,none⟩)] W fun e W' =>
    ∃ B:Bool,e = .returned (.bool B)/\Kv O vp vi W W'/\xa n₁ W' vp ps/\ze n₁ W' vi ss/\(if B=true then J (pre++zq ps.length ss wd t) W' else ∃ q,q <+: pre++zq ps.length ss wd t/\Jx q W'):=by
 induction n with
 |zero=>intro t W vp vi v0 v1 v2 ps ss wd pre h;cases t;simp only[Nd.sz]at h;omega
 |succ n ih =>
  intro t W vp vi v0 v1 v2 ps ss wd pre hsz ht E hp hi hd hsd hj hop hoi hall;obtain⟨k,s,l',a,cap,rfl,rfl,rfl,rfl,hs,hl⟩:=ht.form;obtain⟨ap,cp,rfl⟩:=zr hp;obtain⟨ai,ci,rfl⟩:=zr hi;obtain⟨L,hL⟩:∃ L,(ss.map Value.string).length=L:=⟨_,rfl⟩;rw[hL]at hi hoi ⊢;rw[qx]at hL;subst hL;unfold maxLen at hl;refine(callsIn_wide (n:=3)).1 ?_;obtain⟨h,hh⟩:∃ h,W.heap.size=h:=⟨_,rfl⟩;obtain⟨W2,hW2⟩:∃ W2,(W.alloc (.cells #[.slice ap ps.length cp,.slice ai ss.length ci,.bool wd] 85)).alloc (.cells #[.int .i64 k,.string s,.slice a l'.length cap] 25)=W2:=⟨_,rfl⟩;have B1:Below n₁ W (W.alloc (.cells #[.slice ap ps.length cp,.slice ai ss.length ci,.bool wd] 85)):=(Below.refl _ W).alloc E.z _;have B2:Below n₁ W W2:=by rw[<-hW2];exact B1.alloc (by have:=E.z;simp only[q6];omega) _
  have K2:Kv O (.slice ap ps.length cp) (.slice ai ss.length ci) W W2:=by
   rw[<-hW2];exact(Kv.alloc _ (hO _ _ B1)).trans (Kv.alloc _ (hO _ _ ((Below.refl _ _).alloc (by have:=E.z;simp only[q6];omega) _)))
  have hjo:=hJO pre W hj;have O2:∀ b,O W2 b->b < h:=fun b hb=>by rw[<-hh];exact hjo b (hO _ _ B2 b hb)
  have OP2:Off O W2 (.slice ap ps.length cp):=fun g e hx=>hop g e (hO _ _ B2 g hx)
  have OI2:Off O W2 (.slice ai ss.length ci):=fun g e hx=>hoi g e (hO _ _ B2 g hx)
  have OH2:¬ O W2 h:=fun hx=>by have:=O2 _ hx;omega
  have ON2:¬ O W2 (h+1):=fun hx=>by have:=O2 _ hx;omega
  have hownp:∀ g,(Value.slice ap ps.length cp).ownBlock=some g->n₁<=g/\g < h:=fun g e=>by rw[<-hh];exact World.ownsRow.lt hp g e
  have howns:∀ g,(Value.slice ai ss.length ci).ownBlock=some g->n₁<=g/\g < h:=fun g e=>by rw[<-hh];exact World.ownsRow.lt hi g e
  have E2:=E.kv (fun g e=>(hownp g e).1) (fun g e=>(howns g e).1) K2;have old2:∀ b,b < h->W2.heap[b]?=W.heap[b]?:=fun b hb=>by rw[<-hW2];exact(Below.heap_alloc _ _ _ (by simp only[q6];omega)).trans (Below.heap_alloc _ _ _ (by omega))
  have P2:xa n₁ W2 (.slice ap ps.length cp) ps:=qy hp fun g e=>old2 g (hownp g e).2
  have S2:ze n₁ W2 (.slice ai ss.length ci) ss:=qy hi fun g e=>old2 g (howns g e).2
  have A2:RowP W2 h (.slice ap ps.length cp) (.slice ai ss.length ci) (.bool wd):=by rw[<-hW2,<-hh];exact(Below.heap_alloc _ _ _ (by simp only[q6];omega)).trans (qk _ _)
  have N2:Row3 W2 (h+1) (.int .i64 k) (.string s) (.slice a l'.length cap):=by rw[<-hW2,<-hh];exact za (by simp)
  have J2:=hJ pre W W2 hj B2 (fun b hb=>old2 b (by have:=hjo b hb;omega));obtain⟨fn,tmps,assign,body,hy,hR⟩:=hY 2 pre ⟨ps.length,ss,wd,.mk k s l'⟩ W2 (.slice ap ps.length cp) (.slice ai ss.length ci) (.int .i64 k) (.string s) (.slice a l'.length cap) ps J2 (List.IsPrefix.trans ⟨xq (ps.length+1) ss (if zo k then ss++[s] else ss) (k==7) l',by simp only[zq];simp⟩ hall) hd ⟨rfl,P2,S2,ht.sup E2.s⟩;have y2:W2.cell? ⟨yb,0,none⟩=some (q7k l):=qm _ _ _ _ _ _ E2.y;have v2:W2.cell? ⟨vb,0,none⟩=some (q7l yb vb):=qm _ _ _ _ _ _ E2.v;obtain⟨⟨a0,a1,a2⟩,_⟩:=A2.cells;obtain⟨⟨n0,n1,n2⟩,_⟩:=N2.cells;unfold q7k at y2;have HPRE:Hid (zq ps.length ss wd (.mk k s l')=⟨ps.length,ss,wd,.mk k s l'⟩ :: xq (ps.length+1) ss (if zo k then ss++[s] else ss) (k==7) l'):=qh (by simp only[zq]);have HJN:=qh hJN;have HJ:=qh hJ;have HALL:=qh hall;have HO:=qh hO;have HJO:=qh hJO;have HOP2:=qh OP2;have HOI2:=qh OI2;have HOH2:=qh OH2;have HON2:=qh ON2;have HIH:=qh ih;have HT:=qh ht;have HE2:=qh E2;have HK2:=qh K2;have HB2:=qh B2;have HP2:=qh P2;have HS2:=qh S2;have HA2:=qh A2;have HN2:=qh N2;have HH:=qh hh;have HSZ:=qh hsz;have hnh:n₁<=h:=by rw[<-hh];exact E.z
  clear hall hJN hJ hO hJO hjo O2 OP2 OI2 OH2 ON2 hop hoi B1 ih ht E E2 K2 B2 P2 S2 A2 N2 hp hi hY old2 J2 hj hsz;refine callsIn_of_wp Tryz.func121 rfl trivial ?_ rfl;simp only[Tryz.ntmps121,List.size_toArray,qr,qz,Nat.reduceAdd,Nat.reduceSub,Array.replicate_succ,Array.replicate_zero,List.push_toArray,List.append_toArray,List.nil_append,List.cons_append]
  gi_wp2_with fail
  refine hR.mono ?_;clear hR hy;rintro e W3 (⟨rfl,hJ3,hk3⟩|⟨rfl,hJx3,hk3⟩)
  ·have nb:=trivial
   have P3:=q3c HP2.out fun g c t z e e2=>hk3.2.1 g c t z (HOP2.out g e) e2
   have S3:=q3c HS2.out fun g c t z e e2=>hk3.2.1 g c t z (HOI2.out g e) e2
   have F3:=qh ((⟨HE2.out,HK2.out,HA2.out,HN2.out,HP2.out,HS2.out,HOP2.out,HOI2.out,HOH2.out,HON2.out⟩:Fr O n₁ yb vb l w₀ W h (.slice ap ps.length cp) (.slice ai ss.length ci) ps ss wd k s (.slice a l'.length cap) W2).step hnh hownp howns hk3.kv P3 S3);have J3:=qh hJ3;clear hJ3 hk3 nb y2 v2 a0 a1 a2 n0 n1 n2 P3 S3;obtain⟨⟨n0,n1,n2⟩,_⟩:=F3.out.n.cells
   gi_wp2_with fail
   refine wpIn_wide.2 ?_;obtain⟨il,hil⟩:∃ il,(if zo k then ss++[s] else ss)=il:=⟨_,rfl⟩;rw[hil]at HPRE;have HIL:=qh hil;clear hil n0 n1 n2
   go_loopw [17] (fun v wr=>∃ (i:Nat) (pre':List It),i<=l'.length/\v = .int .i64 i/\Hid (pre'++xq (ps.length+1) ss il (k==7) (l'.drop i)=pre++zq ps.length ss wd (.mk k s l'))/\Hid (J pre' wr)/\Hid (ps.length+1<=pre'.length) /\
    Hid (Fr O n₁ yb vb l w₀ W h (.slice ap ps.length cp) (.slice ai ss.length ci) ps ss wd k s (.slice a l'.length cap) wr)) (fun v _=>l'.length - (intOf v).toNat)
   case atStart=>exact⟨0,_,qv _,rfl,qh (by rw[HPRE.out,List.drop_zero];simp),J3,qh (by simp;omega),F3⟩
   case round =>
    obtain⟨i,pre',hi,rfl,hrun,hJr,hlen,hF⟩:=hrel
    by_cases hlt:i < l'.length
    ·have hlt':(i:Int) < (l'.length:Int):=by omega
     have hi0:(0:Int)<=(i:Int):=by omega
     obtain⟨b,o,k1,s1,l1,a1,c1,rfl,e1,y0,y1,y2,r1⟩:=HT.out.kid i hlt;have x0:=hF.out.e.s.cell y0;have x1:=hF.out.e.s.cell y1;have x2:=hF.out.e.s.cell y2;have HE1:=qh e1;have HR1:=qh r1;clear e1 r1 y0 y1 y2
     go_upto_region 6 with fail
     have X5:=qh (Row3.new wr (.int .i64 k1) (.string s1) (.slice a1 l1.length c1));have F5:=qh (hF.out.alloc hnh hownp howns (.cells #[.int .i64 k1,.string s1,.slice a1 l1.length c1] 25) (HO.out _ _ ((Below.refl _ wr).alloc hF.out.e.z _)));have hj5:=HJO.out pre' wr hJr.out;have B5:Hid (Below n₁ wr (wr.alloc (.cells #[.int .i64 k1,.string s1,.slice a1 l1.length c1] 25))):=qh ((Below.refl _ wr).alloc hF.out.e.z _);obtain⟨X,hX⟩:∃ X,wr.heap.size=X:=⟨_,rfl⟩;obtain⟨w5,hw5⟩:∃ w5,wr.alloc (.cells #[.int .i64 k1,.string s1,.slice a1 l1.length c1] 25)=w5:=⟨_,rfl⟩;have z5:w5.heap.size=X+1:=by rw[<-hw5,<-hX];simp
     have hXh:h<=X:=by have:=hF.out.a.lt;omega
     rw[hX]at X5 hj5;rw[hw5]at F5 B5 X5;have Z5:=qh z5;rw[hX,hw5];have ho5:∀ b,O w5.drew b->b < X:=fun b hb=>hj5 b (HO.out _ _ (show Below n₁ wr w5.drew from B5.out.drew) b hb)
     have HO5:=qh ho5;have HJ5:=qh hj5;have HOLD5:Hid (∀ b,b < X->w5.drew.heap[b]?=wr.heap[b]?):=qh (fun b hb=>show w5.heap[b]?=wr.heap[b]? from by rw[<-hw5];exact Below.heap_alloc _ _ _ (by rw[hX];exact hb));have HF5:=qh (F5.out.drew hnh hownp howns (fun b hb=>HO.out w5 w5.drew ((Below.refl _ w5).drew) b hb));have S5:=HF5.out.cells (show Row3 w5.drew X _ _ _ from X5.out);clear ho5 hj5;have hdn:Hid (ps.length<=90000):=qh (by have:=HJN.out _ _ hJr.out;have:=hlen.out;omega);obtain⟨ss',hss⟩:∃ ss',(if(zo k && decide (i+1=l'.length))=true then ss++[s] else ss)=ss':=⟨_,rfl⟩;obtain⟨K7,h7⟩:∃ K7,(k==7)=K7:=⟨_,rfl⟩;have CD0:=(fun w (h1:n₁<=w.heap.size) (h2:xa n₁ w (.slice ap ps.length cp) ps) (h3:ze n₁ w (.slice ai ss.length ci) ss)=>qa9 n₁ k s (some ⟨b,o,none⟩) l'.length cap i ap ai cp ci ps ss wd w h1 h2 h3 (by have:=hdn.out;omega) (by have:=hdn.out;omega) (by unfold maxLen;omega) hlt _ rfl ss' hss);rw[h7]at CD0;have CD:=qh CD0;clear CD0
     obtain⟨ys,hys⟩:∃ ys,ss'=ss++ys:=by
      rw[<-hss]
      split
      ·exact⟨[s],rfl⟩
      ·exact⟨[],by simp⟩
     have hsl:ss'.length<=ps.length+1:=by
      rw[<-hss]
      split
      ·simp;omega
      ·omega
     have hil2:(if i+1=l'.length then il else ss)=ss':=by
      rw[<-hss,<-HIL.out]
      by_cases h1:i+1=l'.length
      ·rw[qj h1,decide_eq_true h1,Bool.and_true]
      ·rw[qd h1,decide_eq_false h1,Bool.and_false,qd (by simp)]
     have HPL:=qh (qho (d:=ps.length+1) (ins:=ss) (il:=il) (wd:=(k==7)) hlt);rw[hil2,h7]at HPL;have HL1:Hid ((ps++[Value.int .i64 (i:Int)]).length=ps.length+1):=qh (by simp)
     have HPX:Hid (pre'++zq (ps++[Value.int .i64 (i:Int)]).length ss' K7 (.mk k1 s1 l1) <+: all):=qh (by
      have hr:=hrun.out;have hpl:=HPL.out;rw[h7,hpl,HE1.out]at hr;rw[HL1.out];refine List.IsPrefix.trans ?_ HALL.out;rw[<-hr,<-qn]
      exact List.prefix_append _ _)
     have HYS:=qh hys;have HSL:=qh hsl;have HKL:=qh (Nd.kid_lt k s l' i hlt);have hnX:¬ O w5.drew X/\(Value.slice ap ps.length cp).ownBlock≠some X/\(Value.slice ai ss.length ci).ownBlock≠some X:=⟨fun hx=>by have:=HO5.out X hx;omega,fun e=>by have:=hownp X e;omega,fun e=>by have:=howns X e;omega⟩;have HNX:=qh hnX;have CVf:=qh (fun w7 vp' vi' (E6:Env O n₁ yb vb l w₀ w7) p6 s6 J6 op6 oi6=>HIH.out (.mk k1 s1 l1) w7 vp' vi' (.int .i64 k1) (.string s1) (.slice a1 l1.length c1) (ps++[Value.int .i64 (i:Int)]) ss' K7 pre' (by have:=HKL.out;rw[HE1.out]at this;have:=HSZ.out;omega) HR1.out E6 p6 s6 (by rw[HL1.out];exact hlen.out) (by rw[HL1.out];exact HSL.out) J6 op6 oi6 HPX.out);have H77:=qh h7;clear h7 hX hw5 z5 hss hys hsl hil2 hnX x0 x1 x2
     go_cut [29] (fun v wx=>∃ B:Bool,v = .bool (!B)/\Hid (Fr O n₁ yb vb l w₀ W h (.slice ap ps.length cp) (.slice ai ss.length ci) ps ss wd k s (.slice (some ⟨b,o,none⟩) l'.length cap) wx) /\
      Hid (if B=true then J (pre'++zq (ps.length+1) ss' K7 (.mk k1 s1 l1)) wx else ∃ q,q <+: pre'++zq (ps.length+1) ss' K7 (.mk k1 s1 l1)/\Jx q wx))
     case first =>
      go_region_held3 (fun w'=>w'.cell? ⟨vb,0,none⟩=some (.func (.func 121) #[] #[.pointer (some ⟨yb,0,none⟩),.pointer (some ⟨vb,0,none⟩)])/\w'.cell? ⟨h,0,none⟩=some (.slice ap ps.length cp)/\w'.cell? ⟨h,1,none⟩=some (.slice ai ss.length ci)/\w'.cell? ⟨h,2,none⟩=some (.bool wd)/\w'.cell? ⟨h+1,0,none⟩=some (.int .i64 k)/\w'.cell? ⟨h+1,1,none⟩=some (.string s)/\w'.cell? ⟨h+1,2,none⟩=some (.slice (some ⟨b,o,none⟩) l'.length cap)/\w'.cell? ⟨X,0,none⟩=some (.int .i64 k1)/\w'.cell? ⟨X,1,none⟩=some (.string s1)/\w'.cell? ⟨X,2,none⟩=some (.slice a1 l1.length c1))
       (first|with_reducible exact S5|with_reducible exact SS6|with_reducible exact SS7)
       (first
        |(go_at_call 122;refine(CD.out _ HF5.out.e.z HF5.out.p HF5.out.i).mono ?_;rintro e w6 ⟨ap',ai',cp',ci',rfl,p6,s6,pp6,ss6,z6,k6,b6,o6,oi6⟩;rw[HL1.out]at p6 o6;have O6':=qh (HO.out _ _ b6);have KD6:Hid (Kv O (.slice ap ps.length cp) (.slice ai ss.length ci) w5.drew w6):=qh (Kv.down z6 k6 O6'.out);have F6:=qh (HF5.out.step hnh hownp howns KD6.out pp6 ss6);have sz5:w5.drew.heap.size=X+1:=Z5.out;have PO6:Hid (Off O w6 (.slice ap' (ps++[Value.int .i64 (i:Int)]).length cp')):=qh (fun g e hx=>(o6 g (by rw[HL1.out]at e;exact e)).elim (fun e2=>F6.out.op g e2 hx) (fun h9=>by have:=HO5.out g (O6'.out g hx);omega));have IO6:Hid (Off O w6 (.slice ai' ss'.length ci')):=qh (fun g e hx=>(oi6 g e).elim (fun e2=>F6.out.oi g e2 hx) (fun h9=>by have:=HO5.out g (O6'.out g hx);omega));have X6:Row3 w6 X (.int .i64 k1) (.string s1) (.slice a1 l1.length c1):=(k6 X (show X < w5.heap.size by have:=Z5.out;omega) HNX.out.2.1 HNX.out.2.2).trans X5.out;have SS6:=F6.out.cells X6;have CV:=qh (CVf.out w6 _ _ F6.out.e p6 s6 (HJ.out pre' wr w6 hJr.out (B5.out.drew.trans b6) (fun b hb=>(k6 b (by have:=HJ5.out b hb;omega) (fun e=>hF.out.op b e hb) (fun e=>hF.out.oi b e hb)).trans (HOLD5.out b (HJ5.out b hb)))) (by have:=PO6.out;rw[HL1.out]at this;exact this) IO6.out);have Q6:=qh p6;have T6:=qh s6;have PP6:=qh pp6;have TT6:=qh ss6;have HK6:=qh k6;have HZ6:=qh z6;have O6:=qh o6;have OI6:=qh oi6;clear p6 s6 pp6 ss6 k6 b6 o6 oi6)
        |(go_at_call 121;refine CV.out.mono ?_;rintro e w7 ⟨B,rfl,kv7,p7,s7,h7⟩;have U7:Hid (Kv O (.slice ap ps.length cp) (.slice ai ss.length ci) w5.drew w7):=qh (Kv.up KD6.out kv7 O6.out OI6.out);have V7:Hid (xa n₁ w7 (.slice ap ps.length cp) ps):=qh (q74 PP6.out Q6.out p7 fun g c t z e1 e2 e3=>kv7.2.1 g c t z (F6.out.op g e1) e2 (km PP6.out T6.out g e1) e3);have I7:Hid (ze n₁ w7 (.slice ai ss.length ci) ss):=qh (q9h HYS.out TT6.out T6.out s7 fun g c t z e1 e2 e3=>kv7.2.1 g c t z (F6.out.oi g e1) (fun e4=>km Q6.out TT6.out g e4 e1) e2 e3);have F7:=qh (HF5.out.step hnh hownp howns U7.out V7.out I7.out);have SS7:=F7.out.cells (show Row3 w7 X _ _ _ from U7.out.2.1 X _ _ _ HNX.out.1 HNX.out.2.1 HNX.out.2.2 X5.out);have H7:=qh h7;clear h7 kv7 p7 s7))
      all_goals go_wp2
      all_goals go_meet
      all_goals exact⟨B,rfl,F7,qh (by have:=H7.out;rw[HL1.out]at this;exact this)⟩
     case rest =>
      obtain⟨B,rfl,F7,H7⟩:=hcut;clear S5 CD CVf
      cases B with
      |true =>
       have J7:=qh (show J (pre'++zq (ps.length+1) ss' K7 (.mk k1 s1 l1)) _ from by have:=H7.out;rw[qj rfl]at this;exact this);clear H7;go_wp2;go_roundw
       case rel=>exact⟨i+1,_,hlt,by push_cast;rfl,qh (by have hr:=hrun.out;rw[H77.out]at hr ⊢;rw[qn,<-HE1.out,<-HPL.out];exact hr),J7,qh (by have:=hlen.out;simp;omega),F7⟩
       case measure=>simp[intOf];omega
      |false =>
       obtain⟨q,hq,hjx⟩:=(show ∃ q,q <+: pre'++zq (ps.length+1) ss' K7 (.mk k1 s1 l1)/\Jx q _ from by have:=H7.out;rw[qd (by simp)]at this;exact this);have HQ:=qh hq;have HX:=qh hjx;clear H7 hq hjx;go_wp2;go_ret;refine⟨false,rfl,F7.out.kv,F7.out.p,F7.out.i,?_⟩;rw[qd (by simp),<-hrun.out,H77.out,HPL.out,HE1.out];exact⟨q,by rw[<-qn];exact HQ.out.trans (List.prefix_append _ _),HX.out⟩
    ·have hlt':¬ ((i:Int) < (l'.length:Int)):=by omega
     go_wp2
     gi_wp2
     go_ret;refine⟨true,rfl,hF.out.kv,hF.out.p,hF.out.i,?_⟩;rw[qj rfl,<-hrun.out,List.drop_of_length_le (by omega)];simp only[xq,List.append_nil];exact hJr.out
  ·gi_wp2
   go_ret;refine⟨false,rfl,HK2.out.trans hk3.kv,q3c HP2.out fun g c t z e e2=>hk3.2.1 g c t z (HOP2.out g e) e2,q3c HS2.out fun g c t z e e2=>hk3.2.1 g c t z (HOI2.out g e) e2,?_⟩;rw[qd (by simp),HPRE.out];exact⟨_,⟨xq (ps.length+1) ss (if zo k then ss++[s] else ss) (k==7) l',by simp⟩,hJx3⟩
end Go.Proofs.YtkckddojlignpaaGreatDoor
namespace Go.Proofs.YtkckddojlignpaaGreatDoor
open Go.RowKit
attribute [local go_sem] jr jp jo
def qkz(k:Int)(s:ByteArray):Value:=.agg #[.int .i64 k,.string s,.slice none 0 0]
theorem q9a(E:PE)(q:Nat)(w:World)(h:PS E q w)(hk:Sx.knd E.ts q=1):Calls Tryz.prog 187 #[.pointer (some ⟨E.pb,0,none⟩)] w fun e w'=>e = .returned (qkz 15 (Sx.str (Sx.txt E.ts q)))/\Mv E (q+1) w w'/\PS E (q+1) w':=by
 have C:=qh (fun w h=>kg E q w h);have D:=qh (fun w h=>qbk E q w h hk);have HP:=qh h;obtain⟨x,hx⟩:∃ x,Sx.str (Sx.txt E.ts q)=x:=⟨_,rfl⟩;unfold yy at C;rw[hk,hx]at C;rw[hx]at D ⊢;have C':Hid (∀ w,PS E q w->Calls Tryz.prog 142 #[.pointer (some ⟨E.pb,0,none⟩)] w fun e w'=>e = .returned (.agg #[.int .i64 1,.string x,.int .i64 (E.pos q:Nat)])/\Below w.heap.size w w'):=C;have hq:q < E.ts.length:=Sx.knd_lt (by omega);have Hq:=qh hq;have hpl:=h.lt;unfold qfj at D;clear h hk hx C hq;go_enter Tryz.func187,Tryz.ntmps187
 go_wp2_with fail
 refine(C'.out _ (HP.out.later ((Below.refl _ w).alloc (q9 _) _))).mono ?_;rintro e w1⟨rfl,hb⟩;have B1:=qh (((Below.refl _ w).alloc (q9 _) (.cells #[.int .i64 0,.string ⟨#[]⟩,.slice none 0 0] 25)).trans (hb.mono (by simp)));have R1:=qh ((Row3.new w (.int .i64 0) (.string ⟨#[]⟩) (.slice none 0 0)).below hb (by simp));clear hb C'
 go_wp2_with fail
 refine(D.out _ (HP.out.later B1.out)).mono ?_;rintro e w2⟨rfl,hm,hp⟩;have M2:=qh (Mv.before HP.out B1.out hm);have R2:=qh (R1.out.mv hm (by omega));obtain⟨⟨n0,n1,n2⟩,g0,g1,g2⟩:=R2.out.cells;have hz:=R2.out.lt;clear D hm hp R1;go_wp2;have hM:=(M2.out.put3 (b:=w.heap.size) (q9 _) (.int .i64 15) (.string x) (.slice none 0 0)).alloc (.cells #[.int .i64 15,.string x,.slice none 0 0] 25);exact zh ((R2.out.put _ _ _).alloc _) Tryz.results187 rfl rfl ⟨rfl,hM,hM.ps HP.out Hq.out⟩
theorem qji(E:PE)(q:Nat)(w:World)(h:PS E q w)(hk:Sx.knd E.ts q≠1):Calls Tryz.prog 187 #[.pointer (some ⟨E.pb,0,none⟩)] w fun e w'=>e = .panicked [{ v:=je E q,recovered:=false }]/\Below w.heap.size w w':=by
 have C:=qh (fun w h=>kg E q w h);have D:=qh (fun w h=>q03 E q w h);have HP:=qh h;have e1:(((Sx.knd E.ts q:Nat):Int) != 1)=true:=by rw[bne_iff_ne];omega
 unfold yy at C;obtain⟨k,hk⟩:∃ k,((Sx.knd E.ts q:Nat):Int)=k:=⟨_,rfl⟩;rw[hk]at C e1;clear h hk;go_enter Tryz.func187,Tryz.ntmps187
 go_wp2_with fail
 refine(C.out _ (HP.out.later ((Below.refl _ w).alloc (q9 _) _))).mono ?_;rintro e w1⟨rfl,hb⟩;have B1:=qh (((Below.refl _ w).alloc (q9 _) (.cells #[.int .i64 0,.string ⟨#[]⟩,.slice none 0 0] 25)).trans (hb.mono (by simp)));clear hb C
 go_wp2_with fail
 refine(D.out _ (HP.out.later B1.out)).mono ?_;rintro e w2⟨rfl,hb⟩;go_wp2;exact⟨rfl,rfl,B1.out.trans (hb.mono B1.out.size)⟩
section
variable {P:Program} {w:World} {ops:Array Oper} {rest:List Oper} {o:Oper} {a:Act} {Q:Exit->Act->World->Prop}
theorem ym(hg:o.guard=none)(t:TypeId)(g:Nat)(ho:o.op=Op.load t (Operand.global g)){v:Value}(hrun:(loadVar t ⟨g,0,none⟩).run P w = .ok v w)
  (hK:wpList P ops Q rest (a.put o.dst v) w):wpList P ops Q (o :: rest) a w:=by
 refine wpList_plain hg fun K' hK'=>?_
 unfold Oper.wp;simp[execOp,ho,Act.eval,Instr.loadAt,Instr.sureAddr,hrun,Result.andThen];exact hK' _ _ hK
theorem xm(hg:o.guard=none)(t:TypeId)(x i:Operand)(ho:o.op=Op.index t x i){u j v:Value}(hx:a.eval x=u)(hi:a.eval i=j)(hrun:(Instr.index t u j).run P w = .ok v w)
  (hK:wpList P ops Q rest (a.put o.dst v) w):wpList P ops Q (o :: rest) a w:=by
 refine wpList_plain hg fun K' hK'=>?_
 unfold Oper.wp;simp[execOp,ho,hx,hi,hrun,Result.andThen];exact hK' _ _ hK
end
def jv(L:List (List UInt8×Value))(t:List UInt8):Option Value:=(L.find? fun p=>p.1==t).map (·.2)
theorem qc0(a b:List UInt8):((⟨a.toArray⟩:ByteArray)==⟨b.toArray⟩)=(a==b):=by
 show(a.toArray==b.toArray)=_
 simp
theorem q2t{P:Program}(w:World)(e:Bool){k:TypeId}(hk:P.underlying k=some .string)(s:ByteArray):(Instr.checkKey e 10000 k (.string s)).run P w = .ok () w:=by
 rw[show(10000:Nat)=9999+1 from rfl,Instr.checkKey];simp[run_underlying hk]
theorem q1o(t:List UInt8):∀ (es:List MapEntry) (L:List (List UInt8×Value)) (i:Nat),es.map (fun e=>(e.key,e.val))=L.map (fun p=>(S_ p.1,p.2)) ->
  ∃ r,Instr.findNow .string (S_ t) es i=some r/\r.map (·.2)=jv L t
 |[],[],i,_=>⟨none,rfl,rfl⟩
 |[],_ :: _,_,h=>by simp at h
 |_ :: _,[],_,h=>by simp at h
 |e :: es,(k,v) :: L,i,h=>by
  simp only[List.map_cons,List.cons.injEq,Prod.mk.injEq]at h;obtain⟨⟨hk,hv⟩,ht⟩:=h;obtain⟨r,h1,h2⟩:=q1o t es L (i+1) ht
  by_cases hc:k=t
  ·subst hc
   refine⟨some (i,v),?_,?_⟩
   ·have h3:((⟨k.toArray⟩:ByteArray)==⟨k.toArray⟩)=true:=by rw[qc0];simp
    simp only[Instr.findNow,hk,S_,Instr.sameNow,h3,hv]
   ·simp[jv]
  ·have h3:((⟨t.toArray⟩:ByteArray)==⟨k.toArray⟩)=false:=by rw[qc0,qc];exact fun e=>hc e.symm
   have h4:(k==t)=false:=by rw[qc];exact hc
   refine⟨r,?_,?_⟩
   ·simp only[Instr.findNow,hk,S_,Instr.sameNow,h3]
    exact h1
   ·rw[h2]
    simp[jv,h4]
section
variable {P:Program} {w:World}
theorem q8q{t k e:TypeId}(ht:P.underlying t=some (.map k e))(hk:P.underlying k=some .string){z:Value}(hz:(zeroValue e).run P w = .ok z w){b:Nat}{L:List (List UInt8×Value)}(hm:StrMap w b L)(s:List UInt8) :
  (Instr.lookup t (.map (some b)) (S_ s) true).run P w = .ok (.tuple #[(jv L s).getD z,.bool (jv L s).isSome]) w:=by
 obtain⟨es,c,h1,h2⟩:=hm;obtain⟨r,h3,h4⟩:=q1o s es.toList L 0 h2;unfold S_ at h3 ⊢
 cases r with
 |none =>
  have h5:jv L s=none:=by rw[<-h4];rfl
  simp[Instr.lookup,run_underlying ht,MapKept.run_getObj_map h1,q2t,hk,run_underlying hk,Instr.findKey,h3,hz,Result.andThen,h5]
 |some p =>
  have h5:jv L s=some p.2:=by rw[<-h4];rfl
  simp[Instr.lookup,run_underlying ht,MapKept.run_getObj_map h1,q2t,hk,run_underlying hk,Instr.findKey,h3,Result.andThen,h5]
theorem q3b{t k e:TypeId}(ht:P.underlying t=some (.map k e))(hk:P.underlying k=some .string){b:Nat}{L:List (List UInt8×Value)}(hm:StrMap w b L)(s:List UInt8)(v:Value)(hs:jv L s=none) :
  ∃ w',(Instr.mapUpdate t (.map (some b)) (S_ s) v).run P w = .ok () w'/\StrMap w' b (L++[(s,v)])/\w'.heap.size=w.heap.size/\w'.os=w.os/\w'.tape=w.tape/\w'.output=w.output/\∀ j,j≠b->w'.heap[j]?=w.heap[j]?:=by
 obtain⟨es,c,h1,h2⟩:=hm;obtain⟨r,h3,h4⟩:=q1o s es.toList L 0 h2
 have hr:r=none:=by
  cases r with
  |none=>rfl
  |some p=>rw[hs]at h4;cases h4
 subst hr;unfold S_ at h3;refine⟨w.putObj b (.map (es.push { key:=S_ s,val:=v,born:=c }) (c+1)),?_,⟨_,_,World.putObj_heap_same (zg h1),?_⟩,World.putObj_size,rfl,rfl,rfl,fun j hj=>World.putObj_heap_other hj⟩
 ·simp[Instr.mapUpdate,S_,run_underlying ht,MapKept.run_getObj_map h1,MapKept.run_setObj_map _ h1,World.putObj,q2t,hk,run_underlying hk,Instr.findKey,h3,Result.andThen]
 ·simp[h2]
end
section
variable {P:Program} {w:World} {ops:Array Oper} {rest:List Oper} {o:Oper} {a:Act} {Q:Exit->Act->World->Prop}
theorem q22(hg:o.guard=none)(m x:Operand)(t:TypeId)(ho:o.op=Op.lookup t m x true){k e:TypeId}(ht:P.underlying t=some (.map k e))(hk:P.underlying k=some .string){z:Value}(hz:(zeroValue e).run P w = .ok z w)
  {b:Nat} {L:List (List UInt8×Value)} (hM:a.eval m = .map (some b)) (hm:StrMap w b L) (s:List UInt8) (hx:a.eval x=S_ s)
  (hK:wpList P ops Q rest (a.put o.dst (.tuple #[(jv L s).getD z,.bool (jv L s).isSome])) w):wpList P ops Q (o :: rest) a w:=by
 refine wpList_plain hg fun K' hK'=>?_
 unfold Oper.wp;simp[execOp,ho,hM,hx,q8q ht hk hz hm s,Result.andThen];exact hK' _ _ hK
theorem q6f(hg:o.guard=none)(m x v:Operand)(t:TypeId)(ho:o.op=Op.insert t m x v){k e:TypeId}(ht:P.underlying t=some (.map k e))(hk:P.underlying k=some .string)
  {b:Nat} {L:List (List UInt8×Value)} (hM:a.eval m = .map (some b)) (hm:StrMap w b L) (s:List UInt8) (hx:a.eval x=S_ s) {u:Value} (hv:a.eval v=u) (hs:jv L s=none)
  (hK:∀ w',StrMap w' b (L++[(s,u)])->w'.heap.size=w.heap.size->w'.os=w.os->w'.tape=w.tape->w'.output=w.output->(∀ j,j≠b->w'.heap[j]?=w.heap[j]?)->wpList P ops Q rest a w') (hd:o.dst=none):wpList P ops Q (o :: rest) a w:=by
 refine wpList_plain hg fun K' hK'=>?_
 obtain⟨w',hrun,h1,h2,h3,h4,h5,h6⟩:=q3b (P:=P) ht hk hm s u hs;unfold Oper.wp;simp[execOp,ho,hM,hx,hv,hrun,Result.andThen]
 first
  |exact hK' _ _ (hK w' h1 h2 h3 h4 h5 h6)
  |(have:=hK' _ _ (hK w' h1 h2 h3 h4 h5 h6);simpa[hd,Act.put,Oper.upon]using this)
end
attribute [local go_sem] jr jp jo
theorem qbt(i:Nat)(hi:i < 8)(w:World):∃ s k b,opsL[i]?=some (s,k,b)/\s≠[]/\(Instr.index 164 (.agg opsArr) (.int .i64 (i:Nat))).run Tryz.prog w = .ok (.agg #[S_ s,.int .i64 k,.int .i64 (b:Nat)]) w:=by
 match i,hi with
 |0,_=>exact⟨_,_,_,rfl,by decide,by kernel_rfl⟩
 |1,_=>exact⟨_,_,_,rfl,by decide,by kernel_rfl⟩
 |2,_=>exact⟨_,_,_,rfl,by decide,by kernel_rfl⟩
 |3,_=>exact⟨_,_,_,rfl,by decide,by kernel_rfl⟩
 |4,_=>exact⟨_,_,_,rfl,by decide,by kernel_rfl⟩
 |5,_=>exact⟨_,_,_,rfl,by decide,by kernel_rfl⟩
 |6,_=>exact⟨_,_,_,rfl,by decide,by kernel_rfl⟩
 |7,_=>exact⟨_,_,_,rfl,by decide,by kernel_rfl⟩
theorem qms{E:PE}{q:Nat}{w:World}(h:PS E q w):(loadVar 164 ⟨1,0,none⟩).run Tryz.prog w = .ok (.agg opsArr) w:=by
 obtain⟨t,fr,h1⟩:=h.g.gl.g1;exact run_loadVar_row w 1 t _ opsArr fr _ h1 Tryz.underlying164 rfl (by kernel_rfl)
def jk(t:Lx.Bs)(b:Nat):List (List UInt8×Int×Nat)->Option Int
 |[]=>none
 |(s,k,c) :: l=>if c=b/\t=s then some k else jk t b l
theorem qct{t:Lx.Bs}{b i:Nat}{s:List UInt8}{k:Int}{c:Nat}(h:opsL[i]?=some (s,k,c)):jk t b (opsL.drop i)=if c=b/\t=s then some k else jk t b (opsL.drop (i+1)):=by
 have hi:i < opsL.length:=(List.getElem?_eq_some_iff.1 h).1;rw[List.drop_eq_getElem_cons hi,(List.getElem?_eq_some_iff.1 h).2];rfl
def qnx(E:PE)(q:Nat)(w:World)(r:Option Int)(e:Ending)(w':World):Prop :=
 (r=none->e = .returned (.tuple #[.int .i64 0,.bool false])/\Below w.heap.size w w')/\∀ k,r=some k->e = .returned (.tuple #[.int .i64 k,.bool true])/\Mv E (q+1) w w'/\PS E (q+1) w'
theorem q5g(E:PE)(q b:Nat)(w:World)(h:PS E q w)(hb:b<=7):Calls Tryz.prog 86 #[.pointer (some ⟨E.pb,0,none⟩),.int .i64 (b:Nat)] w (qnx E q w (jk (Sx.txt E.ts q) b opsL)):=by
 have hl:=qms h;have HP:=qh h;obtain⟨t,ht⟩:∃ t,Sx.txt E.ts q=t:=⟨_,rfl⟩;have HT:=qh ht;rw[ht];have Hl:=qh hl;clear h ht hl;go_enter Tryz.func86,Tryz.ntmps86
 go_wp2_with (refine ym rfl _ _ rfl Hl.out ?_)
 go_loopw [9] (fun v9 wr=>∃ i:Nat,i<=8/\v9 = .int .i64 i/\Hid (jk t b opsL=jk t b (opsL.drop i))/\Hid (Below w.heap.size w wr)) (fun v9 _=>8 - (intOf v9).toNat)
 case atStart=>exact⟨0,qv _,rfl,rfl,Below.refl _ _⟩
 case round =>
  obtain⟨i,hi,rfl,hrun,hbl⟩:=hrel
  by_cases hlt:i < 8
  ·have hlt':(i:Int) < 8:=by omega
   obtain⟨s,k,c,hget,hne,hidx⟩:=qbt i hlt wr;have Hidx:=qh hidx;have Hst:=qh (qct (t:=t) (b:=b) hget);have hm:(i:Int)+1<=8:=by omega
   clear hidx
   by_cases hc:c=b
   ·subst hc
    have hc':((c:Int)==(c:Int))=true:=by rw[beq_iff_eq]
    have B1:=qh (hbl.out.alloc hbl.out.size (.cells #[S_ s,.int .i64 k,.int .i64 (c:Nat)] 163))
    by_cases hs:t=s
    ·have HF:=qh (hrun.out.trans (Hst.out.trans (qj ⟨rfl,hs⟩)))
     have C:=qh (fun w h=>yd E q ⟨s.toArray⟩ w h (HT.out.trans (hs.trans (by simp[bs]))) (by simpa[bs]using hne));unfold S_ at Hidx B1;clear hget hs hne
     go_wp2_with (refine xm rfl _ _ _ rfl rfl rfl Hidx.out ?_)
     refine(C.out _ (HP.out.later B1.out)).mono ?_;rintro e w5⟨rfl,hm5,hp5⟩;have M5:=qh (Mv.before HP.out B1.out hm5);have P5:=qh hp5;have hpb:E.pb < wr.heap.size:=qu HP.out.lt hbl.out.size;have k1:w5.cell? ⟨wr.heap.size,1,none⟩=some (.int .i64 k):=(World.cell?_of_block (w:=wr.alloc (.cells #[.string ⟨s.toArray⟩,.int .i64 k,.int .i64 (c:Nat)] 163)) (hm5.blk wr.heap.size (by simp) (by omega))).trans ((World.cell?_alloc_at _ _ _ _ rfl).trans rfl);clear C hm5 hp5 hpb;go_wp2;go_ret2;exact⟨fun h=>(by rw[HF.out]at h;cases h),fun k' hk=>by rw[HF.out]at hk;cases hk;exact⟨rfl,M5.out,P5.out⟩⟩
    ·have HF:=qh (hrun.out.trans (Hst.out.trans (qd (fun h=>hs h.2))))
     have C:=qh (fun w h=>yt E q ⟨s.toArray⟩ w h (fun e=>hs (HT.out.symm.trans (e.trans (by simp[bs])))));unfold S_ at Hidx B1;clear hget hs hne
     go_wp2_with (refine xm rfl _ _ _ rfl rfl rfl Hidx.out ?_)
     refine(C.out _ (HP.out.later B1.out)).mono ?_;rintro e w5⟨rfl,hb5⟩;have B5:=qh (B1.out.trans (hb5.mono B1.out.size));clear C hb5;go_wp2;go_roundw
     case rel=>exact⟨i+1,hlt,by push_cast;rfl,HF,B5⟩
     case measure=>simp[intOf];omega
   ·have hc':((c:Int)==(b:Int))=false:=by rw[qc];omega
    have HF:=qh (hrun.out.trans (Hst.out.trans (qd (fun h=>hc h.1))));unfold S_ at Hidx;clear hc hget
    go_wp2_with (refine xm rfl _ _ _ rfl rfl rfl Hidx.out ?_)
    go_roundw
    case rel=>exact⟨i+1,hlt,by push_cast;rfl,HF,hbl.out.alloc hbl.out.size _⟩
    case measure=>simp[intOf];omega
  ·have hlt':¬ ((i:Int) < 8):=by omega
   obtain rfl:i=8:=by omega
   have HN:Hid (jk t b opsL=none):=qh hrun.out;go_wp2;go_ret2;exact⟨fun _=>⟨rfl,hbl.out⟩,fun k hk=>by rw[HN.out]at hk;cases hk⟩
theorem q83(ts:List Lx.Tok)(q b:Nat)(hb:b<=4):jk (Sx.txt ts q) b opsL=Sx.sgn ts b q:=by
 unfold Sx.sgn;generalize Sx.txt ts q=t
 match b,hb with
 |0,_=>simp[jk,opsL]
 |1,_=>simp[jk,opsL]
 |2,_=>simp[jk,opsL]
 |3,_=>simp[jk,opsL]
 |4,_=>simp[jk,opsL]
theorem qbh(ts:List Lx.Tok)(q:Nat):jk (Sx.txt ts q) 6 opsL=if Sx.txt ts q=[45,62] then some 31 else none:=by
 generalize Sx.txt ts q=t;simp[jk,opsL]
def Two(w':World)(g:Nat)(u0 u1 u2 v0 v1 v2:Value):Prop:=∃ t,w'.heap[g]?=some (.cells #[u0,u1,u2,v0,v1,v2] t (0,0))
theorem NdS.two{S:Nat->Prop}{w':World}{g:Nat}{a c:Nd}{u0 u1 u2 v0 v1 v2:Value}(ht:Two w' g u0 u1 u2 v0 v1 v2)(hg:S g)(ha:NdS S w' a u0 u1 u2)(hc:NdS S w' c v0 v1 v2)(k:Int)(cap:Nat)(hcap:2<=cap) :
  NdS S w' (.mk k Sx.noS [a,c]) (.int .i64 k) (.string ⟨#[]⟩) (.slice (some ⟨g,0,none⟩) 2 cap):=by
 obtain⟨t,ht⟩:=ht;have hx:=fun j=>qm w' g j _ _ _ ht
 refine .mk k Sx.noS [a,c] (some ⟨g,0,none⟩) cap g 0 (fun i=>if i=0 then u0 else v0) (fun i=>if i=0 then u1 else v1) (fun i=>if i=0 then u2 else v2) (by unfold maxLen;decide) (by unfold maxLen;simp) hcap (fun _=>rfl) (fun _=>hg) ?_ ?_ ?_ ?_
 ·intro i hi
  match i,hi with
  |0,_=>exact(hx 0).trans rfl
  |1,_=>exact(hx 3).trans rfl
 ·intro i hi
  match i,hi with
  |0,_=>exact(hx 1).trans rfl
  |1,_=>exact(hx 4).trans rfl
 ·intro i hi
  match i,hi with
  |0,_=>exact(hx 2).trans rfl
  |1,_=>exact(hx 5).trans rfl
 ·intro i hi
  match i,hi with
  |0,_=>exact ha
  |1,_=>exact hc
theorem q48(k k1 k2:Int)(s1 s2:ByteArray)(a1 a2:Option Addr)(n1 n2 c1 c2:Nat)(w:World) :
  Calls Tryz.prog 70 #[.int .i64 k,.agg #[.int .i64 k1,.string s1,.slice a1 n1 c1],.agg #[.int .i64 k2,.string s2,.slice a2 n2 c2]] w fun e w' =>
   ∃ g,e = .returned (.agg #[.int .i64 k,.string ⟨#[]⟩,.slice (some ⟨g,0,none⟩) 2 2])/\w.heap.size<=g/\Two w' g (.int .i64 k1) (.string s1) (.slice a1 n1 c1) (.int .i64 k2) (.string s2) (.slice a2 n2 c2)/\Below w.heap.size w w':=by
 obtain⟨R,hR⟩:∃ R:Ending->World->Prop,(fun e w'=>∃ g,e = .returned (.agg #[.int .i64 k,.string ⟨#[]⟩,.slice (some ⟨g,0,none⟩) 2 2])/\w.heap.size<=g/\Two w' g (.int .i64 k1) (.string s1) (.slice a1 n1 c1) (.int .i64 k2) (.string s2) (.slice a2 n2 c2)/\Below w.heap.size w w')=R:=⟨_,rfl⟩;rw[hR];have HR:=qh hR;clear hR;go_enter Tryz.func70,Tryz.ntmps70;go_wp2;refine zh ((Row3.newAt (by simp)).alloc _) Tryz.results70 rfl rfl ?_;rw[<-HR.out];exact⟨w.heap.size+1+1+1,rfl,by omega,⟨_,za (by simp)⟩,((((Below.refl _ w).alloc (q9 _) _).alloc (by simp) _).alloc (by simp;omega) _).alloc (by simp;omega) _⟩
structure Kp(h:Nat)(w W:World):Prop where
 size:w.heap.size<=W.heap.size
 blk:∀ b,h<=b->b < w.heap.size->W.heap[b]?=w.heap[b]?
theorem Kp.refl(h:Nat)(w:World):Kp h w w:=⟨q9 _,fun _ _ _=>rfl⟩
theorem Kp.trans{h:Nat}{w w1 w2:World}(a:Kp h w w1)(b:Kp h w1 w2):Kp h w w2:=⟨qo a.size b.size,fun k h1 h2=>(b.blk k h1 (qu h2 a.size)).trans (a.blk k h1 h2)⟩
theorem Kp.below{h:Nat}{w w1 w2:World}(a:Kp h w w1)(b:Below w1.heap.size w1 w2):Kp h w w2:=a.trans ⟨b.size,fun k _ h2=>b.block k h2⟩
theorem Kp.mv{E:PE}{q:Nat}{h:Nat}{w w1 w2:World}(a:Kp h w w1)(b:Mv E q w1 w2)(hp:E.pb < h):Kp h w w2:=a.trans ⟨b.size,fun k h1 h2=>b.blk k h2 (by omega)⟩
theorem Kp.alloc{h:Nat}{w w1:World}(a:Kp h w w1)(o:Obj):Kp h w (w1.alloc o):=a.trans ⟨by simp,fun k _ h2=>Below.heap_alloc _ _ _ h2⟩
theorem Kp.set{h:Nat}{w w1:World}(a:Kp h w w1){p:Addr}(u:Value)(hp:p.block < h):Kp h w (w1.setCell p u):=a.trans ⟨by rw[qs];exact q9 _,fun k h1 _=>Below.heap_setCell _ _ _ _ (by omega)⟩
theorem Kp.put3{h:Nat}{w w1:World}(a:Kp h w w1){b:Nat}(u0 u1 u2:Value)(hp:b < h):Kp h w (((w1.setCell ⟨b,0,none⟩ u0).setCell ⟨b,1,none⟩ u1).setCell ⟨b,2,none⟩ u2):=((a.set (p:=⟨b,0,none⟩) _ hp).set (p:=⟨b,1,none⟩) _ hp).set (p:=⟨b,2,none⟩) _ hp
theorem NdS.fin{h h':Nat}{w1 W:World}{t:Nd}{v0 v1 v2:Value}(hn:NdS (fun b=>h'<=b) w1 t v0 v1 v2)(hh:h<=h')(hk:Kp h' w1 W):NdS (fun b=>h<=b) W t v0 v1 v2 :=
 hn.keep fun b h1 h2=>⟨hk.blk b h1 h2,qo hh h1⟩
theorem qhx{ts:List Lx.Tok}{q b:Nat}{k:Int}(h:jk (Sx.txt ts q) b opsL=some k):q < ts.length:=by
 by_cases hx:q < ts.length
 ·exact hx
 ·rw[qdl (by omega)]at h
  simp[jk,opsL]at h
def q20(E:PE)(b:Nat)(r1:Sx.PR Nd)(R2:Nat->Sx.PR Nd):Sx.PR Nd :=
 match r1 with
 | .bad q=>.bad q
 | .ok a q=>(match jk (Sx.txt E.ts q) b opsL with
  |none=>.ok a q
  |some k=>(match R2 (q+1)with
   | .bad r=>.bad r
   | .ok c r=>.ok (.mk k Sx.noS [a,c]) r))
theorem q8c(E:PE)(q b:Nat)(w:World)(h:PS E q w)(hb:b<=6)(hb5:b≠5)(r1:Sx.PR Nd)(R2:Nat->Sx.PR Nd)
  (C1:∀ w0,PS E q w0->Calls Tryz.prog 85 #[.pointer (some ⟨E.pb,0,none⟩),.int .i64 ((b:Int)+1)] w0 (Gr E w0 r1))
  (C2:∀ q1 a,r1 = .ok a q1->q1 < E.ts.length->∀ w0,PS E (q1+1) w0->Calls Tryz.prog 85 #[.pointer (some ⟨E.pb,0,none⟩),.int .i64 (b:Nat)] w0 (Gr E w0 (R2 (q1+1)))) :
  Calls Tryz.prog 85 #[.pointer (some ⟨E.pb,0,none⟩),.int .i64 (b:Nat)] w (Gr E w (q20 E b r1 R2)):=by
 have e5:((b:Int)==5)=false:=by rw[qc];omega
 have e7:((b:Int)==7)=false:=by rw[qc];omega
 have eb:(b:Int)<=6:=by omega
 have HP:=qh h;have hpl:=h.lt;have H5:=qh hb5;have D1:=qh C1;have D2:=qh C2;have Hb:=qh hb;have B0:=qh ((Below.refl w.heap.size w).alloc (q9 _) (.cells #[.int .i64 0,.string ⟨#[]⟩,.slice none 0 0] 25));have R0:=qh (Row3.new w (.int .i64 0) (.string ⟨#[]⟩) (.slice none 0 0));clear h hb hb5 C1 C2
 cases r1 with
 |bad q' =>
  obtain⟨R,hR⟩:∃ R,Gr E w (q20 E b (.bad q') R2)=R:=⟨_,rfl⟩;have HR:Hid (Gr E w (.bad q')=R):=qh hR;rw[hR];clear hR;go_enter Tryz.func85,Tryz.ntmps85
  go_wp2_with fail
  refine(D1.out _ (HP.out.later B0.out)).mono ?_;rintro e w1⟨rfl,hm,hq⟩;go_wp2;rw[<-HR.out];exact⟨rfl,rfl,Mv.before HP.out B0.out hm,hq⟩
 |ok a q1 =>
  obtain⟨k1,s1,l1⟩:=a;obtain⟨o,ho⟩:∃ o,jk (Sx.txt E.ts q1) b opsL=o:=⟨_,rfl⟩;have CO:=qh (fun w h=>q5g E q1 b w h (by have:=Hb.out;omega));rw[ho]at CO
  cases o with
  |none =>
   obtain⟨R,hR⟩:∃ R,Gr E w (q20 E b (.ok (.mk k1 s1 l1) q1) R2)=R:=⟨_,rfl⟩;have HR:Hid (Gr E w (.ok (.mk k1 s1 l1) q1)=R):=qh (by rw[<-hR];simp only[q20,ho]);rw[hR];clear hR ho;go_enter Tryz.func85,Tryz.ntmps85
   go_wp2_with fail
   refine(D1.out _ (HP.out.later B0.out)).mono ?_;rintro e w1⟨⟨a,cap,rfl,hn⟩,hm,hq⟩;have M1:=qh (Mv.before HP.out B0.out hm);have N1:=qh hn;have R1:=qh (R0.out.mv hm (by omega));have Hq:=qh hq;clear hm hn hq
   go_wp2_with fail
   refine(CO.out _ ((M1.out.ps HP.out Hq.out).later ((Below.refl _ w1).alloc (q9 _) _))).mono ?_;rintro e w2⟨h0,_⟩;obtain⟨rfl,hb2⟩:=h0 rfl;have M2:=qh ((M1.out.alloc (.cells #[.int .i64 k1,.string s1,.slice a l1.length cap] 25)).later (hb2.mono (by simp;have:=M1.out.size;omega)));have R2:=qh ((R1.out.alloc (.cells #[.int .i64 k1,.string s1,.slice a l1.length cap] 25)).below hb2 (by simp;have:=R1.out.lt;omega));have L2:=qh ((Row3.new w1 (.int .i64 k1) (.string s1) (.slice a l1.length cap)).below hb2 (by simp));have K2:=qh (((Kp.refl (w.heap.size+1) w1).alloc (.cells #[.int .i64 k1,.string s1,.slice a l1.length cap] 25)).below hb2);obtain⟨⟨n0,n1,n2⟩,g0,g1,g2⟩:=R2.out.cells;obtain⟨⟨m0,m1,m2⟩,_⟩:=L2.out.cells;have ll:=L2.out.lt;have lr:=R2.out.lt;have l1w:=R1.out.lt;clear hb2 CO;go_wp2;refine zh (R2.out.put _ _ _) Tryz.results85 rfl rfl ?_;rw[<-HR.out];exact⟨⟨a,cap,rfl,N1.out.fin (by simp) ((by simpa using K2.out.put3 _ _ _ (by omega)))⟩,M2.out.put3 (q9 _) _ _ _,Hq.out⟩
  |some k =>
   have hlt:=qhx ho;have C2:=qh (D2.out q1 _ rfl hlt);obtain⟨r2,hr2⟩:∃ r,R2 (q1+1)=r:=⟨_,rfl⟩;rw[hr2]at C2
   cases r2 with
   |bad q2 =>
    obtain⟨R,hR⟩:∃ R,Gr E w (q20 E b (.ok (.mk k1 s1 l1) q1) R2)=R:=⟨_,rfl⟩;have HR:Hid (Gr E w (.bad q2)=R):=qh (by rw[<-hR];simp only[q20,ho,hr2]);rw[hR];clear hR ho hr2;go_enter Tryz.func85,Tryz.ntmps85
    go_wp2_with fail
    refine(D1.out _ (HP.out.later B0.out)).mono ?_;rintro e w1⟨⟨a,cap,rfl,hn⟩,hm,hq⟩;have M1:=qh (Mv.before HP.out B0.out hm);have Hq:=qh hq;clear hm hn hq
    go_wp2_with fail
    refine(CO.out _ ((M1.out.ps HP.out Hq.out).later ((Below.refl _ w1).alloc (q9 _) _))).mono ?_;rintro e w2⟨_,h0⟩;obtain⟨rfl,hb2,hp2⟩:=h0 k rfl;have L2:=qh ((Row3.new w1 (.int .i64 k1) (.string s1) (.slice a l1.length cap)).mv hb2 (by have:=M1.out.size;omega));have M2:=qh (Mv.trans HP.out (M1.out.alloc (.cells #[.int .i64 k1,.string s1,.slice a l1.length cap] 25)) Hq.out hb2);have P2:=qh hp2;obtain⟨⟨m0,m1,m2⟩,_⟩:=L2.out.cells;have ll:=L2.out.lt;clear hb2 hp2 CO
    go_wp2_with fail
    have F:Hid (∀ w5,Mv E q2 w2.drew w5->q2<=E.ts.length->R (.panicked [{ v:=je E q2,recovered:=false }]) w5):=qh fun w5 hm5 hq5=>by
     rw[<-HR.out];exact⟨rfl,Mv.trans HP.out (M2.out.later (below_drewN (Below.refl _ _) 1)) hlt hm5,hq5⟩
    go_region_dies
    all_goals refine(C2.out _ (P2.out.later (Below.refl _ _).drew)).mono ?_
    all_goals rintro e w5 ⟨rfl,hm5,hq5⟩
    all_goals exact⟨rfl,F.out w5 hm5 hq5⟩
   |ok c q2 =>
    obtain⟨k2,s2,l2⟩:=c;obtain⟨R,hR⟩:∃ R,Gr E w (q20 E b (.ok (.mk k1 s1 l1) q1) R2)=R:=⟨_,rfl⟩;have HR:Hid (Gr E w (.ok (.mk k Sx.noS [.mk k1 s1 l1,.mk k2 s2 l2]) q2)=R):=qh (by rw[<-hR];simp only[q20,ho,hr2]);rw[hR];clear hR ho hr2;go_enter Tryz.func85,Tryz.ntmps85
    go_wp2_with fail
    refine(D1.out _ (HP.out.later B0.out)).mono ?_;rintro e w1⟨⟨a,cap,rfl,hn⟩,hm,hq⟩;have M1:=qh (Mv.before HP.out B0.out hm);have N1:=qh hn;have R1:=qh (R0.out.mv hm (by omega));have Hq:=qh hq;clear hm hn hq
    go_wp2_with fail
    refine(CO.out _ ((M1.out.ps HP.out Hq.out).later ((Below.refl _ w1).alloc (q9 _) _))).mono ?_;rintro e w2⟨_,h0⟩;obtain⟨rfl,hb2,hp2⟩:=h0 k rfl;have hpw:E.pb < w1.heap.size:=by have:=M1.out.size;omega
    have L2:=qh ((Row3.new w1 (.int .i64 k1) (.string s1) (.slice a l1.length cap)).mv hb2 (by omega));have M2:=qh (Mv.trans HP.out (M1.out.alloc (.cells #[.int .i64 k1,.string s1,.slice a l1.length cap] 25)) Hq.out hb2);have P2:=qh hp2;have R2':=qh ((R1.out.alloc (.cells #[.int .i64 k1,.string s1,.slice a l1.length cap] 25)).mv hb2 (by omega));have K2:=qh (((Kp.refl (w.heap.size+1) w1).alloc (.cells #[.int .i64 k1,.string s1,.slice a l1.length cap] 25)).mv hb2 (by omega));obtain⟨⟨m0,m1,m2⟩,_⟩:=L2.out.cells;have ll:=L2.out.lt;have hpl1:=R1.out.lt;clear hb2 hp2 CO
    go_wp2_with fail
    go_region_held3 (fun w'=>w'.cell? ⟨w1.heap.size,0,none⟩=some (.int .i64 k1)/\w'.cell? ⟨w1.heap.size,1,none⟩=some (.string s1)/\w'.cell? ⟨w1.heap.size,2,none⟩=some (.slice a l1.length cap))
     (first|exact⟨m0,m1,m2⟩|exact L5.out.cells.1|exact L6.out.cells.1|exact(L6.out.put3o (by omega) _ _ _).cells.1)
     (first | ((go_at_call 85; refine (C2.out _ (P2.out.later (Below.refl _ _).drew)).mono ?_; rintro e w5 ⟨⟨a5, cap5, rfl, hn5⟩, hm5, hq5⟩; have L5 := Lib.hid (L2.out.mv (Mv.before P2.out (Below.refl _ _).drew hm5) (by omega)); have R5 := Lib.hid (R2'.out.mv (Mv.before P2.out (Below.refl _ _).drew hm5) (by omega))))
            | ((go_at_call 70; refine (q48      k k1 k2 s1 s2 a a5 l1.length l2.length cap cap5 w5).mono ?_; rintro e w6 ⟨g, rfl, hg, htw, hb6⟩; have L6 := Lib.hid (L5.out.below hb6 L5.out.lt); have R6 := Lib.hid (R5.out.below hb6 R5.out.lt); obtain ⟨⟨n0, n1, n2⟩, g0, g1, g2⟩ := R6.out.cells)))
    have hsz2:w.heap.size < w2.heap.size:=by omega
    have hm5':=Mv.before P2.out (Below.refl _ _).drew hm5;have hs5:=hm5'.size;have hgw:w.heap.size < g:=by omega
    have K5:=(K2.out.mv hm5' (by omega)).below hb6;have NL:=N1.out.fin (h:=w.heap.size) (by simp) (by simpa using K5.put3 (b:=w.heap.size) (.int .i64 k) (.string ⟨#[]⟩) (.slice (some ⟨g,0,none⟩) 2 2) (by omega));have NR:=hn5.fin (h:=w.heap.size) (Nat.le_of_lt hsz2) (((Kp.refl w2.heap.size w5).below hb6).put3 (b:=w.heap.size) (.int .i64 k) (.string ⟨#[]⟩) (.slice (some ⟨g,0,none⟩) 2 2) hsz2)
    have TW:Two (((w6.setCell ⟨w.heap.size,0,none⟩ (.int .i64 k)).setCell ⟨w.heap.size,1,none⟩ (.string ⟨#[]⟩)).setCell ⟨w.heap.size,2,none⟩ (.slice (some ⟨g,0,none⟩) 2 2)) g (.int .i64 k1) (.string s1) (.slice a l1.length cap) (.int .i64 k2) (.string s2) (.slice a5 l2.length cap5):=by
     obtain⟨t,ht⟩:=htw;exact⟨t,(((Kp.refl g w6).put3 (b:=w.heap.size) _ _ _ hgw).blk g (q9 _) (zg ht)).trans ht⟩
    have NN:=qh (NdS.two TW (by show w.heap.size<=g;omega) NL NR k 2 (q9 _));have MM:=qh (((Mv.trans HP.out M2.out hlt hm5').later (hb6.mono (by omega))).put3 (b:=w.heap.size) (q9 _) (.int .i64 k) (.string ⟨#[]⟩) (.slice (some ⟨g,0,none⟩) 2 2));have Hq5:=qh hq5;clear NL NR TW K5 hm5' hs5 htw hb6 hm5 hn5 hq5;go_wp2;refine zh (R6.out.put _ _ _) Tryz.results85 rfl rfl ?_;rw[<-HR.out];exact⟨⟨_,_,rfl,NN.out⟩,MM.out,Hq5.out⟩
attribute [local go_sem] jr jp jo
theorem qnh(E:PE)(q:Nat)(w:World)(h:PS E q w)(r:Sx.PR Nd)(C:∀ w0,PS E q w0->Calls Tryz.prog 148 #[.pointer (some ⟨E.pb,0,none⟩)] w0 (Gr E w0 r)) :
  Calls Tryz.prog 85 #[.pointer (some ⟨E.pb,0,none⟩),.int .i64 7] w (Gr E w r):=by
 have HP:=qh h;have hpl:=h.lt;have D:=qh C;have B0:=qh ((Below.refl w.heap.size w).alloc (q9 _) (.cells #[.int .i64 0,.string ⟨#[]⟩,.slice none 0 0] 25));have R0:=qh (Row3.new w (.int .i64 0) (.string ⟨#[]⟩) (.slice none 0 0));clear h C;obtain⟨R,hR⟩:∃ R,Gr E w r=R:=⟨_,rfl⟩;have HR:=qh hR;rw[hR];clear hR
 cases r with
 |bad q' =>
  go_enter Tryz.func85,Tryz.ntmps85
  go_wp2_with fail
  refine(D.out _ (HP.out.later B0.out)).mono ?_;rintro e w1⟨rfl,hm,hq⟩;go_wp2;rw[<-HR.out];exact⟨rfl,rfl,Mv.before HP.out B0.out hm,hq⟩
 |ok t q1 =>
  obtain⟨k1,s1,l1⟩:=t;go_enter Tryz.func85,Tryz.ntmps85
  go_wp2_with fail
  refine(D.out _ (HP.out.later B0.out)).mono ?_;rintro e w1⟨⟨a,cap,rfl,hn⟩,hm,hq⟩;have M1:=qh (Mv.before HP.out B0.out hm);have N1:=qh hn;have R1:=qh (R0.out.mv hm (by omega));have Hq:=qh hq;obtain⟨⟨n0,n1,n2⟩,g0,g1,g2⟩:=R1.out.cells;have lr:=R1.out.lt;clear hm hn hq;go_wp2;refine zh (R1.out.put _ _ _) Tryz.results85 rfl rfl ?_;rw[<-HR.out];exact⟨⟨a,cap,rfl,N1.out.fin (by simp) (by simpa using (Kp.refl (w.heap.size+1) w1).put3 (b:=w.heap.size) _ _ _ (by omega))⟩,M1.out.put3 (q9 _) _ _ _,Hq.out⟩
theorem qni(E:PE)(q:Nat)(w:World)(h:PS E q w)(r:Sx.PR Nd)(C:∀ w0,PS E q w0->Calls Tryz.prog 147 #[.pointer (some ⟨E.pb,0,none⟩)] w0 (Gr E w0 r)) :
  Calls Tryz.prog 85 #[.pointer (some ⟨E.pb,0,none⟩),.int .i64 5] w (Gr E w r):=by
 have HP:=qh h;have hpl:=h.lt;have D:=qh C;have B0:=qh ((Below.refl w.heap.size w).alloc (q9 _) (.cells #[.int .i64 0,.string ⟨#[]⟩,.slice none 0 0] 25));have R0:=qh (Row3.new w (.int .i64 0) (.string ⟨#[]⟩) (.slice none 0 0));clear h C;obtain⟨R,hR⟩:∃ R,Gr E w r=R:=⟨_,rfl⟩;have HR:=qh hR;rw[hR];clear hR
 cases r with
 |bad q' =>
  go_enter Tryz.func85,Tryz.ntmps85
  go_wp2_with fail
  refine(D.out _ (HP.out.later B0.out)).mono ?_;rintro e w1⟨rfl,hm,hq⟩;go_wp2;rw[<-HR.out];exact⟨rfl,rfl,Mv.before HP.out B0.out hm,hq⟩
 |ok t q1 =>
  obtain⟨k1,s1,l1⟩:=t;go_enter Tryz.func85,Tryz.ntmps85
  go_wp2_with fail
  refine(D.out _ (HP.out.later B0.out)).mono ?_;rintro e w1⟨⟨a,cap,rfl,hn⟩,hm,hq⟩;have M1:=qh (Mv.before HP.out B0.out hm);have N1:=qh hn;have R1:=qh (R0.out.mv hm (by omega));have Hq:=qh hq;obtain⟨⟨n0,n1,n2⟩,g0,g1,g2⟩:=R1.out.cells;have lr:=R1.out.lt;clear hm hn hq;go_wp2;refine zh (R1.out.put _ _ _) Tryz.results85 rfl rfl ?_;rw[<-HR.out];exact⟨⟨a,cap,rfl,N1.out.fin (by simp) (by simpa using (Kp.refl (w.heap.size+1) w1).put3 (b:=w.heap.size) _ _ _ (by omega))⟩,M1.out.put3 (q9 _) _ _ _,Hq.out⟩
theorem q7n(E:PE)(q:Nat)(w:World)(h:PS E q w)(r:Sx.PR Nd)(C:∀ w0,PS E q w0->Calls Tryz.prog 85 #[.pointer (some ⟨E.pb,0,none⟩),.int .i64 6] w0 (Gr E w0 r)) :
  Calls Tryz.prog 44 #[.pointer (some ⟨E.pb,0,none⟩)] w (Gr E w r):=by
 have HP:=qh h;have hpl:=h.lt;have D:=qh C;have B0:=qh ((Below.refl w.heap.size w).alloc (q9 _) (.cells #[.int .i64 0,.string ⟨#[]⟩,.slice none 0 0] 25));have R0:=qh (Row3.new w (.int .i64 0) (.string ⟨#[]⟩) (.slice none 0 0));clear h C;obtain⟨R,hR⟩:∃ R,Gr E w r=R:=⟨_,rfl⟩;have HR:=qh hR;rw[hR];clear hR
 cases r with
 |bad q' =>
  go_enter Tryz.func44,Tryz.ntmps44
  go_wp2_with fail
  refine(D.out _ (HP.out.later B0.out)).mono ?_;rintro e w1⟨rfl,hm,hq⟩;go_wp2;rw[<-HR.out];exact⟨rfl,rfl,Mv.before HP.out B0.out hm,hq⟩
 |ok t q1 =>
  obtain⟨k1,s1,l1⟩:=t;go_enter Tryz.func44,Tryz.ntmps44
  go_wp2_with fail
  refine(D.out _ (HP.out.later B0.out)).mono ?_;rintro e w1⟨⟨a,cap,rfl,hn⟩,hm,hq⟩;have M1:=qh (Mv.before HP.out B0.out hm);have N1:=qh hn;have R1:=qh (R0.out.mv hm (by omega));have Hq:=qh hq;obtain⟨⟨n0,n1,n2⟩,g0,g1,g2⟩:=R1.out.cells;have lr:=R1.out.lt;clear hm hn hq;go_wp2;refine zh (R1.out.put _ _ _) Tryz.results44 rfl rfl ?_;rw[<-HR.out];exact⟨⟨a,cap,rfl,N1.out.fin (by simp) (by simpa using (Kp.refl (w.heap.size+1) w1).put3 (b:=w.heap.size) _ _ _ (by omega))⟩,M1.out.put3 (q9 _) _ _ _,Hq.out⟩
theorem q7z(E:PE)(q:Nat)(w:World)(h:PS E q w)(r:Sx.PR Nd)(k:Int)(C:∀ w0,PS E q w0->Calls Tryz.prog 88 #[.pointer (some ⟨E.pb,0,none⟩),.int .i64 k,.func (.func 42) #[] #[]] w0 (Gr E w0 r)) :
  Calls Tryz.prog 138 #[.pointer (some ⟨E.pb,0,none⟩),.int .i64 k] w (Gr E w r):=by
 have HP:=qh h;have hpl:=h.lt;have D:=qh C;have B0:=qh ((Below.refl w.heap.size w).alloc (q9 _) (.cells #[.int .i64 0,.string ⟨#[]⟩,.slice none 0 0] 25));have R0:=qh (Row3.new w (.int .i64 0) (.string ⟨#[]⟩) (.slice none 0 0));clear h C;obtain⟨R,hR⟩:∃ R,Gr E w r=R:=⟨_,rfl⟩;have HR:=qh hR;rw[hR];clear hR
 cases r with
 |bad q' =>
  go_enter Tryz.func138,Tryz.ntmps138
  go_wp2_with fail
  refine(D.out _ (HP.out.later B0.out)).mono ?_;rintro e w1⟨rfl,hm,hq⟩;go_wp2;rw[<-HR.out];exact⟨rfl,rfl,Mv.before HP.out B0.out hm,hq⟩
 |ok t q1 =>
  obtain⟨k1,s1,l1⟩:=t;go_enter Tryz.func138,Tryz.ntmps138
  go_wp2_with fail
  refine(D.out _ (HP.out.later B0.out)).mono ?_;rintro e w1⟨⟨a,cap,rfl,hn⟩,hm,hq⟩;have M1:=qh (Mv.before HP.out B0.out hm);have N1:=qh hn;have R1:=qh (R0.out.mv hm (by omega));have Hq:=qh hq;obtain⟨⟨n0,n1,n2⟩,g0,g1,g2⟩:=R1.out.cells;have lr:=R1.out.lt;clear hm hn hq;go_wp2;refine zh (R1.out.put _ _ _) Tryz.results138 rfl rfl ?_;rw[<-HR.out];exact⟨⟨a,cap,rfl,N1.out.fin (by simp) (by simpa using (Kp.refl (w.heap.size+1) w1).put3 (b:=w.heap.size) _ _ _ (by omega))⟩,M1.out.put3 (q9 _) _ _ _,Hq.out⟩
attribute [local go_sem] jr jp jo
def xb(E:PE)(s:Lx.Bs)(r:Sx.PR Nd):Sx.PR Nd :=
 match r with
 | .bad q=>.bad q
 | .ok a q=>if Sx.txt E.ts q=s then .ok a (q+1) else .bad q
def Gr2(E:PE)(w:World)(r:Sx.PR Nd)(e:Ending)(w':World):Prop :=
 match r with
 | .ok (.mk k s l) q=>(∃ a cap,e = .returned (.tuple #[.agg #[.int .i64 k,.string s,.slice a l.length cap],.bool true])/\NdS (fun b=>w.heap.size<=b) w' (.mk k s l) (.int .i64 k) (.string s) (.slice a l.length cap))/\Mv E q w w'/\q<=E.ts.length
 | .bad q=>e = .panicked [{ v:=je E q,recovered:=false }]/\Mv E q w w'/\q<=E.ts.length
theorem qau(E:PE)(q:Nat)(w:World)(h:PS E q w)(ht:Sx.txt E.ts q=[40])(r:Sx.PR Nd)(C:∀ w0,PS E (q+1) w0->Calls Tryz.prog 44 #[.pointer (some ⟨E.pb,0,none⟩)] w0 (Gr E w0 r)) :
  Calls Tryz.prog 148 #[.pointer (some ⟨E.pb,0,none⟩)] w (Gr E w (xb E [41] r)):=by
 have HP:=qh h;have hpl:=h.lt;have D:=qh C;have B0:=qh ((Below.refl w.heap.size w).alloc (q9 _) (.cells #[.int .i64 0,.string ⟨#[]⟩,.slice none 0 0] 25));have R0:=qh (Row3.new w (.int .i64 0) (.string ⟨#[]⟩) (.slice none 0 0));have T:=qh (fun w h=>yd E q ⟨#[40]⟩ w h ht (by decide));clear h C ht;obtain⟨R,hR⟩:∃ R,Gr E w (xb E [41] r)=R:=⟨_,rfl⟩
 cases r with
 |bad q' =>
  have HR:Hid (Gr E w (.bad q')=R):=qh hR;rw[hR];clear hR;go_enter Tryz.func148,Tryz.ntmps148
  go_wp2_with fail
  refine(T.out _ (HP.out.later B0.out)).mono ?_;rintro e wt⟨rfl,hmt,hpt⟩;have MT:=qh (Mv.before HP.out B0.out hmt);have PT:=qh hpt;have RT:=qh (R0.out.mv hmt (by omega));clear hmt hpt
  go_wp2_with fail
  refine(D.out _ PT.out).mono ?_;rintro e w1⟨rfl,hm,hq⟩;have M1:=Mv.trans HP.out MT.out PT.out.le hm;go_wp2;rw[<-HR.out];exact⟨rfl,rfl,M1,hq⟩
 |ok t q1 =>
  obtain⟨k1,s1,l1⟩:=t
  by_cases hc:Sx.txt E.ts q1=[41]
  ·have HR:Hid (Gr E w (.ok (.mk k1 s1 l1) (q1+1))=R):=qh (by rw[<-hR];simp only[xb];rw[qj hc])
   have NY:=qh (fun w h=>kh E q1 ⟨#[41]⟩ w h hc (by decide));have hlt:=Sx.txt_at hc;rw[hR];clear hR hc;go_enter Tryz.func148,Tryz.ntmps148
   go_wp2_with fail
   refine(T.out _ (HP.out.later B0.out)).mono ?_;rintro e wt⟨rfl,hmt,hpt⟩;have MT:=qh (Mv.before HP.out B0.out hmt);have PT:=qh hpt;have RT:=qh (R0.out.mv hmt (by omega));clear hmt hpt
   go_wp2_with fail
   refine(D.out _ PT.out).mono ?_;rintro e w1⟨⟨a,cap,rfl,hn⟩,hm,hq⟩;have M1:=qh (Mv.trans HP.out MT.out PT.out.le hm);have N1:=qh (hn.from RT.out.lt);have R1:=qh (RT.out.mv hm (by omega));have Hq:=qh hq;have P1:=qh ((M1.out.ps HP.out Hq.out).later ((Below.refl _ w1).alloc (q9 _) (.cells #[.int .i64 k1,.string s1,.slice a l1.length cap] 25)));clear hm hn hq
   go_wp2_with fail
   refine(NY.out _ P1.out).mono ?_;rintro e w2⟨rfl,hm2,hp2⟩;have M2:=qh (Mv.trans HP.out (M1.out.alloc (.cells #[.int .i64 k1,.string s1,.slice a l1.length cap] 25)) Hq.out hm2);have R2:=qh ((R1.out.alloc (.cells #[.int .i64 k1,.string s1,.slice a l1.length cap] 25)).mv hm2 (by omega));have L2:=qh ((Row3.new w1 (.int .i64 k1) (.string s1) (.slice a l1.length cap)).mv hm2 (by have:=M1.out.size;omega));have K2:=qh (((Kp.refl (w.heap.size+1) w1).alloc (.cells #[.int .i64 k1,.string s1,.slice a l1.length cap] 25)).mv hm2 (by omega));obtain⟨⟨n0,n1,n2⟩,g0,g1,g2⟩:=R2.out.cells;obtain⟨⟨m0,m1,m2⟩,_⟩:=L2.out.cells;have ll:=L2.out.lt;have lr:=R2.out.lt;have l1w:=R1.out.lt;clear hm2 hp2;go_wp2;refine zh (R2.out.put _ _ _) Tryz.results148 rfl rfl ?_;rw[<-HR.out];exact⟨⟨a,cap,rfl,N1.out.fin (Nat.le_succ _) (K2.out.put3 (b:=w.heap.size) _ _ _ (by omega))⟩,M2.out.put3 (q9 _) _ _ _,hlt⟩
  ·have HR:Hid (Gr E w (.bad q1)=R):=qh (by rw[<-hR];simp only[xb];rw[qd hc])
   have NN:=qh (fun w h=>q05 E q1 ⟨#[41]⟩ w h hc);rw[hR];clear hR hc;go_enter Tryz.func148,Tryz.ntmps148
   go_wp2_with fail
   refine(T.out _ (HP.out.later B0.out)).mono ?_;rintro e wt⟨rfl,hmt,hpt⟩;have MT:=qh (Mv.before HP.out B0.out hmt);have PT:=qh hpt;have RT:=qh (R0.out.mv hmt (by omega));clear hmt hpt
   go_wp2_with fail
   refine(D.out _ PT.out).mono ?_;rintro e w1⟨⟨a,cap,rfl,hn⟩,hm,hq⟩;have M1:=qh (Mv.trans HP.out MT.out PT.out.le hm);have N1:=qh (hn.from RT.out.lt);have R1:=qh (RT.out.mv hm (by omega));have Hq:=qh hq;have P1:=qh ((M1.out.ps HP.out Hq.out).later ((Below.refl _ w1).alloc (q9 _) (.cells #[.int .i64 k1,.string s1,.slice a l1.length cap] 25)));clear hm hn hq
   go_wp2_with fail
   refine(NN.out _ P1.out).mono ?_;rintro e w2⟨rfl,hb2⟩;have M2:=(M1.out.alloc (.cells #[.int .i64 k1,.string s1,.slice a l1.length cap] 25)).later (hb2.mono (by simp;have:=M1.out.size;omega));go_wp2;rw[<-HR.out];exact⟨rfl,rfl,M2,Hq.out⟩
theorem q6w(E:PE)(q:Nat)(w:World)(h:PS E q w)(ht:Sx.txt E.ts q=[40])(r:Sx.PR Nd)(C:∀ w0,PS E (q+1) w0->Calls Tryz.prog 43 #[.pointer (some ⟨E.pb,0,none⟩)] w0 (Gr E w0 r)) :
  Calls Tryz.prog 89 #[.pointer (some ⟨E.pb,0,none⟩)] w (Gr2 E w (xb E [41] r)):=by
 have HP:=qh h;have hpl:=h.lt;have D:=qh C;have B0:=qh ((Below.refl w.heap.size w).alloc (q9 _) (.cells #[.int .i64 0,.string ⟨#[]⟩,.slice none 0 0] 25));have R0:=qh (Row3.new w (.int .i64 0) (.string ⟨#[]⟩) (.slice none 0 0));have T:=qh (fun w h=>yd E q ⟨#[40]⟩ w h ht (by decide));clear h C ht;obtain⟨R,hR⟩:∃ R,Gr2 E w (xb E [41] r)=R:=⟨_,rfl⟩
 cases r with
 |bad q' =>
  have HR:Hid (Gr2 E w (.bad q')=R):=qh hR;rw[hR];clear hR;go_enter Tryz.func89,Tryz.ntmps89
  go_wp2_with fail
  refine(T.out _ (HP.out.later B0.out)).mono ?_;rintro e wt⟨rfl,hmt,hpt⟩;have MT:=qh (Mv.before HP.out B0.out hmt);have PT:=qh hpt;have RT:=qh (R0.out.mv hmt (by omega));clear hmt hpt
  go_wp2_with fail
  refine(D.out _ PT.out).mono ?_;rintro e w1⟨rfl,hm,hq⟩;have M1:=Mv.trans HP.out MT.out PT.out.le hm;go_wp2;rw[<-HR.out];exact⟨rfl,rfl,M1,hq⟩
 |ok t q1 =>
  obtain⟨k1,s1,l1⟩:=t
  by_cases hc:Sx.txt E.ts q1=[41]
  ·have HR:Hid (Gr2 E w (.ok (.mk k1 s1 l1) (q1+1))=R):=qh (by rw[<-hR];simp only[xb];rw[qj hc])
   have NY:=qh (fun w h=>kh E q1 ⟨#[41]⟩ w h hc (by decide));have hlt:=Sx.txt_at hc;rw[hR];clear hR hc;go_enter Tryz.func89,Tryz.ntmps89
   go_wp2_with fail
   refine(T.out _ (HP.out.later B0.out)).mono ?_;rintro e wt⟨rfl,hmt,hpt⟩;have MT:=qh (Mv.before HP.out B0.out hmt);have PT:=qh hpt;have RT:=qh (R0.out.mv hmt (by omega));clear hmt hpt
   go_wp2_with fail
   refine(D.out _ PT.out).mono ?_;rintro e w1⟨⟨a,cap,rfl,hn⟩,hm,hq⟩;have M1:=qh (Mv.trans HP.out MT.out PT.out.le hm);have N1:=qh (hn.from RT.out.lt);have R1:=qh (RT.out.mv hm (by omega));have Hq:=qh hq;have P1:=qh ((M1.out.ps HP.out Hq.out).later ((Below.refl _ w1).alloc (q9 _) (.cells #[.int .i64 k1,.string s1,.slice a l1.length cap] 25)));clear hm hn hq
   go_wp2_with fail
   refine(NY.out _ P1.out).mono ?_;rintro e w2⟨rfl,hm2,hp2⟩;have M2:=qh (Mv.trans HP.out (M1.out.alloc (.cells #[.int .i64 k1,.string s1,.slice a l1.length cap] 25)) Hq.out hm2);have R2:=qh ((R1.out.alloc (.cells #[.int .i64 k1,.string s1,.slice a l1.length cap] 25)).mv hm2 (by omega));have L2:=qh ((Row3.new w1 (.int .i64 k1) (.string s1) (.slice a l1.length cap)).mv hm2 (by have:=M1.out.size;omega));have K2:=qh (((Kp.refl (w.heap.size+1) w1).alloc (.cells #[.int .i64 k1,.string s1,.slice a l1.length cap] 25)).mv hm2 (by omega));obtain⟨⟨n0,n1,n2⟩,g0,g1,g2⟩:=R2.out.cells;obtain⟨⟨m0,m1,m2⟩,_⟩:=L2.out.cells;have ll:=L2.out.lt;have lr:=R2.out.lt;have l1w:=R1.out.lt;clear hm2 hp2;go_wp2;refine kr (R2.out.put _ _ _) Tryz.results89 rfl rfl rfl ?_;rw[<-HR.out];exact⟨⟨a,cap,rfl,N1.out.fin (Nat.le_succ _) (K2.out.put3 (b:=w.heap.size) _ _ _ (by omega))⟩,M2.out.put3 (q9 _) _ _ _,hlt⟩
  ·have HR:Hid (Gr2 E w (.bad q1)=R):=qh (by rw[<-hR];simp only[xb];rw[qd hc])
   have NN:=qh (fun w h=>q05 E q1 ⟨#[41]⟩ w h hc);rw[hR];clear hR hc;go_enter Tryz.func89,Tryz.ntmps89
   go_wp2_with fail
   refine(T.out _ (HP.out.later B0.out)).mono ?_;rintro e wt⟨rfl,hmt,hpt⟩;have MT:=qh (Mv.before HP.out B0.out hmt);have PT:=qh hpt;have RT:=qh (R0.out.mv hmt (by omega));clear hmt hpt
   go_wp2_with fail
   refine(D.out _ PT.out).mono ?_;rintro e w1⟨⟨a,cap,rfl,hn⟩,hm,hq⟩;have M1:=qh (Mv.trans HP.out MT.out PT.out.le hm);have N1:=qh (hn.from RT.out.lt);have R1:=qh (RT.out.mv hm (by omega));have Hq:=qh hq;have P1:=qh ((M1.out.ps HP.out Hq.out).later ((Below.refl _ w1).alloc (q9 _) (.cells #[.int .i64 k1,.string s1,.slice a l1.length cap] 25)));clear hm hn hq
   go_wp2_with fail
   refine(NN.out _ P1.out).mono ?_;rintro e w2⟨rfl,hb2⟩;have M2:=(M1.out.alloc (.cells #[.int .i64 k1,.string s1,.slice a l1.length cap] 25)).later (hb2.mono (by simp;have:=M1.out.size;omega));go_wp2;rw[<-HR.out];exact⟨rfl,rfl,M2,Hq.out⟩
theorem qg2(E:PE)(q:Nat)(w:World)(h:PS E q w)(k:Int)(r:Sx.PR Nd)(C:∀ w0,PS E q w0->Calls Tryz.prog 42 #[.pointer (some ⟨E.pb,0,none⟩)] w0 (Gr E w0 r)) :
  Calls Tryz.prog 141 #[.pointer (some ⟨E.pb,0,none⟩),.int .i64 k] w (Gr E w (xb E [41] r)):=by
 have HP:=qh h;have hpl:=h.lt;have D:=qh C;have B0:=qh ((Below.refl w.heap.size w).alloc (q9 _) (.cells #[.int .i64 0,.string ⟨#[]⟩,.slice none 0 0] 25));have R0:=qh (Row3.new w (.int .i64 0) (.string ⟨#[]⟩) (.slice none 0 0));clear h C;obtain⟨R,hR⟩:∃ R,Gr E w (xb E [41] r)=R:=⟨_,rfl⟩
 cases r with
 |bad q' =>
  have HR:Hid (Gr E w (.bad q')=R):=qh hR;rw[hR];clear hR;go_enter Tryz.func141,Tryz.ntmps141;obtain⟨wt,hwt⟩:∃ wt,w.alloc (.cells #[.int .i64 0,.string ⟨#[]⟩,.slice none 0 0] 25)=wt:=⟨_,rfl⟩;have MT:=qh (Mv.below HP.out B0.out);have PT:=qh (HP.out.later B0.out);have RT:=R0;rw[hwt]at MT PT RT
  go_wp2_with fail
  (try rw[hwt])
  refine(D.out _ PT.out).mono ?_;rintro e w1⟨rfl,hm,hq⟩;have M1:=Mv.trans HP.out MT.out PT.out.le hm;go_wp2;rw[<-HR.out];exact⟨rfl,rfl,M1,hq⟩
 |ok t q1 =>
  obtain⟨k1,s1,l1⟩:=t
  by_cases hc:Sx.txt E.ts q1=[41]
  ·have HR:Hid (Gr E w (.ok (.mk k1 s1 l1) (q1+1))=R):=qh (by rw[<-hR];simp only[xb];rw[qj hc])
   have NY:=qh (fun w h=>kh E q1 ⟨#[41]⟩ w h hc (by decide));have hlt:=Sx.txt_at hc;rw[hR];clear hR hc;go_enter Tryz.func141,Tryz.ntmps141;obtain⟨wt,hwt⟩:∃ wt,w.alloc (.cells #[.int .i64 0,.string ⟨#[]⟩,.slice none 0 0] 25)=wt:=⟨_,rfl⟩;have MT:=qh (Mv.below HP.out B0.out);have PT:=qh (HP.out.later B0.out);have RT:=R0;rw[hwt]at MT PT RT
   go_wp2_with fail
   (try rw[hwt])
   refine(D.out _ PT.out).mono ?_;rintro e w1⟨⟨a,cap,rfl,hn⟩,hm,hq⟩;have M1:=qh (Mv.trans HP.out MT.out PT.out.le hm);have N1:=qh (hn.from RT.out.lt);have R1:=qh (RT.out.mv hm (by omega));have Hq:=qh hq;have P1:=qh ((M1.out.ps HP.out Hq.out).later ((Below.refl _ w1).alloc (q9 _) (.cells #[.int .i64 k1,.string s1,.slice a l1.length cap] 25)));clear hm hn hq
   go_wp2_with fail
   refine(NY.out _ P1.out).mono ?_;rintro e w2⟨rfl,hm2,hp2⟩;have M2:=qh (Mv.trans HP.out (M1.out.alloc (.cells #[.int .i64 k1,.string s1,.slice a l1.length cap] 25)) Hq.out hm2);have R2:=qh ((R1.out.alloc (.cells #[.int .i64 k1,.string s1,.slice a l1.length cap] 25)).mv hm2 (by omega));have L2:=qh ((Row3.new w1 (.int .i64 k1) (.string s1) (.slice a l1.length cap)).mv hm2 (by have:=M1.out.size;omega));have K2:=qh (((Kp.refl (w.heap.size+1) w1).alloc (.cells #[.int .i64 k1,.string s1,.slice a l1.length cap] 25)).mv hm2 (by omega));obtain⟨⟨n0,n1,n2⟩,g0,g1,g2⟩:=R2.out.cells;obtain⟨⟨m0,m1,m2⟩,_⟩:=L2.out.cells;have ll:=L2.out.lt;have lr:=R2.out.lt;have l1w:=R1.out.lt;clear hm2 hp2;go_wp2;refine zh (R2.out.put _ _ _) Tryz.results141 rfl rfl ?_;rw[<-HR.out];exact⟨⟨a,cap,rfl,N1.out.fin (Nat.le_succ _) (K2.out.put3 (b:=w.heap.size) _ _ _ (by omega))⟩,M2.out.put3 (q9 _) _ _ _,hlt⟩
  ·have HR:Hid (Gr E w (.bad q1)=R):=qh (by rw[<-hR];simp only[xb];rw[qd hc])
   have NN:=qh (fun w h=>q05 E q1 ⟨#[41]⟩ w h hc);rw[hR];clear hR hc;go_enter Tryz.func141,Tryz.ntmps141;obtain⟨wt,hwt⟩:∃ wt,w.alloc (.cells #[.int .i64 0,.string ⟨#[]⟩,.slice none 0 0] 25)=wt:=⟨_,rfl⟩;have MT:=qh (Mv.below HP.out B0.out);have PT:=qh (HP.out.later B0.out);have RT:=R0;rw[hwt]at MT PT RT
   go_wp2_with fail
   (try rw[hwt])
   refine(D.out _ PT.out).mono ?_;rintro e w1⟨⟨a,cap,rfl,hn⟩,hm,hq⟩;have M1:=qh (Mv.trans HP.out MT.out PT.out.le hm);have N1:=qh (hn.from RT.out.lt);have R1:=qh (RT.out.mv hm (by omega));have Hq:=qh hq;have P1:=qh ((M1.out.ps HP.out Hq.out).later ((Below.refl _ w1).alloc (q9 _) (.cells #[.int .i64 k1,.string s1,.slice a l1.length cap] 25)));clear hm hn hq
   go_wp2_with fail
   refine(NN.out _ P1.out).mono ?_;rintro e w2⟨rfl,hb2⟩;have M2:=(M1.out.alloc (.cells #[.int .i64 k1,.string s1,.slice a l1.length cap] 25)).later (hb2.mono (by simp;have:=M1.out.size;omega));go_wp2;rw[<-HR.out];exact⟨rfl,rfl,M2,Hq.out⟩
attribute [local go_sem] jr jp jo
theorem qc6(E:PE)(q:Nat)(w:World)(h:PS E q w)(ht:Sx.txt E.ts q≠[40]):Calls Tryz.prog 89 #[.pointer (some ⟨E.pb,0,none⟩)] w fun e w'=>e = .returned q85/\Below w.heap.size w w':=by
 have T:=qh (fun w h=>yt E q ⟨#[40]⟩ w h ht);have HP:=qh h;clear h ht;go_enter Tryz.func89,Tryz.ntmps89
 go_wp2_with fail
 refine(T.out _ (HP.out.later ((Below.refl _ w).alloc (q9 _) _))).mono ?_;rintro e w1⟨rfl,hb⟩;have HB:=qh (((Below.refl _ w).alloc (q9 _) (.cells #[.int .i64 0,.string ⟨#[]⟩,.slice none 0 0] 25)).trans (hb.mono (by simp)));have hr:=(Row3.new w (.int .i64 0) (.string ⟨#[]⟩) (.slice none 0 0)).below hb (by simp);obtain⟨⟨n0,n1,n2⟩,g0,g1,g2⟩:=hr.cells;have HRo:=qh hr;clear hb T hr;go_wp2;exact kr (HRo.out.put _ _ _) Tryz.results89 rfl rfl rfl ⟨rfl,ya HB.out (q9 _) _ _ _⟩
theorem q3w(E:PE)(q:Nat)(w:World)(h:PS E q w):Calls Tryz.prog 187 #[.pointer (some ⟨E.pb,0,none⟩)] w (Gr E w (Sx.small E.ts q)):=by
 unfold Sx.small
 by_cases hk:Sx.knd E.ts q=1
 ·rw[qj hk]
  refine(q9a E q w h hk).mono ?_;rintro e w'⟨rfl,hm,hp⟩;exact⟨⟨none,0,rfl,.leaf _ _ _ _ (q1c E h.g q) _ _⟩,hm,hp.le⟩
 ·rw[qd hk]
  refine(qji E q w h hk).mono ?_;rintro e w'⟨rfl,hb⟩;exact⟨rfl,Mv.below h hb,h.le⟩
theorem qat(E:PE)(q:Nat)(w:World)(h:PS E q w)(ht:Sx.txt E.ts q≠[40])(r:Sx.PR Nd)(C:∀ w0,PS E q w0->Calls Tryz.prog 187 #[.pointer (some ⟨E.pb,0,none⟩)] w0 (Gr E w0 r)) :
  Calls Tryz.prog 148 #[.pointer (some ⟨E.pb,0,none⟩)] w (Gr E w r):=by
 have HP:=qh h;have hpl:=h.lt;have D:=qh C;have B0:=qh ((Below.refl w.heap.size w).alloc (q9 _) (.cells #[.int .i64 0,.string ⟨#[]⟩,.slice none 0 0] 25));have R0:=qh (Row3.new w (.int .i64 0) (.string ⟨#[]⟩) (.slice none 0 0));have T1:=qh (fun w h=>yt E q ⟨#[40]⟩ w h ht);clear h C ht;obtain⟨R,hR⟩:∃ R,Gr E w r=R:=⟨_,rfl⟩;have HR:=qh hR;rw[hR];clear hR
 cases r with
 |bad q' =>
  have MT:=qh (Mv.below HP.out B0.out);have PT:=qh (HP.out.later B0.out);have RT:=R0;go_enter Tryz.func148,Tryz.ntmps148
  go_wp2_with fail
  refine(T1.out _ PT.out).mono ?_;rintro e u1⟨rfl,hb⟩;have MT:=qh (MT.out.later (hb.mono MT.out.size));have PT:=qh (PT.out.later hb);have RT:=qh (RT.out.below hb RT.out.lt);clear hb
  go_wp2_with fail
  refine(D.out _ PT.out).mono ?_;rintro e w1⟨rfl,hm,hq⟩;have M1:=Mv.trans HP.out MT.out PT.out.le hm;go_wp2;rw[<-HR.out];exact⟨rfl,rfl,M1,hq⟩
 |ok t q1 =>
  obtain⟨k1,s1,l1⟩:=t;have MT:=qh (Mv.below HP.out B0.out);have PT:=qh (HP.out.later B0.out);have RT:=R0;go_enter Tryz.func148,Tryz.ntmps148
  go_wp2_with fail
  refine(T1.out _ PT.out).mono ?_;rintro e u1⟨rfl,hb⟩;have MT:=qh (MT.out.later (hb.mono MT.out.size));have PT:=qh (PT.out.later hb);have RT:=qh (RT.out.below hb RT.out.lt);clear hb
  go_wp2_with fail
  refine(D.out _ PT.out).mono ?_;rintro e w1⟨⟨a,cap,rfl,hn⟩,hm,hq⟩;have M1:=qh (Mv.trans HP.out MT.out PT.out.le hm);have N1:=qh (hn.from RT.out.lt);have R1:=qh (RT.out.mv hm (by omega));have Hq:=qh hq;obtain⟨⟨n0,n1,n2⟩,g0,g1,g2⟩:=R1.out.cells;have lr:=R1.out.lt;clear hm hn hq;go_wp2;refine zh (R1.out.put _ _ _) Tryz.results148 rfl rfl ?_;rw[<-HR.out];exact⟨⟨a,cap,rfl,N1.out.fin (Nat.le_succ _) ((Kp.refl (w.heap.size+1) w1).put3 (b:=w.heap.size) _ _ _ (by omega))⟩,M1.out.put3 (q9 _) _ _ _,Hq.out⟩
theorem qjd(E:PE)(q:Nat)(w:World)(h:PS E q w)(ht:Sx.txt E.ts q=[92])(r:Sx.PR Nd)(C:∀ w0,PS E (q+1) w0->Calls Tryz.prog 88 #[.pointer (some ⟨E.pb,0,none⟩),.int .i64 17,.func (.func 43) #[] #[]] w0 (Gr E w0 r)) :
  Calls Tryz.prog 43 #[.pointer (some ⟨E.pb,0,none⟩)] w (Gr E w r):=by
 have HP:=qh h;have hpl:=h.lt;have D:=qh C;have B0:=qh ((Below.refl w.heap.size w).alloc (q9 _) (.cells #[.int .i64 0,.string ⟨#[]⟩,.slice none 0 0] 25));have R0:=qh (Row3.new w (.int .i64 0) (.string ⟨#[]⟩) (.slice none 0 0));have T1:=qh (fun w h=>yd E q ⟨#[92]⟩ w h ht (by decide));clear h C ht;obtain⟨R,hR⟩:∃ R,Gr E w r=R:=⟨_,rfl⟩;have HR:=qh hR;rw[hR];clear hR
 cases r with
 |bad q' =>
  have MT:=qh (Mv.below HP.out B0.out);have PT:=qh (HP.out.later B0.out);have RT:=R0;go_enter Tryz.func43,Tryz.ntmps43
  go_wp2_with fail
  refine(T1.out _ PT.out).mono ?_;rintro e u1⟨rfl,hm,hp⟩;have MT:=qh (Mv.trans HP.out MT.out PT.out.le hm);have RT:=qh (RT.out.mv hm (by omega));have PT:=qh hp;clear hm hp
  go_wp2_with fail
  refine(D.out _ PT.out).mono ?_;rintro e w1⟨rfl,hm,hq⟩;have M1:=Mv.trans HP.out MT.out PT.out.le hm;go_wp2;rw[<-HR.out];exact⟨rfl,rfl,M1,hq⟩
 |ok t q1 =>
  obtain⟨k1,s1,l1⟩:=t;have MT:=qh (Mv.below HP.out B0.out);have PT:=qh (HP.out.later B0.out);have RT:=R0;go_enter Tryz.func43,Tryz.ntmps43
  go_wp2_with fail
  refine(T1.out _ PT.out).mono ?_;rintro e u1⟨rfl,hm,hp⟩;have MT:=qh (Mv.trans HP.out MT.out PT.out.le hm);have RT:=qh (RT.out.mv hm (by omega));have PT:=qh hp;clear hm hp
  go_wp2_with fail
  refine(D.out _ PT.out).mono ?_;rintro e w1⟨⟨a,cap,rfl,hn⟩,hm,hq⟩;have M1:=qh (Mv.trans HP.out MT.out PT.out.le hm);have N1:=qh (hn.from RT.out.lt);have R1:=qh (RT.out.mv hm (by omega));have Hq:=qh hq;obtain⟨⟨n0,n1,n2⟩,g0,g1,g2⟩:=R1.out.cells;have lr:=R1.out.lt;clear hm hn hq;go_wp2;refine zh (R1.out.put _ _ _) Tryz.results43 rfl rfl ?_;rw[<-HR.out];exact⟨⟨a,cap,rfl,N1.out.fin (Nat.le_succ _) ((Kp.refl (w.heap.size+1) w1).put3 (b:=w.heap.size) _ _ _ (by omega))⟩,M1.out.put3 (q9 _) _ _ _,Hq.out⟩
theorem qem(E:PE)(q:Nat)(w:World)(h:PS E q w)(ht:Sx.txt E.ts q≠[92])(r:Sx.PR Nd)(C:∀ w0,PS E q w0->Calls Tryz.prog 89 #[.pointer (some ⟨E.pb,0,none⟩)] w0 (Gr2 E w0 r)) :
  Calls Tryz.prog 43 #[.pointer (some ⟨E.pb,0,none⟩)] w (Gr E w r):=by
 have HP:=qh h;have hpl:=h.lt;have D:=qh C;have B0:=qh ((Below.refl w.heap.size w).alloc (q9 _) (.cells #[.int .i64 0,.string ⟨#[]⟩,.slice none 0 0] 25));have R0:=qh (Row3.new w (.int .i64 0) (.string ⟨#[]⟩) (.slice none 0 0));have T1:=qh (fun w h=>yt E q ⟨#[92]⟩ w h ht);clear h C ht;obtain⟨R,hR⟩:∃ R,Gr E w r=R:=⟨_,rfl⟩;have HR:=qh hR;rw[hR];clear hR
 cases r with
 |bad q' =>
  have MT:=qh (Mv.below HP.out B0.out);have PT:=qh (HP.out.later B0.out);have RT:=R0;go_enter Tryz.func43,Tryz.ntmps43
  go_wp2_with fail
  refine(T1.out _ PT.out).mono ?_;rintro e u1⟨rfl,hb⟩;have MT:=qh (MT.out.later (hb.mono MT.out.size));have PT:=qh (PT.out.later hb);have RT:=qh (RT.out.below hb RT.out.lt);clear hb
  go_wp2_with fail
  refine(D.out _ PT.out).mono ?_;rintro e w1⟨rfl,hm,hq⟩;have M1:=Mv.trans HP.out MT.out PT.out.le hm;go_wp2;rw[<-HR.out];exact⟨rfl,rfl,M1,hq⟩
 |ok t q1 =>
  obtain⟨k1,s1,l1⟩:=t;have MT:=qh (Mv.below HP.out B0.out);have PT:=qh (HP.out.later B0.out);have RT:=R0;go_enter Tryz.func43,Tryz.ntmps43
  go_wp2_with fail
  refine(T1.out _ PT.out).mono ?_;rintro e u1⟨rfl,hb⟩;have MT:=qh (MT.out.later (hb.mono MT.out.size));have PT:=qh (PT.out.later hb);have RT:=qh (RT.out.below hb RT.out.lt);clear hb
  go_wp2_with fail
  refine(D.out _ PT.out).mono ?_;rintro e w1⟨⟨a,cap,rfl,hn⟩,hm,hq⟩;have M1:=qh (Mv.trans HP.out MT.out PT.out.le hm);have N1:=qh (hn.from RT.out.lt);have R1:=qh (RT.out.mv hm (by omega));have Hq:=qh hq;obtain⟨⟨n0,n1,n2⟩,g0,g1,g2⟩:=R1.out.cells;have lr:=R1.out.lt;clear hm hn hq;go_wp2;refine zh ((R1.out.put _ _ _).alloc _) Tryz.results43 rfl rfl ?_;rw[<-HR.out];exact⟨⟨a,cap,rfl,N1.out.fin (Nat.le_succ _) (((Kp.refl (w.heap.size+1) w1).put3 (b:=w.heap.size) _ _ _ (by omega)).alloc _)⟩,(M1.out.put3 (q9 _) _ _ _).alloc _,Hq.out⟩
theorem qje(E:PE)(q:Nat)(w:World)(h:PS E q w)(ht:Sx.txt E.ts q≠[92])(hu:Sx.txt E.ts q≠[40])(r:Sx.PR Nd)(C:∀ w0,PS E q w0->Calls Tryz.prog 90 #[.pointer (some ⟨E.pb,0,none⟩)] w0 (Gr E w0 r)) :
  Calls Tryz.prog 43 #[.pointer (some ⟨E.pb,0,none⟩)] w (Gr E w r):=by
 have HP:=qh h;have hpl:=h.lt;have D:=qh C;have B0:=qh ((Below.refl w.heap.size w).alloc (q9 _) (.cells #[.int .i64 0,.string ⟨#[]⟩,.slice none 0 0] 25));have R0:=qh (Row3.new w (.int .i64 0) (.string ⟨#[]⟩) (.slice none 0 0));have T1:=qh (fun w h=>yt E q ⟨#[92]⟩ w h ht);have T2:=qh (fun w h=>qc6 E q w h hu);unfold q85 at T2;clear h C ht hu;obtain⟨R,hR⟩:∃ R,Gr E w r=R:=⟨_,rfl⟩;have HR:=qh hR;rw[hR];clear hR
 cases r with
 |bad q' =>
  have MT:=qh (Mv.below HP.out B0.out);have PT:=qh (HP.out.later B0.out);have RT:=R0;go_enter Tryz.func43,Tryz.ntmps43
  go_wp2_with fail
  refine(T1.out _ PT.out).mono ?_;rintro e u1⟨rfl,hb⟩;have MT:=qh (MT.out.later (hb.mono MT.out.size));have PT:=qh (PT.out.later hb);have RT:=qh (RT.out.below hb RT.out.lt);clear hb
  go_wp2_with fail
  refine(T2.out _ PT.out).mono ?_;rintro e u2⟨rfl,hb⟩;have MT:=qh ((MT.out.later (hb.mono MT.out.size)).alloc (.cells #[.int .i64 0,.string ⟨#[]⟩,.slice none 0 0] 25));have PT:=qh ((PT.out.later hb).later ((Below.refl _ u2).alloc (q9 _) (.cells #[.int .i64 0,.string ⟨#[]⟩,.slice none 0 0] 25)));have RT:=qh ((RT.out.below hb RT.out.lt).alloc (.cells #[.int .i64 0,.string ⟨#[]⟩,.slice none 0 0] 25));clear hb
  go_wp2_with fail
  refine(D.out _ PT.out).mono ?_;rintro e w1⟨rfl,hm,hq⟩;have M1:=Mv.trans HP.out MT.out PT.out.le hm;go_wp2;rw[<-HR.out];exact⟨rfl,rfl,M1,hq⟩
 |ok t q1 =>
  obtain⟨k1,s1,l1⟩:=t;have MT:=qh (Mv.below HP.out B0.out);have PT:=qh (HP.out.later B0.out);have RT:=R0;go_enter Tryz.func43,Tryz.ntmps43
  go_wp2_with fail
  refine(T1.out _ PT.out).mono ?_;rintro e u1⟨rfl,hb⟩;have MT:=qh (MT.out.later (hb.mono MT.out.size));have PT:=qh (PT.out.later hb);have RT:=qh (RT.out.below hb RT.out.lt);clear hb
  go_wp2_with fail
  refine(T2.out _ PT.out).mono ?_;rintro e u2⟨rfl,hb⟩;have MT:=qh ((MT.out.later (hb.mono MT.out.size)).alloc (.cells #[.int .i64 0,.string ⟨#[]⟩,.slice none 0 0] 25));have PT:=qh ((PT.out.later hb).later ((Below.refl _ u2).alloc (q9 _) (.cells #[.int .i64 0,.string ⟨#[]⟩,.slice none 0 0] 25)));have RT:=qh ((RT.out.below hb RT.out.lt).alloc (.cells #[.int .i64 0,.string ⟨#[]⟩,.slice none 0 0] 25));clear hb
  go_wp2_with fail
  refine(D.out _ PT.out).mono ?_;rintro e w1⟨⟨a,cap,rfl,hn⟩,hm,hq⟩;have M1:=qh (Mv.trans HP.out MT.out PT.out.le hm);have N1:=qh (hn.from RT.out.lt);have R1:=qh (RT.out.mv hm (by omega));have Hq:=qh hq;obtain⟨⟨n0,n1,n2⟩,g0,g1,g2⟩:=R1.out.cells;have lr:=R1.out.lt;clear hm hn hq;go_wp2;refine zh (R1.out.put _ _ _) Tryz.results43 rfl rfl ?_;rw[<-HR.out];exact⟨⟨a,cap,rfl,N1.out.fin (Nat.le_succ _) ((Kp.refl (w.heap.size+1) w1).put3 (b:=w.heap.size) _ _ _ (by omega))⟩,M1.out.put3 (q9 _) _ _ _,Hq.out⟩
theorem qfz(E:PE)(f q:Nat):q20 E 6 (Sx.simple E.ts f q) (Sx.typed E.ts f)=Sx.typed E.ts (f+1) q:=by
 simp only[q20,Sx.typed]
 cases Sx.simple E.ts f q with
 |bad q'=>rfl
 |ok a q' =>
  simp only[qbh]
  by_cases h:Sx.txt E.ts q'=[45,62]
  ·rw[qj h,qj h]
   all_goals (cases Sx.typed E.ts f (q'+1) <;> rfl)
  ·rw[qd h,qd h]
theorem q50(E:PE):∀ f,
  (∀ q w,PS E q w->16*(E.ts.length - q)+2<=f->Calls Tryz.prog 85 #[.pointer (some ⟨E.pb,0,none⟩),.int .i64 6] w (Gr E w (Sx.typed E.ts f q))) /\
  (∀ q w,PS E q w->16*(E.ts.length - q)+1<=f->Calls Tryz.prog 148 #[.pointer (some ⟨E.pb,0,none⟩)] w (Gr E w (Sx.simple E.ts f q)))
 |0=>⟨fun q w _ h=>by omega,fun q w _ h=>by omega⟩
 |f+1=>by
  obtain⟨ih1,ih2⟩:=q50 E f;refine⟨fun q w h hf=>?_,fun q w h hf=>?_⟩
  ·rw[<-qfz]
   refine q8c E q 6 w h (by decide) (by decide) _ _ (fun w0 h0=>?_) (fun q1 a e hq w0 h0=>?_)
   ·exact qnh E q w0 h0 _ fun w1 h1=>ih2 q w1 h1 (by omega)
   ·have:=((Sx.typed_goes E.ts f).2 q) a q1 e
    exact ih1 (q1+1) w0 h0 (by omega)
  ·by_cases ht:Sx.txt E.ts q=[40]
   ·have hq:=Sx.txt_at ht
    have e:Sx.simple E.ts (f+1) q=xb E [41] (Sx.typed E.ts f (q+1)):=by
     simp only[Sx.simple,xb];rw[qj ht]
     all_goals (cases Sx.typed E.ts f (q+1) <;> rfl)
    rw[e];exact qau E q w h ht _ fun w0 h0=>q7n E (q+1) w0 h0 _ fun w1 h1=>ih1 (q+1) w1 h1 (by omega)
   ·have e:Sx.simple E.ts (f+1) q=Sx.small E.ts q:=by
     simp only[Sx.simple];rw[qd ht]
    rw[e];exact qat E q w h ht _ fun w0 h0=>q3w E q w0 h0
theorem q2v(E:PE)(f q:Nat)(w:World)(h:PS E q w)(hf:16*(E.ts.length - q)+2<=f):Calls Tryz.prog 44 #[.pointer (some ⟨E.pb,0,none⟩)] w (Gr E w (Sx.typed E.ts f q)) :=
 q7n E q w h _ fun w1 h1=>(q50 E f).1 q w1 h1 hf
theorem q3x(E:PE)(f q:Nat)(w:World)(h:PS E q w)(hf:16*(E.ts.length - q)+1<=f):Calls Tryz.prog 148 #[.pointer (some ⟨E.pb,0,none⟩)] w (Gr E w (Sx.simple E.ts f q)) :=
 (q50 E f).2 q w h hf
section
variable {ops:Array Oper} {rest:List Oper} {o:Oper} {a:Act} {Q:Exit->Act->World->Prop} {w:World}
theorem xd{K:Act->World->Prop}{Ex:Prop}(hgd:o.guard=none)(s x:Operand)
  (ho:o.op = .call { callee:=.builtin .append,args:=#[s,x],argTypes:=#[23,23] })
  (h:Nat) (v:Value) (l:List Nd) (hs:a.eval s=v) (hk:Kids h w v l) (ad:Addr) (c:Nat) (hx:a.eval x = .slice (some ad) 1 c) (t:Nd) (v0 v1 v2:Value)
  (hnews:∀ j u,[v0,v1,v2][j]?=some u->w.cell? (ad.add j)=some u) (hn:NdS (fun b=>h<=b/\v.ownBlock≠some b) w t v0 v1 v2) (hlen:l.length<=1000000) (hbase:h<=w.heap.size) (H:Nat) (hH:w.heap.size=H)
  (hK:∀ g cap w',Kids h w' (.slice (some ⟨g,0,none⟩) (l.length+1) cap) (l++[t])->w.grownBy w' v.ownBlock->(v.ownBlock=some g\/g=H)->g < w'.heap.size->K (a.put o.dst (.slice (some ⟨g,0,none⟩) (l.length+1) cap)) w') :
  if Region.wanted o (yielded ops a.tmps)=true then Oper.wp Tryz.prog o a w K Q else Ex:=by
 obtain⟨i0,hi0,hz0,hz1,hz2⟩:=info_parts q2p;obtain⟨xs,h1,h2⟩:=hk;refine step_append_lies w hgd s x 23 ho h 25 i0 _ 3 48 Tryz.underlying23 hi0 hz0 hz1 hz2 rfl (by decide) v l.length xs hs h1 ad 1 c [v0,v1,v2] hx rfl hnews hn.ones (by decide) (by unfold maxLen;omega) (by omega) hbase H hH ?_;intro g cap w' h3 h4 h5 h6;exact hK g cap w' (Kids.snoc h1 h2 hn h3 h4 (by rw[hH];exact h5)) h4 h5 h6
end
theorem q07(E:PE)(q:Nat)(w:World)(h:PS E q w)(k:Int)(s:ByteArray)(l:List Nd)(q1:Nat)(hn:Sx.nameA E.ts q = .ok (.mk k s l) q1):Calls Tryz.prog 149 #[.pointer (some ⟨E.pb,0,none⟩)] w fun e w'=>e = .returned (.tuple #[.agg #[.int .i64 k,.string s,.slice none 0 0],.bool true])/\Mv E q1 w w'/\PS E q1 w':=by
 unfold Sx.nameA at hn
 split at hn
 ·rename_i hk
  cases hn;exact qbk E q w h hk
 ·split at hn
  ·rename_i hk
   cases hn;exact qk6 E q w h hk
  ·cases hn
theorem vy(E:PE){w:World}(hg:PG E w){q:Nat}{k:Int}{s:ByteArray}{l:List Nd}{q1:Nat}(hn:Sx.nameA E.ts q = .ok (.mk k s l) q1):s.size<=maxLen/\l=[]:=by
 unfold Sx.nameA at hn
 split at hn
 ·cases hn
  exact⟨q1c E hg q,rfl⟩
 ·split at hn
  ·cases hn
   exact⟨q1c E hg q,rfl⟩
  ·cases hn
theorem q2n(E:PE)(q:Nat)(w:World)(h:PS E q w)(q1:Nat)(hn:Sx.nameA E.ts q = .bad q1):q1=q/\Calls Tryz.prog 149 #[.pointer (some ⟨E.pb,0,none⟩)] w fun e w'=>e = .returned (.tuple #[.agg #[.int .i64 0,.string ⟨#[]⟩,.slice none 0 0],.bool false])/\Below w.heap.size w w':=by
 unfold Sx.nameA at hn
 split at hn
 ·cases hn
 ·rename_i h1
  split at hn
  ·cases hn
  ·rename_i h2
   cases hn;exact⟨rfl,qlm E q w h h1 h2⟩
attribute [local go_sem] jr jp jo
def q2g:List Lx.Bs:=[[45,62],[40],[41],[58],[46],[92],[44],[111,45],[60,61],[45,111],[61,62],[43],[38],[42],[33],[97,108,108],[101,120],[111,110,101],[116,111,112],[123],[125]]
def yc(ts:List Lx.Tok):Prop:=∀ q,Sx.knd ts q=1\/Sx.knd ts q=2->∀ s∈q2g,Sx.txt ts q≠s
def nxt(E:PE)(w:World):Nat:=match w.cell? ⟨E.pb,1,none⟩with|some (.int _ q)=>q.toNat|_=>0
theorem PS.nxt{E:PE}{q:Nat}{w:World}(h:PS E q w):nxt E w=q:=by
 unfold Proofs.YtkckddojlignpaaGreatDoor.nxt;rw[h.cells.2.1];simp
theorem Row3.grown'{W W':World}{b:Nat}{v0 v1 v2:Value}{row:Option Nat}(h:Row3 W b v0 v1 v2)(hg:W.grownBy W' row)(hne:some b≠row):Row3 W' b v0 v1 v2:=(hg.block b h.lt hne).trans h
theorem Kp.put3x{h:Nat}{w w1:World}(a:Kp h w w1){b:Nat}(u0 u1 u2:Value)(hp:w.heap.size<=b):Kp h w (((w1.setCell ⟨b,0,none⟩ u0).setCell ⟨b,1,none⟩ u1).setCell ⟨b,2,none⟩ u2) :=
 ⟨by simp only[qs];exact a.size,fun k h1 h2=>(Below.heap_setCell _ _ _ _ (by simp only;omega)).trans ((Below.heap_setCell _ _ _ _ (by simp only;omega)).trans ((Below.heap_setCell _ _ _ _ (by simp only;omega)).trans (a.blk k h1 h2)))⟩
theorem Kids.kp{h:Nat}{w W:World}{v:Value}{l:List Nd}(hk:Kids h w v l)(hp:Kp h w W):Kids h W v l:=hk.keep hp.blk
def wy(k:Int)(s:ByteArray):Sx.PR (List Nd)->Sx.PR Nd
 | .bad r=>.bad r
 | .ok l r=>.ok (.mk k s l) r
def ql1(ts:List Lx.Tok)(f:Nat)(acc:List Nd):Sx.PR Nd->Sx.PR (List Nd)
 | .bad r=>.bad r
 | .ok a r=>Sx.args ts f (acc++[a]) r
theorem qgn(E:PE)(f:Nat)(acc:List Nd)(p:Nat)(ht:Sx.txt E.ts p=[40]):Sx.args E.ts (f+1) acc p=ql1 E.ts f acc (xb E [41] (Sx.term E.ts f (p+1))):=by
 simp only[Sx.args,xb];rw[qj ht]
 cases Sx.term E.ts f (p+1)with
 |bad _=>rfl
 |ok a r =>
  simp only
  by_cases h41:Sx.txt E.ts r=[41]
  ·rw[qj h41,qj h41];rfl
  ·rw[qd h41,qd h41];rfl
theorem qfa(E:PE)(f p:Nat){a:Nd}{r:Nat}(h:xb E [41] (Sx.term E.ts f (p+1)) = .ok a r):p < r/\r<=E.ts.length:=by
 simp only[xb]at h
 cases ht2:Sx.term E.ts f (p+1)with
 |bad _=>rw[ht2]at h;cases h
 |ok a2 r2 =>
  rw[ht2]at h;have:=(Sx.term_goes E.ts f).1 _ _ _ ht2;simp only at h
  split at h
  ·rename_i h41
   have:=Sx.txt_at h41
   cases h;omega
  ·cases h
theorem qkp(ts:List Lx.Tok)(f:Nat)(acc:List Nd)(p p1:Nat)(ht:Sx.txt ts p≠[40])(hn:Sx.nameA ts p = .bad p1):Sx.args ts (f+1) acc p = .ok acc p:=by
 simp only[Sx.args];rw[qd ht,hn]
theorem qj0(ts:List Lx.Tok)(f:Nat)(acc:List Nd)(p p1:Nat)(x:Nd)(ht:Sx.txt ts p≠[40])(hn:Sx.nameA ts p = .ok x p1):Sx.args ts (f+1) acc p=Sx.args ts f (acc++[x]) p1:=by
 simp only[Sx.args];rw[qd ht,hn]
theorem qfm{ts:List Lx.Tok}{p p1:Nat}{x:Nd}(hn:Sx.nameA ts p = .ok x p1):Sx.knd ts p=1\/Sx.knd ts p=2:=by
 unfold Sx.nameA at hn
 split at hn
 ·exact .inl ‹_›
 ·split at hn
  ·exact .inr ‹_›
  ·cases hn
theorem qcb(E:PE)(q:Nat)(w:World)(h:PS E q w)(q1:Nat)(hn:Sx.nameA E.ts q = .bad q1) :
  Calls Tryz.prog 90 #[.pointer (some ⟨E.pb,0,none⟩)] w fun e w'=>e = .panicked [{ v:=je E q,recovered:=false }]/\Below w.heap.size w w':=by
 have HP:=qh h;have T1:=qh (fun w h=>(q2n E q w h q1 hn).2);have T2:=qh (fun w h=>q03 E q w h);have B0:=qh ((Below.refl w.heap.size w).alloc (q9 _) (.cells #[.int .i64 0,.string ⟨#[]⟩,.slice none 0 0] 25));clear h hn;go_enter Tryz.func90,Tryz.ntmps90
 go_wp2_with fail
 refine(T1.out _ (HP.out.later B0.out)).mono ?_;rintro e u1⟨rfl,hb⟩;have B1:=qh ((B0.out.trans (hb.mono B0.out.size)).alloc (by have:=B0.out.size;have:=hb.size;omega) (.cells #[.int .i64 0,.string ⟨#[]⟩,.slice none 0 0] 25));clear hb
 go_wp2_with fail
 refine(T2.out _ (HP.out.later B1.out)).mono ?_;rintro e u2⟨rfl,hb⟩;go_wp2;exact⟨rfl,rfl,B1.out.trans (hb.mono B1.out.size)⟩
theorem qca(E:PE)(hsn:yc E.ts)(q:Nat)(w:World)(h:PS E q w)(f:Nat)(nk:Int)(s:ByteArray)(q1:Nat)(hn:Sx.nameA E.ts q = .ok (.mk nk s []) q1)(hf:16*(E.ts.length - q1)+3<=f)
  (CT:∀ f1 p w0,f1 < f->q < p->16*(E.ts.length - p)+2<=f1->PS E p w0->Sx.txt E.ts p=[40]->Calls Tryz.prog 89 #[.pointer (some ⟨E.pb,0,none⟩)] w0 (Gr2 E w0 (xb E [41] (Sx.term E.ts f1 (p+1))))) :
  Calls Tryz.prog 90 #[.pointer (some ⟨E.pb,0,none⟩)] w (Gr E w (wy nk s (Sx.args E.ts f [] q1))):=by
 have HP:=qh h;have hpl:=h.lt;have Hsz:=qh (vy E h.g hn).1;have hfew:=h.g.few;have Hsn:=qh hsn;have Hq1:=qh (Sx.nameA_ok hn);have T1:=qh (fun w h=>q07 E q w h nk s [] q1 hn);have D:=qh CT;have Hf:=qh hf;have B0:=qh ((Below.refl w.heap.size w).alloc (q9 _) (.cells #[.int .i64 0,.string ⟨#[]⟩,.slice none 0 0] 25));have R0:=qh (Row3.new w (.int .i64 0) (.string ⟨#[]⟩) (.slice none 0 0));obtain⟨A,hA⟩:∃ A,Sx.args E.ts f [] q1=A:=⟨_,rfl⟩;have HA:=qh hA;obtain⟨R,hR⟩:∃ R,Gr E w (wy nk s A)=R:=⟨_,rfl⟩;have HR:=qh hR;rw[hA,hR];clear h hn CT hA hR hsn hf;go_enter Tryz.func90,Tryz.ntmps90
 go_wp2_with fail
 refine(T1.out _ (HP.out.later B0.out)).mono ?_;rintro e u1⟨rfl,hm,hp⟩;obtain⟨nb,hnb⟩:∃ nb,u1.heap.size=nb:=⟨_,rfl⟩;have hwn:w.heap.size < nb:=by rw[<-hnb];exact(R0.out.mv hm (by omega)).lt
 have M0:=qh ((Mv.before HP.out B0.out hm).alloc (.cells #[.int .i64 nk,.string s,.slice none 0 0] 25));have P0:=qh (hp.later ((Below.refl _ u1).alloc (q9 _) (.cells #[.int .i64 nk,.string s,.slice none 0 0] 25)));have R1:=qh ((R0.out.mv hm (by omega)).alloc (.cells #[.int .i64 nk,.string s,.slice none 0 0] 25));have N0:=qh (Row3.newAt (W:=u1) (n:=nb) (v0:=.int .i64 nk) (v1:=.string s) (v2:=.slice none 0 0) hnb.symm);clear hm hp
 go_wp2_with fail
 go_loopw [] (fun W=>∃ (f1 p:Nat) (acc:List Nd) (v:Value),q < p/\f1<=f/\16*(E.ts.length - p)+3<=f1/\acc.length<=p/\Hid (Sx.args E.ts f1 acc p=A)/\Hid (Mv E p w W)/\Hid (PS E p W)/\Hid (Row3 W w.heap.size (.int .i64 0) (.string ⟨#[]⟩) (.slice none 0 0))/\Hid (Row3 W nb (.int .i64 nk) (.string s) v)/\Hid (Kids (nb+1) W v acc)) (fun W=>E.ts.length+1 - nxt E W)
 case atStart =>
  exact⟨f,q1,[],.slice none 0 0,by have:=Hq1.out;omega,q9 _,Hf.out,qv _,HA,M0.out,P0.out,R1.out,N0.out,Kids.nil _ _⟩
 case round =>
  obtain⟨f1,p,acc,v,hqp,hff,hf1,hacc,hrun,hM,hP,hRw,hN,hK⟩:=hrel;clear T1 N0 M0 P0 R1;obtain⟨f2,rfl⟩:∃ f2,f1=f2+1:=⟨f1 - 1,by omega⟩;obtain⟨va,vcap,rfl,_⟩:=hK.out.shape;have hple:=hP.out.le;have hnl:=hN.out.lt;have hpbn:E.pb < nb:=by omega
  have hmeas:=hP.out.nxt
  cases hnm:Sx.nameA E.ts p with
  |ok x p1 =>
   obtain⟨k2,s2,l2⟩:=x;obtain⟨hsz2,rfl⟩:=vy E hP.out.g hnm;have hp1:=Sx.nameA_ok hnm;have hne:Sx.txt E.ts p≠[40]:=Hsn.out p (qfm hnm) [40] (by decide);have HA':Hid (Sx.args E.ts f2 (acc++[.mk k2 s2 []]) p1=A):=qh ((qj0 _ _ _ _ _ _ hne hnm).symm.trans hrun.out);have TN:=qh (fun w h=>q07 E p w h k2 s2 [] p1 hnm);have HS2:=qh hsz2;have Hp1:=qh hp1;clear hnm hne hsz2 hp1 hrun
   go_wp2_with fail
   refine(TN.out _ hP.out).mono ?_;rintro e W1⟨rfl,hm,hp⟩;have M1:=qh (Mv.trans HP.out hM.out hple hm);have P1:=qh hp;have R1:=qh (hRw.out.mv hm (by omega));have N1:=qh (hN.out.mv hm (by omega));have K1:=qh (Kids.step hm (by omega) hK.out);obtain⟨⟨n0,n1,n2⟩,g0,g1,g2⟩:=N1.out.cells;have ln:=N1.out.lt;have hown:=qh K1.out.own;clear hm hp TN
   go_wp2_with (at_builtin;refine q23 rfl _ _ rfl (nb+1) (.slice va acc.length vcap) acc rfl (K1.out.keep fun b _ hb2=>(Below.heap_alloc _ _ _ (by simp;omega)).trans (Below.heap_alloc _ _ _ hb2)) ⟨W1.heap.size+1,0,none⟩ 1 (by rfl) (.mk k2 s2 []) (.int .i64 k2) (.string s2) (.slice none 0 0) (xu _ _ _ _ _ _ (by simp)) (.leaf _ _ _ _ HS2.out _ _) (by omega) (by simp;omega) _ rfl ?_;intro g6 cap6 w6 K6 G6 _ hg6;have N6:=qh (((N1.out.alloc _).alloc _).grown' G6 (fun e=>by have:=hown.out _ e.symm;omega));have R6:=qh (((R1.out.alloc _).alloc _).grown' G6 (fun e=>by have:=hown.out _ e.symm;omega));obtain⟨⟨d0,d1,d2⟩,z0,z1,z2⟩:=N6.out.cells)
   have M6:=(((M1.out.alloc (.cells #[.int .i64 k2,.string s2,.slice none 0 0] 25)).alloc _).later (((Below.refl w.heap.size _).grown G6 (by simp;omega) (fun b hb=>by have:=hown.out b hb;omega))));have hsz6:=G6.size;simp only[q6]at hsz6;have M7:=M6.later ((Below.refl w.heap.size w6).setCell (p:=⟨nb,2,none⟩) (by simp only;omega) (.slice (some ⟨g6,0,none⟩) (acc.length+1) cap6));have P7:=M7.ps HP.out P1.out.le;have hm7:=P7.nxt;have K7:=K6.keep (w':=w6.setCell ⟨nb,2,none⟩ (.slice (some ⟨g6,0,none⟩) (acc.length+1) cap6)) fun b hb1 _=>Below.heap_setCell _ _ _ _ (by simp only;omega)
   have HH:=qh (And.intro (N6.out.put2 (.slice (some ⟨g6,0,none⟩) (acc.length+1) cap6)) (And.intro (R6.out.other (p:=⟨nb,2,none⟩) (.slice (some ⟨g6,0,none⟩) (acc.length+1) cap6) (by simp only;omega)) (And.intro K7 (And.intro M7 P7))));have Hm7:=qh hm7;have Hmeas:=qh hmeas;clear hmeas hm7 P7 M7 K7 M6;go_roundw
   case rel=>exact⟨f2,p1,acc++[Nd.mk k2 s2 []],_,by have:=Hp1.out;omega,by omega,by have:=Hp1.out;omega,by have:=Hp1.out;simp;omega,HA',HH.out.2.2.2.1,HH.out.2.2.2.2,HH.out.2.1,HH.out.1,HH.out.2.2.1⟩
   case measure=>rw[Hm7.out,Hmeas.out];have:=Hp1.out;omega
  |bad p1 =>
   have TN:=qh (fun w h=>(q2n E p w h p1 hnm).2)
   by_cases ht:Sx.txt E.ts p=[40]
   ·have hlt:=Sx.txt_at ht
    obtain⟨rb,hrb⟩:∃ rb,xb E [41] (Sx.term E.ts f2 (p+1))=rb:=⟨_,rfl⟩;have DB:=qh (fun w0 h0=>D.out f2 p w0 (by omega) hqp (by omega) h0 ht);rw[hrb]at DB;have HA':Hid (A=ql1 E.ts f2 acc rb):=qh (by rw[<-hrun.out,<-hrb];exact qgn E f2 acc p ht);have Hgo:Hid (∀ a r,rb = .ok a r->p < r/\r<=E.ts.length):=qh (fun a r e=>qfa E f2 p (hrb.trans e));clear hrb ht hnm hrun
    cases rb with
    |bad r =>
     go_wp2_with fail
     refine(TN.out _ hP.out).mono ?_;rintro e W1⟨rfl,hb⟩;have M1:=qh ((hM.out.later (hb.mono hM.out.size)).alloc (.cells #[.int .i64 0,.string ⟨#[]⟩,.slice none 0 0] 25));have P1:=qh ((hP.out.later hb).later ((Below.refl _ W1).alloc (q9 _) (.cells #[.int .i64 0,.string ⟨#[]⟩,.slice none 0 0] 25)));clear hb
     go_wp2_with fail
     refine(DB.out _ P1.out).mono ?_;rintro e W2⟨rfl,hm,hq⟩;have M2:=Mv.trans HP.out M1.out hple hm;go_wp2;rw[<-HR.out,HA'.out];exact⟨rfl,rfl,M2,hq⟩
    |ok x p1 =>
     obtain⟨k2,s2,l2⟩:=x;have hpp1:=Hgo.out _ _ rfl
     go_wp2_with fail
     refine(TN.out _ hP.out).mono ?_;rintro e W1⟨rfl,hb⟩;have M1:=qh ((hM.out.later (hb.mono hM.out.size)).alloc (.cells #[.int .i64 0,.string ⟨#[]⟩,.slice none 0 0] 25));have P1:=qh ((hP.out.later hb).later ((Below.refl _ W1).alloc (q9 _) (.cells #[.int .i64 0,.string ⟨#[]⟩,.slice none 0 0] 25)));have R1:=qh ((hRw.out.below hb hRw.out.lt).alloc (.cells #[.int .i64 0,.string ⟨#[]⟩,.slice none 0 0] 25));have N1:=qh ((hN.out.below hb hnl).alloc (.cells #[.int .i64 0,.string ⟨#[]⟩,.slice none 0 0] 25));have K1:=qh (hK.out.keep fun b _ h2=>hb.block b h2);have KP1:=qh ((Kp.refl (nb+1) W1).alloc (.cells #[.int .i64 0,.string ⟨#[]⟩,.slice none 0 0] 25));have X1:=qh (Row3.new W1 (.int .i64 0) (.string ⟨#[]⟩) (.slice none 0 0));have hx1:nb < W1.heap.size:=qu hnl hb.size;clear hb
     go_wp2_with fail
     refine(DB.out _ P1.out).mono ?_;rintro e W2⟨⟨a2,cap2,rfl,hn2⟩,hm,hq⟩;have M2:=qh (Mv.trans HP.out M1.out hple hm);have R2:=qh (R1.out.mv hm (by omega));have N2:=qh (N1.out.mv hm (by omega));have X2:=qh (X1.out.mv hm (by omega));have KP2:=qh (KP1.out.mv hm (by omega));obtain⟨⟨n0,n1,n2⟩,g0,g1,g2⟩:=N2.out.cells;obtain⟨⟨x0,x1,x2⟩,y0,y1,y2⟩:=X2.out.cells;have ln:=N2.out.lt;have lx:=X2.out.lt;have hown:=qh K1.out.own;have hNS:=qh hn2;have Hq:=qh hq;have hle2:=hm.size;simp only[q6]at hle2;have KX:=qh (KP2.out.put3x (b:=W1.heap.size) (.int .i64 k2) (.string s2) (.slice a2 l2.length cap2) (q9 _));have NX:=qh (N2.out.put3o (c:=W1.heap.size) (by omega) (.int .i64 k2) (.string s2) (.slice a2 l2.length cap2));have RX:=qh (R2.out.put3o (c:=W1.heap.size) (by omega) (.int .i64 k2) (.string s2) (.slice a2 l2.length cap2));have MX:=qh (M2.out.put3 (b:=W1.heap.size) (by omega) (.int .i64 k2) (.string s2) (.slice a2 l2.length cap2));have SX:=qh (hn2.fin (h:=(W1.alloc (.cells #[.int .i64 0,.string ⟨#[]⟩,.slice none 0 0] 25)).heap.size) (q9 _) ((Kp.refl _ W2).put3 (b:=W1.heap.size) (.int .i64 k2) (.string s2) (.slice a2 l2.length cap2) (by simp)));clear hm hq hn2 TN DB
     go_wp2_with (at_builtin;refine q23 rfl _ _ rfl (nb+1) (.slice va acc.length vcap) acc rfl (K1.out.kp (KX.out.alloc _)) ⟨W2.heap.size,0,none⟩ 1 (by rfl) (.mk k2 s2 l2) (.int .i64 k2) (.string s2) (.slice a2 l2.length cap2) (xu _ _ _ _ _ _ (by simp only[qs])) (SX.out.keep fun b hb1 hb2=>⟨Below.heap_alloc _ _ _ hb2,by simp at hb1;omega,fun e=>by have:=hown.out b e;simp at hb1;omega⟩) (by omega) (by simp;omega) _ rfl ?_;intro g6 cap6 w6 K6 G6 _ hg6;have N6:=qh ((NX.out.alloc _).grown' G6 (fun e=>by have:=hown.out _ e.symm;omega));have R6:=qh ((RX.out.alloc _).grown' G6 (fun e=>by have:=hown.out _ e.symm;omega));obtain⟨⟨d0,d1,d2⟩,z0,z1,z2⟩:=N6.out.cells)
     have M6:=(MX.out.alloc _).later (((Below.refl w.heap.size _).grown G6 (by simp;omega) (fun b hb=>by have:=hown.out b hb;omega)));have hsz6:=G6.size;simp only[q6,qs]at hsz6;have M7:=M6.later ((Below.refl w.heap.size w6).setCell (p:=⟨nb,2,none⟩) (by simp only;omega) (.slice (some ⟨g6,0,none⟩) (acc.length+1) cap6));have P7:=M7.ps HP.out Hq.out;have hm7:=P7.nxt;have K7:=K6.keep (w':=w6.setCell ⟨nb,2,none⟩ (.slice (some ⟨g6,0,none⟩) (acc.length+1) cap6)) fun b hb1 _=>Below.heap_setCell _ _ _ _ (by simp only;omega)
     have HH:=qh (And.intro (N6.out.put2 (.slice (some ⟨g6,0,none⟩) (acc.length+1) cap6)) (And.intro (R6.out.other (p:=⟨nb,2,none⟩) (.slice (some ⟨g6,0,none⟩) (acc.length+1) cap6) (by simp only;omega)) (And.intro K7 (And.intro M7 P7))));have Hm7:=qh hm7;have Hmeas:=qh hmeas;have Hpp1:=qh hpp1;clear hmeas hm7 P7 M7 K7 M6 hpp1;go_roundw
     case rel=>exact⟨f2,p1,acc++[Nd.mk k2 s2 l2],_,by have:=Hpp1.out;omega,by omega,by have:=Hpp1.out;omega,by have:=Hpp1.out;simp;omega,qh (by rw[HA'.out];rfl),HH.out.2.2.2.1,HH.out.2.2.2.2,HH.out.2.1,HH.out.1,HH.out.2.2.1⟩
     case measure=>rw[Hm7.out,Hmeas.out];have:=Hpp1.out;omega
   ·have HA':Hid (A = .ok acc p):=qh (hrun.out.symm.trans (qkp _ _ _ _ _ ht hnm))
    have TB:=qh (fun w h=>qc6 E p w h ht);unfold q85 at TB;clear ht hnm hrun
    go_wp2_with fail
    refine(TN.out _ hP.out).mono ?_;rintro e W1⟨rfl,hb⟩;have M1:=qh ((hM.out.later (hb.mono hM.out.size)).alloc (.cells #[.int .i64 0,.string ⟨#[]⟩,.slice none 0 0] 25));have P1:=qh ((hP.out.later hb).later ((Below.refl _ W1).alloc (q9 _) (.cells #[.int .i64 0,.string ⟨#[]⟩,.slice none 0 0] 25)));have R1:=qh ((hRw.out.below hb hRw.out.lt).alloc (.cells #[.int .i64 0,.string ⟨#[]⟩,.slice none 0 0] 25));have N1:=qh ((hN.out.below hb hnl).alloc (.cells #[.int .i64 0,.string ⟨#[]⟩,.slice none 0 0] 25));have K1:=qh (hK.out.keep fun b _ h2=>hb.block b h2);have KP1:=qh ((Kp.refl (nb+1) W1).alloc (.cells #[.int .i64 0,.string ⟨#[]⟩,.slice none 0 0] 25));have X1:=qh (Row3.new W1 (.int .i64 0) (.string ⟨#[]⟩) (.slice none 0 0));have hx1:nb < W1.heap.size:=qu hnl hb.size;clear hb
    go_wp2_with fail
    refine(TB.out _ P1.out).mono ?_;rintro e W2⟨rfl,hb⟩;have M2:=qh (M1.out.later (hb.mono M1.out.size));have R2:=qh (R1.out.below hb R1.out.lt);have N2:=qh (N1.out.below hb N1.out.lt);have X2:=qh (X1.out.below hb X1.out.lt);have KP2:=qh (KP1.out.below hb);obtain⟨⟨r0,r1,r2⟩,t0,t1,t2⟩:=R2.out.cells;obtain⟨⟨n0,n1,n2⟩,g0,g1,g2⟩:=N2.out.cells;obtain⟨⟨x0,x1,x2⟩,y0,y1,y2⟩:=X2.out.cells;have ln:=N2.out.lt;have lx:=X2.out.lt;have lr:=R2.out.lt;have Hple:=qh hple;clear hb TN TB hmeas;have KPf:=((KP2.out.put3x (b:=W1.heap.size) (.int .i64 0) (.string ⟨#[]⟩) (.slice none 0 0) (q9 _)).put3 (b:=w.heap.size) (.int .i64 nk) (.string s) (.slice va acc.length vcap) (by omega));have ND:=qh (((K1.out.kp KPf).node nk s Hsz.out (by unfold maxLen;omega)).from (h':=w.heap.size) (by omega));have Mf:=qh ((M2.out.put3 (b:=W1.heap.size) (by omega) (.int .i64 0) (.string ⟨#[]⟩) (.slice none 0 0)).put3 (b:=w.heap.size) (q9 _) (.int .i64 nk) (.string s) (.slice va acc.length vcap));clear KPf;go_wp2;refine zh ((R2.out.put3o (by omega) _ _ _).put _ _ _) Tryz.results90 rfl rfl ?_;rw[<-HR.out,HA'.out];exact⟨⟨va,vcap,rfl,ND.out⟩,Mf.out,Hple.out⟩
end Go.Proofs.YtkckddojlignpaaGreatDoor
namespace Go.Proofs.YtkckddojlignpaaGreatDoor
open Go.RowKit Go.Shelf
def Kb(n₁:Nat)(vp vi:Value)(W W':World):Prop:=W.heap.size<=W'.heap.size/\(∀ b,b < W.heap.size->vp.ownBlock≠some b->vi.ownBlock≠some b->W'.heap[b]?=W.heap[b]?)/\Below n₁ W W'
abbrev qc4(cb bb:Nat):Value:=.func (.func 124) #[] #[.pointer (some ⟨cb,0,none⟩),.pointer (some ⟨bb,0,none⟩)]
structure Eb(n₁ cb bb:Nat)(chV:Value)(CE:World->Prop)(W:World):Prop where
 c:W.heap[cb]?=some (.cells #[chV] 89 (0,0))
 b:W.heap[bb]?=some (.cells #[qc4 cb bb] 89 (0,0))
 cl:cb < n₁
 bl:bb < n₁
 z:n₁<=W.heap.size
 e:CE W
abbrev NdO(S:Nat->Prop)(vp vi:Value)(W:World)(t:Nd)(v0 v1 v2:Value):Prop:=NdS (fun b=>(vp.ownBlock≠some b/\vi.ownBlock≠some b)/\S b) W t v0 v1 v2
section
variable {n₁ cb bb:Nat} {chV vp vi:Value} {CE:World->Prop} {W W':World}
theorem Eb.below(E:Eb n₁ cb bb chV CE W)(hCE:∀ A B,CE A->Below n₁ A B->CE B)(hb:Below n₁ W W'):Eb n₁ cb bb chV CE W' :=
 ⟨(hb.block _ E.cl).trans E.c,(hb.block _ E.bl).trans E.b,E.cl,E.bl,qo E.z hb.size,hCE W W' E.e hb⟩
theorem Kb.trans{W'':World}(a:Kb n₁ vp vi W W')(b:Kb n₁ vp vi W' W''):Kb n₁ vp vi W W'' :=
 ⟨qo a.1 b.1,fun k h1 h2 h3=>(b.2.1 k (qu h1 a.1) h2 h3).trans (a.2.1 k h1 h2 h3),a.2.2.trans b.2.2⟩
theorem Kb.of(hz:n₁<=W.heap.size)(hb:Below W.heap.size W W'):Kb n₁ vp vi W W':=⟨hb.size,fun k h1 _ _=>hb.block k h1,hb.mono hz⟩
theorem Kb.up{w5 w6 w7:World}{vp' vi':Value}(h56:Kb n₁ vp vi w5 w6)(h67:Kb n₁ vp' vi' w6 w7)(hp:∀ g,vp'.ownBlock=some g->vp.ownBlock=some g\/w5.heap.size<=g)(hi:∀ g,vi'.ownBlock=some g->vi.ownBlock=some g\/w5.heap.size<=g):Kb n₁ vp vi w5 w7 :=
 ⟨qo h56.1 h67.1,fun b h1 h2 h3=>(h67.2.1 b (qu h1 h56.1) (fun e=>by
  rcases hp b e with h4|h4
  ·exact h2 h4
  ·omega) (fun e=>by
  rcases hi b e with h4|h4
  ·exact h3 h4
  ·omega)).trans (h56.2.1 b h1 h2 h3),h56.2.2.trans h67.2.2⟩
theorem NdO.kb{S:Nat->Prop}{t:Nd}{v0 v1 v2:Value}(h:NdO S vp vi W t v0 v1 v2)(k:Kb n₁ vp vi W W'):NdO S vp vi W' t v0 v1 v2:=NdS.keep (fun b h1 h2=>⟨k.2.1 b h2 h1.1.1 h1.1.2,h1⟩) h
theorem NdO.lt{S:Nat->Prop}{t:Nd}{v0 v1 v2:Value}(h:NdO S vp vi W t v0 v1 v2):NdO (fun b=>b < W.heap.size) vp vi W t v0 v1 v2:=NdS.mono (fun _ h1 h2=>⟨h1.1,h2⟩) h
end
theorem NdS.kid{S:Nat->Prop}{w:World}{k:Int}{s:ByteArray}{l:List Nd}{v0 v1:Value}{a:Option Addr}{n cap:Nat}(h:NdS S w (.mk k s l) v0 v1 (.slice a n cap))(i:Nat)(hi:i < l.length) :
  ∃ (b o:Nat) (k':Int) (s':ByteArray) (l':List Nd) (a':Option Addr) (cap':Nat),a=some ⟨b,o,none⟩/\l[i] = .mk k' s' l' /\
   w.cell? ⟨b,o+i*3,none⟩=some (.int .i64 k')/\w.cell? ⟨b,o+i*3+1,none⟩=some (.string s')/\w.cell? ⟨b,o+i*3+2,none⟩=some (.slice a' l'.length cap') /\
   NdS S w (.mk k' s' l') (.int .i64 k') (.string s') (.slice a' l'.length cap'):=by
 cases h with
 |mk _ _ _ _ _ b o f0 f1 f2 hs hl hc ha hS h0 h1 h2 hr =>
  have hk:=hr i hi;obtain⟨k',s',l',a',cap',e,e0,e1,e2,_,_⟩:=hk.form;rw[e,e0,e1,e2]at hk;exact⟨b,o,k',s',l',a',cap',ha (by rintro rfl;simp at hi),e,(h0 i hi).trans (congrArg some e0),(h1 i hi).trans (congrArg some e1),(h2 i hi).trans (congrArg some e2),hk⟩
theorem q15{w:World}{b:Nat}{x:Obj}(h:w.heap[b]?=some x):b < w.heap.size:=by
 rcases Nat.lt_or_ge b w.heap.size with h1|h1
 ·exact h1
 ·rw[Array.getElem?_eq_none h1]at h
  cases h
theorem qc9{n₁:Nat}{vp vp' vi' x:Value}{ps:List Value}{ins':List ByteArray}{w6 w7:World}(h1:xa n₁ w6 vp ps)(h2:xa n₁ w6 vp' (ps++[x]))(_h3:ze n₁ w6 vi' ins')(hap:∀ g,vp.ownBlock=some g->vi'.ownBlock≠some g)(hk:Kb n₁ vp' vi' w6 w7)(h7:xa n₁ w7 vp' (ps++[x])):xa n₁ w7 vp ps :=
 q74 h1 h2 h7 fun g _ _ _ e1 e2 e3=>(hk.2.1 g (q15 e3) e2 (hap g e1)).trans e3
theorem qc8{n₁:Nat}{vi vp' vi':Value}{xs:List Value}{ins ins' ys:List ByteArray}{w6 w7:World}(hys:ins'=ins++ys)(h1:ze n₁ w6 vi ins)(h2:ze n₁ w6 vi' ins')(_h3:xa n₁ w6 vp' xs)(hap:∀ g,vi.ownBlock=some g->vp'.ownBlock≠some g)(hk:Kb n₁ vp' vi' w6 w7)(h7:ze n₁ w7 vi' ins'):ze n₁ w7 vi ins :=
 q9h hys h1 h2 h7 fun g _ _ _ e1 e2 e3=>(hk.2.1 g (q15 e3) (hap g e1) e2).trans e3
theorem qdm{n₁:Nat}{vp vi vp' vi':Value}{w w':World}{t:Nd}{v0 v1 v2:Value}(h:NdO (fun _=>True) vp vi w t v0 v1 v2)(k:Kb n₁ vp vi w.drew w')(hp:∀ g,vp'.ownBlock=some g->vp.ownBlock=some g\/w.drew.heap.size<=g)(hi:∀ g,vi'.ownBlock=some g->vi.ownBlock=some g\/w.drew.heap.size<=g) :
  NdO (fun _=>True) vp' vi' w' t v0 v1 v2 :=
 NdS.keep (w:=w) (fun b (h1:(vp.ownBlock≠some b/\vi.ownBlock≠some b)/\True) (h2:b < w.heap.size)=>⟨k.2.1 b h2 h1.1.1 h1.1.2,⟨fun e=>(hp b e).elim h1.1.1 (fun h3=>absurd h2 (Nat.not_lt.2 h3)),fun e=>(hi b e).elim h1.1.2 (fun h3=>absurd h2 (Nat.not_lt.2 h3))⟩,trivial⟩) h
structure Fb(n₁ D:Nat)(vp vi:Value)(ps:List Value)(ins:List ByteArray)(k:Int)(s:ByteArray)(W5:World)(l':List Nd)(i:Nat)(w:World):Prop where
 kb:Kb n₁ vp vi W5 w
 p:xa n₁ w vp ps
 q:ze n₁ w vi ins
 z:W5.heap.size<=D
 d:∃ oa oc,Row3 w D (.int .i64 k) (.string s) (.slice oa i oc)/\Kids (D+1) w (.slice oa i oc) (l'.take i)
def SbB(n₁:Nat)(vp vi:Value)(ps:List Value)(ins:List ByteArray)(W5 w:World):Prop:=Kb n₁ vp vi W5 w/\xa n₁ w vp ps/\ze n₁ w vi ins
abbrev SbC(n₁ cb bb h X:Nat)(vp vi:Value)(wd:Bool)(ps:List Value)(ins:List ByteArray)(k k1:Int)(s s1:ByteArray)(v2 x2:Value)(W5 w:World):Prop :=
 w.cell? ⟨bb,0,none⟩=some (qc4 cb bb)/\w.cell? ⟨h,0,none⟩=some vp/\w.cell? ⟨h,1,none⟩=some vi/\w.cell? ⟨h,2,none⟩=some (.bool wd)/\w.cell? ⟨h+1,0,none⟩=some (.int .i64 k)/\w.cell? ⟨h+1,1,none⟩=some (.string s)/\w.cell? ⟨h+1,2,none⟩=some v2 /\
  w.cell? ⟨X,0,none⟩=some (.int .i64 k1)/\w.cell? ⟨X,1,none⟩=some (.string s1)/\w.cell? ⟨X,2,none⟩=some x2/\Hid (SbB n₁ vp vi ps ins W5 w)
section
variable {n₁ cb bb h X D:Nat} {vp vi:Value} {wd:Bool} {ps:List Value} {ins:List ByteArray} {k k1:Int} {s s1:ByteArray} {v2 x2:Value} {W5 w w':World}
theorem qam(hk:∀ b,b=bb\/b=h\/b=h+1\/b=X->w'.heap[b]?=w.heap[b]?)(hb:Kb n₁ vp vi W5 w')(hp:xa n₁ w' vp ps)(hi:ze n₁ w' vi ins)(S:SbC n₁ cb bb h X vp vi wd ps ins k k1 s s1 v2 x2 W5 w):SbC n₁ cb bb h X vp vi wd ps ins k k1 s s1 v2 x2 W5 w':=by
 obtain⟨c0,c1,c2,c3,c4,c5,c6,c7,c8,c9,hS⟩:=S;have f:∀ b o v,(b=bb\/b=h\/b=h+1\/b=X)->w.cell? ⟨b,o,none⟩=some v->w'.cell? ⟨b,o,none⟩=some v:=fun b o v e hc=>(World.cell?_of_block (w:=w) (hk b e)).trans hc
 exact⟨f _ _ _ (by simp) c0,f _ _ _ (by simp) c1,f _ _ _ (by simp) c2,f _ _ _ (by simp) c3,f _ _ _ (by simp) c4,f _ _ _ (by simp) c5,f _ _ _ (by simp) c6,f _ _ _ (by simp) c7,f _ _ _ (by simp) c8,f _ _ _ (by simp) c9,qh ⟨hb,hp,hi⟩⟩
theorem qet(S:SbC n₁ cb bb h X vp vi wd ps ins k k1 s s1 v2 x2 W5 w):bb < w.heap.size/\h < w.heap.size/\h+1 < w.heap.size/\X < w.heap.size :=
 ⟨qi S.1,qi S.2.1,qi S.2.2.2.2.1,qi S.2.2.2.2.2.2.2.1⟩
theorem q3a(S:SbC n₁ cb bb h X vp vi wd ps ins k k1 s s1 v2 x2 W5 w):Kb n₁ vp vi W5 w/\xa n₁ w vp ps/\ze n₁ w vi ins:=S.2.2.2.2.2.2.2.2.2.2.out
theorem yp{o:Obj}(hz:n₁<=w.heap.size)(S:SbC n₁ cb bb h X vp vi wd ps ins k k1 s s1 v2 x2 W5 w):SbC n₁ cb bb h X vp vi wd ps ins k k1 s s1 v2 x2 W5 (w.alloc o):=by
 have hl:=qet S;obtain⟨h1,h2,h3⟩:=q3a S;refine qam (fun b e=>Below.heap_alloc _ _ _ (by omega)) (h1.trans (Kb.of hz ((Below.refl _ w).alloc (q9 _) o))) (qy h2 fun g e=>Below.heap_alloc _ _ _ (World.ownsRow.lt h2 g e).2) (qy h3 fun g e=>Below.heap_alloc _ _ _ (World.ownsRow.lt h3 g e).2) S
theorem q54{v:Value}(hn:n₁<=h)(hbb:bb < n₁)(hD:h+1 < D)(hDX:D≠X)(hz:W5.heap.size<=D)(hop:∀ g,vp.ownBlock=some g->n₁<=g/\g < h)(hoi:∀ g,vi.ownBlock=some g->n₁<=g/\g < h)(S:SbC n₁ cb bb h X vp vi wd ps ins k k1 s s1 v2 x2 W5 w):SbC n₁ cb bb h X vp vi wd ps ins k k1 s s1 v2 x2 W5 (w.setCell ⟨D,2,none⟩ v):=by
 obtain⟨h1,h2,h3⟩:=q3a S;have far:∀ b,b≠D->(w.setCell ⟨D,2,none⟩ v).heap[b]?=w.heap[b]?:=fun b hb=>Below.heap_setCell _ _ _ _ (by simp only;exact hb)
 refine qam (fun b e=>far b (by omega)) ⟨by rw[qs];exact h1.1,fun b hb e1 e2=>(far b (by omega)).trans (h1.2.1 b hb e1 e2),h1.2.2.trans ((Below.refl _ w).setCell (p:=⟨D,2,none⟩) (by simp only;omega) _)⟩ (qy h2 fun g e=>far g (by have:=hop g e;omega)) (qy h3 fun g e=>far g (by have:=hoi g e;omega)) S
theorem q3z{row:Option Nat}(hn:n₁<=h)(hbb:bb < n₁)(hD:h+1 < D)(hz:W5.heap.size<=D)(hop:∀ g,vp.ownBlock=some g->n₁<=g/\g < h)(hoi:∀ g,vi.ownBlock=some g->n₁<=g/\g < h)(hg:w.grownBy w' row)(ho:∀ g,row=some g->D < g/\g < X)
  (S:SbC n₁ cb bb h X vp vi wd ps ins k k1 s s1 v2 x2 W5 w):SbC n₁ cb bb h X vp vi wd ps ins k k1 s s1 v2 x2 W5 w':=by
 have hl:=qet S;obtain⟨h1,h2,h3⟩:=q3a S;have hkeep:∀ b,b < w.heap.size->row≠some b->w'.heap[b]?=w.heap[b]?:=fun b hb e=>hg.block b hb (fun e2=>e e2.symm)
 have hB:n₁<=w.heap.size:=by omega
 refine qam (fun b e=>hkeep b (by omega) (fun e2=>by have:=ho b e2;omega)) ⟨qo h1.1 hg.size,fun b hb e1 e2=>(hkeep b (qu hb h1.1) (fun e3=>by have:=ho b e3;omega)).trans (h1.2.1 b hb e1 e2),h1.2.2.grown hg hB (fun g e=>by have:=ho g e;omega)⟩
  (qy h2 fun g e=>hkeep g (World.ownsRow.lt h2 g e).2 (fun e2=>by have:=hop g e;have:=ho g e2;omega)) (qy h3 fun g e=>hkeep g (World.ownsRow.lt h3 g e).2 (fun e2=>by have:=hoi g e;have:=ho g e2;omega)) S
theorem q16(hop:∀ g,vp.ownBlock=some g->n₁<=g/\g < h)(hoi:∀ g,vi.ownBlock=some g->n₁<=g/\g < h)(hb:Kb n₁ vp vi w w')(b:Nat)(hb1:h<=b)(hb2:b < w.heap.size):w'.heap[b]?=w.heap[b]? :=
 hb.2.1 b hb2 (fun e=>by have:=hop b e;omega) (fun e=>by have:=hoi b e;omega)
theorem q7s(_hn:n₁<=h)(hbb:bb < n₁)(hX:h<=X)(hop:∀ g,vp.ownBlock=some g->n₁<=g/\g < h)(hoi:∀ g,vi.ownBlock=some g->n₁<=g/\g < h)(hb:Kb n₁ vp vi w w')(hp:xa n₁ w' vp ps)(hi:ze n₁ w' vi ins)(S:SbC n₁ cb bb h X vp vi wd ps ins k k1 s s1 v2 x2 W5 w):SbC n₁ cb bb h X vp vi wd ps ins k k1 s s1 v2 x2 W5 w':=by
 have hl:=qet S;refine qam (fun b e=>hb.2.1 b (by omega) (fun e2=>?_) (fun e2=>?_)) ((q3a S).1.trans hb) hp hi S
 ·have:=hop b e2;omega
 ·have:=hoi b e2;omega
end
theorem q6b{n₁ cb bb h X D i g6 cap6:Nat}{vp vi x2 v2:Value}{wd:Bool}{ps:List Value}{ins:List ByteArray}{k k1:Int}{s s1:ByteArray}{W5 w8:World}{oa:Option Addr}{oc:Nat}{l':List Nd}{kid:Nd}(hn:n₁<=h)(hbb:bb < n₁)(hD:h+1 < D)(hDX:D≠X)(hz:W5.heap.size<=D)(hop:∀ g,vp.ownBlock=some g->n₁<=g/\g < h)(hoi:∀ g,vi.ownBlock=some g->n₁<=g/\g < h)
  (hk:l'.take (i+1)=l'.take i++[kid]) (R:Row3 w8 D (.int .i64 k) (.string s) (.slice oa i oc)) (K:Kids (D+1) w8 (.slice (some ⟨g6,0,none⟩) (i+1) cap6) (l'.take i++[kid])) (S:SbC n₁ cb bb h X vp vi wd ps ins k k1 s s1 v2 x2 W5 w8) :
  Fb n₁ D vp vi ps ins k s W5 l' (i+1) (w8.setCell ⟨D,2,none⟩ (.slice (some ⟨g6,0,none⟩) (i+1) cap6)):=by
 obtain⟨h1,h2,h3⟩:=q3a (q54 (v:=.slice (some ⟨g6,0,none⟩) (i+1) cap6) hn hbb hD hDX hz hop hoi S);exact⟨h1,h2,h3,hz,_,_,R.put2 _,by rw[hk];exact K.keep fun b h1 _=>Below.heap_setCell _ _ _ _ (by simp only;omega)⟩
theorem qm3{n₁ h D n:Nat}{vp vi:Value}{ps:List Value}{ins:List ByteArray}{k:Int}{s:ByteArray}{W W5 w:World}{oa:Option Addr}{oc:Nat}{l':List Nd}{u0 u1 u2:Value}(hl:l'.length=n)(hz5:h+1+1+1<=W5.heap.size)(hz:W5.heap.size<=D)(hop:∀ g,vp.ownBlock=some g->n₁<=g/\g < h)(hoi:∀ g,vi.ownBlock=some g->n₁<=g/\g < h)
  (hK:Kb n₁ vp vi W W5) (hh:W.heap.size=h) (hn:n₁<=h) (F:Fb n₁ D vp vi ps ins k s W5 l' n w) (K:Kids (D+1) w (.slice oa n oc) (l'.take n)) (hs:s.size<=maxLen) (hlm:l'.length<=maxLen) :
  NdS (fun b=>W.heap.size<=b) (((w.setCell ⟨h+1+1,0,none⟩ u0).setCell ⟨h+1+1,1,none⟩ u1).setCell ⟨h+1+1,2,none⟩ u2) (.mk k s l') (.int .i64 k) (.string s) (.slice oa n oc) /\
   Kb n₁ vp vi W (((w.setCell ⟨h+1+1,0,none⟩ u0).setCell ⟨h+1+1,1,none⟩ u1).setCell ⟨h+1+1,2,none⟩ u2) /\
   xa n₁ (((w.setCell ⟨h+1+1,0,none⟩ u0).setCell ⟨h+1+1,1,none⟩ u1).setCell ⟨h+1+1,2,none⟩ u2) vp ps/\ze n₁ (((w.setCell ⟨h+1+1,0,none⟩ u0).setCell ⟨h+1+1,1,none⟩ u1).setCell ⟨h+1+1,2,none⟩ u2) vi ins:=by
 have far:∀ b,b≠h+1+1->(((w.setCell ⟨h+1+1,0,none⟩ u0).setCell ⟨h+1+1,1,none⟩ u1).setCell ⟨h+1+1,2,none⟩ u2).heap[b]?=w.heap[b]?:=fun b hb =>
  (Below.heap_setCell _ _ _ _ (by simp only;exact hb)).trans ((Below.heap_setCell _ _ _ _ (by simp only;exact hb)).trans (Below.heap_setCell _ _ _ _ (by simp only;exact hb)))
 rw[qw (by omega)]at K;have KW:=hK.trans F.kb;refine⟨?_,⟨?_,fun b h1 h2 h3=>(far b (by omega)).trans (KW.2.1 b h1 h2 h3),KW.2.2.trans ?_⟩,qy F.p fun g e=>far g (by have:=hop g e;omega),qy F.q fun g e=>far g (by have:=hoi g e;omega)⟩
 ·exact NdS.mono (fun b h1 _=>by omega) ((K.keep fun b h1 _=>far b (by omega)).node k s hs hlm)
 ·simp only[qs];exact KW.1
 ·exact(((Below.refl _ w).setCell (p:=⟨h+1+1,0,none⟩) (by simp only;omega) _).setCell (p:=⟨h+1+1,1,none⟩) (by simp only;omega) _).setCell (p:=⟨h+1+1,2,none⟩) (by simp only;omega) _
abbrev Sq(h:Nat)(k:Int)(s:ByteArray)(W5 w:World):Prop:=w.cell? ⟨h+1,0,none⟩=some (.int .i64 k)/\w.cell? ⟨h+1,1,none⟩=some (.string s)/\Hid (Below W5.heap.size W5 w)
section
variable {h:Nat} {k:Int} {s:ByteArray} {W5 w w':World}
theorem q70(hb:Below w.heap.size w w')(S:Sq h k s W5 w):Sq h k s W5 w':=⟨(hb.cell (p:=⟨h+1,0,none⟩) (qi S.1)).trans S.1,(hb.cell (p:=⟨h+1,1,none⟩) (qi S.2.1)).trans S.2.1,qh (S.2.2.out.trans (hb.mono S.2.2.out.size))⟩
theorem q71{o:Obj}(S:Sq h k s W5 w):Sq h k s W5 (w.alloc o):=q70 ((Below.refl _ w).alloc (q9 _) o) S
theorem qdp(S:Sq h k s W5 w):Sq h k s W5 w.drew:=q70 ((Below.refl _ w).drew) S
theorem qgz(S:Sq h k s W5 w.drew):Sq h k s W5 w:=⟨S.1,S.2.1,qh ⟨S.2.2.out.os,S.2.2.out.tape,S.2.2.out.output,S.2.2.out.size,S.2.2.out.block⟩⟩
theorem qh0{o:Obj}(S:Sq h k s W5 w.drew):Sq h k s W5 (w.alloc o).drew:=qdp (q71 (qgz S))
theorem qdo{D:Nat}{u0 u1 u2:Value}(hD:W5.heap.size<=D)(hh:h+1 < D)(S:Sq h k s W5 w):Sq h k s W5 (((w.setCell ⟨D,0,none⟩ u0).setCell ⟨D,1,none⟩ u1).setCell ⟨D,2,none⟩ u2):=by
 have far:∀ b,b≠D->(((w.setCell ⟨D,0,none⟩ u0).setCell ⟨D,1,none⟩ u1).setCell ⟨D,2,none⟩ u2).heap[b]?=w.heap[b]?:=fun b hb =>
  (Below.heap_setCell _ _ _ _ (by simp only;exact hb)).trans ((Below.heap_setCell _ _ _ _ (by simp only;exact hb)).trans (Below.heap_setCell _ _ _ _ (by simp only;exact hb)))
 exact⟨(World.cell?_of_block (far (h+1) (by omega))).trans S.1,(World.cell?_of_block (far (h+1) (by omega))).trans S.2.1,qh (((S.2.2.out.setCell (p:=⟨D,0,none⟩) hD _).setCell (p:=⟨D,1,none⟩) hD _).setCell (p:=⟨D,2,none⟩) hD _)⟩
theorem q4s{z0 z1 z2:Value}(hb:Below (w.alloc (.cells #[z0,z1,z2] 25)).drew.heap.size (w.alloc (.cells #[z0,z1,z2] 25)).drew w'):Row3 w' w.heap.size z0 z1 z2 :=
 (hb.block _ (show w.heap.size < (w.alloc (.cells #[z0,z1,z2] 25)).heap.size by simp)).trans (qk _ _)
end
theorem qiw(n₁ cb bb g:Nat)(caps:Array Value)(CE:World->Prop)(P:List Value->List ByteArray->Bool->Nd->Prop)(ch:List Value->List ByteArray->Bool->Nd->Nd)(eg:∀ args w,(callFunc g args).run Tryz.prog w = .ok (.enter g args) w)(hCE:∀ A B,CE A->Below n₁ A B->CE B)
  (hC:∀ H W vp vi v0 v1 v2 ps ins wd t,n₁<=H->H<=W.heap.size->CE W->xa n₁ W vp ps->ze n₁ W vi ins->ins.length<=90000->ps.length<=90000->NdO (fun b=>b < H) vp vi W t v0 v1 v2->P ps ins wd t ->
   Calls Tryz.prog g (#[.agg #[vp,vi,.bool wd],.agg #[v0,v1,v2]]++caps) W fun e W'=>∃ u0 u1 u2,e = .returned (.agg #[u0,u1,u2])/\NdO (fun b=>b < H\/W.heap.size<=b) vp vi W' (ch ps ins wd t) u0 u1 u2/\Below W.heap.size W W')
  (ps:List Value) (ins:List ByteArray) (wd:Bool) (t t':Nd) (hB:Bld P ch ps ins wd t t') :
  ∀ (W:World) (vp vi v0 v1 v2:Value),Eb n₁ cb bb (.func (.func g) #[] caps) CE W->xa n₁ W vp ps->ze n₁ W vi ins->NdO (fun _=>True) vp vi W t v0 v1 v2->ps.length+t'.sz<=90000->ins.length<=ps.length->smN t' ->
   Calls Tryz.prog 124 #[.agg #[vp,vi,.bool wd],.agg #[v0,v1,v2],.pointer (some ⟨cb,0,none⟩),.pointer (some ⟨bb,0,none⟩)] W fun e W' =>
    ∃ u0 u1 u2,e = .returned (.agg #[u0,u1,u2])/\NdS (fun b=>W.heap.size<=b) W' t' u0 u1 u2/\Kb n₁ vp vi W W'/\xa n₁ W' vp ps/\ze n₁ W' vi ins:=by
 induction hB with
 |mk ps ins wd t k s l l' hP hc hl hr ih =>
  intro W vp vi v0 v1 v2 E hp hi ht hsz hil hsm;obtain⟨k0,s0,l0,a0,c0,rfl,rfl,rfl,rfl,_,_⟩:=ht.form;obtain⟨ap,cp,rfl⟩:=zr hp;obtain⟨ai,ci,hvi⟩:=zr hi;subst hvi;rw[qx]at hi ht ⊢;simp only[smN]at hsm;simp only[Nd.sz]at hsz;have hll:=q2a l';obtain⟨h,hh⟩:∃ h,W.heap.size=h:=⟨_,rfl⟩;obtain⟨W3,hW3⟩:∃ W3,((W.alloc (.cells #[.slice ap ps.length cp,.slice ai ins.length ci,.bool wd] 85)).alloc (.cells #[.int .i64 k0,.string s0,.slice a0 l0.length c0] 25)).alloc (.cells #[.int .i64 0,.string ⟨#[]⟩,.slice none 0 0] 25)=W3:=⟨_,rfl⟩;have z3:W3.heap.size=h+1+1+1:=by rw[<-hW3];simp[hh]
  have hb3:Below h W W3:=by rw[<-hW3,<-hh];exact(((Below.refl _ W).alloc (q9 _) _).alloc (by simp) _).alloc (by simp only[q6];omega) _
  have hnh:n₁<=h:=by rw[<-hh];exact E.z
  have K3:Kb n₁ (.slice ap ps.length cp) (.slice ai ins.length ci) W W3:=Kb.of E.z (by rw[hh];exact hb3);have hownp:∀ g,(Value.slice ap ps.length cp).ownBlock=some g->n₁<=g/\g < h:=fun g e=>by rw[<-hh];exact World.ownsRow.lt hp g e
  have howns:∀ g,(Value.slice ai ins.length ci).ownBlock=some g->n₁<=g/\g < h:=fun g e=>by rw[<-hh];exact World.ownsRow.lt hi g e
  have P3:xa n₁ W3 (.slice ap ps.length cp) ps:=qy hp fun g e=>hb3.block g (hownp g e).2
  have S3:ze n₁ W3 (.slice ai ins.length ci) ins:=qy hi fun g e=>hb3.block g (howns g e).2
  have A3:RowP W3 h (.slice ap ps.length cp) (.slice ai ins.length ci) (.bool wd):=by
   rw[<-hW3,<-hh];exact(Below.heap_alloc _ _ _ (by simp only[q6];omega)).trans ((Below.heap_alloc _ _ _ (by simp only[q6];omega)).trans (qk _ _))
  have N3:Row3 W3 (h+1) (.int .i64 k0) (.string s0) (.slice a0 l0.length c0):=by
   rw[<-hW3,<-hh];exact(Below.heap_alloc _ _ _ (by simp only[q6];omega)).trans (za (by simp))
  have R3:Row3 W3 (h+1+1) (.int .i64 0) (.string ⟨#[]⟩) (.slice none 0 0):=by rw[<-hW3,<-hh];exact za (by simp)
  have E3:=E.below hCE K3.2.2;have T3:=(NdO.lt ht).kb K3;rw[hh]at T3;have C3:=qh (hC h W3 _ _ _ _ _ ps ins wd _ hnh (by omega) E3.e P3 S3 (by omega) (by omega) T3 hP);rw[hc]at C3;obtain⟨⟨p0,p1,p2⟩,_⟩:=A3.cells;obtain⟨⟨n0,n1,n2⟩,m0,m1,m2⟩:=N3.cells;have cc:W3.cell? ⟨cb,0,none⟩=some (.func (.func g) #[] caps):=qm _ _ _ _ _ _ E3.c;have HP3:=qh P3;have HS3:=qh S3;have HA3:=qh A3;have HN3:=qh N3;have HR3:=qh R3;have HE3:=qh E3;have HK3:=qh K3;have HW3:=qh hW3;have HH:=qh hh;have HIH:=qh ih;have HSM:=qh hsm;have HL:=qh hl;clear ht hp hi E P3 S3 A3 N3 R3 E3 T3 K3 hP hc hr ih hC hsm hW3 hb3;go_enter Tryz.func124,Tryz.ntmps124
  go_upto_region 1 with fail
  rw[HW3.out]
  (try rw[HH.out])
  go_wp2_with fail
  refine C3.out.mono ?_;rintro e w4⟨u0,u1,u2,rfl,t4,b4⟩;obtain⟨_,_,_,a4,c4,e4,rfl,rfl,rfl,hs4,hl4⟩:=t4.form
  cases e4;have zw3:W3.heap.size=h+1+1+1:=z3;have z4:=b4.size;have A4:RowP w4 h (.slice ap ps.length cp) (.slice ai ins.length ci) (.bool wd):=(b4.block _ HA3.out.lt).trans HA3.out;have N4:Row3 w4 (h+1) (.int .i64 k0) (.string s0) (.slice a0 l0.length c0):=HN3.out.below b4 HN3.out.lt;have R4:Row3 w4 (h+1+1) (.int .i64 0) (.string ⟨#[]⟩) (.slice none 0 0):=HR3.out.below b4 HR3.out.lt;obtain⟨W5,hW5⟩:∃ W5,((w4.setCell ⟨h+1,0,none⟩ (.int .i64 k)).setCell ⟨h+1,1,none⟩ (.string s)).setCell ⟨h+1,2,none⟩ (.slice a4 l.length c4)=W5:=⟨_,rfl⟩
  have far:∀ b,b≠h+1->W5.heap[b]?=w4.heap[b]?:=fun b hb=>by
   rw[<-hW5];exact(Below.heap_setCell _ _ _ _ (by simp only;exact hb)).trans ((Below.heap_setCell _ _ _ _ (by simp only;exact hb)).trans (Below.heap_setCell _ _ _ _ (by simp only;exact hb)))
  have z5:W5.heap.size=w4.heap.size:=by rw[<-hW5,qs,qs,qs]
  have B45:Below (h+1) w4 W5:=by rw[<-hW5];exact(((Below.refl _ w4).setCell (p:=⟨h+1,0,none⟩) (q9 _) _).setCell (p:=⟨h+1,1,none⟩) (q9 _) _).setCell (p:=⟨h+1,2,none⟩) (q9 _) _
  have K45:Kb n₁ (.slice ap ps.length cp) (.slice ai ins.length ci) W w4:=HK3.out.trans (Kb.of (by omega) b4);have K5:Kb n₁ (.slice ap ps.length cp) (.slice ai ins.length ci) W W5:=⟨by have:=K45.1;omega,fun b h1 h2 h3=>(far b (by omega)).trans (K45.2.1 b h1 h2 h3),K45.2.2.trans (B45.mono (by omega))⟩;have A5:RowP W5 h (.slice ap ps.length cp) (.slice ai ins.length ci) (.bool wd):=(far _ (by omega)).trans A4;have N5:Row3 W5 (h+1) (.int .i64 k) (.string s) (.slice a4 l.length c4):=by rw[<-hW5];exact N4.put _ _ _
  have R5:Row3 W5 (h+1+1) (.int .i64 0) (.string ⟨#[]⟩) (.slice none 0 0):=(far _ (by omega)).trans R4;have P5:xa n₁ W5 (.slice ap ps.length cp) ps:=qy HP3.out fun g e=>by have:=hownp g e;exact(far g (by omega)).trans (b4.block g (by omega))
  have S5:ze n₁ W5 (.slice ai ins.length ci) ins:=qy HS3.out fun g e=>by have:=howns g e;exact(far g (by omega)).trans (b4.block g (by omega))
  have E5:=(HE3.out.below hCE (b4.mono (by omega))).below hCE (B45.mono (by omega));have T5:NdO (fun _=>True) (.slice ap ps.length cp) (.slice ai ins.length ci) W5 (.mk k s l) (.int .i64 k) (.string s) (.slice a4 l.length c4):=NdS.keep (fun b h1 _=>⟨far b (by rcases h1.2 with h9|h9 <;> omega),h1.1,trivial⟩) t4;have HW5:=qh hW5;obtain⟨⟨n0',n1',n2'⟩,m0',m1',m2'⟩:=N4.cells;have HA5:=qh A5;have HN5:=qh N5;have HR5:=qh R5;have HP5:=qh P5;have HS5:=qh S5;have HE5:=qh E5;have HT5:=qh T5;have HK5:=qh K5;have HZ5:=qh (show h+1+1+1<=W5.heap.size by omega);clear A4 N4 R4 far B45 K45 K5 A5 N5 R5 P5 S5 E5 T5 hW5 t4 b4 C3 p0 p1 p2 n0 n1 n2 m0 m1 m2 cc HP3 HS3 HA3 HN3 HR3 HE3 HK3 HW3 z5 z4
  go_upto_region 2 with fail
  rw[HW5.out];clear n0' n1' n2' m0' m1' m2' HW5;have CC:=qh (fun W (hz:s.size<=20000)=>q5s s W hz);have hs20:s.size<=20000:=by have:=HSM.out.1;omega
  have SD:Sq h k s W5 W5.drew:=qdp ⟨HN5.out.cells.1.1,HN5.out.cells.1.2.1,qh (Below.refl _ _)⟩;have hz5:=HZ5.out
  go_cut [7] (fun v wx=>∃ D,v = .pointer (some ⟨D,0,none⟩)/\Hid (Row3 wx D (.int .i64 k) (.string s) (.slice none 0 0)/\Below W5.heap.size W5 wx/\W5.heap.size<=D))
  case first =>
   go_region_held3 (fun w'=>w'.cell? ⟨h+1,0,none⟩=some (.int .i64 k)/\w'.cell? ⟨h+1,1,none⟩=some (.string s)/\Hid (Below W5.heap.size W5 w'))
    (first|with_reducible exact SD|with_reducible exact S6|(with_reducible refine qh0 ?_;with_reducible assumption)|(with_reducible refine q71 ?_;with_reducible assumption)|exact qdo (q9 _) (by omega) S6|exact qdo S6.2.2.out.size (by have:=S6.2.2.out.size;omega) (q71 S6))
    (first|(go_at_call 113;refine(CC.out _ hs20).mono ?_;rintro e w6 ⟨rfl,hb6⟩;have S6:=q70 hb6 (by with_reducible assumption);first|(with_reducible have D6:=qh (q4s hb6);obtain⟨⟨f0,f1,f2⟩,f3,f4,f5⟩:=D6.out.cells)|skip))
   all_goals (try go_wp2)
   all_goals go_meet
   ·exact⟨_,rfl,qh ⟨Row3.new _ _ _ _,S6.2.2.out.alloc S6.2.2.out.size _,S6.2.2.out.size⟩⟩
   ·exact⟨_,rfl,qh ⟨D6.out.put _ _ _,((S6.2.2.out.setCell (p:=⟨W5.heap.size,0,none⟩) (q9 _) _).setCell (p:=⟨W5.heap.size,1,none⟩) (q9 _) _).setCell (p:=⟨W5.heap.size,2,none⟩) (q9 _) _,q9 _⟩⟩
  case rest =>
   obtain⟨D,rfl,hD⟩:=hcut
   rename World=>wx
   obtain⟨dX,bX,zD⟩:=hD.out;have KX:Kb n₁ (.slice ap ps.length cp) (.slice ai ins.length ci) W5 wx:=Kb.of (by omega) bX;have NX:Row3 wx (h+1) (.int .i64 k) (.string s) (.slice a4 l.length c4):=HN5.out.below bX HN5.out.lt;have PX:xa n₁ wx (.slice ap ps.length cp) ps:=qy HP5.out fun g e=>by have:=hownp g e;exact bX.block g (by omega)
   have SX:ze n₁ wx (.slice ai ins.length ci) ins:=qy HS5.out fun g e=>by have:=howns g e;exact bX.block g (by omega)
   have FX:Hid (Fb n₁ D (.slice ap ps.length cp) (.slice ai ins.length ci) ps ins k s W5 l' 0 wx):=qh ⟨KX,PX,SX,zD,none,0,dX,Kids.nil _ _⟩;obtain⟨⟨n0,n1,n2⟩,_⟩:=NX.cells;have HZD:=qh zD;clear dX bX zD KX NX PX SX hD SD CC;go_wp2;clear n0 n1 n2
   go_loopw [23] (fun v wr=>∃ i:Nat,i<=l.length/\v = .int .i64 i/\Hid (Fb n₁ D (.slice ap ps.length cp) (.slice ai ins.length ci) ps ins k s W5 l' i wr)) (fun v _=>l.length - (intOf v).toNat)
   case atStart=>exact⟨0,qv _,rfl,FX⟩
   case round =>
    obtain⟨i,hi,rfl,hF⟩:=hrel
    by_cases hlt:i < l.length
    ·have hlt':(i:Int) < (l.length:Int):=by omega
     have hi0:(0:Int)<=(i:Int):=by omega
     have TR:=HT5.out.kb hF.out.kb;obtain⟨b,o,k1,s1,l1,a1,c1,rfl,e1,x0,x1,x2,r1⟩:=NdS.kid TR i hlt;clear TR;obtain⟨oa,oc,d9,kd9⟩:=hF.out.d;have hzr:W5.heap.size<=wr.heap.size:=hF.out.kb.1;have hDr:=d9.lt;have hzD:=HZD.out;obtain⟨X,hX⟩:∃ X,wr.heap.size=X:=⟨_,rfl⟩;obtain⟨w5,hw5⟩:∃ w5,wr.alloc (.cells #[.int .i64 k1,.string s1,.slice a1 l1.length c1] 25)=w5:=⟨_,rfl⟩;have z5:w5.heap.size=X+1:=by rw[<-hw5,<-hX];simp
     have b5:Below X wr w5:=by rw[<-hw5,<-hX];exact(Below.refl _ wr).alloc (q9 _) _
     have K5':Kb n₁ (.slice ap ps.length cp) (.slice ai ins.length ci) wr w5:=Kb.of (by omega) (by rw[hX];exact b5);have XX:Row3 w5 X (.int .i64 k1) (.string s1) (.slice a1 l1.length c1):=by rw[<-hw5,<-hX];exact Row3.new _ _ _ _
     have kW:Kb n₁ (.slice ap ps.length cp) (.slice ai ins.length ci) W5 w5:=hF.out.kb.trans K5';have hop:∀ b,h<=b->(Value.slice ap ps.length cp).ownBlock≠some b:=fun b hb e=>by have:=hownp b e;omega
     have hoi:∀ b,h<=b->(Value.slice ai ins.length ci).ownBlock≠some b:=fun b hb e=>by have:=howns b e;omega
     have A6:RowP w5 h (.slice ap ps.length cp) (.slice ai ins.length ci) (.bool wd):=(kW.2.1 h HA5.out.lt (hop h (q9 _)) (hoi h (q9 _))).trans HA5.out;have N6:Row3 w5 (h+1) (.int .i64 k) (.string s) (.slice (some ⟨b,o,none⟩) l.length c4):=(kW.2.1 (h+1) HN5.out.lt (hop _ (by omega)) (hoi _ (by omega))).trans HN5.out;have E6:=HE5.out.below hCE kW.2.2;have D6:Row3 w5 D (.int .i64 k) (.string s) (.slice oa i oc):=d9.below b5 (by omega);have P6:xa n₁ w5 (.slice ap ps.length cp) ps:=qy hF.out.p fun g e=>b5.block g (by have:=hownp g e;omega)
     have Q6:ze n₁ w5 (.slice ai ins.length ci) ins:=qy hF.out.q fun g e=>b5.block g (by have:=howns g e;omega)
     have r6:=NdO.kb r1 K5'
     have SD:SbC n₁ cb bb h X (.slice ap ps.length cp) (.slice ai ins.length ci) wd ps ins k k1 s s1 (.slice (some ⟨b,o,none⟩) l.length c4) (.slice a1 l1.length c1) W5 w5.drew :=
      ⟨qm _ _ _ _ _ _ E6.b,A6.cells.1.1,A6.cells.1.2.1,A6.cells.1.2.2,N6.cells.1.1,N6.cells.1.2.1,N6.cells.1.2.2,XX.cells.1.1,XX.cells.1.2.1,XX.cells.1.2.2,qh ⟨kW.trans ⟨q9 _,fun _ _ _ _=>rfl,(Below.refl _ w5).drew⟩,P6,Q6⟩⟩
     have d5:w5.drew.cell? ⟨D,2,none⟩=some (.slice oa i oc):=D6.cells.1.2.2;have HOWN:Hid (∀ g,(Value.slice oa i oc).ownBlock=some g->D < g/\g < X):=qh (fun g e=>by have:=kd9.own g e;omega);have KD5:=qh (show Kids (D+1) w5 (.slice oa i oc) (l'.take i) from kd9.keep fun b' _ h2=>b5.block b' (by omega));have HE6:=qh E6;have HD6:=qh D6;have HR6:=qh r6;have HkW:=qh kW;have HZ:=qh z5;have HW5':=qh hw5;have HXe:=qh hX;have HE1:=qh e1;obtain⟨ins',hins⟩:∃ ins',(if(zo k && decide (i+1=l.length))=true then ins++[s] else ins)=ins':=⟨_,rfl⟩;have CD0:=(fun w (h1:n₁<=w.heap.size) (h2:xa n₁ w (.slice ap ps.length cp) ps) (h3:ze n₁ w (.slice ai ins.length ci) ins)=>qa9 n₁ k s (some ⟨b,o,none⟩) l.length c4 i ap ai cp ci ps ins wd w h1 h2 h3 (by omega) (by omega) (by unfold maxLen;omega) hlt _ rfl ins' hins)
     have hil2:ins'.length<=ps.length+1:=by
      rw[<-hins]
      split
      ·simp;omega
      ·omega
     have CV0:=HIH.out i hlt;rw[hins]at CV0;obtain⟨K7,h7⟩:∃ K7,(k==7)=K7:=⟨_,rfl⟩;rw[h7]at CD0 CV0;have CD:=qh CD0;have HL1:Hid ((ps++[Value.int .i64 (i:Int)]).length=ps.length+1):=qh (by simp);obtain⟨kid',hkid⟩:∃ kid',l'[i]'(by omega)=kid':=⟨_,rfl⟩;have hksz:kid'.sz<=Nd.szL l':=by rw[<-hkid];exact y5 l' i (by omega)
     have hksm:smN kid':=by rw[<-hkid];exact qds HSM.out.2 i (by omega)
     rw[hkid]at CV0;have CVf:=qh (fun W vp vi v0 v1 v2 h1 h2 h3 h4=>CV0 W vp vi v0 v1 v2 h1 h2 h3 h4 (by rw[HL1.out];omega) (by rw[HL1.out];exact hil2) hksm);have HYS:Hid (ins'=ins++if(zo k && decide (i+1=l.length))=true then [s] else []):=qh (by rw[<-hins];split <;> simp);have HTK:Hid (l'.take (i+1)=l'.take i++[kid']):=qh (by rw[zc (by omega),hkid]);have hli:(l'.take i).length=i:=by rw[List.length_take];omega
     have HLI:=qh hli;clear CD0 CV0 hins h7 hkid hli d9 kd9 b5 K5' XX kW A6 N6 E6 D6 P6 Q6 r6 r1 z5 hw5 hX e1
     go_upto_region 6 with fail
     rw[HW5'.out,HXe.out];clear x0 x1 x2;have hDX:D < X:=by rw[<-HXe.out];exact hDr
     have hX0:h<=X:=by omega
     have hhD:h+1 < D:=by omega
     have hDX0:D≠X:=by omega
     have hD0:h<=D:=by omega
     have hbb:=HE5.out.bl;have LT:=qh (fun(w:World) (S:SbC n₁ cb bb h X (.slice ap ps.length cp) (.slice ai ins.length ci) wd ps ins k k1 s s1 (.slice (some ⟨b,o,none⟩) l.length c4) (.slice a1 l1.length c1) W5 w)=>q3a S);clear hop hoi;refine wp_region_held_drew (S:=(fun w'=>w'.cell? ⟨bb,0,none⟩=some (.func (.func 124) #[] #[.pointer (some ⟨cb,0,none⟩),.pointer (some ⟨bb,0,none⟩)])/\w'.cell? ⟨h,0,none⟩=some (.slice ap ps.length cp)/\w'.cell? ⟨h,1,none⟩=some (.slice ai ins.length ci)/\w'.cell? ⟨h,2,none⟩=some (.bool wd)/\w'.cell? ⟨h+1,0,none⟩=some (.int .i64 k)/\w'.cell? ⟨h+1,1,none⟩=some (.string s)/\w'.cell? ⟨h+1,2,none⟩=some (.slice (some ⟨b,o,none⟩) l.length c4)/\w'.cell? ⟨X,0,none⟩=some (.int .i64 k1)/\w'.cell? ⟨X,1,none⟩=some (.string s1)/\w'.cell? ⟨X,2,none⟩=some (.slice a1 l1.length c1)/\Hid (SbB n₁ (.slice ap ps.length cp) (.slice ai ins.length ci) ps ins W5 w'))) (by kernel_rfl) SD (fun hHeld=>?_);refine wpAnyH_take (i:=0) (v:=?_) rfl (by kernel_rfl) (by kernel_rfl) (by kernel_rfl) (fun _ _ _ h=>h) (Or.inl ⟨by rfl,?_⟩) (by assumption) ?_
     rotate_left
     ·(intro w hSw;(try dsimp only at hSw);go_simp;try with_reducible rfl)
     try simp only[Act.put,qa]
     refine wpAnyH_take (i:=2) (v:=?_) rfl (by kernel_rfl) (by kernel_rfl) (by kernel_rfl) (fun _ _ _ h=>h) (Or.inl ⟨by rfl,?_⟩) (by assumption) ?_
     rotate_left
     ·(intro w hSw;(try dsimp only at hSw);go_simp;try with_reducible rfl)
     try simp only[Act.put]
     refine wpAnyH_take (i:=3) (v:=?_) rfl (by kernel_rfl) (by kernel_rfl) (by kernel_rfl) (fun _ _ _ h=>h) (Or.inl ⟨by rfl,?_⟩) (by assumption) ?_
     rotate_left
     ·(intro w hSw;(try dsimp only at hSw);go_simp;try with_reducible rfl)
     try simp only[Act.put]
     refine wpAnyH_take (i:=4) (v:=?_) rfl (by kernel_rfl) (by kernel_rfl) (by kernel_rfl) (fun _ _ _ h=>h) (Or.inl ⟨by rfl,?_⟩) (by assumption) ?_
     rotate_left
     ·(intro w hSw;(try dsimp only at hSw);go_simp;try with_reducible rfl)
     try simp only[Act.put]
     refine wpAnyH_take (i:=5) (v:=?_) rfl (by kernel_rfl) (by kernel_rfl) (by kernel_rfl) (fun _ _ _ h=>h) (Or.inl ⟨by rfl,?_⟩) (by assumption) ?_
     rotate_left
     ·(intro w hSw;(try dsimp only at hSw);go_simp;try with_reducible rfl)
     try simp only[Act.put]
     refine wpAnyH_take (i:=7) (v:=?_) rfl (by kernel_rfl) (by kernel_rfl) (by kernel_rfl) (fun _ _ _ h=>h) (Or.inl ⟨by rfl,?_⟩) (by assumption) ?_
     rotate_left
     ·(intro w hSw;(try dsimp only at hSw);go_simp;try with_reducible rfl)
     try simp only[Act.put]
     refine wpAnyH_ready (rs:=[1,6]) (by kernel_rfl) (by simp) ?_;refine AllReadyH.cons rfl (fun K hK=>?_) ?_
     ·skip
      go_simp;refine hK.out _ _ ?_ (fun hHeld=>?_)
      ·exact SD
      clear hK K
      try simp only[Act.put,qa,qe,qf]
      refine wpAnyH_ready (rs:=[6]) (by kernel_rfl) (by simp) ?_;refine AllReadyH.cons rfl (fun K hK=>?_) ?_
      ·skip
       go_simp;refine(CD.out w5.drew (show n₁<=w5.heap.size by have:=HZ.out;omega) (LT.out _ SD).2.1 (LT.out _ SD).2.2).mono ?_;rintro e w6⟨ap',ai',cp',ci',rfl,p6,s6,pp6,ss6,z6,k6,b6,o6,oi6⟩;rw[HL1.out]at p6 o6;have KB6:Hid (Kb n₁ (.slice ap ps.length cp) (.slice ai ins.length ci) w5.drew w6):=qh ⟨z6,k6,b6⟩;have SS6:=q7s hnh hbb hX0 hownp howns KB6.out pp6 ss6 SD;have P6:=qh p6;have S6:=qh s6;have PP6:=qh pp6;have TT6:=qh ss6;have OP6:=qh o6;have OI6:=qh oi6;have EE6:=qh (HE6.out.below hCE (show Below n₁ w5 w6 from((Below.refl n₁ w5).drew).trans b6));have d6:=(World.cell?_of_block (q16 hownp howns KB6.out D hD0 (show D < w5.heap.size by have:=HZ.out;omega))).trans d5;have TR6:=qh (qdm HR6.out KB6.out o6 oi6);clear p6 s6 pp6 ss6 z6 k6 b6 o6 oi6
       go_wp2_with fail
       refine hK.out _ _ ?_ (fun hHeld=>?_)
       ·exact SS6
       clear hK K
       try simp only[Act.put,qa,qe,qf]
       refine wpAnyH_ready (rs:=[8]) (by kernel_rfl) (by simp) ?_;refine AllReadyH.cons rfl (fun K hK=>?_) ?_
       ·skip
        go_simp;refine(CVf.out w6 _ _ _ _ _ EE6.out P6.out S6.out (by rw[HE1.out];exact TR6.out)).mono ?_;rintro e w7⟨u0,u1,u2,rfl,t7,kb7,p7,s7⟩;obtain⟨k7,q7,l7,a7,c7,ek7,rfl,rfl,rfl,_,_⟩:=t7.form;have U7:Hid (Kb n₁ (.slice ap ps.length cp) (.slice ai ins.length ci) w5.drew w7):=qh (Kb.up KB6.out kb7 OP6.out OI6.out);have V7:Hid (xa n₁ w7 (.slice ap ps.length cp) ps):=qh (qc9 PP6.out P6.out S6.out (km PP6.out S6.out) kb7 p7);have I7:Hid (ze n₁ w7 (.slice ai ins.length ci) ins):=qh (qc8 HYS.out TT6.out S6.out P6.out (fun g e1 e4=>km P6.out TT6.out g e4 e1) kb7 s7);have SS7:=q7s hnh hbb hX0 hownp howns U7.out V7.out I7.out SD;have K7D:Hid (Kids (D+1) w7 (.slice oa i oc) (l'.take i)):=qh (KD5.out.keep fun b' h1 h2=>q16 hownp howns U7.out b' (by omega) h2);have R7D:Hid (Row3 w7 D (.int .i64 k) (.string s) (.slice oa i oc)):=qh ((q16 hownp howns U7.out D hD0 (show D < w5.heap.size by have:=HZ.out;omega)).trans HD6.out);have hz7:w5.heap.size<=w7.heap.size:=U7.out.1;have hzX:=HZ.out;have Z7:Hid (n₁<=w7.heap.size):=qh (by omega);have T7:=qh (t7.mono fun b' hb' _=>qo (show w5.heap.size<=w6.heap.size from KB6.out.1) hb');have HEK:=qh ek7;have d7:w7.cell? ⟨D,2,none⟩=some (.slice oa i oc):=R7D.out.cells.1.2.2;have d7':=(fun x=>(World.cell?_alloc_past (w:=w7) x D 2 (by omega)).trans d7);clear kb7 p7 s7 t7 ek7
        go_wp2_with fail
        refine hK.out _ _ ?_ (fun hHeld=>?_)
        ·exact SS7
        clear hK K
        try simp only[Act.put,qa,qe,qf]
        refine wpAnyH_ready (rs:=[9]) (by kernel_rfl) (by simp) ?_;refine AllReadyH.cons rfl (fun K hK=>?_) ?_
        ·skip
         go_simp;refine hK.out _ _ ?_ (fun hHeld=>?_)
         ·exact(yp Z7.out SS7)
         clear hK K
         try simp only[Act.put,qa,qe,qf]
         refine wpAnyH_ready (rs:=[10]) (by kernel_rfl) (by simp) ?_;refine AllReadyH.cons rfl (fun K hK=>?_) ?_
         ·skip
          refine xd rfl _ _ rfl (D+1) (.slice oa i oc) (l'.take i) rfl (K7D.out.keep fun b' _ h2=>Below.heap_alloc _ _ _ h2) ⟨w7.heap.size,0,none⟩ 1 (by rfl) kid' (.int .i64 k7) (.string q7) (.slice a7 l7.length c7) (xu w7 _ _ _ _ _ rfl) (T7.out.keep (fun b' (h1:w5.heap.size<=b') h2=>⟨Below.heap_alloc _ _ _ h2,(by omega),fun e=>by have:=HOWN.out b' e;omega⟩)) (by rw[HLI.out];omega) (by rw[q6];omega) _ rfl ?_;intro g6 cap6 w8 K8 G8 _ hg8;rw[HLI.out]at K8 ⊢;have SS8:=q3z hnh hbb hhD hzD hownp howns G8 HOWN.out (yp Z7.out SS7);have R8:=qh ((R7D.out.alloc _).grown' G8 (fun e=>by have:=HOWN.out D e.symm;omega));obtain⟨⟨y0,y1,y2⟩,z0,z1,z2⟩:=R8.out.cells;have HK8:=qh K8;clear K8 G8 hg8;refine hK.out _ _ ?_ (fun hHeld=>?_)
          ·exact SS8
          clear hK K
          try simp only[Act.put,qa]
          refine wpAnyH_take (i:=11) (v:=?_) rfl (by kernel_rfl) (by kernel_rfl) (by kernel_rfl) (fun _ _ _ h=>h) (Or.inl ⟨by rfl,?_⟩) (by assumption) ?_
          rotate_left
          ·(intro w hSw;(try dsimp only at hSw);go_simp;try with_reducible rfl)
          try simp only[Act.put]
          refine wpAnyH_ready (rs:=[12]) (by kernel_rfl) (by simp) ?_;refine AllReadyH.cons rfl (fun K hK=>?_) ?_
          ·skip
           go_simp;refine hK.out _ _ ?_ (fun hHeld=>?_)
           ·exact(q54 hnh hbb hhD hDX0 hzD hownp howns SS8)
           clear hK K
           try simp only[Act.put,qa,qe,qf]
           refine wpAnyH_done (by kernel_rfl) ?_ _;have HFN:=qh (q6b hnh hbb hhD hDX0 hzD hownp howns HTK.out R8.out HK8.out SS8);clear SD SS6 SS7 SS8 d5 d6 d7 d7' CD CVf y0 y1 y2 z0 z1 z2;go_wp2;go_roundw
           case rel=>exact⟨i+1,hlt,by push_cast;rfl,HFN⟩
           case measure=>simp[intOf];omega
          exact AllReadyH.nil
         exact AllReadyH.nil
        exact AllReadyH.nil
       exact AllReadyH.nil
      exact AllReadyH.nil
     refine AllReadyH.cons rfl (fun K hK=>?_) ?_
     ·skip
      go_simp;refine(CD.out w5.drew (show n₁<=w5.heap.size by have:=HZ.out;omega) (LT.out _ SD).2.1 (LT.out _ SD).2.2).mono ?_;rintro e w6⟨ap',ai',cp',ci',rfl,p6,s6,pp6,ss6,z6,k6,b6,o6,oi6⟩;rw[HL1.out]at p6 o6;have KB6:Hid (Kb n₁ (.slice ap ps.length cp) (.slice ai ins.length ci) w5.drew w6):=qh ⟨z6,k6,b6⟩;have SS6:=q7s hnh hbb hX0 hownp howns KB6.out pp6 ss6 SD;have P6:=qh p6;have S6:=qh s6;have PP6:=qh pp6;have TT6:=qh ss6;have OP6:=qh o6;have OI6:=qh oi6;have EE6:=qh (HE6.out.below hCE (show Below n₁ w5 w6 from((Below.refl n₁ w5).drew).trans b6));have d6:=(World.cell?_of_block (q16 hownp howns KB6.out D hD0 (show D < w5.heap.size by have:=HZ.out;omega))).trans d5;have TR6:=qh (qdm HR6.out KB6.out o6 oi6);clear p6 s6 pp6 ss6 z6 k6 b6 o6 oi6
      go_wp2_with fail
      refine hK.out _ _ ?_ (fun hHeld=>?_)
      ·exact SS6
      clear hK K
      try simp only[Act.put,qa,qe,qf]
      refine wpAnyH_ready (rs:=[1,8]) (by kernel_rfl) (by simp) ?_;refine AllReadyH.cons rfl (fun K hK=>?_) ?_
      ·skip
       go_simp;refine hK.out _ _ ?_ (fun hHeld=>?_)
       ·exact SS6
       clear hK K
       try simp only[Act.put,qa,qe,qf]
       refine wpAnyH_ready (rs:=[8]) (by kernel_rfl) (by simp) ?_;refine AllReadyH.cons rfl (fun K hK=>?_) ?_
       ·skip
        go_simp;refine(CVf.out w6 _ _ _ _ _ EE6.out P6.out S6.out (by rw[HE1.out];exact TR6.out)).mono ?_;rintro e w7⟨u0,u1,u2,rfl,t7,kb7,p7,s7⟩;obtain⟨k7,q7,l7,a7,c7,ek7,rfl,rfl,rfl,_,_⟩:=t7.form;have U7:Hid (Kb n₁ (.slice ap ps.length cp) (.slice ai ins.length ci) w5.drew w7):=qh (Kb.up KB6.out kb7 OP6.out OI6.out);have V7:Hid (xa n₁ w7 (.slice ap ps.length cp) ps):=qh (qc9 PP6.out P6.out S6.out (km PP6.out S6.out) kb7 p7);have I7:Hid (ze n₁ w7 (.slice ai ins.length ci) ins):=qh (qc8 HYS.out TT6.out S6.out P6.out (fun g e1 e4=>km P6.out TT6.out g e4 e1) kb7 s7);have SS7:=q7s hnh hbb hX0 hownp howns U7.out V7.out I7.out SD;have K7D:Hid (Kids (D+1) w7 (.slice oa i oc) (l'.take i)):=qh (KD5.out.keep fun b' h1 h2=>q16 hownp howns U7.out b' (by omega) h2);have R7D:Hid (Row3 w7 D (.int .i64 k) (.string s) (.slice oa i oc)):=qh ((q16 hownp howns U7.out D hD0 (show D < w5.heap.size by have:=HZ.out;omega)).trans HD6.out);have hz7:w5.heap.size<=w7.heap.size:=U7.out.1;have hzX:=HZ.out;have Z7:Hid (n₁<=w7.heap.size):=qh (by omega);have T7:=qh (t7.mono fun b' hb' _=>qo (show w5.heap.size<=w6.heap.size from KB6.out.1) hb');have HEK:=qh ek7;have d7:w7.cell? ⟨D,2,none⟩=some (.slice oa i oc):=R7D.out.cells.1.2.2;have d7':=(fun x=>(World.cell?_alloc_past (w:=w7) x D 2 (by omega)).trans d7);clear kb7 p7 s7 t7 ek7
        go_wp2_with fail
        refine hK.out _ _ ?_ (fun hHeld=>?_)
        ·exact SS7
        clear hK K
        try simp only[Act.put,qa,qe,qf]
        refine wpAnyH_ready (rs:=[9]) (by kernel_rfl) (by simp) ?_;refine AllReadyH.cons rfl (fun K hK=>?_) ?_
        ·skip
         go_simp;refine hK.out _ _ ?_ (fun hHeld=>?_)
         ·exact(yp Z7.out SS7)
         clear hK K
         try simp only[Act.put,qa,qe,qf]
         refine wpAnyH_ready (rs:=[10]) (by kernel_rfl) (by simp) ?_;refine AllReadyH.cons rfl (fun K hK=>?_) ?_
         ·skip
          refine xd rfl _ _ rfl (D+1) (.slice oa i oc) (l'.take i) rfl (K7D.out.keep fun b' _ h2=>Below.heap_alloc _ _ _ h2) ⟨w7.heap.size,0,none⟩ 1 (by rfl) kid' (.int .i64 k7) (.string q7) (.slice a7 l7.length c7) (xu w7 _ _ _ _ _ rfl) (T7.out.keep (fun b' (h1:w5.heap.size<=b') h2=>⟨Below.heap_alloc _ _ _ h2,(by omega),fun e=>by have:=HOWN.out b' e;omega⟩)) (by rw[HLI.out];omega) (by rw[q6];omega) _ rfl ?_;intro g6 cap6 w8 K8 G8 _ hg8;rw[HLI.out]at K8 ⊢;have SS8:=q3z hnh hbb hhD hzD hownp howns G8 HOWN.out (yp Z7.out SS7);have R8:=qh ((R7D.out.alloc _).grown' G8 (fun e=>by have:=HOWN.out D e.symm;omega));obtain⟨⟨y0,y1,y2⟩,z0,z1,z2⟩:=R8.out.cells;have HK8:=qh K8;clear K8 G8 hg8;refine hK.out _ _ ?_ (fun hHeld=>?_)
          ·exact SS8
          clear hK K
          try simp only[Act.put,qa]
          refine wpAnyH_take (i:=11) (v:=?_) rfl (by kernel_rfl) (by kernel_rfl) (by kernel_rfl) (fun _ _ _ h=>h) (Or.inl ⟨by rfl,?_⟩) (by assumption) ?_
          rotate_left
          ·(intro w hSw;(try dsimp only at hSw);go_simp;try with_reducible rfl)
          try simp only[Act.put]
          refine wpAnyH_ready (rs:=[12]) (by kernel_rfl) (by simp) ?_;refine AllReadyH.cons rfl (fun K hK=>?_) ?_
          ·skip
           go_simp;refine hK.out _ _ ?_ (fun hHeld=>?_)
           ·exact(q54 hnh hbb hhD hDX0 hzD hownp howns SS8)
           clear hK K
           try simp only[Act.put,qa,qe,qf]
           refine wpAnyH_done (by kernel_rfl) ?_ _;have HFN:=qh (q6b hnh hbb hhD hDX0 hzD hownp howns HTK.out R8.out HK8.out SS8);clear SD SS6 SS7 SS8 d5 d6 d7 d7' CD CVf y0 y1 y2 z0 z1 z2;go_wp2;go_roundw
           case rel=>exact⟨i+1,hlt,by push_cast;rfl,HFN⟩
           case measure=>simp[intOf];omega
          exact AllReadyH.nil
         exact AllReadyH.nil
        exact AllReadyH.nil
       exact AllReadyH.nil
      refine AllReadyH.cons rfl (fun K hK=>?_) ?_
      ·skip
       go_simp;refine(CVf.out w6 _ _ _ _ _ EE6.out P6.out S6.out (by rw[HE1.out];exact TR6.out)).mono ?_;rintro e w7⟨u0,u1,u2,rfl,t7,kb7,p7,s7⟩;obtain⟨k7,q7,l7,a7,c7,ek7,rfl,rfl,rfl,_,_⟩:=t7.form;have U7:Hid (Kb n₁ (.slice ap ps.length cp) (.slice ai ins.length ci) w5.drew w7):=qh (Kb.up KB6.out kb7 OP6.out OI6.out);have V7:Hid (xa n₁ w7 (.slice ap ps.length cp) ps):=qh (qc9 PP6.out P6.out S6.out (km PP6.out S6.out) kb7 p7);have I7:Hid (ze n₁ w7 (.slice ai ins.length ci) ins):=qh (qc8 HYS.out TT6.out S6.out P6.out (fun g e1 e4=>km P6.out TT6.out g e4 e1) kb7 s7);have SS7:=q7s hnh hbb hX0 hownp howns U7.out V7.out I7.out SD;have K7D:Hid (Kids (D+1) w7 (.slice oa i oc) (l'.take i)):=qh (KD5.out.keep fun b' h1 h2=>q16 hownp howns U7.out b' (by omega) h2);have R7D:Hid (Row3 w7 D (.int .i64 k) (.string s) (.slice oa i oc)):=qh ((q16 hownp howns U7.out D hD0 (show D < w5.heap.size by have:=HZ.out;omega)).trans HD6.out);have hz7:w5.heap.size<=w7.heap.size:=U7.out.1;have hzX:=HZ.out;have Z7:Hid (n₁<=w7.heap.size):=qh (by omega);have T7:=qh (t7.mono fun b' hb' _=>qo (show w5.heap.size<=w6.heap.size from KB6.out.1) hb');have HEK:=qh ek7;have d7:w7.cell? ⟨D,2,none⟩=some (.slice oa i oc):=R7D.out.cells.1.2.2;have d7':=(fun x=>(World.cell?_alloc_past (w:=w7) x D 2 (by omega)).trans d7);clear kb7 p7 s7 t7 ek7
       go_wp2_with fail
       refine hK.out _ _ ?_ (fun hHeld=>?_)
       ·exact SS7
       clear hK K
       try simp only[Act.put,qa,qe,qf]
       refine wpAnyH_ready (rs:=[1,9]) (by kernel_rfl) (by simp) ?_;refine AllReadyH.cons rfl (fun K hK=>?_) ?_
       ·skip
        go_simp;refine hK.out _ _ ?_ (fun hHeld=>?_)
        ·exact SS7
        clear hK K
        try simp only[Act.put,qa,qe,qf]
        refine wpAnyH_ready (rs:=[9]) (by kernel_rfl) (by simp) ?_;refine AllReadyH.cons rfl (fun K hK=>?_) ?_
        ·skip
         go_simp;refine hK.out _ _ ?_ (fun hHeld=>?_)
         ·exact(yp Z7.out SS7)
         clear hK K
         try simp only[Act.put,qa,qe,qf]
         refine wpAnyH_ready (rs:=[10]) (by kernel_rfl) (by simp) ?_;refine AllReadyH.cons rfl (fun K hK=>?_) ?_
         ·skip
          refine xd rfl _ _ rfl (D+1) (.slice oa i oc) (l'.take i) rfl (K7D.out.keep fun b' _ h2=>Below.heap_alloc _ _ _ h2) ⟨w7.heap.size,0,none⟩ 1 (by rfl) kid' (.int .i64 k7) (.string q7) (.slice a7 l7.length c7) (xu w7 _ _ _ _ _ rfl) (T7.out.keep (fun b' (h1:w5.heap.size<=b') h2=>⟨Below.heap_alloc _ _ _ h2,(by omega),fun e=>by have:=HOWN.out b' e;omega⟩)) (by rw[HLI.out];omega) (by rw[q6];omega) _ rfl ?_;intro g6 cap6 w8 K8 G8 _ hg8;rw[HLI.out]at K8 ⊢;have SS8:=q3z hnh hbb hhD hzD hownp howns G8 HOWN.out (yp Z7.out SS7);have R8:=qh ((R7D.out.alloc _).grown' G8 (fun e=>by have:=HOWN.out D e.symm;omega));obtain⟨⟨y0,y1,y2⟩,z0,z1,z2⟩:=R8.out.cells;have HK8:=qh K8;clear K8 G8 hg8;refine hK.out _ _ ?_ (fun hHeld=>?_)
          ·exact SS8
          clear hK K
          try simp only[Act.put,qa]
          refine wpAnyH_take (i:=11) (v:=?_) rfl (by kernel_rfl) (by kernel_rfl) (by kernel_rfl) (fun _ _ _ h=>h) (Or.inl ⟨by rfl,?_⟩) (by assumption) ?_
          rotate_left
          ·(intro w hSw;(try dsimp only at hSw);go_simp;try with_reducible rfl)
          try simp only[Act.put]
          refine wpAnyH_ready (rs:=[12]) (by kernel_rfl) (by simp) ?_;refine AllReadyH.cons rfl (fun K hK=>?_) ?_
          ·skip
           go_simp;refine hK.out _ _ ?_ (fun hHeld=>?_)
           ·exact(q54 hnh hbb hhD hDX0 hzD hownp howns SS8)
           clear hK K
           try simp only[Act.put,qa,qe,qf]
           refine wpAnyH_done (by kernel_rfl) ?_ _;have HFN:=qh (q6b hnh hbb hhD hDX0 hzD hownp howns HTK.out R8.out HK8.out SS8);clear SD SS6 SS7 SS8 d5 d6 d7 d7' CD CVf y0 y1 y2 z0 z1 z2;go_wp2;go_roundw
           case rel=>exact⟨i+1,hlt,by push_cast;rfl,HFN⟩
           case measure=>simp[intOf];omega
          exact AllReadyH.nil
         exact AllReadyH.nil
        exact AllReadyH.nil
       refine AllReadyH.cons rfl (fun K hK=>?_) ?_
       ·skip
        go_simp;refine hK.out _ _ ?_ (fun hHeld=>?_)
        ·exact(yp Z7.out SS7)
        clear hK K
        try simp only[Act.put,qa,qe,qf]
        refine wpAnyH_ready (rs:=[1]) (by kernel_rfl) (by simp) ?_;refine AllReadyH.cons rfl (fun K hK=>?_) ?_
        ·skip
         go_simp;refine hK.out _ _ ?_ (fun hHeld=>?_)
         ·exact(yp Z7.out SS7)
         clear hK K
         try simp only[Act.put,qa,qe,qf]
         refine wpAnyH_ready (rs:=[10]) (by kernel_rfl) (by simp) ?_;refine AllReadyH.cons rfl (fun K hK=>?_) ?_
         ·skip
          refine xd rfl _ _ rfl (D+1) (.slice oa i oc) (l'.take i) rfl (K7D.out.keep fun b' _ h2=>Below.heap_alloc _ _ _ h2) ⟨w7.heap.size,0,none⟩ 1 (by rfl) kid' (.int .i64 k7) (.string q7) (.slice a7 l7.length c7) (xu w7 _ _ _ _ _ rfl) (T7.out.keep (fun b' (h1:w5.heap.size<=b') h2=>⟨Below.heap_alloc _ _ _ h2,(by omega),fun e=>by have:=HOWN.out b' e;omega⟩)) (by rw[HLI.out];omega) (by rw[q6];omega) _ rfl ?_;intro g6 cap6 w8 K8 G8 _ hg8;rw[HLI.out]at K8 ⊢;have SS8:=q3z hnh hbb hhD hzD hownp howns G8 HOWN.out (yp Z7.out SS7);have R8:=qh ((R7D.out.alloc _).grown' G8 (fun e=>by have:=HOWN.out D e.symm;omega));obtain⟨⟨y0,y1,y2⟩,z0,z1,z2⟩:=R8.out.cells;have HK8:=qh K8;clear K8 G8 hg8;refine hK.out _ _ ?_ (fun hHeld=>?_)
          ·exact SS8
          clear hK K
          try simp only[Act.put,qa]
          refine wpAnyH_take (i:=11) (v:=?_) rfl (by kernel_rfl) (by kernel_rfl) (by kernel_rfl) (fun _ _ _ h=>h) (Or.inl ⟨by rfl,?_⟩) (by assumption) ?_
          rotate_left
          ·(intro w hSw;(try dsimp only at hSw);go_simp;try with_reducible rfl)
          try simp only[Act.put]
          refine wpAnyH_ready (rs:=[12]) (by kernel_rfl) (by simp) ?_;refine AllReadyH.cons rfl (fun K hK=>?_) ?_
          ·skip
           go_simp;refine hK.out _ _ ?_ (fun hHeld=>?_)
           ·exact(q54 hnh hbb hhD hDX0 hzD hownp howns SS8)
           clear hK K
           try simp only[Act.put,qa,qe,qf]
           refine wpAnyH_done (by kernel_rfl) ?_ _;have HFN:=qh (q6b hnh hbb hhD hDX0 hzD hownp howns HTK.out R8.out HK8.out SS8);clear SD SS6 SS7 SS8 d5 d6 d7 d7' CD CVf y0 y1 y2 z0 z1 z2;go_wp2;go_roundw
           case rel=>exact⟨i+1,hlt,by push_cast;rfl,HFN⟩
           case measure=>simp[intOf];omega
          exact AllReadyH.nil
         exact AllReadyH.nil
        exact AllReadyH.nil
       exact AllReadyH.nil
      exact AllReadyH.nil
     exact AllReadyH.nil
    ·have hlt':¬ ((i:Int) < (l.length:Int)):=by omega
     obtain rfl:i=l.length:=by omega
     have RX:Row3 wr (h+1+1) (.int .i64 0) (.string ⟨#[]⟩) (.slice none 0 0):=(q16 hownp howns hF.out.kb (h+1+1) (by omega) HR5.out.lt).trans HR5.out;obtain⟨oa,oc,d9,kd9⟩:=hF.out.d;obtain⟨⟨d0,d1,d2⟩,_⟩:=d9.cells;obtain⟨⟨r0,r1,r2⟩,rf0,rf1,rf2⟩:=RX.cells;have hfin:=qh (qm3 (u0:=.int .i64 k) (u1:=.string s) (u2:=.slice oa l.length oc) HL.out HZ5.out HZD.out hownp howns HK5.out HH.out hnh hF.out kd9 (by have:=HSM.out.1;unfold maxLen;omega) (by unfold maxLen;omega));have HRX:=qh RX;clear kd9 d9 RX;go_wp2;refine zh (HRX.out.put _ _ _) rfl rfl rfl ?_;exact⟨_,_,_,rfl,by have h9:=hfin.out;rw[HH.out]at h9;exact h9⟩
attribute [local go_sem] Oper.semAt_some
theorem NdR.toS{w:World}{t:Nd}{v0 v1 v2:Value}(h:NdR w t v0 v1 v2):NdS (fun b=>b < w.heap.size) w t v0 v1 v2:=by
 induction h with
 |mk k s l a cap b o f0 f1 f2 hs hl hc ha h0 h1 h2 _ ih =>
  exact .mk k s l a cap b o f0 f1 f2 hs hl hc ha (fun hne=>qi (h0 0 (List.length_pos_iff.2 hne))) h0 h1 h2 ih
theorem q37(g:Nat)(caps:Array Value)(W:World)(CE:World->Prop)(P:List Value->List ByteArray->Bool->Nd->Prop)(ch:List Value->List ByteArray->Bool->Nd->Nd)(eg:∀ args w,(callFunc g args).run Tryz.prog w = .ok (.enter g args) w)(hCE:∀ A B,CE A->Below W.heap.size A B->CE B)
  (hC:∀ n₁ H A vp vi v0 v1 v2 ps ins wd t,W.heap.size<=n₁->n₁<=H->H<=A.heap.size->CE A->xa n₁ A vp ps->ze n₁ A vi ins->ins.length<=90000->ps.length<=90000->NdO (fun b=>b < H) vp vi A t v0 v1 v2->P ps ins wd t ->
   Calls Tryz.prog g (#[.agg #[vp,vi,.bool wd],.agg #[v0,v1,v2]]++caps) A fun e W'=>∃ u0 u1 u2,e = .returned (.agg #[u0,u1,u2])/\NdO (fun b=>b < H\/A.heap.size<=b) vp vi W' (ch ps ins wd t) u0 u1 u2/\Below A.heap.size A W')
  (t t':Nd) (hB:Bld P ch [] [] false t t') (v0 v1 v2:Value) (hE:CE W) (ht:NdR W t v0 v1 v2) (hsz:t'.sz<=90000) (hsm:smN t') :
  Calls Tryz.prog 63 #[.agg #[v0,v1,v2],.func (.func g) #[] caps] W fun e W' =>
   ∃ u0 u1 u2,e = .returned (.agg #[u0,u1,u2])/\NdS (fun b=>W.heap.size<=b) W' t' u0 u1 u2/\Below W.heap.size W W':=by
 obtain⟨k0,s0,l0,a0,c0,rfl,rfl,rfl,rfl,_,_⟩:=ht.form;have hmf:∀ (fn:Fn) (first cap:Array Value) (w:World),(Instr.makeFunc fn first cap).run Tryz.prog w = .ok (.func fn first cap) w:=fun _ _ _ _=>rfl
 obtain⟨h,hh⟩:∃ h,W.heap.size=h:=⟨_,rfl⟩;obtain⟨W4,hW4⟩:∃ W4,(((W.alloc (.cells #[.int .i64 k0,.string s0,.slice a0 l0.length c0] 25)).alloc (.cells #[.func (.func g) #[] caps] 89)).alloc (.cells #[.int .i64 0,.string ⟨#[]⟩,.slice none 0 0] 25)).alloc (.cells #[qc4 (h+1) (h+1+1+1)] 89)=W4:=⟨_,rfl⟩;have z4:W4.heap.size=h+1+1+1+1:=by rw[<-hW4];simp[hh]
 have old:∀ b,b < h->W4.heap[b]?=W.heap[b]?:=fun b hb=>by
  rw[<-hW4];exact(Below.heap_alloc _ _ _ (by simp only[q6];omega)).trans ((Below.heap_alloc _ _ _ (by simp only[q6];omega)).trans ((Below.heap_alloc _ _ _ (by simp only[q6];omega)).trans (Below.heap_alloc _ _ _ (by omega))))
 have B4:Below h W W4:=by rw[<-hW4];exact((((Below.refl _ W).alloc (by omega) _).alloc (by simp only[q6];omega) _).alloc (by simp only[q6];omega) _).alloc (by simp only[q6];omega) _
 have N4:Row3 W4 h (.int .i64 k0) (.string s0) (.slice a0 l0.length c0):=by
  rw[<-hW4,<-hh];exact(Below.heap_alloc _ _ _ (by simp only[q6];omega)).trans ((Below.heap_alloc _ _ _ (by simp only[q6];omega)).trans ((Below.heap_alloc _ _ _ (by simp only[q6];omega)).trans (qk _ _)))
 have R4:Row3 W4 (h+1+1) (.int .i64 0) (.string ⟨#[]⟩) (.slice none 0 0):=by
  rw[<-hW4];exact(Below.heap_alloc _ _ _ (by simp only[q6];omega)).trans (za (by simp[hh]))
 have E4:Eb (h+1+1+1+1) (h+1) (h+1+1+1) (.func (.func g) #[] caps) CE W4:=by
  refine⟨?_,?_,by omega,by omega,by omega,hCE W W4 hE (by rw[hh];exact B4)⟩
  ·rw[<-hW4];exact(Below.heap_alloc _ _ _ (by simp only[q6];omega)).trans ((Below.heap_alloc _ _ _ (by simp only[q6];omega)).trans (za (by simp[hh])))
  ·rw[<-hW4];exact za (by simp[hh])
 have T4:NdO (fun _=>True) (.slice none 0 0) (.slice none 0 0) W4 (.mk k0 s0 l0) (.int .i64 k0) (.string s0) (.slice a0 l0.length c0) :=
  NdS.keep (S:=fun b=>b < W.heap.size) (S':=fun b=>((Value.slice none 0 0).ownBlock≠some b/\(Value.slice none 0 0).ownBlock≠some b)/\True) (fun b h1 _=>⟨old b (by omega),⟨(fun e=>by cases e),(fun e=>by cases e)⟩,trivial⟩) ht.toS
 have C4:=qh (qiw (h+1+1+1+1) (h+1) (h+1+1+1) g caps CE P ch eg (fun A B hA hb=>hCE A B hA (hb.mono (by omega))) (fun H A vp vi v0 v1 v2 ps ins wd t h1 h2=>hC _ H A vp vi v0 v1 v2 ps ins wd t (by omega) h1 h2) [] [] false _ t' hB W4 (.slice none 0 0) (.slice none 0 0) _ _ _ E4 (World.ownsRow_nil _ _ _ _) (World.ownsRow_nil _ _ _ _) T4 (by simpa using hsz) (q9 _) hsm);obtain⟨⟨n0,n1,n2⟩,_⟩:=N4.cells;have b4:W4.cell? ⟨h+1+1+1,0,none⟩=some (.func (.func 124) #[] #[.pointer (some ⟨h+1,0,none⟩),.pointer (some ⟨h+1+1+1,0,none⟩)]):=qm _ _ _ _ _ _ E4.b;have HR4:=qh R4;have HB4:=qh B4;have HZ4:=qh z4;have HH:=qh hh;clear hCE hC hB hE ht old B4 R4 E4 T4 N4;go_enter Tryz.func63,Tryz.ntmps63
 go_upto_region 3 with fail
 (try rw[HH.out])
 have hW4':(((W.alloc (.cells #[.int .i64 k0,.string s0,.slice a0 l0.length c0] 25)).alloc (.cells #[.func (.func g) #[] caps] 89)).alloc (.cells #[.int .i64 0,.string ⟨#[]⟩,.slice none 0 0] 25)).alloc (.cells #[.func (.func 124) #[] #[.pointer (some ⟨h+1,0,none⟩),.pointer (some ⟨h+1+1+1,0,none⟩)]] 89)=W4:=hW4
 (try rw[hW4'])
 clear hW4 hW4'
 go_wp2_with fail
 refine C4.out.mono ?_;rintro e w5⟨u0,u1,u2,rfl,t5,k5,_,_⟩;have R5:Row3 w5 (h+1+1) (.int .i64 0) (.string ⟨#[]⟩) (.slice none 0 0):=(k5.2.2.block _ (by omega)).trans HR4.out;have HR5:=qh R5;obtain⟨_,_,_,a5,c5,e5,rfl,rfl,rfl,_,_⟩:=t5.form;obtain⟨⟨r0,r1,r2⟩,rf0,rf1,rf2⟩:=R5.cells;have T5:=qh t5;have K5:=qh k5;clear R5 t5 k5 C4 n0 n1 n2 b4;go_wp2;refine zh (HR5.out.put _ _ _) rfl rfl rfl ?_
 have far:∀ b,b≠h+1+1->∀ v0 v1 v2,(((w5.setCell ⟨h+1+1,0,none⟩ v0).setCell ⟨h+1+1,1,none⟩ v1).setCell ⟨h+1+1,2,none⟩ v2).heap[b]?=w5.heap[b]?:=fun b hb _ _ _ =>
  (Below.heap_setCell _ _ _ _ (by simp only;exact hb)).trans ((Below.heap_setCell _ _ _ _ (by simp only;exact hb)).trans (Below.heap_setCell _ _ _ _ (by simp only;exact hb)))
 refine⟨_,_,_,rfl,T5.out.keep (fun b (h1:W4.heap.size<=b) _=>⟨far b (by have:=HZ4.out;omega) _ _ _,by have:=HZ4.out;have:=HH.out;omega⟩),?_⟩;rw[HH.out];exact((((HB4.out.trans (K5.out.2.2.mono (by omega))).setCell (p:=⟨h+1+1,0,none⟩) (by simp only;omega) _).setCell (p:=⟨h+1+1,1,none⟩) (by simp only;omega) _).setCell (p:=⟨h+1+1,2,none⟩) (by simp only;omega) _)
attribute [local go_sem] Oper.semAt_some
theorem zu{h H:Nat}{w wr:World}(hb:Below h w wr)(hH:h<=H)(u0 u1 u2:Value):Below h w (((wr.setCell ⟨H,0,none⟩ u0).setCell ⟨H,1,none⟩ u1).setCell ⟨H,2,none⟩ u2) :=
 ((hb.setCell (p:=⟨H,0,none⟩) hH _).setCell (p:=⟨H,1,none⟩) hH _).setCell (p:=⟨H,2,none⟩) hH _
end Go.Proofs.YtkckddojlignpaaGreatDoor
namespace Go.Proofs.YtkckddojlignpaaGreatDoor
end Go.Proofs.YtkckddojlignpaaGreatDoor
