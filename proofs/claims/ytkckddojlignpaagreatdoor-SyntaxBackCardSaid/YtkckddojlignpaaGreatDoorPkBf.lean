/- A part of the proof, packed: see the last text of this claim. -/
import Derived.Test.YtkckddojlignpaaGreatDoorPkBa
import Derived.Test.YtkckddojlignpaaGreatDoorPkBb
import Derived.Test.YtkckddojlignpaaGreatDoorPkBc
import Derived.Test.YtkckddojlignpaaGreatDoorPkBd
import Derived.Test.YtkckddojlignpaaGreatDoorPkBe
import Derived.Lib.Split
import Derived.Lib.Join
import Derived.Lib.SplitLaws
import Derived.Shelf.Strings.Split
import Derived.Lib.SlicesS
import Derived.OwnWalkIn
import Derived.Stop.RegionWithIn
import Derived.BigGuardIn
import Derived.Shelf.Abstract
import Derived.Deep.RegionHeld3
set_option maxHeartbeats 20000000
set_option maxRecDepth 100000
namespace Go.Proofs.YtkckddojlignpaaGreatDoor
open Lx (KT IsTok Runs)
abbrev Pc:=List (Option KT)
def pcB(l:Pc):Tx:=l.flatMap fun o=>match o with|none=>[32]|some a=>a.x
def pcT(l:Pc):List KT:=l.filterMap id
theorem ve:pcB []=[]:=rfl
theorem xp(l:Pc):pcB (none :: l)=32 :: pcB l:=rfl
theorem zf(a:KT)(l:Pc):pcB (some a :: l)=a.x++pcB l:=rfl
theorem jz(l m:Pc):pcB (l++m)=pcB l++pcB m:=by unfold pcB;rw[qx]
theorem q17:pcT []=[]:=rfl
theorem zp(l:Pc):pcT (none :: l)=pcT l:=rfl
theorem qz(a:KT)(l:Pc):pcT (some a :: l)=a :: pcT l:=rfl
theorem xt(l m:Pc):pcT (l++m)=pcT l++pcT m:=by unfold pcT;rw[List.filterMap_append]
def sgK(a:KT):Bool:=match a.x with|[c]=>Lx.signB c|_=>false
def ok2:Option KT->Option KT->Bool
 |some a,some b=>sgK a||sgK b
 |_,_=>true
def Fx:Pc->Prop
 |[]=>True
 |[_]=>True
 |o :: p :: l=>ok2 o p=true/\Fx (p :: l)
def frO:Option KT->Prop
 |none=>True
 |some a=>sgK a=true
theorem qn2{c:Option KT}(h:frO c)(o:Option KT):ok2 c o=true:=by
 cases c with
 |none=>rfl
 |some a =>
  cases o with
  |none=>rfl
  |some b=>simp only[ok2,show sgK a=true from h,Bool.true_or]
theorem qbd{c:Option KT}(h:frO c)(o:Option KT):ok2 o c=true:=by
 cases c with
 |none=>cases o <;> rfl
 |some a =>
  cases o with
  |none=>rfl
  |some b=>simp only[ok2,show sgK a=true from h,Bool.or_true]
theorem Fx.cons{c:Option KT}(h:frO c){l:Pc}(hl:Fx l):Fx (c :: l):=by
 cases l with
 |nil=>trivial
 |cons p l=>exact⟨qn2 h p,hl⟩
theorem Fx.tail{c:Option KT}{l:Pc}(hl:Fx (c :: l)):Fx l:=by
 cases l with
 |nil=>trivial
 |cons p l=>exact hl.2
theorem Fx.mid{c:Option KT}(h:frO c){m:Pc}(hm:Fx m):∀ {l:Pc},Fx l->Fx (l++c :: m)
 |[],_=>hm.cons h
 |[_],_=>⟨qbd h _,hm.cons h⟩
 |_ :: p :: l,hl=>⟨hl.1,Fx.mid h hm (l:=p :: l) hl.2⟩
theorem Fx.snd{a c:Option KT}(h:frO c){l:Pc}(hl:Fx l):Fx (a :: c :: l):=⟨qbd h a,hl.cons h⟩
theorem qmi{x:Lx.Bs}{k:Nat}{c:UInt8}(h:Lx.tokR x=some (k,x.length))(hp:Lx.part c=false)(h45:c≠45):Lx.stopC x c=true:=by
 cases x with
 |nil=>simp[Lx.tokR]at h
 |cons a w =>
  unfold Lx.stopC;simp only[hp,decide_eq_false h45]
  split
  ·simp
  ·split
   ·simp
   ·split <;> simp
theorem q77{x:Lx.Bs}{k:Nat}{c:UInt8}(h:Lx.tokR x=some (k,x.length))(hp:Lx.part c=false)(h45:c≠45)(h64:c≠64)(y:Lx.Bs):Lx.tokR (x++c :: y)=some (k,x.length) :=
 (Lx.tokR_stop x c y k h64).2 ⟨h,qmi h hp h45⟩
theorem qh7{c:UInt8}(h:Lx.signB c=true):Lx.part c=false/\c≠45/\c≠64:=by
 unfold Lx.signB at h;simp only[List.contains_eq_mem,qf,List.mem_cons,List.mem_nil_iff,or_false]at h;rcases h with rfl|rfl|rfl|rfl|rfl|rfl|rfl|rfl|rfl|rfl|rfl|rfl <;> decide
theorem qh6{a c:UInt8}(h:Lx.signB a=true):Lx.stopC [a] c=true:=by
 unfold Lx.stopC
 have h1:Lx.small a=false/\Lx.capital a=false:=by
  unfold Lx.signB at h;simp only[List.contains_eq_mem,qf,List.mem_cons,List.mem_nil_iff,or_false]at h;rcases h with rfl|rfl|rfl|rfl|rfl|rfl|rfl|rfl|rfl|rfl|rfl|rfl <;> decide
 simp[h1.1,h1.2,h]
theorem q95{c:UInt8}(hc:Lx.blank c=true){r:Lx.Bs}{l:List KT}(h:Runs r l):Runs (c :: r) l:=by
 have e:Lx.skipC false (c :: r)=1+Lx.skipC false r:=by simp only[Lx.skipC,hc,if_true]
 have d:(c :: r).drop (1+Lx.skipC false r)=r.drop (Lx.skipC false r):=by rw[Nat.add_comm,List.drop_succ_cons]
 cases l with
 |nil =>
  show Lx.skipC false (c :: r)=(c :: r).length
  rw[e,show Lx.skipC false r=r.length from h,qi,Nat.add_comm]
 |cons a l =>
  show Lx.tokR ((c :: r).drop (Lx.skipC false (c :: r)))=_/\((c :: r).drop (Lx.skipC false (c :: r))).take _=_/\_/\Runs (((c :: r).drop (Lx.skipC false (c :: r))).drop _) l
  rw[e,d];exact h
theorem qms{a:KT}(ha:IsTok a){r:Lx.Bs}{l:List KT}(hr:Runs r l)(ht:Lx.tokR (a.x++r)=some (a.k,a.x.length)):Runs (a.x++r) (a :: l):=by
 show Lx.tokR ((a.x++r).drop (Lx.skipC false (a.x++r)))=_/\((a.x++r).drop (Lx.skipC false (a.x++r))).take _=_/\_/\Runs (((a.x++r).drop (Lx.skipC false (a.x++r))).drop _) l
 rw[Lx.skip_tok ha,List.drop_zero];exact⟨ht,List.take_left,ha.2,by rw[List.drop_left];exact hr⟩
def qro(y:Tx):Prop:=y=[]\/∃ y',y=10 :: y'
theorem q44{y:Tx}{m:List KT}(hy:qro y)(hm:Runs y m):∀ (l:Pc),(∀ a,some a∈l->IsTok a)->Fx l->Runs (pcB l++y) (pcT l++m)
 |[],_,_=>hm
 |none :: l,ht,hf=>by
  rw[xp,zp,List.cons_append];exact q95 (by decide) (q44 hy hm l (fun a h=>ht a (List.mem_cons_of_mem _ h)) hf.tail)
 |some a :: l,ht,hf=>by
  have ih:=q44 hy hm l (fun a h=>ht a (List.mem_cons_of_mem _ h)) hf.tail;have ha:=ht a List.mem_cons_self;rw[zf,qz,qe,List.cons_append];refine qms ha ih ?_
  cases l with
  |nil =>
   rcases hy with rfl|⟨y',rfl⟩
   ·rw[ve,List.nil_append,List.append_nil];exact ha.1
   ·exact q77 ha.1 (by decide) (by decide) (by decide) _
  |cons o l =>
   cases o with
   |none =>
    rw[xp,List.cons_append];exact q77 ha.1 (by decide) (by decide) (by decide) _
   |some b =>
    have hb:=ht b (List.mem_cons_of_mem _ List.mem_cons_self);obtain⟨c,w,he,_,h64⟩:=Lx.tokR_cons hb.1;have h2:(sgK a||sgK b)=true:=hf.1;rw[zf,he,List.cons_append,List.cons_append]
    by_cases hs:sgK a=true
    ·unfold sgK at hs
     split at hs
     ·rename_i c0 hx
      have h1:=ha.1;rw[hx]at h1 ⊢;exact(Lx.tokR_stop [c0] c _ _ h64).2 ⟨h1,qh6 hs⟩
     ·cases hs
    ·rw[Bool.eq_false_iff.2 hs,Bool.false_or]at h2
     unfold sgK at h2;rw[he]at h2
     split at h2
     ·rename_i c0 hx
      obtain⟨rfl,rfl⟩:=List.cons.inj hx;obtain⟨p1,p2,p3⟩:=qh7 h2;exact q77 ha.1 p1 p2 p3 _
     ·cases h2
def nmK(k:Int)(s:ByteArray):KT:=⟨if k=16 then 2 else 1,bs s⟩
def nmB(s:ByteArray):KT:=⟨if qy s=true then 1 else 2,bs s⟩
def qcg(k:Int)(f:Bool->Pc)(bind:Nat)(more:Bool):Pc:=if q01 k bind more then some ⟨3,[40]⟩ :: (f false++[some ⟨3,[41]⟩]) else f more
def q0c(l:List Nd)(ks:List (Bool->Pc))(i bind:Nat)(more:Bool):Pc:=match l[i]?,ks[i]? with
 |some (.mk k _ _),some f=>qcg k f bind more
 |_,_=>[]
def q9b(x:Nd)(f:Bool->Pc):Pc:=match x with| .mk k s l=>if k=17\/0 < l.length then some ⟨3,[40]⟩ :: (f false++[some ⟨3,[41]⟩]) else [some (nmK k s)]
def q00(s:ByteArray)(l:List Nd)(ks:List (Bool->Pc)):Pc:=some (nmB s) :: ((if 1 < l.length then some ⟨3,[58]⟩ :: none :: q0c l ks 0 6 false else [])++(some ⟨3,[46]⟩ :: none :: q0c l ks (l.length - 1) 0 false))
def yy(k:Int)(s:ByteArray)(l:List Nd)(ks:List (Bool->Pc))(more:Bool):Pc :=
 if k=15\/k=16 then some (nmK k s) :: (l.zip ks).flatMap fun p=>none :: q9b p.1 p.2
 else if k=17 then some ⟨3,zq k⟩ :: q00 s l ks
 else if k=18\/k=19 then some ⟨4,zq k⟩ :: none :: q00 s l ks
 else if k=20\/k=21 then [some ⟨4,zq k⟩]
 else if k=29 then some ⟨3,zq k⟩ :: q0c l ks 0 5 more
 else if k=30 then some ⟨3,zq k⟩ :: (q0c l ks 0 0 false++[some ⟨3,[125]⟩])
 else q0c l ks 0 (q0i (xe k)) true++(none :: some ⟨3,yz k⟩ :: none :: q0c l ks 1 (vg (xe k)) more)
mutual
def Nd.pbare:Nd->Bool->Pc
 | .mk k s l=>fun more=>yy k s l (Nd.pbareL l) more
def Nd.pbareL:List Nd->List (Bool->Pc)
 |[]=>[]
 |a :: l=>Nd.pbare a :: Nd.pbareL l
end
theorem q4t:∀ l:List Nd,Nd.pbareL l=l.map Nd.pbare
 |[]=>by simp only[Nd.pbareL,List.map_nil]
 |a :: l=>by simp only[Nd.pbareL,List.map_cons];rw[q4t l]
def Nd.ptxt(t:Nd)(bind:Nat)(more:Bool):Pc:=qcg t.kd t.pbare bind more
def Nd.parg(t:Nd):Pc:=q9b t t.pbare
theorem q89{l:List Nd}{i:Nat}(h:i < l.length)(bind:Nat)(more:Bool):q0c l (Nd.pbareL l) i bind more=(l[i]).ptxt bind more:=by
 unfold q0c;rw[q4t,qj h,List.getElem?_map,qj h];generalize l[i]=x
 cases x;rfl
theorem qda:∀ l:List Nd,(l.zip (l.map Nd.pbare)).flatMap (fun p=>none :: q9b p.1 p.2)=l.flatMap fun x=>none :: x.parg
 |[]=>rfl
 |a :: l=>by simp only[List.map_cons,List.zip_cons_cons,List.flatMap_cons];rw[qda l];rfl
theorem q7s{k:Int}{f:Bool->Pc}{g:Bool->Tx}(h:∀ m,pcB (f m)=g m)(bind:Nat)(more:Bool):pcB (qcg k f bind more)=qab k g bind more:=by
 unfold qcg qab
 split
 ·rw[zf,jz,h,zf,ve,List.append_nil];rfl
 ·exact h more
def qjc(ks:List (Bool->Pc))(gs:List (Bool->Tx)):Prop:=ks.length=gs.length/\∀ i (h:i < ks.length) (h':i < gs.length) m,pcB (ks[i] m)=gs[i] m
theorem wh{l:List Nd}{ks:List (Bool->Pc)}{gs:List (Bool->Tx)}(h:qjc ks gs)(i bind:Nat)(more:Bool):pcB (q0c l ks i bind more)=q1w l gs i bind more:=by
 unfold q0c q1w
 by_cases hi:i < ks.length
 ·have hi':i < gs.length:=by rw[<-h.1];exact hi
  rw[qj hi,qj hi']
  cases l[i]? with
  |none=>rfl
  |some x =>
   obtain⟨k,s,l'⟩:=x;exact q7s (h.2 i hi hi') bind more
 ·have hi':¬ i < gs.length:=by rw[<-h.1];exact hi
  rw[List.getElem?_eq_none (show ks.length<=i by omega),List.getElem?_eq_none (show gs.length<=i by omega)]
  cases l[i]? with
  |none=>rfl
  |some x=>cases x;rfl
theorem q7v:∀ (l:List Nd) (ks:List (Bool->Pc)) (gs:List (Bool->Tx)),qjc ks gs->pcB ((l.zip ks).flatMap fun p=>none :: q9b p.1 p.2)=(l.zip gs).flatMap fun p=>32 :: qax p.1 p.2
 |[],_,_,_=>rfl
 |_ :: _,[],gs,h=>by
  obtain rfl:gs=[]:=List.eq_nil_of_length_eq_zero h.1.symm;rfl
 |_ :: _,_ :: _,[],h=>by have:=h.1;simp at this
 |x :: l,f :: ks,g :: gs,h=>by
  have h0:∀ m,pcB (f m)=g m:=fun m=>h.2 0 (by simp) (by simp) m
  have ih:=q7v l ks gs ⟨by have:=h.1;simpa using this,fun i hi hi' m=>h.2 (i+1) (by simpa using hi) (by simpa using hi') m⟩;simp only[List.zip_cons_cons,List.flatMap_cons];rw[jz,ih]
  congr 1
  rw[xp]
  congr 1
  obtain⟨k,s,l'⟩:=x;unfold q9b qax;simp only
  split
  ·rw[zf,jz,h0,zf,ve,List.append_nil];rfl
  ·rw[zf,ve,List.append_nil];rfl
theorem q5v{s:ByteArray}{l:List Nd}{ks:List (Bool->Pc)}{gs:List (Bool->Tx)}(h:qjc ks gs):pcB (q00 s l ks)=kq s l gs:=by
 unfold q00 kq;rw[zf,jz,zf,xp,wh h]
 show bs s++_=bs s++_
 congr 1
 split
 ·rw[zf,xp,wh h];rfl
 ·rfl
mutual
theorem q24:∀ (t:Nd) (more:Bool),pcB (t.pbare more)=t.bare more
 | .mk k s l,more=>by
  have h:=q6j l;simp only[Nd.pbare,Nd.bare];unfold yy qa2
  split
  ·rw[zf,q7v _ _ _ h];rfl
  ·split
   ·rw[zf,q5v h]
   ·split
    ·rw[zf,xp,q5v h];simp
    ·split
     ·rw[zf,ve,List.append_nil]
     ·split
      ·rw[zf,wh h]
      ·split
       ·rw[zf,jz,wh h,zf,ve,List.append_nil]
       ·rw[jz,wh h,xp,zf,xp,wh h];simp
theorem q6j:∀ l:List Nd,qjc (Nd.pbareL l) (Nd.bareL l)
 |[]=>by
  simp only[Nd.pbareL,Nd.bareL];exact⟨rfl,fun i h=>absurd h (Nat.not_lt_zero _)⟩
 |a :: l=>by
  have h1:=q24 a;have h2:=q6j l;simp only[Nd.pbareL,Nd.bareL];refine⟨by simp only[qi,h2.1],fun i hi hi' m=>?_⟩
  cases i with
  |zero=>exact h1 m
  |succ i=>exact h2.2 i (by simpa using hi) (by simpa using hi') m
end
theorem q1h(t:Nd)(bind:Nat)(more:Bool):pcB (t.ptxt bind more)=t.txt bind more:=q7s (q24 t) bind more
def nmV(k:Int)(s:ByteArray):Prop:=k=15/\qy s=true\/k=16/\ww s=true
def q3c(s:ByteArray):Prop:=qy s=true\/ww s=true
inductive TyV:Nd->Prop
 |name (s:ByteArray) (h:qy s=true):TyV (.mk 15 s [])
 |arrow (a b:Nd) (ha:TyV a) (hb:TyV b):TyV (.mk 31 Sx.noS [a,b])
inductive TmV:Nd->Prop
 |app (k:Int) (s:ByteArray) (l:List Nd) (h:nmV k s) (hl:∀ x∈l,TmV x):TmV (.mk k s l)
 |lam1 (s:ByteArray) (b:Nd) (h:q3c s) (hb:TmV b):TmV (.mk 17 s [b])
 |lam2 (s:ByteArray) (y b:Nd) (h:q3c s) (hy:TyV y) (hb:TmV b):TmV (.mk 17 s [y,b])
inductive FmV:Nd->Prop
 |atom (s:ByteArray) (l:List Nd) (h:qy s=true) (hl:∀ x∈l,TmV x):FmV (.mk 15 s l)
 |q1 (k:Int) (s:ByteArray) (b:Nd) (hk:k=18\/k=19) (h:q3c s) (hb:FmV b):FmV (.mk k s [b])
 |q2 (k:Int) (s:ByteArray) (y b:Nd) (hk:k=18\/k=19) (h:q3c s) (hy:TyV y) (hb:FmV b):FmV (.mk k s [y,b])
 |lone (k:Int) (hk:k=20\/k=21):FmV (.mk k Sx.noS [])
 |bang (a:Nd) (ha:FmV a):FmV (.mk 29 Sx.noS [a])
 |monad (a:Nd) (ha:FmV a):FmV (.mk 30 Sx.noS [a])
 |bin (k:Int) (a b:Nd) (hk:k=22\/k=23\/k=24\/k=25\/k=26\/k=27\/k=28) (ha:FmV a) (hb:FmV b):FmV (.mk k Sx.noS [a,b])
theorem q02{s:ByteArray}(h:qu s=true):s=Sx.noS:=by
 unfold qu at h;rw[List.isEmpty_iff]at h;exact q3r (by rw[h];unfold Sx.noS ByteArray.toList;rw[ByteArray.toList.loop];rfl)
theorem q76{l:List Nd}(h:l.length=2):∃ a b,l=[a,b]:=by
 match l,h with
 |[a,b],_=>exact⟨a,b,rfl⟩
theorem q9f{l:List Nd}(h:l.length=1):∃ a,l=[a]:=by
 match l,h with
 |[a],_=>exact⟨a,rfl⟩
theorem qre:∀ (N:Nat) (t:Nd),t.sz<=N->zj t=true->TyV t:=by
 intro N
 induction N with
 |zero=>rintro⟨k,s,l⟩ h;simp only[Nd.sz]at h;omega
 |succ N ih =>
  rintro⟨k,s,l⟩h ht;simp only[Nd.sz]at h;simp only[zj]at ht
  split at ht
  ·rename_i hk
   subst hk;simp only[qd,qf]at ht;obtain⟨a,b,rfl⟩:=q76 ht.2.1;rw[q02 ht.1];exact .arrow a b (ih a (by have:=kh (l:=[a,b]) (x:=a) (by simp);omega) (q1s ht.2.2 a (by simp))) (ih b (by have:=kh (l:=[a,b]) (x:=b) (by simp);omega) (q1s ht.2.2 b (by simp)))
  ·simp only[qd,qf]at ht
   obtain⟨rfl,hl,hn⟩:=ht;obtain rfl:l=[]:=List.eq_nil_of_length_eq_zero hl;exact .name s hn
theorem q83{t:Nd}(h:zj t=true):TyV t:=qre _ t (q5 _) h
theorem qgq{s:ByteArray}{l:List Nd}(h:je s l=true):q3c s/\(l.length=1\/(l.length=2/\wk l=true)):=by
 simp only[je,qd,Bool.or_eq_true,qf]at h;exact h
theorem qq6:∀ (N:Nat) (t:Nd),t.sz<=N->zh t=true->TmV t:=by
 intro N
 induction N with
 |zero=>rintro⟨k,s,l⟩ h;simp only[Nd.sz]at h;omega
 |succ N ih =>
  rintro⟨k,s,l⟩h ht;simp only[Nd.sz]at h;simp only[zh]at ht
  split at ht
  ·rename_i hk
   simp only[qd,qf]at ht;exact .app k s l (.inl ⟨hk,ht.1⟩) fun x hx=>ih x (by have:=kh hx;omega) (q15 ht.2.1 x hx)
  ·split at ht
   ·rename_i hk
    simp only[qd,qf]at ht;exact .app k s l (.inr ⟨hk,ht.1⟩) fun x hx=>ih x (by have:=kh hx;omega) (q15 ht.2.1 x hx)
   ·simp only[qd,qf]at ht
    obtain⟨rfl,hb,he⟩:=ht;obtain⟨h1,h2⟩:=qgq hb;rcases h2 with h2|⟨h2,h3⟩
    ·obtain⟨b,rfl⟩:=q9f h2
     simp only[wq,List.isEmpty_nil,if_true,Nd.szL]at he h;exact .lam1 s b h1 (ih b (by omega) he)
    ·obtain⟨y,b,rfl⟩:=q76 h2
     simp only[wk]at h3;simp only[wq,List.isEmpty_cons,List.isEmpty_nil,if_true,Nd.szL]at he h;exact .lam2 s y b h1 (q83 h3) (ih b (by omega) (by simpa using he))
theorem qce{t:Nd}(h:zh t=true):TmV t:=qq6 _ t (q5 _) h
theorem qr4:∀ (N:Nat) (t:Nd),t.sz<=N->qn t=true->FmV t:=by
 intro N
 induction N with
 |zero=>rintro⟨k,s,l⟩ h;simp only[Nd.sz]at h;omega
 |succ N ih =>
  rintro⟨k,s,l⟩h ht;simp only[Nd.sz]at h;simp only[qn]at ht
  split at ht
  ·rename_i hk
   subst hk;simp only[zh,if_true,qd,qf]at ht;exact .atom s l ht.1 fun x hx=>qce (q15 ht.2.1 x hx)
  ·split at ht
   ·rename_i _ hk
    simp only[qd]at ht;obtain⟨hb,he⟩:=ht;obtain⟨h1,h2⟩:=qgq hb;rcases h2 with h2|⟨h2,h3⟩
    ·obtain⟨b,rfl⟩:=q9f h2
     simp only[vr,List.isEmpty_nil,if_true,Nd.szL]at he h;exact .q1 k s b hk h1 (ih b (by omega) he)
    ·obtain⟨y,b,rfl⟩:=q76 h2
     simp only[wk]at h3;simp only[vr,List.isEmpty_cons,List.isEmpty_nil,if_true,Nd.szL]at he h;exact .q2 k s y b hk h1 (q83 h3) (ih b (by omega) (by simpa using he))
   ·split at ht
    ·rename_i _ _ hk
     simp only[qd,qf]at ht;obtain rfl:l=[]:=List.eq_nil_of_length_eq_zero ht.2;rw[q02 ht.1];exact .lone k hk
    ·split at ht
     ·rename_i _ _ _ hk
      simp only[qd,qf]at ht;obtain⟨a,rfl⟩:=q9f ht.2.1;rw[q02 ht.1];have ha:=ih a (by have:=kh (l:=[a]) (x:=a) (by simp);omega) (yj ht.2.2 a (by simp));rcases hk with rfl|rfl
      ·exact .bang a ha
      ·exact .monad a ha
     ·simp only[qd,qf,yu]at ht
      obtain⟨a,b,rfl⟩:=q76 ht.2.2.1;rw[q02 ht.2.1];exact .bin k a b (by omega) (ih a (by have:=kh (l:=[a,b]) (x:=a) (by simp);omega) (yj ht.2.2.2 a (by simp))) (ih b (by have:=kh (l:=[a,b]) (x:=b) (by simp);omega) (yj ht.2.2.2 b (by simp)))
theorem qcj{t:Nd}(h:qn t=true):FmV t:=qr4 _ t (q5 _) h
def par(l:Pc):Pc:=some ⟨3,[40]⟩ :: (l++[some ⟨3,[41]⟩])
theorem wg(t:Nd)(b:Nat)(m:Bool):t.ptxt b m=if q01 t.kd b m then par (t.pbare false) else t.pbare m:=rfl
theorem qnd(a:Nd)(b:Nat)(m:Bool):q0c [a] (Nd.pbareL [a]) 0 b m=a.ptxt b m:=q89 (l:=[a]) (i:=0) (by simp) b m
theorem qic(a c:Nd)(b:Nat)(m:Bool):q0c [a,c] (Nd.pbareL [a,c]) 0 b m=a.ptxt b m:=q89 (l:=[a,c]) (i:=0) (by simp) b m
theorem qib(a c:Nd)(b:Nat)(m:Bool):q0c [a,c] (Nd.pbareL [a,c]) 1 b m=c.ptxt b m:=q89 (l:=[a,c]) (i:=1) (by simp) b m
def q2a(l:List Nd):Pc:=l.flatMap fun x=>none :: x.parg
theorem q6k{k:Int}(hk:k=15\/k=16)(s:ByteArray)(l:List Nd)(m:Bool):(Nd.mk k s l).pbare m=some (nmK k s) :: q2a l:=by
 simp only[Nd.pbare,yy];rw[qa hk,q4t,qda];rfl
def q5n(s:ByteArray)(b:Nd):Pc:=some (nmB s) :: some ⟨3,[46]⟩ :: none :: b.ptxt 0 false
def q5m(s:ByteArray)(y b:Nd):Pc:=some (nmB s) :: some ⟨3,[58]⟩ :: none :: (y.ptxt 6 false++(some ⟨3,[46]⟩ :: none :: b.ptxt 0 false))
theorem qgo(s:ByteArray)(b:Nd):q00 s [b] (Nd.pbareL [b])=q5n s b:=by
 unfold q00 q5n;rw[q7 (by simp),List.nil_append];simp only[List.length_singleton,Nat.sub_self];rw[qnd]
theorem qgn(s:ByteArray)(y b:Nd):q00 s [y,b] (Nd.pbareL [y,b])=q5m s y b:=by
 unfold q00 q5m;rw[qa (by simp),qic];simp only[qi,qo];rw[show 0+1+1 - 1=1 from rfl,qib];rfl
theorem qg6(s:ByteArray)(b:Nd)(m:Bool):(Nd.mk 17 s [b]).pbare m=some ⟨3,[92]⟩ :: q5n s b:=by
 rw[<-qgo];simp only[Nd.pbare,yy];rfl
theorem qg5(s:ByteArray)(y b:Nd)(m:Bool):(Nd.mk 17 s [y,b]).pbare m=some ⟨3,[92]⟩ :: q5m s y b:=by
 rw[<-qgn];simp only[Nd.pbare,yy];rfl
theorem qo7{k:Int}(hk:k=18\/k=19)(s:ByteArray)(b:Nd)(m:Bool):(Nd.mk k s [b]).pbare m=some ⟨4,zq k⟩ :: none :: q5n s b:=by
 rw[<-qgo];rcases hk with rfl|rfl <;> (simp only[Nd.pbare,yy];rfl)
theorem qo6{k:Int}(hk:k=18\/k=19)(s:ByteArray)(y b:Nd)(m:Bool):(Nd.mk k s [y,b]).pbare m=some ⟨4,zq k⟩ :: none :: q5m s y b:=by
 rw[<-qgn];rcases hk with rfl|rfl <;> (simp only[Nd.pbare,yy];rfl)
theorem qg4{k:Int}(hk:k=20\/k=21)(s:ByteArray)(m:Bool):(Nd.mk k s []).pbare m=[some ⟨4,zq k⟩]:=by
 rcases hk with rfl|rfl <;> (simp only[Nd.pbare,yy];rfl)
theorem qg7(s:ByteArray)(a:Nd)(m:Bool):(Nd.mk 29 s [a]).pbare m=some ⟨3,[33]⟩ :: a.ptxt 5 m:=by
 rw[<-qnd];simp only[Nd.pbare,yy];rfl
theorem qdd(s:ByteArray)(a:Nd)(m:Bool):(Nd.mk 30 s [a]).pbare m=some ⟨3,[123]⟩ :: (a.ptxt 0 false++[some ⟨3,[125]⟩]):=by
 rw[<-qnd];simp only[Nd.pbare,yy];rfl
theorem qde(s:ByteArray)(a b:Nd)(m:Bool):(Nd.mk 31 s [a,b]).pbare m=a.ptxt 7 true++(none :: some ⟨3,[45,62]⟩ :: none :: b.ptxt 6 m):=by
 rw[<-qic a b 7,<-qib a b 6];simp only[Nd.pbare,yy];rfl
theorem qka{k:Int}(hk:k=22\/k=23\/k=24\/k=25\/k=26\/k=27\/k=28)(s:ByteArray)(a b:Nd)(m:Bool) :
  (Nd.mk k s [a,b]).pbare m=a.ptxt (q0i (xe k)) true++(none :: some ⟨3,yz k⟩ :: none :: b.ptxt (vg (xe k)) m):=by
 rw[<-qic a b (q0i (xe k)),<-qib a b (vg (xe k))];rcases hk with rfl|rfl|rfl|rfl|rfl|rfl|rfl <;> (simp only[Nd.pbare,yy];rfl)
def okO:Option KT->Prop
 |none=>True
 |some a=>IsTok a
def GoodP(l:Pc):Prop:=Fx l/\∀ o∈l,okO o
theorem GoodP.nil:GoodP []:=⟨trivial,fun o h=>by cases h⟩
theorem GoodP.one{c:Option KT}(h:okO c):GoodP [c]:=⟨trivial,fun o ho=>by rw[List.mem_singleton.1 ho];exact h⟩
theorem GoodP.cons{c:Option KT}(h:frO c)(h2:okO c){l:Pc}(hl:GoodP l):GoodP (c :: l):=⟨hl.1.cons h,fun o ho=>by
 rcases List.mem_cons.1 ho with rfl|ho
 ·exact h2
 ·exact hl.2 o ho⟩
theorem GoodP.snd{a c:Option KT}(h1:okO a)(h:frO c)(h2:okO c){l:Pc}(hl:GoodP l):GoodP (a :: c :: l):=⟨hl.1.snd h,fun o ho=>by
 rcases List.mem_cons.1 ho with rfl|ho
 ·exact h1
 ·exact(hl.cons h h2).2 o ho⟩
theorem GoodP.mid{c:Option KT}(h:frO c)(h2:okO c){l m:Pc}(hl:GoodP l)(hm:GoodP m):GoodP (l++c :: m):=⟨Fx.mid h hm.1 hl.1,fun o ho=>by
 rcases List.mem_append.1 ho with ho|ho
 ·exact hl.2 o ho
 ·exact(hm.cons h h2).2 o ho⟩
theorem GoodP.snoc{c:Option KT}(h:frO c)(h2:okO c){l:Pc}(hl:GoodP l):GoodP (l++[c]):=hl.mid h h2 .nil
theorem jb{c:UInt8}(h:Lx.signB c=true):okO (some ⟨3,[c]⟩)/\frO (some ⟨3,[c]⟩):=by
 refine⟨⟨?_,by simp⟩,h⟩;unfold Lx.signB at h;simp only[List.contains_eq_mem,qf,List.mem_cons,List.mem_nil_iff,or_false]at h;rcases h with rfl|rfl|rfl|rfl|rfl|rfl|rfl|rfl|rfl|rfl|rfl|rfl <;> decide
theorem q0d{s:ByteArray}(h:qy s=true):IsTok ⟨1,bs s⟩:=((q9z ⟨1,s,0⟩).1 h).2
theorem qkp{s:ByteArray}(h:ww s=true):IsTok ⟨2,bs s⟩:=((q9z ⟨2,s,0⟩).1 h).2
theorem q6m{k:Int}{s:ByteArray}(h:nmV k s):IsTok (nmK k s):=by
 rcases h with ⟨rfl,h⟩|⟨rfl,h⟩
 ·exact q0d h
 ·exact qkp h
theorem qkq{s:ByteArray}(h:q3c s):IsTok (nmB s):=by
 unfold nmB
 by_cases hn:qy s=true
 ·rw[qa hn];exact q0d hn
 ·rw[q7 hn];exact qkp (h.resolve_left hn)
theorem q5b{l:Pc}(h:GoodP l):GoodP (par l):=GoodP.cons (jb (by decide)).2 (jb (by decide)).1 (h.snoc (jb (by decide)).2 (jb (by decide)).1)
theorem kx{t:Nd}(h:∀ m,GoodP (t.pbare m))(b:Nat)(m:Bool):GoodP (t.ptxt b m):=by
 rw[wg]
 split
 ·exact q5b (h false)
 ·exact h m
theorem frN:frO none:=trivial
theorem okN:okO none:=trivial
theorem qn0{k:Int}(h:k=18\/k=19\/k=20\/k=21):okO (some ⟨4,zq k⟩):=by
 rcases h with rfl|rfl|rfl|rfl <;> exact⟨by decide,by decide⟩
theorem qo8{k:Int}(hk:k=22\/k=23\/k=24\/k=25\/k=26\/k=27\/k=28\/k=31):okO (some ⟨3,yz k⟩):=by
 rcases hk with rfl|rfl|rfl|rfl|rfl|rfl|rfl|rfl <;> exact⟨by decide,by decide⟩
theorem qgh{x:KT}(hx:okO (some x)){l m:Pc}(hl:GoodP l)(hm:GoodP m):GoodP (l++(none :: some x :: none :: m)):=hl.mid frN okN (GoodP.snd hx frN okN hm)
theorem q1r{t:Nd}(h:TyV t):∀ m,GoodP (t.pbare m):=by
 induction h with
 |name s h=>intro m;rw[q6k (.inl rfl)];exact .one (q6m (.inl ⟨rfl,h⟩))
 |arrow a b _ _ ha hb =>
  intro m;rw[qde];exact qgh (qo8 (k:=31) (by simp)) (kx ha 7 true) (kx hb 6 m)
theorem q9r{s:ByteArray}{b:Nd}(h:q3c s)(hb:∀ m,GoodP (b.pbare m)):GoodP (q5n s b) :=
 GoodP.snd (a:=some (nmB s)) (qkq h) (jb (by decide)).2 (jb (by decide)).1 (GoodP.cons frN okN (kx hb 0 false))
theorem q9q{s:ByteArray}{y b:Nd}(h:q3c s)(hy:TyV y)(hb:∀ m,GoodP (b.pbare m)):GoodP (q5m s y b) :=
 GoodP.snd (a:=some (nmB s)) (qkq h) (jb (by decide)).2 (jb (by decide)).1 (GoodP.cons frN okN ((kx (q1r hy) 6 false).mid (jb (by decide)).2 (jb (by decide)).1 (GoodP.cons frN okN (kx hb 0 false))))
theorem qg8(t:Nd):t.parg=match t with| .mk k s l=>if k=17\/0 < l.length then par ((Nd.mk k s l).pbare false) else [some (nmK k s)]:=by
 cases t;rfl
theorem qle{l:List Nd}(h:∀ x∈l,GoodP x.parg):GoodP (q2a l):=by
 induction l with
 |nil=>exact .nil
 |cons x l ih =>
  unfold q2a;rw[List.flatMap_cons];have h1:=h x (by simp);have h2:=ih fun y hy=>h y (by simp[hy])
  cases l with
  |nil=>simp only[List.flatMap_nil,List.append_nil];exact GoodP.cons frN okN h1
  |cons y l =>
   unfold q2a at h2;rw[List.flatMap_cons]at h2 ⊢;exact GoodP.cons frN okN (h1.mid frN okN ⟨h2.1.tail,fun o ho=>h2.2 o (by rw[List.cons_append];exact List.mem_cons_of_mem _ ho)⟩)
theorem qno{t:Nd}(ht:TmV t)(h:∀ m,GoodP (t.pbare m)):GoodP t.parg:=by
 rw[qg8]
 cases ht with
 |app k s l hn hl =>
  simp only
  split
  ·exact q5b (h false)
  ·exact .one (q6m hn)
 |lam1 s b hs hb=>exact q5b (h false)
 |lam2 s y b hs hy hb=>exact q5b (h false)
theorem q3f{t:Nd}(h:TmV t):∀ m,GoodP (t.pbare m):=by
 induction h with
 |app k s l hn hl ih =>
  intro m;rw[q6k (hn.imp (·.1) (·.1))];have h1:GoodP (q2a l):=qle fun x hx=>qno (hl x hx) (ih x hx)
  cases l with
  |nil=>exact .one (q6m hn)
  |cons x l =>
   unfold q2a at h1 ⊢;rw[List.flatMap_cons]at h1 ⊢;exact GoodP.snd (a:=some (nmK k s)) (q6m hn) frN okN ⟨h1.1.tail,fun o ho=>h1.2 o (by rw[List.cons_append];exact List.mem_cons_of_mem _ ho)⟩
 |lam1 s b hs _ hb=>intro m;rw[qg6];exact GoodP.cons (jb (by decide)).2 (jb (by decide)).1 (q9r hs hb)
 |lam2 s y b hs hy _ hb=>intro m;rw[qg5];exact GoodP.cons (jb (by decide)).2 (jb (by decide)).1 (q9q hs hy hb)
theorem q3n{t:Nd}(h:FmV t):∀ m,GoodP (t.pbare m):=by
 induction h with
 |atom s l h hl=>exact q3f (.app 15 s l (.inl ⟨rfl,h⟩) hl)
 |q1 k s b hk hs _ hb=>intro m;rw[qo7 hk];exact GoodP.snd (qn0 (by omega)) frN okN (q9r hs hb)
 |q2 k s y b hk hs hy _ hb=>intro m;rw[qo6 hk];exact GoodP.snd (qn0 (by omega)) frN okN (q9q hs hy hb)
 |lone k hk=>intro m;rw[qg4 hk];exact .one (qn0 (by omega))
 |bang a _ ha=>intro m;rw[qg7];exact GoodP.cons (jb (by decide)).2 (jb (by decide)).1 (kx ha 5 m)
 |monad a _ ha=>intro m;rw[qdd];exact GoodP.cons (jb (by decide)).2 (jb (by decide)).1 ((kx ha 0 false).snoc (jb (by decide)).2 (jb (by decide)).1)
 |bin k a b hk _ _ ha hb=>intro m;rw[qka hk];exact qgh (qo8 (by omega)) (kx ha _ _) (kx hb _ _)
end Go.Proofs.YtkckddojlignpaaGreatDoor
namespace Go.Proofs.YtkckddojlignpaaGreatDoor
namespace Sx
open Lx (Bs Tok)
theorem typed_succ(ts:List Tok)(f p:Nat):typed ts (f+1) p=match simple ts f p with
  | .bad q=>.bad q
  | .ok a q=>if txt ts q=[45,62] then(match typed ts f (q+1)with
   | .bad r=>.bad r
   | .ok b r=>.ok (.mk 31 noS [a,b]) r) else .ok a q:=by rw[typed];rfl
theorem simple_succ(ts:List Tok)(f p:Nat):simple ts (f+1) p=if txt ts p=[40] then(match typed ts f (p+1)with
   | .bad q=>.bad q
   | .ok a q=>if txt ts q=[41] then .ok a (q+1) else .bad q) else small ts p:=by rw[simple];rfl
theorem term_succ(ts:List Tok)(f p:Nat):term ts (f+1) p =
  if txt ts p=[92] then binder (typed ts f) (term ts f) ts 17 (p+1)
  else if txt ts p=[40] then(match term ts f (p+1)with
   | .bad q=>.bad q
   | .ok a q=>if txt ts q=[41] then .ok a (q+1) else .bad q)
  else(match nameA ts p with
   | .bad q=>.bad q
   | .ok (.mk k s _) q=>(match args ts f [] q with
    | .bad r=>.bad r
    | .ok l r=>.ok (.mk k s l) r)):=by rw[term];rfl
theorem args_succ(ts:List Tok)(f:Nat)(acc:List Nd)(p:Nat):args ts (f+1) acc p =
  if txt ts p=[40] then(match term ts f (p+1)with
   | .bad q=>.bad q
   | .ok a q=>if txt ts q=[41] then args ts f (acc++[a]) (q+1) else .bad q)
  else(match nameA ts p with
   | .bad _=>.ok acc p
   | .ok a q=>args ts f (acc++[a]) q):=by rw[args];rfl
theorem part_succ(ts:List Tok)(f p:Nat):part ts (f+1) p =
  if knd ts p=1 then applied ts f p
  else if txt ts p=[33] then(match part ts f (p+1)with
   | .bad q=>.bad q
   | .ok a q=>.ok (.mk 29 noS [a]) q)
  else if txt ts p=[97,108,108] then binder (typed ts f) (form ts f) ts 18 (p+1)
  else if txt ts p=[101,120] then binder (typed ts f) (form ts f) ts 19 (p+1)
  else if txt ts p=[111,110,101] then .ok (.mk 20 noS []) (p+1)
  else if txt ts p=[116,111,112] then .ok (.mk 21 noS []) (p+1)
  else if txt ts p=[123] then(match form ts f (p+1)with
   | .bad q=>.bad q
   | .ok a q=>if txt ts q=[125] then .ok (.mk 30 noS [a]) (q+1) else .bad q)
  else if txt ts p=[40] then(match form ts f (p+1)with
   | .bad q=>.bad q
   | .ok a q=>if txt ts q=[41] then .ok a (q+1) else .bad q)
  else .bad p:=by rw[part];rfl
theorem right_succ(ts:List Tok)(f b p:Nat):right ts (f+1) b p =
  if 5<=b then part ts f p
  else(match right ts f (b+1) p with
   | .bad q=>.bad q
   | .ok a q=>(match sgn ts b q with
    |none=>.ok a q
    |some k=>(match right ts f b (q+1)with
     | .bad r=>.bad r
     | .ok c r=>.ok (.mk k noS [a,c]) r))):=by rw[right];rfl
theorem form_succ(ts:List Tok)(f p:Nat):form ts (f+1) p=match right ts f 1 p with
  | .bad q=>.bad q
  | .ok a q=>formR ts f a q:=by rw[form];rfl
theorem formR_succ(ts:List Tok)(f:Nat)(a:Nd)(q:Nat):formR ts (f+1) a q=match sgn ts 0 q with
  |none=>.ok a q
  |some k=>(match right ts f 1 (q+1)with
   | .bad r=>.bad r
   | .ok c r=>formR ts f (.mk k noS [a,c]) r):=by rw[formR];rfl
theorem typed_more(ts:List Tok):∀ f,(∀ p,2*(ts.length - p)+2<=f->typed ts (f+1) p=typed ts f p)/\(∀ p,2*(ts.length - p)+1<=f->simple ts (f+1) p=simple ts f p)
 |0=>⟨fun p h=>by omega,fun p h=>by omega⟩
 |f+1=>by
  obtain⟨h1,h2⟩:=typed_more ts f;refine⟨fun p h=>?_,fun p h=>?_⟩
  ·rw[typed_succ ts (f+1) p,typed_succ ts f p,h2 p (by omega)]
   cases hs:simple ts f p with
   |bad q=>rfl
   |ok a q =>
    have g:=(typed_goes ts f).2 p _ _ hs;simp only
    by_cases ht:txt ts q=[45,62]
    ·have:=txt_at ht
     rw[qa ht,qa ht,h1 (q+1) (by omega)]
    ·rw[q7 ht,q7 ht]
  ·rw[simple_succ ts (f+1) p,simple_succ ts f p]
   by_cases ht:txt ts p=[40]
   ·have:=txt_at ht
    rw[qa ht,qa ht,h1 (p+1) (by omega)]
   ·rw[q7 ht,q7 ht]
theorem binder_eq{ts:List Tok}{ty body ty' body':Nat->PR Nd}{k:Int}(p:Nat)(h0:∀ q,Goes ts q (ty q))
  (h1:∀ q,p < q->q<=ts.length->ty' q=ty q) (h2:∀ q,p < q->q<=ts.length->body' q=body q):binder ty' body' ts k p=binder ty body ts k p:=by
 unfold binder
 cases hn:nameA ts p with
 |bad q=>rfl
 |ok a q =>
  obtain⟨k1,s1,l1⟩:=a;have g:=nameA_ok hn;simp only
  by_cases ht:txt ts q=[58]
  ·have hq:=txt_at ht
   rw[qa ht,qa ht,h1 (q+1) (by omega) (by omega)]
   cases hy:ty (q+1)with
   |bad r=>rfl
   |ok t r =>
    have g2:=h0 _ _ _ hy;simp only
    by_cases hd:txt ts r=[46]
    ·have hr:=txt_at hd
     rw[qa hd,qa hd,h2 (r+1) (by omega) (by omega)]
    ·rw[q7 hd,q7 hd]
  ·rw[q7 ht,q7 ht]
   by_cases hd:txt ts q=[46]
   ·have hr:=txt_at hd
    rw[qa hd,qa hd,h2 (q+1) (by omega) (by omega)]
   ·rw[q7 hd,q7 hd]
theorem term_more(ts:List Tok):∀ f,(∀ p,2*(ts.length - p)+2<=f->term ts (f+1) p=term ts f p)/\(∀ acc p,2*(ts.length - p)+2<=f->args ts (f+1) acc p=args ts f acc p)
 |0=>⟨fun p h=>by omega,fun acc p h=>by omega⟩
 |f+1=>by
  obtain⟨h1,h2⟩:=term_more ts f;refine⟨fun p h=>?_,fun acc p h=>?_⟩
  ·rw[term_succ ts (f+1) p,term_succ ts f p]
   by_cases ht:txt ts p=[92]
   ·have:=txt_at ht
    rw[qa ht,qa ht];exact binder_eq (p+1) (typed_goes ts f).1 (fun q _ _=>(typed_more ts f).1 q (by omega)) (fun q _ _=>h1 q (by omega))
   ·rw[q7 ht,q7 ht]
    by_cases hp:txt ts p=[40]
    ·have:=txt_at hp
     rw[qa hp,qa hp,h1 (p+1) (by omega)]
    ·rw[q7 hp,q7 hp]
     cases hn:nameA ts p with
     |bad q=>rfl
     |ok a q =>
      obtain⟨k1,s1,l1⟩:=a;have g:=nameA_ok hn;simp only;rw[h2 [] q (by omega)]
  ·rw[args_succ ts (f+1) acc p,args_succ ts f acc p]
   by_cases hp:txt ts p=[40]
   ·have:=txt_at hp
    rw[qa hp,qa hp,h1 (p+1) (by omega)]
    cases hn:term ts f (p+1)with
    |bad q=>rfl
    |ok a q =>
     have g:=(term_goes ts f).1 _ _ _ hn;simp only
     by_cases hc:txt ts q=[41]
     ·have:=txt_at hc
      rw[qa hc,qa hc,h2 _ (q+1) (by omega)]
     ·rw[q7 hc,q7 hc]
   ·rw[q7 hp,q7 hp]
    cases hn:nameA ts p with
    |bad q=>rfl
    |ok a q =>
     have g:=nameA_ok hn;simp only;rw[h2 _ q (by omega)]
theorem applied_more(ts:List Tok)(f p:Nat)(h:2*(ts.length - p)+1<=f):applied ts (f+1) p=applied ts f p:=by
 unfold applied
 cases hn:nameA ts p with
 |bad q=>rfl
 |ok a q =>
  obtain⟨k1,s1,l1⟩:=a;have g:=nameA_ok hn;simp only;rw[(term_more ts f).2 [] q (by omega)]
theorem form_more(ts:List Tok):∀ f,(∀ p,8*(ts.length - p)+1<=f->part ts (f+1) p=part ts f p)/\(∀ b p,8*(ts.length - p)+2+(5 - b)<=f->right ts (f+1) b p=right ts f b p)/\(∀ p,8*(ts.length - p)+7<=f->form ts (f+1) p=form ts f p)/\(∀ a p,8*(ts.length - p)+1<=f->formR ts (f+1) a p=formR ts f a p)
 |0=>⟨fun p h=>by omega,fun b p h=>by omega,fun p h=>by omega,fun a p h=>by omega⟩
 |f+1=>by
  obtain⟨h1,h2,h3,h4⟩:=form_more ts f;obtain⟨G1,G2,G3,G4⟩:=form_goes ts f;refine⟨fun p h=>?_,fun b p h=>?_,fun p h=>?_,fun a p h=>?_⟩
  ·rw[part_succ ts (f+1) p,part_succ ts f p]
   by_cases hk:knd ts p=1
   ·have:=knd_lt (ts:=ts) (p:=p) (by omega)
    rw[qa hk,qa hk,applied_more ts f p (by omega)]
   ·rw[q7 hk,q7 hk]
    by_cases e1:txt ts p=[33]
    ·have:=txt_at e1
     rw[qa e1,qa e1,h1 (p+1) (by omega)]
    ·rw[q7 e1,q7 e1]
     by_cases e2:txt ts p=[97,108,108]
     ·have:=txt_at e2
      rw[qa e2,qa e2];exact binder_eq (p+1) (typed_goes ts f).1 (fun q _ _=>(typed_more ts f).1 q (by omega)) (fun q _ _=>h3 q (by omega))
     ·rw[q7 e2,q7 e2]
      by_cases e3:txt ts p=[101,120]
      ·have:=txt_at e3
       rw[qa e3,qa e3];exact binder_eq (p+1) (typed_goes ts f).1 (fun q _ _=>(typed_more ts f).1 q (by omega)) (fun q _ _=>h3 q (by omega))
      ·rw[q7 e3,q7 e3]
       by_cases e4:txt ts p=[111,110,101]
       ·rw[qa e4,qa e4]
       ·rw[q7 e4,q7 e4]
        by_cases e5:txt ts p=[116,111,112]
        ·rw[qa e5,qa e5]
        ·rw[q7 e5,q7 e5]
         by_cases e6:txt ts p=[123]
         ·have:=txt_at e6
          rw[qa e6,qa e6,h3 (p+1) (by omega)]
         ·rw[q7 e6,q7 e6]
          by_cases e7:txt ts p=[40]
          ·have:=txt_at e7
           rw[qa e7,qa e7,h3 (p+1) (by omega)]
          ·rw[q7 e7,q7 e7]
  ·rw[right_succ ts (f+1) b p,right_succ ts f b p]
   by_cases hb:5<=b
   ·rw[qa hb,qa hb,h1 p (by omega)]
   ·rw[q7 hb,q7 hb,h2 (b+1) p (by omega)]
    cases hr:right ts f (b+1) p with
    |bad q=>rfl
    |ok a q =>
     have g:=G2 _ _ _ _ hr;simp only
     cases hs:sgn ts b q with
     |none=>rfl
     |some k =>
      have:=sgn_lt hs;simp only;rw[h2 b (q+1) (by omega)]
  ·rw[form_succ ts (f+1) p,form_succ ts f p,h2 1 p (by omega)]
   cases hr:right ts f 1 p with
   |bad q=>rfl
   |ok a q =>
    have g:=G2 _ _ _ _ hr;simp only;rw[h4 a q (by omega)]
  ·rw[formR_succ ts (f+1) a p,formR_succ ts f a p]
   cases hs:sgn ts 0 p with
   |none=>rfl
   |some k =>
    have:=sgn_lt hs;simp only;rw[h2 1 (p+1) (by omega)]
    cases hr:right ts f 1 (p+1)with
    |bad q=>rfl
    |ok c r =>
     have g:=G2 _ _ _ _ hr;simp only;rw[h4 _ r (by omega)]
theorem typed_fuel(ts:List Tok)(p f:Nat)(h:2*(ts.length - p)+2<=f):∀ j,typed ts (f+j) p=typed ts f p
 |0=>rfl
 |j+1=>by rw[<-Nat.add_assoc,(typed_more ts (f+j)).1 p (by omega),typed_fuel ts p f h j]
theorem simple_fuel(ts:List Tok)(p f:Nat)(h:2*(ts.length - p)+1<=f):∀ j,simple ts (f+j) p=simple ts f p
 |0=>rfl
 |j+1=>by rw[<-Nat.add_assoc,(typed_more ts (f+j)).2 p (by omega),simple_fuel ts p f h j]
theorem term_fuel(ts:List Tok)(p f:Nat)(h:2*(ts.length - p)+2<=f):∀ j,term ts (f+j) p=term ts f p
 |0=>rfl
 |j+1=>by rw[<-Nat.add_assoc,(term_more ts (f+j)).1 p (by omega),term_fuel ts p f h j]
theorem form_fuel(ts:List Tok)(p f:Nat)(h:8*(ts.length - p)+7<=f):∀ j,form ts (f+j) p=form ts f p
 |0=>rfl
 |j+1=>by rw[<-Nat.add_assoc,(form_more ts (f+j)).2.2.1 p (by omega),form_fuel ts p f h j]
end Sx
end Go.Proofs.YtkckddojlignpaaGreatDoor
namespace Go.Proofs.YtkckddojlignpaaGreatDoor
open Lx (KT IsTok)
open Sx (txt knd)
def hdX:List KT->Tx|a :: _=>a.x|[]=>[]
def hdK:List KT->Nat|a :: _=>a.k|[]=>0
def Stn(ts:List Lx.Tok)(p:Nat)(L:List KT):Prop:=(ts.map Lx.Tok.kt).drop p=L
theorem Stn.hd{ts:List Lx.Tok}{p:Nat}{L:List KT}(h:Stn ts p L):txt ts p=hdX L/\knd ts p=hdK L:=by
 have e:(ts.map Lx.Tok.kt)[p]?=L[0]?:=by rw[<-h,List.getElem?_drop,Nat.add_zero]
 rw[List.getElem?_map]at e;unfold txt knd
 cases hp:ts[p]? with
 |none =>
  rw[hp]at e
  cases L with
  |nil=>exact⟨rfl,rfl⟩
  |cons a L=>simp at e
 |some t =>
  rw[hp]at e
  cases L with
  |nil=>simp at e
  |cons a L =>
   simp only[Option.map_some,List.getElem?_cons_zero,Option.some.injEq]at e;subst e;exact⟨rfl,rfl⟩
theorem Stn.tx{ts:List Lx.Tok}{p k:Nat}{x:Tx}{L:List KT}(h:Stn ts p (⟨k,x⟩ :: L)):txt ts p=x:=h.hd.1
theorem Stn.next{ts:List Lx.Tok}{p:Nat}{a:KT}{L:List KT}(h:Stn ts p (a :: L)):Stn ts (p+1) L:=by
 have:=congrArg (List.drop 1) h;rw[List.drop_drop]at this;exact this
def Prs(ts:List Lx.Tok)(R:List KT){α:Type}(f:Nat->Sx.PR α)(t:α):Prop:=∃ q,Stn ts q R/\∃ f0,∀ g,f0<=g->f g = .ok t q
theorem qq2{a b:KT}(ha:IsTok a)(hb:IsTok b)(h:a.k≠b.k):a.x≠b.x:=fun e=>by
 have h1:=ha.1;have h2:=hb.1;rw[e]at h1;rw[h1]at h2;exact h (by simpa using h2)
theorem q4l{c:UInt8}(h:Lx.signB c=true):IsTok ⟨3,[c]⟩:=(jb h).1
theorem qcs(s:ByteArray):Sx.str (bs s)=s:=by
 obtain⟨⟨l⟩⟩:=s;rfl
theorem q1v(k:Int)(s:ByteArray):Sx.leaf k (bs s) = .mk k s []:=by unfold Sx.leaf;rw[qcs]
theorem q4u(l:Pc)(R:List KT):pcT (par l)++R=⟨3,[40]⟩ :: (pcT l++⟨3,[41]⟩ :: R):=by
 unfold par;rw[qz,xt,qz,q17];simp
theorem qkk(k:Int):q01 k 0 false=false:=by
 unfold q01;rw[Bool.and_false,Bool.or_false]
 cases q0z k with
 |none=>rfl
 |some x=>exact decide_eq_false (Nat.not_lt_zero _)
theorem wy(t:Nd):t.ptxt 0 false=t.pbare false:=by rw[wg,qkk];rfl
theorem q50{ts:List Lx.Tok}{p:Nat}{k:Int}{s:ByteArray}{R:List KT}(hn:nmV k s)(h:Stn ts p (nmK k s :: R)):Sx.nameA ts p = .ok (.mk k s []) (p+1)/\txt ts p=bs s:=by
 obtain⟨f1,f2⟩:=h.hd;have e1:txt ts p=bs s:=f1;refine⟨?_,e1⟩;unfold Sx.nameA;rw[e1];rcases hn with ⟨rfl,_⟩|⟨rfl,_⟩
 ·have e2:knd ts p=1:=f2
  rw[qa e2,q1v]
 ·have e2:knd ts p=2:=f2
  rw[q7 (by omega),qa e2,q1v]
theorem qc0{ts:List Lx.Tok}{p:Nat}{s:ByteArray}{R:List KT}(_hn:q3c s)(h:Stn ts p (nmB s :: R)):∃ k,Sx.nameA ts p = .ok (.mk k s []) (p+1):=by
 obtain⟨e1,e2⟩:=h.hd;have e1:txt ts p=bs s:=e1;unfold Sx.nameA
 by_cases hs:qy s=true
 ·have e2:knd ts p=1:=by rw[e2];unfold hdK nmB;simp only[qa hs]
  exact⟨15,by rw[qa e2,e1,q1v]⟩
 ·have e2:knd ts p=2:=by rw[e2];unfold hdK nmB;simp only[q7 hs]
  exact⟨16,by rw[q7 (by omega),qa e2,e1,q1v]⟩
theorem q51{k:Int}{s:ByteArray}(hn:nmV k s){b:KT}(hb:IsTok b)(h3:b.k=3\/b.k=4):bs s≠b.x :=
 qq2 (a:=nmK k s) (q6m hn) hb (by rcases hn with ⟨rfl,_⟩|⟨rfl,_⟩ <;> (rcases h3 with h|h <;> rw[h] <;> simp[nmK]))
theorem q7c{k:Nat}{x y:Tx}{R:List KT}(h:x≠y):hdX (⟨k,x⟩ :: R)≠y:=h
theorem qjg{ts:List Lx.Tok}{p:Nat}{R:List KT}{t:Nd}(h:Prs ts R (fun f=>Sx.simple ts f p) t)(hR:hdX R≠[45,62]):Prs ts R (fun f=>Sx.typed ts f p) t:=by
 obtain⟨q,hq,f0,hf⟩:=h;refine⟨q,hq,f0+1,fun g hg=>?_⟩;obtain⟨g,rfl⟩:∃ g',g=g'+1:=⟨g - 1,by omega⟩
 show Sx.typed ts (g+1) p=_
 rw[Sx.typed_succ,show Sx.simple ts g p = .ok t q from hf g (by omega)];simp only;rw[q7 (by rw[hq.hd.1];exact hR)]
theorem q3d{t:Nd}(h:TyV t):(∀ ts p R m,Stn ts p (pcT (t.ptxt 6 m)++R)->hdX R≠[45,62]->Prs ts R (fun f=>Sx.typed ts f p) t) /\
  (∀ ts p R m,Stn ts p (pcT (t.ptxt 7 m)++R)->Prs ts R (fun f=>Sx.simple ts f p) t):=by
 induction h with
 |name s h =>
  have hv:nmV 15 s:=.inl ⟨rfl,h⟩
  have e:∀ b m,pcT ((Nd.mk 15 s []).ptxt b m)=[nmK 15 s]:=fun b m=>by
   rw[wg,show q01 (Nd.mk 15 s []).kd b m=false from rfl];rfl
  have hs:∀ ts p R b m,Stn ts p (pcT ((Nd.mk 15 s []).ptxt b m)++R)->Prs ts R (fun f=>Sx.simple ts f p) (.mk 15 s []):=by
   intro ts p R b m hp;rw[e]at hp;refine⟨p+1,hp.next,1,fun g hg=>?_⟩;obtain⟨g,rfl⟩:∃ g',g=g'+1:=⟨g - 1,by omega⟩;obtain⟨g1,g2⟩:=hp.hd;have e1:txt ts p=bs s:=g1;have e2:knd ts p=1:=g2;clear g1 g2
   show Sx.simple ts (g+1) p=_
   rw[Sx.simple_succ,q7 (by rw[e1];exact q51 hv (q4l (c:=40) (by decide)) (.inl rfl))];unfold Sx.small;rw[qa e2,e1,q1v]
  exact⟨fun ts p R m hp hR=>qjg (hs ts p R 6 m hp) hR,fun ts p R m hp=>hs ts p R 7 m hp⟩
 |arrow a b _ _ ha hb =>
  have ht:∀ ts p R m,Stn ts p (pcT ((Nd.mk 31 Sx.noS [a,b]).pbare m)++R)->hdX R≠[45,62]->Prs ts R (fun f=>Sx.typed ts f p) (.mk 31 Sx.noS [a,b]):=by
   intro ts p R m hp hR;rw[qde,xt,zp,qz,zp,qe,List.cons_append]at hp;obtain⟨q,hq,f0,hf⟩:=ha.2 _ _ _ _ hp;obtain⟨r,hr,f1,hf1⟩:=hb.1 _ _ _ _ hq.next hR
   refine⟨r,hr,f0+f1+1,fun g hg=>?_⟩;obtain⟨g,rfl⟩:∃ g',g=g'+1:=⟨g - 1,by omega⟩
   show Sx.typed ts (g+1) p=_
   rw[Sx.typed_succ,show Sx.simple ts g p = .ok a q from hf g (by omega)];simp only;rw[qa hq.tx,show Sx.typed ts g (q+1) = .ok b r from hf1 g (by omega)]
  refine⟨fun ts p R m hp hR=>ht ts p R m (by rw[wg,show q01 (Nd.mk 31 Sx.noS [a,b]).kd 6 m=false from rfl]at hp;exact hp) hR,fun ts p R m hp=>?_⟩;rw[wg,show q01 (Nd.mk 31 Sx.noS [a,b]).kd 7 m=true from rfl,qa rfl,q4u]at hp;obtain⟨q,hq,f0,hf⟩:=ht ts (p+1) _ false hp.next (q7c (by decide))
  refine⟨q+1,hq.next,f0+1,fun g hg=>?_⟩;obtain⟨g,rfl⟩:∃ g',g=g'+1:=⟨g - 1,by omega⟩
  show Sx.simple ts (g+1) p=_
  rw[Sx.simple_succ,qa hp.tx,show Sx.typed ts g (p+1)=_ from hf g (by omega)];simp only;rw[qa hq.tx]
theorem yg{x:Tx}{R:List KT}(h:x≠[40]):hdX (⟨3,x⟩ :: R)≠[40]/\hdK (⟨3,x⟩ :: R)≠1/\hdK (⟨3,x⟩ :: R)≠2:=⟨h,show(3:Nat)≠1 by decide,show(3:Nat)≠2 by decide⟩
def q78(R:List KT):Prop:=hdX R≠[40]/\hdK R≠1/\hdK R≠2
def qrc(x:Nd):Prop:=∀ ts p R,Stn ts p (pcT x.parg++R)->∃ q,Stn ts q R/\∃ f0,∀ g,f0<=g->∀ acc,Sx.args ts (g+1) acc p=Sx.args ts g (acc++[x]) q
def qog(t:Nd):Prop:=∀ ts p R m,Stn ts p (pcT (t.pbare m)++R)->q78 R->Prs ts R (fun f=>Sx.term ts f p) t
theorem q5p:∀ {l:List Nd},(∀ x∈l,qrc x)->∀ ts p R acc,Stn ts p (pcT (q2a l)++R)->q78 R->Prs ts R (fun f=>Sx.args ts f acc p) (acc++l)
 |[],_,ts,p,R,acc,hp,hR=>by
  have hp:Stn ts p R:=hp;refine⟨p,hp,1,fun g hg=>?_⟩;obtain⟨g,rfl⟩:∃ g',g=g'+1:=⟨g - 1,by omega⟩
  show Sx.args ts (g+1) acc p=_
  obtain⟨e1,e2⟩:=hp.hd;rw[Sx.args_succ,q7 (by rw[e1];exact hR.1)];unfold Sx.nameA;rw[q7 (by rw[e2];exact hR.2.1),q7 (by rw[e2];exact hR.2.2),List.append_nil]
 |x :: l,h,ts,p,R,acc,hp,hR=>by
  have e:pcT (q2a (x :: l))++R=pcT x.parg++(pcT (q2a l)++R):=by
   unfold q2a;rw[List.flatMap_cons,List.cons_append,zp,xt,qe]
  rw[e]at hp;obtain⟨q,hq,f0,hf⟩:=h x (by simp) _ _ _ hp;obtain⟨r,hr,f1,hf1⟩:=q5p (fun y hy=>h y (by simp[hy])) ts q R (acc++[x]) hq hR;refine⟨r,hr,f0+f1+1,fun g hg=>?_⟩;obtain⟨g,rfl⟩:∃ g',g=g'+1:=⟨g - 1,by omega⟩
  show Sx.args ts (g+1) acc p=_
  rw[hf g (by omega),show Sx.args ts g (acc++[x]) q=_ from hf1 g (by omega),qe];rfl
theorem q5y{ts:List Lx.Tok}{p:Nat}{R:List KT}{k:Int}{s:ByteArray}{b:Nd}{ty body:Nat->Nat->Sx.PR Nd}(hs:q3c s)
  (hb:∀ q,Stn ts q (pcT (b.pbare false)++R)->Prs ts R (fun f=>body f q) b) (hp:Stn ts p (pcT (q5n s b)++R)):Prs ts R (fun f=>Sx.binder (ty f) (body f) ts k p) (.mk k s [b]):=by
 unfold q5n at hp;rw[qz,qz,zp,wy,List.cons_append,List.cons_append]at hp;obtain⟨k',hn⟩:=qc0 hs hp;obtain⟨r,hr,f0,hf⟩:=hb _ hp.next.next
 refine⟨r,hr,f0,fun g hg=>?_⟩;have e:txt ts (p+1)=[46]:=hp.next.hd.1
 have hf:=hf g hg;unfold Sx.binder;simp only[hn];rw[q7 (by rw[e];decide),qa e];simp only[hf]
theorem q5x{ts:List Lx.Tok}{p:Nat}{R:List KT}{k:Int}{s:ByteArray}{y b:Nd}{body:Nat->Nat->Sx.PR Nd}(hs:q3c s)(hy:TyV y)
  (hb:∀ q,Stn ts q (pcT (b.pbare false)++R)->Prs ts R (fun f=>body f q) b) (hp:Stn ts p (pcT (q5m s y b)++R)):Prs ts R (fun f=>Sx.binder (Sx.typed ts f) (body f) ts k p) (.mk k s [y,b]):=by
 unfold q5m at hp;rw[qz,qz,zp,xt,qz,zp,wy,List.cons_append,List.cons_append,qe,List.cons_append]at hp;obtain⟨k',hn⟩:=qc0 hs hp;obtain⟨q,hq,f1,hf1⟩:=(q3d hy).1 _ _ _ _ hp.next.next (q7c (by decide))
 obtain⟨r,hr,f0,hf⟩:=hb _ hq.next
 refine⟨r,hr,f0+f1,fun g hg=>?_⟩;have e:txt ts (p+1)=[58]:=hp.next.hd.1
 have hf:=hf g (by omega);have hf1:=hf1 g (by omega);have e2:txt ts q=[46]:=hq.hd.1;unfold Sx.binder;simp only[hn];rw[qa e];simp only[hf1];rw[qa e2];simp only[hf]
theorem q7l{t:Nd}(ht:TmV t)(h:qog t):qrc t:=by
 have hpar:∀ ts p R,Stn ts p (pcT (par (t.pbare false))++R)->∃ q,Stn ts q R/\∃ f0,∀ g,f0<=g->∀ acc,Sx.args ts (g+1) acc p=Sx.args ts g (acc++[t]) q:=by
  intro ts p R hp;rw[q4u]at hp;obtain⟨q,hq,f0,hf⟩:=h _ _ _ _ hp.next (yg (by decide))
  refine⟨q+1,hq.next,f0,fun g hg acc=>?_⟩;rw[Sx.args_succ,qa hp.tx,show Sx.term ts g (p+1)=_ from hf g hg];simp only;rw[qa hq.tx]
 intro ts p R hp;rw[qg8]at hp
 cases ht with
 |app k s l hn hl =>
  simp only at hp
  split at hp
  ·exact hpar ts p R hp
  ·rename_i h0
   obtain rfl:l=[]:=List.eq_nil_of_length_eq_zero (by omega);have hp:Stn ts p (nmK k s :: R):=hp;obtain⟨e1,e2⟩:=q50 hn hp;refine⟨p+1,hp.next,0,fun g _ acc=>?_⟩;rw[Sx.args_succ,q7 (by rw[e2];exact q51 hn (q4l (c:=40) (by decide)) (.inl rfl)),e1]
 |lam1 s b hs hb=>exact hpar ts p R hp
 |lam2 s y b hs hy hb=>exact hpar ts p R hp
theorem q8y{t:Nd}(h:TmV t):qog t:=by
 induction h with
 |app k s l hn hl ih =>
  intro ts p R m hp hR;rw[q6k (hn.imp (·.1) (·.1)),qz,List.cons_append]at hp;obtain⟨e1,e2⟩:=q50 hn hp;obtain⟨q,hq,f0,hf⟩:=q5p (fun x hx=>q7l (hl x hx) (ih x hx)) ts (p+1) R [] hp.next hR
  refine⟨q,hq,f0+1,fun g hg=>?_⟩;obtain⟨g,rfl⟩:∃ g',g=g'+1:=⟨g - 1,by omega⟩
  show Sx.term ts (g+1) p=_
  rw[Sx.term_succ,q7 (by rw[e2];exact q51 hn (q4l (c:=92) (by decide)) (.inl rfl)),q7 (by rw[e2];exact q51 hn (q4l (c:=40) (by decide)) (.inl rfl)),e1];simp only;rw[show Sx.args ts g [] (p+1)=_ from hf g (by omega)];rfl
 |lam1 s b hs _ hb =>
  intro ts p R m hp hR;rw[qg6,qz,List.cons_append]at hp;obtain⟨q,hq,f0,hf⟩:=q5y (k:=17) (ty:=Sx.typed ts) (body:=Sx.term ts) hs (fun q hq=>hb ts q R false hq hR) hp.next
  refine⟨q,hq,f0+1,fun g hg=>?_⟩;obtain⟨g,rfl⟩:∃ g',g=g'+1:=⟨g - 1,by omega⟩
  show Sx.term ts (g+1) p=_
  rw[Sx.term_succ,qa hp.tx];exact hf g (by omega)
 |lam2 s y b hs hy _ hb =>
  intro ts p R m hp hR;rw[qg5,qz,List.cons_append]at hp;obtain⟨q,hq,f0,hf⟩:=q5x (k:=17) (body:=Sx.term ts) hs hy (fun q hq=>hb ts q R false hq hR) hp.next
  refine⟨q,hq,f0+1,fun g hg=>?_⟩;obtain⟨g,rfl⟩:∃ g',g=g'+1:=⟨g - 1,by omega⟩
  show Sx.term ts (g+1) p=_
  rw[Sx.term_succ,qa hp.tx];exact hf g (by omega)
theorem qcb{k:Int}{s:ByteArray}{l:List Nd}(hn:nmV k s)(hl:∀ x∈l,TmV x){ts:List Lx.Tok}{p:Nat}{R:List KT}{m:Bool}(hp:Stn ts p (pcT ((Nd.mk k s l).pbare m)++R))(hR:q78 R) :
  Prs ts R (fun f=>Sx.applied ts f p) (.mk k s l):=by
 rw[q6k (hn.imp (·.1) (·.1)),qz,List.cons_append]at hp;obtain⟨e1,e2⟩:=q50 hn hp;obtain⟨q,hq,f0,hf⟩:=q5p (fun x hx=>q7l (hl x hx) (q8y (hl x hx))) ts (p+1) R [] hp.next hR
 refine⟨q,hq,f0,fun g hg=>?_⟩;have hf:=hf g hg
 show Sx.applied ts g p=_
 unfold Sx.applied;simp only[e1,hf];rfl
def sgW(b:Nat)(x:Tx):Option Int :=
 if b=0 then(if x=[111,45] then some 27 else if x=[60,61] then some 28 else none)
 else if b=1 then(if x=[45,111] then some 25 else if x=[61,62] then some 26 else none)
 else if b=2 then(if x=[43] then some 24 else none)
 else if b=3 then(if x=[38] then some 23 else none)
 else if b=4 then(if x=[42] then some 22 else none)
 else none
theorem qcf(ts:List Lx.Tok)(b p:Nat):Sx.sgn ts b p=sgW b (txt ts p):=rfl
theorem q85{b:Nat}(h:5<=b)(x:Tx):sgW b x=none:=by
 unfold sgW;rw[q7 (by omega),q7 (by omega),q7 (by omega),q7 (by omega),q7 (by omega)]
def NoS(b:Nat)(R:List KT):Prop:=∀ b',b<=b'->sgW b' (hdX R)=none
theorem NoS.mono{b c:Nat}{R:List KT}(h:NoS b R)(hc:b<=c):NoS c R:=fun b' hb=>h b' (ql hc hb)
theorem NoS.five(R:List KT):NoS 5 R:=fun _ hb=>q85 hb _
theorem q9g{k:Nat}{x:Tx}{R:List KT}(h:∀ b,b < 5->sgW b x=none):NoS 0 (⟨k,x⟩ :: R):=fun b' _=>by
 by_cases h5:b' < 5
 ·exact h b' h5
 ·exact q85 (by omega) x
def Fol(m:Bool)(R:List KT):Prop:=q78 R/\(m=false->NoS 0 R)
def lvP(k:Int):Nat:=match q0z k with|some (_,b)=>b|none=>5
def quB(k:Int):Bool:=decide (k=18)||decide (k=19)
theorem qdf{k:Int}(_hk:k≠31)(b:Nat)(hb:b<=5)(m:Bool):q01 k b m=(decide (lvP k < b)||(quB k && m)):=by
 unfold q01 lvP quB
 cases q0z k with
 |none =>
  show(false||_)=_
  rw[decide_eq_false (show ¬ 5 < b by omega)]
 |some x=>rfl
def Main(t:Nd):Prop:=t.kd≠31/\∀ ts p R m,Stn ts p (pcT (t.pbare m)++R)->Fol m R->(quB t.kd && m)=false ->
 (1<=lvP t.kd->NoS (lvP t.kd) R->Prs ts R (fun f=>Sx.right ts f (lvP t.kd) p) t) /\
 (lvP t.kd=0->NoS 1 R->∃ q,Stn ts q R/\∃ d f0,∀ g,f0<=g->Sx.form ts (g+d) p=Sx.formR ts g t q)
theorem qqz{ts:List Lx.Tok}{p:Nat}{R:List KT}{t:Nd}:∀ (n b:Nat),b+n<=5->NoS b R->Prs ts R (fun f=>Sx.right ts f (b+n) p) t->Prs ts R (fun f=>Sx.right ts f b p) t
 |0,_,_,_,h=>h
 |n+1,b,hb,hR,h=>by
  obtain⟨q,hq,f0,hf⟩:=qqz n (b+1) (by omega) (hR.mono (by omega)) (by rw[show b+1+n=b+(n+1) from by omega];exact h);refine⟨q,hq,f0+1,fun g hg=>?_⟩;obtain⟨g,rfl⟩:∃ g',g=g'+1:=⟨g - 1,by omega⟩
  show Sx.right ts (g+1) b p=_
  rw[Sx.right_succ,q7 (by omega),show Sx.right ts g (b+1) p=_ from hf g (by omega)];simp only;rw[qcf,hq.hd.1,hR b (q5 _)]
theorem q46{ts:List Lx.Tok}{p:Nat}{R:List KT}{t:Nd}{b c:Nat}(hb:b<=c)(hc:c<=5)(hR:NoS b R)(h:Prs ts R (fun f=>Sx.right ts f c p) t):Prs ts R (fun f=>Sx.right ts f b p) t :=
 qqz (c - b) b (by omega) hR (by rw[show b+(c - b)=c from by omega];exact h)
theorem qe6{k:Int}(hk:k≠31):∀ (l:List (List UInt8×Int×Nat)),(∀ o∈l,o.2.1≠31->o.2.2<=5)->∀ x,q1k k l=some x->x.2<=5
 |[],_,x,h=>by simp only[q1k]at h;cases h
 |o :: l,ho,x,h=>by
  simp only[q1k]at h
  split at h
  ·rename_i e
   cases h;exact ho o (by simp) (by rw[e];exact hk)
  ·exact qe6 hk l (fun o' h'=>ho o' (by simp[h'])) x h
theorem qdq(k:Int)(h:k≠31):lvP k<=5:=by
 have key:=qe6 h opsL (by decide);unfold lvP q0z
 cases hf:q1k k opsL with
 |none=>exact q5 _
 |some x=>exact key x hf
theorem qd3{ts:List Lx.Tok}{p:Nat}{R:List KT}{t:Nd}(h:Prs ts R (fun f=>Sx.part ts f p) t):Prs ts R (fun f=>Sx.right ts f 5 p) t:=by
 obtain⟨q,hq,f0,hf⟩:=h;refine⟨q,hq,f0+1,fun g hg=>?_⟩;obtain⟨g,rfl⟩:∃ g',g=g'+1:=⟨g - 1,by omega⟩
 show Sx.right ts (g+1) 5 p=_
 rw[Sx.right_succ,qa (q5 _)];exact hf g (by omega)
theorem qrf{ts:List Lx.Tok}{p:Nat}{R:List KT}{t:Nd}(h:Prs ts R (fun f=>Sx.right ts f 5 p) t):Prs ts R (fun f=>Sx.part ts f p) t:=by
 obtain⟨q,hq,f0,hf⟩:=h;refine⟨q,hq,f0,fun g hg=>?_⟩;have:=hf (g+1) (by omega);simp only at this;rw[Sx.right_succ,qa (q5 _)]at this;exact this
theorem qio{ts:List Lx.Tok}{q:Nat}{R:List KT}(hq:Stn ts q R)(hR:NoS 0 R)(t:Nd)(g:Nat):Sx.formR ts (g+1) t q = .ok t q:=by
 rw[Sx.formR_succ,qcf,hq.hd.1,hR 0 (q5 _)]
theorem q5c{ts:List Lx.Tok}{p:Nat}{R:List KT}{t:Nd}(h:Prs ts R (fun f=>Sx.right ts f 1 p) t):∃ q,Stn ts q R/\∃ d f0,∀ g,f0<=g->Sx.form ts (g+d) p=Sx.formR ts g t q:=by
 obtain⟨q,hq,f0,hf⟩:=h;refine⟨q,hq,1,f0,fun g hg=>?_⟩;rw[Sx.form_succ,show Sx.right ts g 1 p=_ from hf g hg]
theorem form_goes{ts:List Lx.Tok}{p:Nat}{R:List KT}{t:Nd}(h:∃ q,Stn ts q R/\∃ d f0,∀ g,f0<=g->Sx.form ts (g+d) p=Sx.formR ts g t q)(hR:NoS 0 R):Prs ts R (fun f=>Sx.form ts f p) t:=by
 obtain⟨q,hq,d,f0,hf⟩:=h;refine⟨q,hq,f0+1+d,fun g hg=>?_⟩;obtain⟨g,rfl⟩:∃ g',g=g'+1+d:=⟨g - 1 - d,by omega⟩
 show Sx.form ts (g+1+d) p=_
 rw[hf (g+1) (by omega),qio hq hR]
theorem Main.fo{t:Nd}(h:Main t){ts:List Lx.Tok}{p:Nat}{R:List KT}(hp:Stn ts p (pcT (t.pbare false)++R))(hA:q78 R)(hR:NoS 0 R):Prs ts R (fun f=>Sx.form ts f p) t:=by
 obtain⟨h1,h0⟩:=h.2 ts p R false hp ⟨hA,fun _=>hR⟩ (Bool.and_false _)
 by_cases hl:lvP t.kd=0
 ·exact form_goes (h0 hl (hR.mono (by omega))) hR
 ·exact form_goes (q5c (q46 (by omega) (qdq _ h.1) (hR.mono (by omega)) (h1 (by omega) (hR.mono (by omega))))) hR
theorem Main.par{t:Nd}(h:Main t){ts:List Lx.Tok}{p:Nat}{R:List KT}(hp:Stn ts p (pcT (par (t.pbare false))++R)):Prs ts R (fun f=>Sx.part ts f p) t:=by
 rw[q4u]at hp;obtain⟨q,hq,f0,hf⟩:=h.fo hp.next (yg (by decide)) (q9g (by decide))
 refine⟨q+1,hq.next,f0+1,fun g hg=>?_⟩;obtain⟨g,rfl⟩:∃ g',g=g'+1:=⟨g - 1,by omega⟩;obtain⟨g1,g2⟩:=hp.hd;have e1:txt ts p=[40]:=g1;have e2:knd ts p=3:=g2;clear g1 g2
 show Sx.part ts (g+1) p=_
 rw[Sx.part_succ,e1,e2,q7 (by decide),q7 (by decide),q7 (by decide),q7 (by decide),q7 (by decide),q7 (by decide),q7 (by decide),qa rfl,show Sx.form ts g (p+1)=_ from hf g (by omega)];simp only;rw[qa hq.tx]
theorem Main.ri{t:Nd}(h:Main t){ts:List Lx.Tok}{p:Nat}{R:List KT}{b:Nat}{m:Bool}(hb:1<=b)(hb5:b<=5)(hp:Stn ts p (pcT (t.ptxt b m)++R))(hF:Fol m R)(hR:NoS b R):Prs ts R (fun f=>Sx.right ts f b p) t:=by
 rw[wg]at hp
 by_cases hpb:q01 t.kd b m=true
 ·rw[qa hpb]at hp
  exact q46 hb5 (q5 _) hR (qd3 (h.par hp))
 ·rw[q7 hpb]at hp
  rw[qdf h.1 b hb5,Bool.or_eq_true,not_or,qf]at hpb;obtain⟨h1,_⟩:=h.2 ts p R m hp hF (Bool.eq_false_iff.2 hpb.2);exact q46 (by omega) (qdq _ h.1) hR (h1 (by omega) (hR.mono (by omega)))
theorem Main.fr{t:Nd}(h:Main t){ts:List Lx.Tok}{p:Nat}{R:List KT}{m:Bool}(hp:Stn ts p (pcT (t.ptxt 0 m)++R))(hF:Fol m R)(hR:NoS 1 R):∃ q,Stn ts q R/\∃ d f0,∀ g,f0<=g->Sx.form ts (g+d) p=Sx.formR ts g t q:=by
 rw[wg]at hp
 by_cases hpb:q01 t.kd 0 m=true
 ·rw[qa hpb]at hp
  exact q5c (q46 (by omega) (q5 _) hR (qd3 (h.par hp)))
 ·rw[q7 hpb]at hp
  rw[qdf h.1 0 (by omega),Bool.or_eq_true,not_or,qf]at hpb;obtain⟨h1,h0⟩:=h.2 ts p R m hp hF (Bool.eq_false_iff.2 hpb.2)
  by_cases hl:lvP t.kd=0
  ·exact h0 hl hR
  ·exact q5c (q46 (by omega) (qdq _ h.1) hR (h1 (by omega) (hR.mono (by omega))))
theorem q1a{k:Int}{s:ByteArray}{l:List Nd}(h31:k≠31)(h5:lvP k=5)(h:∀ ts p R m,Stn ts p (pcT ((Nd.mk k s l).pbare m)++R)->Fol m R->(quB k && m)=false->Prs ts R (fun f=>Sx.part ts f p) (.mk k s l)):Main (.mk k s l) :=
 ⟨h31,fun ts p R m hp hF hq=>⟨fun _ _=>by rw[show lvP (Nd.mk k s l).kd=5 from h5];exact qd3 (h ts p R m hp hF hq),fun h0=>by rw[show lvP (Nd.mk k s l).kd=5 from h5]at h0;cases h0⟩⟩
theorem qmz{k:Int}(hk:k=22\/k=23\/k=24\/k=25\/k=26\/k=27\/k=28):lvP k=xe k/\xe k<=4/\sgW (xe k) (yz k)=some k/\(∀ b,xe k+1<=b->sgW b (yz k)=none)/\yz k≠[40]:=by
 have key:∀ (n:Nat) (x:Tx),(∀ b,b < 5->n+1<=b->sgW b x=none)->∀ b,n+1<=b->sgW b x=none:=fun n x h b hb=>by
  by_cases h5:b < 5
  ·exact h b h5 hb
  ·exact q85 (by omega) x
 rcases hk with rfl|rfl|rfl|rfl|rfl|rfl|rfl <;>
  exact⟨rfl,by decide,by decide,key _ _ (by decide),by decide⟩
theorem q9t{t:Nd}(h:FmV t):Main t:=by
 induction h with
 |atom s l h hl =>
  refine q1a (by decide) rfl fun ts p R m hp hF _=>?_
  obtain⟨q,hq,f0,hf⟩:=qcb (.inl ⟨rfl,h⟩) hl hp hF.1;refine⟨q,hq,f0+1,fun g hg=>?_⟩;obtain⟨g,rfl⟩:∃ g',g=g'+1:=⟨g - 1,by omega⟩
  have e:knd ts p=1:=by
   rw[q6k (.inl rfl),qz,List.cons_append]at hp;exact hp.hd.2
  show Sx.part ts (g+1) p=_
  rw[Sx.part_succ,qa e];exact hf g (by omega)
 |q1 k s b hk hs _ hb =>
  refine q1a (by rcases hk with rfl|rfl <;> decide) (by rcases hk with rfl|rfl <;> rfl) fun ts p R m hp hF hq=>?_
  obtain rfl:m=false:=by rcases hk with rfl|rfl <;> simpa[quB]using hq
  rw[qo7 hk,qz,zp,List.cons_append]at hp;obtain⟨q,hq,f0,hf⟩:=q5y (k:=k) (ty:=Sx.typed ts) (body:=Sx.form ts) hs (fun q hq=>hb.fo hq hF.1 (hF.2 rfl)) hp.next
  refine⟨q,hq,f0+1,fun g hg=>?_⟩;obtain⟨g,rfl⟩:∃ g',g=g'+1:=⟨g - 1,by omega⟩;obtain⟨g1,g2⟩:=hp.hd;have e1:txt ts p=zq k:=g1;have e2:knd ts p=4:=g2;clear g1 g2;have hf:=hf g (by omega)
  show Sx.part ts (g+1) p=_
  rcases hk with rfl|rfl
  ·rw[Sx.part_succ,e1,e2,q7 (by decide),q7 (by decide),qa (by decide)];exact hf
  ·rw[Sx.part_succ,e1,e2,q7 (by decide),q7 (by decide),q7 (by decide),qa (by decide)];exact hf
 |q2 k s y b hk hs hy _ hb =>
  refine q1a (by rcases hk with rfl|rfl <;> decide) (by rcases hk with rfl|rfl <;> rfl) fun ts p R m hp hF hq=>?_
  obtain rfl:m=false:=by rcases hk with rfl|rfl <;> simpa[quB]using hq
  rw[qo6 hk,qz,zp,List.cons_append]at hp;obtain⟨q,hq,f0,hf⟩:=q5x (k:=k) (body:=Sx.form ts) hs hy (fun q hq=>hb.fo hq hF.1 (hF.2 rfl)) hp.next
  refine⟨q,hq,f0+1,fun g hg=>?_⟩;obtain⟨g,rfl⟩:∃ g',g=g'+1:=⟨g - 1,by omega⟩;obtain⟨g1,g2⟩:=hp.hd;have e1:txt ts p=zq k:=g1;have e2:knd ts p=4:=g2;clear g1 g2;have hf:=hf g (by omega)
  show Sx.part ts (g+1) p=_
  rcases hk with rfl|rfl
  ·rw[Sx.part_succ,e1,e2,q7 (by decide),q7 (by decide),qa (by decide)];exact hf
  ·rw[Sx.part_succ,e1,e2,q7 (by decide),q7 (by decide),q7 (by decide),qa (by decide)];exact hf
 |lone k hk =>
  refine q1a (by rcases hk with rfl|rfl <;> decide) (by rcases hk with rfl|rfl <;> rfl) fun ts p R m hp hF _=>?_
  rw[qg4 hk,qz,q17,List.cons_append,List.nil_append]at hp;refine⟨p+1,hp.next,1,fun g hg=>?_⟩;obtain⟨g,rfl⟩:∃ g',g=g'+1:=⟨g - 1,by omega⟩;obtain⟨g1,g2⟩:=hp.hd;have e1:txt ts p=zq k:=g1;have e2:knd ts p=4:=g2;clear g1 g2
  show Sx.part ts (g+1) p=_
  rcases hk with rfl|rfl
  ·rw[Sx.part_succ,e1,e2,q7 (by decide),q7 (by decide),q7 (by decide),q7 (by decide),qa (by decide)]
  ·rw[Sx.part_succ,e1,e2,q7 (by decide),q7 (by decide),q7 (by decide),q7 (by decide),q7 (by decide),qa (by decide)]
 |bang a _ ha =>
  refine q1a (by decide) rfl fun ts p R m hp hF _=>?_
  rw[qg7,qz,List.cons_append]at hp;obtain⟨q,hq,f0,hf⟩:=qrf (ha.ri (by omega) (q5 5) hp.next hF (NoS.five R));refine⟨q,hq,f0+1,fun g hg=>?_⟩;obtain⟨g,rfl⟩:∃ g',g=g'+1:=⟨g - 1,by omega⟩;obtain⟨g1,g2⟩:=hp.hd;have e1:txt ts p=[33]:=g1;have e2:knd ts p=3:=g2;clear g1 g2
  show Sx.part ts (g+1) p=_
  rw[Sx.part_succ,e1,e2,q7 (by decide),qa rfl,show Sx.part ts g (p+1)=_ from hf g (by omega)]
 |monad a _ ha =>
  refine q1a (by decide) rfl fun ts p R m hp hF _=>?_
  rw[qdd,qz,xt,qz,q17,wy,List.cons_append,qe,List.cons_append,List.nil_append]at hp;obtain⟨q,hq,f0,hf⟩:=ha.fo hp.next (yg (by decide)) (q9g (by decide))
  refine⟨q+1,hq.next,f0+1,fun g hg=>?_⟩;obtain⟨g,rfl⟩:∃ g',g=g'+1:=⟨g - 1,by omega⟩;obtain⟨g1,g2⟩:=hp.hd;have e1:txt ts p=[123]:=g1;have e2:knd ts p=3:=g2;clear g1 g2
  show Sx.part ts (g+1) p=_
  rw[Sx.part_succ,e1,e2,q7 (by decide),q7 (by decide),q7 (by decide),q7 (by decide),q7 (by decide),q7 (by decide),qa rfl,show Sx.form ts g (p+1)=_ from hf g (by omega)];simp only;rw[qa hq.tx]
 |bin k a b hk _ _ ha hb =>
  obtain⟨f1,f2,f3,f4,f5⟩:=qmz hk;refine⟨show k≠31 by omega,fun ts p R m hp hF _=>?_⟩;have hkd:(Nd.mk k Sx.noS [a,b]).kd=k:=rfl;rw[hkd,f1];rw[qka hk,xt,zp,qz,zp,qe,List.cons_append]at hp;have hFol:Fol true (⟨3,yz k⟩ :: (pcT (b.ptxt (vg (xe k)) m)++R)):=⟨yg f5,fun e=>by cases e⟩;have hNo:NoS (xe k+1) (⟨3,yz k⟩ :: (pcT (b.ptxt (vg (xe k)) m)++R)):=f4;refine⟨fun h1 hR=>?_,fun h0 hR=>?_⟩
  ·have el:q0i (xe k)=xe k+1:=by unfold q0i;rw[q7 (by omega)]
   have er:vg (xe k)=xe k:=by unfold vg;rw[q7 (by omega)]
   rw[el]at hp;rw[er]at hp hFol hNo;obtain⟨q,hq,g0,hg0⟩:=ha.ri (by omega) (by omega) hp hFol hNo;obtain⟨r,hr,g1,hg1⟩:=hb.ri h1 (by omega) hq.next hF hR
   refine⟨r,hr,g0+g1+1,fun g hg=>?_⟩;obtain⟨g,rfl⟩:∃ g',g=g'+1:=⟨g - 1,by omega⟩
   show Sx.right ts (g+1) (xe k) p=_
   rw[Sx.right_succ,q7 (by omega),show Sx.right ts g (xe k+1) p=_ from hg0 g (by omega)];simp only;rw[qcf,hq.tx,f3];simp only;rw[show Sx.right ts g (xe k) (q+1)=_ from hg1 g (by omega)]
  ·have el:q0i (xe k)=0:=by unfold q0i;rw[qa h0]
   have er:vg (xe k)=1:=by unfold vg;rw[qa h0]
   rw[el]at hp;rw[er]at hp hFol hNo;rw[h0]at f3 hNo;obtain⟨q,hq,d,g0,hg0⟩:=ha.fr hp hFol hNo;obtain⟨r,hr,g1,hg1⟩:=hb.ri (by omega) (by omega) hq.next hF hR
   refine⟨r,hr,d+1,g0+g1,fun g hg=>?_⟩;rw[show g+(d+1)=(g+1)+d from by omega,hg0 (g+1) (by omega),Sx.formR_succ,qcf,hq.tx,f3];simp only;rw[show Sx.right ts g 1 (q+1)=_ from hg1 g (by omega)]
end Go.Proofs.YtkckddojlignpaaGreatDoor
namespace Go.Proofs.YtkckddojlignpaaGreatDoor
namespace Sx
open Lx (Bs Tok)
variable {ts us:List Tok} {d k:Nat}
theorem ky(ts:List Tok):∀ f acc p l q,namesR ts f acc p = .ok l q->p<=q
 |0,_,_,_,_,h=>by simp only[namesR]at h;cases h
 |f+1,acc,p,l,q,h=>by
  simp only[namesR]at h
  split at h
  ·split at h
   ·cases h
   ·rename_i a q1 e1
    have:=small_ok e1;have:=ky ts f _ _ _ _ h;omega
  ·cases h;omega
theorem yq{ts:List Tok}{f p:Nat}{l:List Nd}{q:Nat}(h:names ts f p = .ok l q):p < q:=by
 unfold names at h
 split at h
 ·cases h
 ·rename_i a q1 e1
  have:=small_ok e1;have:=ky ts f _ _ _ _ h;omega
theorem simples_goes(ts:List Tok):∀ f acc p l q,simples ts f acc p = .ok l q->p<=q
 |0,_,_,_,_,h=>by simp only[simples]at h;cases h
 |f+1,acc,p,l,q,h=>by
  simp only[simples]at h
  split at h
  ·split at h
   ·cases h
   ·rename_i a q1 e1
    have:=(typed_goes ts f).2 _ _ _ e1;have:=simples_goes ts f _ _ _ _ h;omega
  ·cases h;omega
theorem smalls_goes(ts:List Tok):∀ f acc p l q,smalls ts f acc p = .ok l q->p<=q
 |0,_,_,_,_,h=>by simp only[smalls]at h;cases h
 |f+1,acc,p,l,q,h=>by
  simp only[smalls]at h
  split at h
  ·have:=smalls_goes ts f _ _ _ _ h
   omega
  ·cases h;omega
theorem behind_goes{ts:List Tok}{f p:Nat}{kk:Int}{s:ByteArray}{a:Nd}{q:Nat}(h:behind ts f kk s p = .ok a q):p<=q:=by
 unfold behind at h
 split at h
 ·split at h
  ·cases h
  ·rename_i l q1 e1
   have:=simples_goes ts _ _ _ _ _ e1
   cases h;exact this
 ·split at h
  ·split at h
   ·cases h
   ·rename_i l q1 e1
    have:=smalls_goes ts _ _ _ _ _ e1
    cases h;exact this
  ·split at h
   ·split at h
    ·split at h
     ·cases h
     ·rename_i l q1 e1
      have:=(form_goes ts f).2.2.1 _ _ _ e1
      cases h;omega
    ·cases h
   ·cases h;omega
theorem itemB_goes{ts:List Tok}{f p:Nat}{kk:Int}{a:Nd}{q:Nat}(h:itemB ts f kk p = .ok a q):p < q:=by
 unfold itemB at h
 split at h
 ·split at h
  ·cases h
  ·rename_i l q1 e1
   have:=yq e1
   cases h;omega
 ·split at h
  ·split at h
   ·cases h
   ·rename_i l q1 e1
    have:=yq e1
    split at h
    ·split at h
     ·cases h
     ·rename_i t r e2
      have:=(typed_goes ts f).1 _ _ _ e2
      cases h;omega
    ·cases h
  ·split at h
   ·cases h
   ·rename_i k1 s1 l1 q1 e1
    have:=small_ok e1;have:=behind_goes h;omega
theorem item_goes{ts:List Tok}{f p:Nat}{a:Nd}{q:Nat}(h:item ts f p = .ok a q):p < q/\q<=ts.length:=by
 unfold item at h
 split at h
 ·cases h
 ·split at h
  ·cases h
  ·rename_i a1 q1 e1
   have:=itemB_goes e1
   split at h
   ·rename_i ht
    have:=txt_at ht
    cases h;omega
   ·cases h
end Sx
inductive Cut:Nd->Nd->Prop
 |arg (k:Int) (s:ByteArray) (l:List Nd) (x:Nd) (hk:k=15\/k=16):Cut (.mk k s l) (.mk k s (l++[x]))
 |kid (k:Int) (s:ByteArray) (l:List Nd) (m n:Nd) (hk:17<=k/\k<=30) (h:Cut m n):Cut (.mk k s (l++[m])) (.mk k s (l++[n]))
namespace Sx
open Lx (Bs Tok)
structure Less(ts us:List Tok)(N:Nat):Prop where
 ag:∀ p,p < N->txt us p=txt ts p/\knd us p=knd ts p
 te:∀ p,N<=p->txt us p=[]
 ke:∀ p,N<=p->knd us p=0
 len:ts.length=N+1
 ulen:us.length=N
variable {ts us:List Tok} {N:Nat}
theorem Less.ne(L:Less ts us N){p:Nat}{s:Bs}(hp:p<=N)(h:¬ txt ts p=s)(hs:s≠[]:=by decide):¬ txt us p=s:=by
 by_cases hN:p < N
 ·rw[(L.ag p hN).1];exact h
 ·rw[L.te p (by omega)];exact fun e=>hs e.symm
theorem Less.nk(L:Less ts us N){p:Nat}{s:Nat}(hp:p<=N)(h:¬ knd ts p=s)(hs:s≠0:=by decide):¬ knd us p=s:=by
 by_cases hN:p < N
 ·rw[(L.ag p hN).2];exact h
 ·rw[L.ke p (by omega)];exact fun e=>hs e.symm
theorem Less.no(L:Less ts us N){s:Bs}(hs:s≠[]:=by decide):¬ txt us N=s:=by
 rw[L.te N (q5 _)];exact fun e=>hs e.symm
theorem Less.small0(L:Less ts us N):small us N = .bad N:=by
 unfold small;rw[L.ke N (q5 _),q7 (by decide)]
theorem Less.name0(L:Less ts us N):nameA us N = .bad N:=by
 unfold nameA;rw[L.ke N (q5 _),q7 (by decide),q7 (by decide)]
theorem Less.sgn0(L:Less ts us N)(b:Nat):sgn us b N=none:=by
 unfold sgn;rw[L.te N (q5 _)]
 repeat' split
 all_goals first
  |rfl
  |(rename_i h;exact absurd h (by decide))
theorem Less.smallS(L:Less ts us N){p:Nat}(h:p < N):small us p=small ts p:=by
 unfold small;rw[(L.ag p h).1,(L.ag p h).2]
theorem Less.nameS(L:Less ts us N){p:Nat}(h:p < N):nameA us p=nameA ts p:=by
 unfold nameA;rw[(L.ag p h).1,(L.ag p h).2]
theorem Less.sgnS(L:Less ts us N){b p:Nat}(h:p < N):sgn us b p=sgn ts b p:=by
 unfold sgn;rw[(L.ag p h).1]
theorem Less.sgn_no(L:Less ts us N){b p:Nat}(hp:p<=N)(h:sgn ts b p=none):sgn us b p=none:=by
 by_cases hN:p < N
 ·rw[L.sgnS hN,h]
 ·obtain rfl:p=N:=by omega
  exact L.sgn0 b
theorem Less.name_bad(L:Less ts us N){p q:Nat}(hp:p<=N)(h:nameA ts p = .bad q):nameA us p = .bad p:=by
 by_cases hN:p < N
 ·rw[L.nameS hN,h]
  unfold nameA at h
  split at h
  ·cases h
  ·split at h
   ·cases h
   ·cases h;rfl
 ·obtain rfl:p=N:=by omega
  exact L.name0
def Ends(N:Nat){α:Type}(r r':PR α):Prop:=∀ a q,r = .ok a q->(q<=N->r' = .ok a q)/\(q=N+1->r' = .bad N)
def EndsC(N:Nat)(r r':PR Nd):Prop:=∀ a q,r = .ok a q->(q<=N->r' = .ok a q)/\(q=N+1->r' = .bad N\/∃ m,r' = .ok m N/\Cut m a)
def EndsL(N:Nat)(r r':PR (List Nd)):Prop:=∀ a q,r = .ok a q->(q<=N->r' = .ok a q)/\(q=N+1->r' = .bad N\/∃ l x,r' = .ok l N/\a=l++[x])
theorem typed_cut(L:Less ts us N):∀ f g,f<=g->(∀ p,Ends N (typed ts f p) (typed us g p))/\(∀ p,Ends N (simple ts f p) (simple us g p))
 |0,g,_=>⟨fun p a q h=>(by simp only[typed]at h;cases h),fun p a q h=>(by simp only[simple]at h;cases h)⟩
 |f+1,g,hg=>by
  obtain⟨g,rfl⟩:∃ g',g=g'+1:=⟨g - 1,by omega⟩;obtain⟨h1,h2⟩:=typed_cut L f g (by omega);have hL:=L.len;refine⟨fun p a q h=>?_,fun p a q h=>?_⟩
  ·rw[typed_succ]at h
   rw[typed_succ]
   split at h
   ·cases h
   ·rename_i a1 q1 e1
    have g1:=(typed_goes ts f).2 p _ _ e1;obtain⟨i1,i2⟩:=h2 p _ _ e1
    split at h
    ·rename_i ht
     split at h
     ·cases h
     ·rename_i a2 q2 e2
      have g2:=(typed_goes ts f).1 _ _ _ e2;obtain⟨j1,j2⟩:=h1 _ _ _ e2
      cases h;rw[i1 (by omega)];simp only;rw[(L.ag q1 (by omega)).1,qa ht];exact⟨fun h=>by rw[j1 h],fun h=>by rw[j2 h]⟩
    ·rename_i ht
     cases h;refine⟨fun h=>?_,fun h=>by rw[i2 h]⟩;rw[i1 h];simp only;rw[q7 (L.ne h ht)]
  ·have gg:=(typed_goes ts (f+1)).2 p _ _ h
   rw[simple_succ]at h;rw[simple_succ]
   split at h
   ·rename_i hl
    split at h
    ·cases h
    ·rename_i a1 q1 e1
     have g1:=(typed_goes ts f).1 _ _ _ e1;obtain⟨i1,i2⟩:=h1 _ _ _ e1
     split at h
     ·rename_i ht
      have:=txt_at ht
      cases h;rw[(L.ag p (by omega)).1,qa hl,i1 (by omega)];simp only;refine⟨fun h=>?_,fun h=>?_⟩
      ·rw[(L.ag q1 (by omega)).1,qa ht]
      ·obtain rfl:q1=N:=by omega
       rw[q7 L.no]
     ·cases h
   ·rename_i hl
    have:=small_ok h;refine⟨fun hq=>?_,fun hq=>?_⟩
    ·rw[(L.ag p (by omega)).1,q7 hl,L.smallS (by omega),h]
    ·obtain rfl:p=N:=by omega
     rw[q7 L.no,L.small0]
theorem binder_cut(L:Less ts us N){ty body ty' body':Nat->PR Nd}{kk:Int}(hk:17<=kk/\kk<=30)(g1:∀ p,Goes ts p (ty p))(g2:∀ p,Goes ts p (body p))
  (h1:∀ p,Ends N (ty p) (ty' p)) (h2:∀ p,EndsC N (body p) (body' p)) (p:Nat):EndsC N (binder ty body ts kk p) (binder ty' body' us kk p):=by
 intro a q h;have hL:=L.len;unfold binder at h ⊢
 split at h
 ·cases h
 ·rename_i k1 s1 l1 q1 e1
  have n1:=nameA_ok e1
  split at h
  ·rename_i ht
   split at h
   ·cases h
   ·rename_i t r e2
    have n2:=g1 _ _ _ e2
    split at h
    ·rename_i ht2
     split at h
     ·cases h
     ·rename_i b u e3
      have n3:=g2 _ _ _ e3
      cases h;rw[L.nameS (by omega),e1];simp only;rw[(L.ag q1 (by omega)).1,qa ht,(h1 _ _ _ e2).1 (by omega)];simp only;rw[(L.ag r (by omega)).1,qa ht2];obtain⟨j1,j2⟩:=h2 _ _ _ e3;refine⟨fun h=>by rw[j1 h],fun h=>?_⟩;rcases j2 h with j|⟨m,j,c⟩
      ·rw[j];exact .inl rfl
      ·rw[j];exact .inr ⟨_,rfl,.kid kk s1 [t] m b hk c⟩
    ·cases h
  ·rename_i ht
   split at h
   ·rename_i ht2
    split at h
    ·cases h
    ·rename_i b u e3
     have n3:=g2 _ _ _ e3
     cases h;rw[L.nameS (by omega),e1];simp only;rw[(L.ag q1 (by omega)).1,q7 ht,qa ht2];obtain⟨j1,j2⟩:=h2 _ _ _ e3;refine⟨fun h=>by rw[j1 h],fun h=>?_⟩;rcases j2 h with j|⟨m,j,c⟩
     ·rw[j];exact .inl rfl
     ·rw[j];exact .inr ⟨_,rfl,.kid kk s1 [] m b hk c⟩
   ·cases h
theorem q5q{f:Nat}{acc:List Nd}{p:Nat}{l:List Nd}{q:Nat}(hp:ts.length<=p)(h:args ts f acc p = .ok l q):l=acc/\q=p:=by
 cases f with
 |zero=>simp only[args]at h;cases h
 |succ f =>
  rw[args_succ,q7 (fun e=>by have:=txt_at e;omega)]at h
  split at h
  ·cases h;exact⟨rfl,rfl⟩
  ·rename_i a q1 e
   have:=nameA_ok e;omega
theorem apply_cut(L:Less ts us N){f g:Nat}(ha:∀ acc p,p<=N->EndsL N (args ts f acc p) (args us g acc p))(p:Nat):EndsC N (applied ts f p) (applied us g p):=by
 intro a q h;have hL:=L.len;unfold applied at h ⊢
 split at h
 ·cases h
 ·rename_i k1 s1 l1 q1 e1
  have n1:=nameA_ok e1
  have hkk:k1=15\/k1=16:=by
   unfold nameA at e1
   split at e1
   ·cases e1;exact .inl rfl
   ·split at e1
    ·cases e1;exact .inr rfl
    ·cases e1
  split at h
  ·cases h
  ·rename_i l r e2
   cases h
   by_cases hp:p < N
   ·rw[L.nameS hp,e1]
    simp only;obtain⟨j1,j2⟩:=ha _ q1 (by omega) _ _ e2;refine⟨fun h=>by rw[j1 h],fun h=>?_⟩;rcases j2 h with j|⟨l',x,j,c⟩
    ·rw[j];exact .inl rfl
    ·rw[j,c];exact .inr ⟨_,rfl,.arg k1 s1 l' x hkk⟩
   ·obtain rfl:p=N:=by omega
    have:=q5q (ts:=ts) (by omega) e2;rw[L.name0];exact⟨fun h=>by omega,fun _=>.inl rfl⟩
theorem term_cut(L:Less ts us N):∀ f g,f<=g->(∀ p,EndsC N (term ts f p) (term us g p))/\(∀ acc p,p<=N->EndsL N (args ts f acc p) (args us g acc p))
 |0,g,_=>⟨fun p a q h=>(by simp only[term]at h;cases h),fun acc p _ a q h=>(by simp only[args]at h;cases h)⟩
 |f+1,g,hg=>by
  obtain⟨g,rfl⟩:∃ g',g=g'+1:=⟨g - 1,by omega⟩;obtain⟨h1,h2⟩:=term_cut L f g (by omega);have hL:=L.len;refine⟨fun p a q h=>?_,fun acc p hp a q h=>?_⟩
  ·have gg:=(term_goes ts (f+1)).1 p _ _ h
   rw[term_succ]at h;rw[term_succ]
   by_cases hN:p < N
   ·rw[(L.ag p hN).1]
    split at h
    ·rename_i ht
     rw[qa ht];exact binder_cut L (by decide) (typed_goes ts f).1 (term_goes ts f).1 (typed_cut L f g (by omega)).1 h1 (p+1) _ _ h
    ·rename_i ht
     rw[q7 ht]
     split at h
     ·rename_i ht1
      rw[qa ht1]
      split at h
      ·cases h
      ·rename_i a1 q1 e1
       split at h
       ·rename_i e2
        have:=txt_at e2
        cases h;rw[(h1 _ _ _ e1).1 (by omega)];simp only;refine⟨fun h=>?_,fun h=>?_⟩
        ·rw[(L.ag q1 (by omega)).1,qa e2]
        ·obtain rfl:q1=N:=by omega
         rw[q7 L.no];exact .inl rfl
       ·cases h
     ·rename_i ht1
      rw[q7 ht1];exact apply_cut L h2 p a q h
   ·obtain rfl:p=N:=by omega
    rw[q7 L.no,q7 L.no,L.name0];exact⟨fun h=>by omega,fun _=>.inl rfl⟩
  ·have gg:=(term_goes ts (f+1)).2 acc p (by omega) _ _ h
   rw[args_succ]at h;rw[args_succ]
   split at h
   ·rename_i ht
    split at h
    ·cases h
    ·rename_i a1 q1 e1
     have n1:=(term_goes ts f).1 _ _ _ e1
     split at h
     ·rename_i e2
      have:=txt_at e2;rw[(L.ag p (by omega)).1,qa ht,(h1 _ _ _ e1).1 (by omega)];simp only
      by_cases hq:q1 < N
      ·rw[(L.ag q1 hq).1,qa e2]
       exact h2 _ (q1+1) (by omega) _ _ h
      ·obtain rfl:q1=N:=by omega
       rw[q7 L.no];have n2:=(term_goes ts f).2 _ _ (by omega) _ _ h;exact⟨fun h=>by omega,fun _=>.inl rfl⟩
     ·cases h
   ·rename_i ht
    rw[q7 (L.ne hp ht)]
    split at h
    ·rename_i q1 e1
     cases h;rw[L.name_bad hp e1];exact⟨fun _=>rfl,fun h=>by omega⟩
    ·rename_i a1 q1 e1
     have n1:=nameA_ok e1
     by_cases hN:p < N
     ·rw[L.nameS hN,e1]
      simp only;exact h2 _ q1 (by omega) _ _ h
     ·obtain rfl:p=N:=by omega
      obtain⟨rfl,rfl⟩:=q5q (ts:=ts) (by omega) h;rw[L.name0];exact⟨fun h=>by omega,fun _=>.inr ⟨acc,a1,rfl,rfl⟩⟩
theorem formR_end{f:Nat}{a:Nd}{p:Nat}{n:Nd}{q:Nat}(hp:ts.length<=p)(h:formR ts f a p = .ok n q):n=a/\q=p:=by
 cases f with
 |zero=>simp only[formR]at h;cases h
 |succ f =>
  rw[formR_succ]at h
  split at h
  ·cases h;exact⟨rfl,rfl⟩
  ·rename_i k e
   have:=sgn_lt e;omega
theorem formR_stop(L:Less ts us N){g:Nat}(hg:0 < g)(a:Nd):formR us g a N = .ok a N:=by
 obtain⟨g,rfl⟩:∃ g',g=g'+1:=⟨g - 1,by omega⟩;rw[formR_succ,L.sgn0]
theorem formR_some{f:Nat}{a n:Nd}{p q:Nat}(h:formR ts f a p = .ok n q):0 < f:=by
 cases f with
 |zero=>simp only[formR]at h;cases h
 |succ f=>omega
theorem form_cut(L:Less ts us N):∀ f g,f<=g->(∀ p,EndsC N (part ts f p) (part us g p))/\(∀ b p,EndsC N (right ts f b p) (right us g b p))/\(∀ p,EndsC N (form ts f p) (form us g p))/\(∀ a p,p<=N->EndsC N (formR ts f a p) (formR us g a p))
 |0,g,_=>⟨fun p a q h=>(by simp only[part]at h;cases h),fun b p a q h=>(by simp only[right]at h;cases h),fun p a q h=>(by simp only[form]at h;cases h),fun b p _ a q h=>(by simp only[formR]at h;cases h)⟩
 |f+1,g,hg=>by
  obtain⟨g,rfl⟩:∃ g',g=g'+1:=⟨g - 1,by omega⟩;obtain⟨h1,h2,h3,h4⟩:=form_cut L f g (by omega);obtain⟨G1,G2,G3,G4⟩:=form_goes ts f;have hL:=L.len;refine⟨fun p a q h=>?_,fun b p a q h=>?_,fun p a q h=>?_,fun b p hp a q h=>?_⟩
  ·have gg:=(form_goes ts (f+1)).1 p _ _ h
   rw[part_succ]at h;rw[part_succ]
   by_cases hN:p < N
   ·rw[(L.ag p hN).1,(L.ag p hN).2]
    split at h
    ·rename_i ht
     rw[qa ht];exact apply_cut L (term_cut L f g (by omega)).2 p _ _ h
    ·rename_i ht
     rw[q7 ht]
     split at h
     ·rename_i ht1
      rw[qa ht1]
      split at h
      ·cases h
      ·rename_i a1 q1 e1
       cases h;obtain⟨j1,j2⟩:=h1 _ _ _ e1;refine⟨fun h=>by rw[j1 h],fun h=>?_⟩;rcases j2 h with j|⟨m,j,c⟩
       ·rw[j];exact .inl rfl
       ·rw[j];exact .inr ⟨_,rfl,.kid 29 noS [] m a1 (by decide) c⟩
     ·rename_i ht1
      rw[q7 ht1]
      split at h
      ·rename_i ht2
       rw[qa ht2];exact binder_cut L (by decide) (typed_goes ts f).1 G3 (typed_cut L f g (by omega)).1 h3 (p+1) _ _ h
      ·rename_i ht2
       rw[q7 ht2]
       split at h
       ·rename_i ht3
        rw[qa ht3];exact binder_cut L (by decide) (typed_goes ts f).1 G3 (typed_cut L f g (by omega)).1 h3 (p+1) _ _ h
       ·rename_i ht3
        rw[q7 ht3]
        split at h
        ·rename_i ht4
         rw[qa ht4]
         cases h;exact⟨fun _=>rfl,fun h=>by omega⟩
        ·rename_i ht4
         rw[q7 ht4]
         split at h
         ·rename_i ht5
          rw[qa ht5]
          cases h;exact⟨fun _=>rfl,fun h=>by omega⟩
         ·rename_i ht5
          rw[q7 ht5]
          split at h
          ·rename_i ht6
           rw[qa ht6]
           split at h
           ·cases h
           ·rename_i a1 q1 e1
            split at h
            ·rename_i e2
             have:=txt_at e2
             cases h;rw[(h3 _ _ _ e1).1 (by omega)];simp only;refine⟨fun h=>?_,fun h=>?_⟩
             ·rw[(L.ag q1 (by omega)).1,qa e2]
             ·obtain rfl:q1=N:=by omega
              rw[q7 L.no];exact .inl rfl
            ·cases h
          ·rename_i ht6
           rw[q7 ht6]
           split at h
           ·rename_i ht7
            rw[qa ht7]
            split at h
            ·cases h
            ·rename_i a1 q1 e1
             split at h
             ·rename_i e2
              have:=txt_at e2
              cases h;rw[(h3 _ _ _ e1).1 (by omega)];simp only;refine⟨fun h=>?_,fun h=>?_⟩
              ·rw[(L.ag q1 (by omega)).1,qa e2]
              ·obtain rfl:q1=N:=by omega
               rw[q7 L.no];exact .inl rfl
             ·cases h
           ·cases h
   ·obtain rfl:p=N:=by omega
    rw[L.ke p (q5 _),q7 (by decide),q7 L.no,q7 L.no,q7 L.no,q7 L.no,q7 L.no,q7 L.no,q7 L.no];exact⟨fun h=>by omega,fun _=>.inl rfl⟩
  ·rw[right_succ]at h
   rw[right_succ]
   split at h
   ·rename_i hb
    rw[qa hb];exact h1 p _ _ h
   ·rename_i hb
    rw[q7 hb]
    split at h
    ·cases h
    ·rename_i a1 q1 e1
     have n1:=G2 _ _ _ _ e1;obtain⟨i1,i2⟩:=h2 _ _ _ _ e1
     split at h
     ·rename_i hs
      cases h;refine⟨fun h=>?_,fun h=>?_⟩
      ·rw[i1 h]
       simp only;rw[L.sgn_no h hs]
      ·rcases i2 h with j|⟨m,j,c⟩
       ·rw[j];exact .inl rfl
       ·rw[j]
        simp only;rw[L.sgn0];exact .inr ⟨m,rfl,c⟩
     ·rename_i kk hs
      have hlt:=sgn_lt hs
      have hkk:17<=kk/\kk<=30:=by
       unfold sgn at hs
       repeat' (split at hs)
       all_goals first
        |(cases hs;done)
        |(cases hs;decide)
      split at h
      ·cases h
      ·rename_i a2 q2 e2
       have n2:=G2 _ _ _ _ e2
       cases h;rw[i1 (by omega)];simp only;rw[L.sgnS (by omega),hs];simp only;obtain⟨j1,j2⟩:=h2 _ _ _ _ e2;refine⟨fun h=>by rw[j1 h],fun h=>?_⟩;rcases j2 h with j|⟨m,j,c⟩
       ·rw[j];exact .inl rfl
       ·rw[j];exact .inr ⟨_,rfl,.kid kk noS [a1] m a2 hkk c⟩
  ·rw[form_succ]at h
   rw[form_succ]
   split at h
   ·cases h
   ·rename_i a1 q1 e1
    have n1:=G2 _ _ _ _ e1;obtain⟨i1,i2⟩:=h2 _ _ _ _ e1
    by_cases hq:q1<=N
    ·rw[i1 hq]
     exact h4 _ _ hq _ _ h
    ·have hf:=formR_some h
     obtain⟨rfl,rfl⟩:=formR_end (ts:=ts) (by omega) h;refine⟨fun h=>by omega,fun h=>?_⟩;rcases i2 h with j|⟨m,j,c⟩
     ·rw[j];exact .inl rfl
     ·rw[j]
      simp only;rw[formR_stop L (by omega)];exact .inr ⟨m,rfl,c⟩
  ·have gg:=(form_goes ts (f+1)).2.2.2 b p (by omega) _ _ h
   rw[formR_succ]at h;rw[formR_succ]
   split at h
   ·rename_i hs
    cases h;rw[L.sgn_no hp hs];exact⟨fun _=>rfl,fun h=>by omega⟩
   ·rename_i kk hs
    have hlt:=sgn_lt hs
    have hkk:17<=kk/\kk<=30:=by
     unfold sgn at hs
     repeat' (split at hs)
     all_goals first
      |(cases hs;done)
      |(cases hs;decide)
    split at h
    ·cases h
    ·rename_i a2 q2 e2
     have n2:=G2 _ _ _ _ e2;obtain⟨j1,j2⟩:=h2 _ _ _ _ e2;rw[L.sgnS (by omega),hs];simp only
     by_cases hq:q2<=N
     ·rw[j1 hq]
      exact h4 _ _ hq _ _ h
     ·have hf:=formR_some h
      obtain⟨rfl,rfl⟩:=formR_end (ts:=ts) (by omega) h;refine⟨fun h=>by omega,fun h=>?_⟩;rcases j2 h with j|⟨m,j,c⟩
      ·rw[j];exact .inl rfl
      ·rw[j]
       simp only;rw[formR_stop L (by omega)];exact .inr ⟨_,rfl,.kid kk noS [b] m a2 hkk c⟩
end Sx
namespace Sx
open Lx (Bs Tok)
variable {ts us:List Tok} {N:Nat}
theorem typed_at(L:Less ts us N){f p:Nat}{a:Nd}{q:Nat}(h:typed ts f p = .ok a q)(hq:q<=N)(g:Nat)(hg:2*(N - p)+2<=g):typed us g p = .ok a q:=by
 have h1:=((typed_cut L f (g+f) (by omega)).1 p _ _ h).1 hq;rw[typed_fuel us p g (by rw[L.ulen];exact hg) f]at h1;exact h1
theorem simple_at(L:Less ts us N){f p:Nat}{a:Nd}{q:Nat}(h:simple ts f p = .ok a q)(hq:q<=N)(g:Nat)(hg:2*(N - p)+1<=g):simple us g p = .ok a q:=by
 have h1:=((typed_cut L f (g+f) (by omega)).2 p _ _ h).1 hq;rw[simple_fuel us p g (by rw[L.ulen];exact hg) f]at h1;exact h1
theorem form_at(L:Less ts us N){f p:Nat}{a:Nd}{q:Nat}(h:form ts f p = .ok a q)(hq:q<=N)(g:Nat)(hg:8*(N - p)+7<=g):form us g p = .ok a q:=by
 have h1:=((form_cut L f (g+f) (by omega)).2.2.1 p _ _ h).1 hq;rw[form_fuel us p g (by rw[L.ulen];exact hg) f]at h1;exact h1
theorem namesR_at(L:Less ts us N):∀ f g acc p l q,N - p+1<=g->namesR ts f acc p = .ok l q->q<=N->namesR us g acc p = .ok l q
 |0,g,acc,p,l,q,_,h,_=>by simp only[namesR]at h;cases h
 |f+1,g,acc,p,l,q,hg,h,hq=>by
  obtain⟨g,rfl⟩:∃ g',g=g'+1:=⟨g - 1,by omega⟩;have gg:=ky ts _ _ _ _ _ h;simp only[namesR]at h ⊢
  split at h
  ·rename_i ht
   split at h
   ·cases h
   ·rename_i a1 q1 e1
    have n1:=small_ok e1;have n2:=ky ts _ _ _ _ _ h;rw[(L.ag p (by omega)).1,qa ht,L.smallS (by omega),e1];simp only;exact namesR_at L f g _ q1 _ _ (by omega) h hq
  ·rename_i ht
   cases h;rw[q7 (L.ne hq ht)]
theorem names_at(L:Less ts us N){f g p:Nat}{l:List Nd}{q:Nat}(hg:N - p+1<=g)(h:names ts f p = .ok l q)(hq:q<=N):names us g p = .ok l q:=by
 unfold names at h ⊢
 split at h
 ·cases h
 ·rename_i a1 q1 e1
  have n1:=small_ok e1;have n2:=ky ts _ _ _ _ _ h;rw[L.smallS (by omega),e1];simp only;exact namesR_at L f g _ q1 _ _ (by omega) h hq
theorem simples_at(L:Less ts us N):∀ f g acc p l q,2*(N - p)+2<=g->simples ts f acc p = .ok l q->q<=N->simples us g acc p = .ok l q
 |0,g,acc,p,l,q,_,h,_=>by simp only[simples]at h;cases h
 |f+1,g,acc,p,l,q,hg,h,hq=>by
  obtain⟨g,rfl⟩:∃ g',g=g'+1:=⟨g - 1,by omega⟩;have gg:=simples_goes ts _ _ _ _ _ h;simp only[simples]at h ⊢
  split at h
  ·rename_i ht
   split at h
   ·cases h
   ·rename_i a1 q1 e1
    have n1:=(typed_goes ts f).2 _ _ _ e1;have n2:=simples_goes ts _ _ _ _ _ h;rw[(L.ag p (by omega)).1,(L.ag p (by omega)).2,qa ht,simple_at L e1 (by omega) g (by omega)];simp only;exact simples_at L f g _ q1 _ _ (by omega) h hq
  ·rename_i ht
   cases h;rw[q7 (fun e=>e.elim (L.ne hq (fun e'=>ht (.inl e'))) (L.nk hq (fun e'=>ht (.inr e'))))]
theorem smalls_at(L:Less ts us N):∀ f g acc p l q,N - p+1<=g->smalls ts f acc p = .ok l q->q<=N->smalls us g acc p = .ok l q
 |0,g,acc,p,l,q,_,h,_=>by simp only[smalls]at h;cases h
 |f+1,g,acc,p,l,q,hg,h,hq=>by
  obtain⟨g,rfl⟩:∃ g',g=g'+1:=⟨g - 1,by omega⟩;have gg:=smalls_goes ts _ _ _ _ _ h;simp only[smalls]at h ⊢
  split at h
  ·rename_i ht
   have n2:=smalls_goes ts _ _ _ _ _ h;rw[(L.ag p (by omega)).1,(L.ag p (by omega)).2,qa ht];exact smalls_at L f g _ (p+1) _ _ (by omega) h hq
  ·rename_i ht
   cases h;rw[q7 (L.nk hq ht)]
theorem behind_at(L:Less ts us N){f g:Nat}{kk:Int}{s:ByteArray}{p:Nat}{a:Nd}{q:Nat}(hg:8*(N - p)+7<=g)(h:behind ts f kk s p = .ok a q)(hq:q<=N):behind us g kk s p = .ok a q:=by
 have gg:=behind_goes h;unfold behind at h ⊢
 split at h
 ·rename_i ht
  rw[qa ht]
  split at h
  ·cases h
  ·rename_i l q1 e1
   cases h;rw[simples_at L f g _ p _ _ (by omega) e1 (by omega)]
 ·rename_i ht
  rw[q7 ht]
  split at h
  ·rename_i ht1
   rw[qa ht1]
   split at h
   ·cases h
   ·rename_i l q1 e1
    cases h;rw[smalls_at L f g _ p _ _ (by omega) e1 (by omega)]
  ·rename_i ht1
   rw[q7 ht1]
   split at h
   ·rename_i ht2
    rw[qa ht2]
    split at h
    ·rename_i ht3
     split at h
     ·cases h
     ·rename_i l q1 e1
      have n1:=(form_goes ts f).2.2.1 _ _ _ e1
      cases h;rw[(L.ag p (by omega)).1,qa ht3,form_at L e1 (by omega) g (by omega)]
    ·cases h
   ·rename_i ht2
    rw[q7 ht2]
    cases h;rfl
theorem itemB_at(L:Less ts us N){f g:Nat}{kk:Int}{p:Nat}{a:Nd}{q:Nat}(hg:8*(N - p)+7<=g)(h:itemB ts f kk p = .ok a q)(hq:q<=N):itemB us g kk p = .ok a q:=by
 unfold itemB at h ⊢
 split at h
 ·rename_i ht
  rw[qa ht]
  split at h
  ·cases h
  ·rename_i l q1 e1
   cases h;rw[names_at L (by omega) e1 (by omega)]
 ·rename_i ht
  rw[q7 ht]
  split at h
  ·rename_i ht1
   rw[qa ht1]
   split at h
   ·cases h
   ·rename_i l q1 e1
    have n1:=yq e1
    split at h
    ·rename_i ht2
     split at h
     ·cases h
     ·rename_i t r e2
      have n2:=(typed_goes ts f).1 _ _ _ e2
      cases h;rw[names_at L (by omega) e1 (by omega)];simp only;rw[(L.ag q1 (by omega)).1,qa ht2,typed_at L e2 (by omega) g (by omega)]
    ·cases h
  ·rename_i ht1
   rw[q7 ht1]
   split at h
   ·cases h
   ·rename_i k1 s1 l1 q1 e1
    have n1:=small_ok e1;have n2:=behind_goes h;rw[L.smallS (by omega),e1];simp only;exact behind_at L (by omega) h hq
theorem item_at(L:Less ts us N){f g p:Nat}{a:Nd}{q:Nat}(hg:8*(N - p)+7<=g)(h:item ts f p = .ok a q):(q<=N->item us g p = .ok a q)/\(q=N+1->item us g p = .bad N):=by
 have gg:=item_goes h;have hL:=L.len;unfold item at h ⊢
 split at h
 ·cases h
 ·rename_i hk
  split at h
  ·cases h
  ·rename_i a1 q1 e1
   have n1:=itemB_goes e1
   split at h
   ·rename_i ht
    have:=txt_at ht
    cases h;rw[(L.ag p (by omega)).1,q7 hk,itemB_at L (by omega) e1 (by omega)];simp only;refine⟨fun h=>?_,fun h=>?_⟩
    ·rw[(L.ag q1 (by omega)).1,qa ht]
    ·obtain rfl:q1=N:=by omega
     rw[q7 L.no]
   ·cases h
end Sx
end Go.Proofs.YtkckddojlignpaaGreatDoor
namespace Go.Proofs.YtkckddojlignpaaGreatDoor
open Go.RowKit
theorem qgv(ts:List Lx.Tok)(f:Nat):Sx.whole ts f 1=match Sx.items ts f [] 0 with
  | .bad q=>.bad q
  | .ok l q=>.ok (.mk 1 Sx.noS l) q:=by
 unfold Sx.whole;rw[q7 (by decide),q7 (by decide),q7 (by decide)];rfl
end Go.Proofs.YtkckddojlignpaaGreatDoor
namespace Go.Proofs.YtkckddojlignpaaGreatDoor
open Lx (KT IsTok Runs)
open Sx (txt knd)
def nmN(x:Nd):Prop:=∃ s,x = .mk 15 s []/\qy s=true
inductive ItV:Nd->Prop
 |names (k:Int) (l:List Nd) (hk:k=2\/k=14) (h0:l≠[]) (hl:∀ x∈l,nmN x):ItV (.mk k Sx.noS l)
 |const (l:List Nd) (y:Nd) (h0:l≠[]) (hl:∀ x∈l,nmN x) (hy:TyV y):ItV (.mk 3 Sx.noS (l++[y]))
 |pred (k:Int) (s:ByteArray) (l:List Nd) (hk:k=4\/k=5\/k=6) (hs:qy s=true) (hl:∀ x∈l,TyV x):ItV (.mk k s l)
 |mode (s:ByteArray) (l:List Nd) (hs:qy s=true) (hl:∀ x∈l,nmN x):ItV (.mk 7 s l)
 |rule (k:Int) (s:ByteArray) (a:Nd) (hk:k=8\/k=9\/k=10\/k=11) (hs:qy s=true) (ha:FmV a):ItV (.mk k s [a])
 |lone (k:Int) (s:ByteArray) (hk:k=12\/k=13) (hs:qy s=true):ItV (.mk k s [])
theorem qn8{x:Nd}(h:xa x=true):nmN x:=by
 obtain⟨k,s,l⟩:=x;simp only[xa,qd,qf]at h;obtain⟨rfl,hl,hn⟩:=h;obtain rfl:l=[]:=List.eq_nil_of_length_eq_zero hl;exact⟨s,rfl,hn⟩
theorem qn6{x:Nd}(h:vq x=true):nmN x:=by
 obtain⟨k,s,l⟩:=x;simp only[vq,qd,Bool.or_eq_true,qf]at h;obtain⟨rfl,hl,hn⟩:=h;obtain rfl:l=[]:=List.eq_nil_of_length_eq_zero hl;refine⟨s,rfl,?_⟩;rcases hn with rfl|rfl|rfl <;> kernel_rfl
theorem q6q:∀ {l:List Nd},vo l=true->∀ x∈l,nmN x
 |a :: l,h,x,hx=>by
  simp only[vo,qd]at h;rcases List.mem_cons.1 hx with rfl|hx
  ·exact qn8 h.1
  ·exact q6q h.2 x hx
theorem qbh:∀ {l:List Nd},q0h l=true->∀ x∈l,nmN x
 |a :: l,h,x,hx=>by
  simp only[q0h,qd]at h;rcases List.mem_cons.1 hx with rfl|hx
  ·exact qn6 h.1
  ·exact qbh h.2 x hx
theorem qp4{l:List Nd}(h:2<=l.length):∃ m y,l=m++[y]/\m≠[]:=by
 have hne:l≠[]:=by intro e;subst e;simp at h
 refine⟨l.dropLast,l.getLast hne,(List.dropLast_concat_getLast hne).symm,fun e=>?_⟩;have:=congrArg List.length e;simp at this;omega
theorem qji(m:List Nd)(y:Nd):q32 (m++[y])=zj y:=by
 rw[q31 (by simp)]
 congr 1
 simp
theorem qci{t:Nd}(h:itemB t=true):ItV t:=by
 obtain⟨k,s,l⟩:=t;simp only[itemB]at h
 split at h
 ·rename_i hk
  simp only[qd,qf]at h;rw[q02 h.1];exact .names k l hk (by rintro rfl;simp at h) (q6q h.2.2)
 ·split at h
  ·rename_i hk
   subst hk;simp only[qd,qf]at h;rw[q02 h.1];obtain⟨h2,h3,h4⟩:=h.2;obtain⟨m,y,rfl,hm⟩:=qp4 h2;rw[qji]at h4;rw[show(m++[y]).length - 1=m.length by simp,List.take_left]at h3;exact .const m y hm (q6q h3) (q83 h4)
  ·simp only[qd]at h
   obtain⟨hs,h⟩:=h
   split at h
   ·rename_i hk
    simp only[qd,qf]at h;exact .pred k s l hk hs fun x hx=>q83 (q1s h.1 x hx)
   ·split at h
    ·rename_i hk
     subst hk;simp only[qd,qf]at h;exact .mode s l hs (qbh h.1)
    ·split at h
     ·rename_i hk
      simp only[qd,qf]at h;obtain⟨a,rfl⟩:=q9f h.1;exact .rule k s a hk hs (qcj (yj h.2 a (by simp)))
     ·split at h
      ·rename_i hk
       simp only[qf]at h;obtain rfl:l=[]:=List.eq_nil_of_length_eq_zero h;exact .lone k s hk hs
      ·cases h
def q1z:List Nd->Bool->Pc
 |[],_=>[]
 |x :: l,f=>(if f then [] else [some ⟨3,[44]⟩,none])++(some ⟨1,x.nm⟩ :: q1z l false)
theorem q5h:∀ (l:List Nd) (f:Bool),pcB (q1z l f)=jf l f
 |[],_=>rfl
 |x :: l,f=>by
  simp only[q1z,jf];rw[jz,zf,q5h l false]
  cases f <;> rfl
theorem wf{ts:List Lx.Tok}{p:Nat}{s:ByteArray}{R:List KT}(h:Stn ts p (⟨1,bs s⟩ :: R)):Sx.small ts p = .ok (.mk 15 s []) (p+1):=by
 obtain⟨e1,e2⟩:=h.hd;have e1:txt ts p=bs s:=e1;have e2:knd ts p=1:=e2;unfold Sx.small;rw[qa e2,e1,q1v]
theorem qbp:∀ {l:List Nd},(∀ x∈l,nmN x)->∀ {s:ByteArray},qy s=true->GoodP (some ⟨1,bs s⟩ :: q1z l false)
 |[],_,s,hs=>.one (q0d hs)
 |x :: l,h,s,hs=>by
  obtain⟨s',rfl,hs'⟩:=h x (by simp);exact GoodP.snd (a:=some ⟨1,bs s⟩) (q0d hs) (jb (c:=44) (by decide)).2 (jb (c:=44) (by decide)).1 (GoodP.cons frN okN (qbp (fun y hy=>h y (by simp[hy])) hs'))
theorem qe2{l:List Nd}(h:∀ x∈l,nmN x):GoodP (q1z l true):=by
 cases l with
 |nil=>exact .nil
 |cons x l =>
  obtain⟨s',rfl,hs'⟩:=h x (by simp);exact qbp (fun y hy=>h y (by simp[hy])) hs'
theorem q6p:∀ {l:List Nd},(∀ x∈l,nmN x)->∀ ts p R acc,Stn ts p (pcT (q1z l false)++R)->hdX R≠[44]->Prs ts R (fun f=>Sx.namesR ts f acc p) (acc++l)
 |[],_,ts,p,R,acc,hp,hR=>by
  have hp:Stn ts p R:=hp;refine⟨p,hp,1,fun g hg=>?_⟩;obtain⟨g,rfl⟩:∃ g',g=g'+1:=⟨g - 1,by omega⟩;simp only[Sx.namesR];rw[q7 (by rw[hp.hd.1];exact hR),List.append_nil]
 |x :: l,h,ts,p,R,acc,hp,hR=>by
  obtain⟨s',rfl,hs'⟩:=h x (by simp);have hp:Stn ts p (⟨3,[44]⟩ :: ⟨1,bs s'⟩ :: (pcT (q1z l false)++R)):=hp;obtain⟨q,hq,f0,hf⟩:=q6p (fun y hy=>h y (by simp[hy])) ts _ R (acc++[.mk 15 s' []]) hp.next.next hR
  refine⟨q,hq,f0+1,fun g hg=>?_⟩;obtain⟨g,rfl⟩:∃ g',g=g'+1:=⟨g - 1,by omega⟩;simp only[Sx.namesR];rw[qa hp.tx,wf hp.next];simp only;rw[show Sx.namesR ts g (acc++[.mk 15 s' []]) (p+1+1)=_ from hf g (by omega),qe];rfl
theorem q7x{l:List Nd}(h:∀ x∈l,nmN x)(h0:l≠[]){ts:List Lx.Tok}{p:Nat}{R:List KT}(hp:Stn ts p (pcT (q1z l true)++R))(hR:hdX R≠[44]):Prs ts R (fun f=>Sx.names ts f p) l:=by
 cases l with
 |nil=>exact absurd rfl h0
 |cons x l =>
  obtain⟨s',rfl,hs'⟩:=h x (by simp);have hp:Stn ts p (⟨1,bs s'⟩ :: (pcT (q1z l false)++R)):=hp;obtain⟨q,hq,f0,hf⟩:=q6p (fun y hy=>h y (by simp[hy])) ts _ R [.mk 15 s' []] hp.next hR
  refine⟨q,hq,f0,fun g hg=>?_⟩
  show Sx.names ts g p=_
  unfold Sx.names;rw[wf hp];exact hf g hg
def yn(l:List Nd):Pc:=l.flatMap fun x=>none :: x.ptxt 7 false
theorem q8w(x:Nd)(l:List Nd)(R:List KT):pcT (yn (x :: l))++R=pcT (x.ptxt 7 false)++(pcT (yn l)++R):=by
 unfold yn;rw[List.flatMap_cons,List.cons_append,zp,xt,qe]
theorem q8d(s:ByteArray)(b:Nat)(m:Bool):(Nd.mk 15 s []).ptxt b m=[some (nmK 15 s)]:=by
 rw[wg,show q01 (Nd.mk 15 s []).kd b m=false from rfl];rfl
theorem qjh{t:Nd}(h:TyV t){ts:List Lx.Tok}{p:Nat}{R:List KT}(hp:Stn ts p (pcT (t.ptxt 7 false)++R)):txt ts p=[40]\/knd ts p=1:=by
 cases h with
 |name s h=>rw[q8d]at hp;exact .inr hp.hd.2
 |arrow a b ha hb =>
  rw[wg,show q01 (Nd.mk 31 Sx.noS [a,b]).kd 7 false=true from rfl,qa rfl,q4u]at hp;exact .inl hp.hd.1
theorem q5u:∀ {l:List Nd},(∀ x∈l,TyV x)->∀ ts p R acc,Stn ts p (pcT (yn l)++R)->hdX R≠[40]->hdK R≠1->Prs ts R (fun f=>Sx.simples ts f acc p) (acc++l)
 |[],_,ts,p,R,acc,hp,hR,hK=>by
  have hp:Stn ts p R:=hp;refine⟨p,hp,1,fun g hg=>?_⟩;obtain⟨g,rfl⟩:∃ g',g=g'+1:=⟨g - 1,by omega⟩;simp only[Sx.simples];rw[q7 (by rw[hp.hd.1,hp.hd.2];exact fun e=>e.elim hR hK),List.append_nil]
 |x :: l,h,ts,p,R,acc,hp,hR,hK=>by
  rw[q8w]at hp;have hx:=h x (by simp);obtain⟨q,hq,f0,hf⟩:=(q3d hx).2 _ _ _ _ hp;obtain⟨r,hr,f1,hf1⟩:=q5u (fun y hy=>h y (by simp[hy])) ts q R (acc++[x]) hq hR hK;refine⟨r,hr,f0+f1+1,fun g hg=>?_⟩;obtain⟨g,rfl⟩:∃ g',g=g'+1:=⟨g - 1,by omega⟩;simp only[Sx.simples];rw[qa (qjh hx hp),show Sx.simple ts g p=_ from hf g (by omega)];simp only;rw[show Sx.simples ts g (acc++[x]) q=_ from hf1 g (by omega),qe];rfl
theorem q68:∀ {l:List Nd},(∀ x∈l,nmN x)->∀ ts p R acc,Stn ts p (pcT (yn l)++R)->hdK R≠1->Prs ts R (fun f=>Sx.smalls ts f acc p) (acc++l)
 |[],_,ts,p,R,acc,hp,hK=>by
  have hp:Stn ts p R:=hp;refine⟨p,hp,1,fun g hg=>?_⟩;obtain⟨g,rfl⟩:∃ g',g=g'+1:=⟨g - 1,by omega⟩;simp only[Sx.smalls];rw[q7 (by rw[hp.hd.2];exact hK),List.append_nil]
 |x :: l,h,ts,p,R,acc,hp,hK=>by
  obtain⟨s',rfl,hs'⟩:=h x (by simp);rw[q8w,q8d]at hp;have hp:Stn ts p (⟨1,bs s'⟩ :: (pcT (yn l)++R)):=hp;obtain⟨r,hr,f1,hf1⟩:=q68 (fun y hy=>h y (by simp[hy])) ts _ R (acc++[.mk 15 s' []]) hp.next hK
  refine⟨r,hr,f1+1,fun g hg=>?_⟩;obtain⟨g,rfl⟩:∃ g',g=g'+1:=⟨g - 1,by omega⟩;have e1:txt ts p=bs s':=hp.hd.1;have e2:knd ts p=1:=hp.hd.2;simp only[Sx.smalls];rw[qa e2,e1,q1v,show Sx.smalls ts g (acc++[.mk 15 s' []]) (p+1)=_ from hf1 g (by omega),qe];rfl
theorem qld{l:List Nd}(h:∀ x∈l,GoodP (x.ptxt 7 false)):GoodP (yn l):=by
 induction l with
 |nil=>exact .nil
 |cons x l ih =>
  unfold yn at ih ⊢;rw[List.flatMap_cons];have h1:=h x (by simp);have h2:=ih fun y hy=>h y (by simp[hy])
  cases l with
  |nil=>simp only[List.flatMap_nil,List.append_nil];exact GoodP.cons frN okN h1
  |cons y l =>
   rw[List.flatMap_cons]at h2 ⊢;exact GoodP.cons frN okN (h1.mid frN okN ⟨h2.1.tail,fun o ho=>h2.2 o (by rw[List.cons_append];exact List.mem_cons_of_mem _ ho)⟩)
theorem q7k(l:List Nd):pcB (yn l)=l.flatMap fun x=>32 :: x.txt 7 false:=by
 induction l with
 |nil=>rfl
 |cons x l ih =>
  unfold yn at ih ⊢;rw[List.flatMap_cons,List.flatMap_cons,List.cons_append,xp,jz,q1h,ih];rfl
theorem q9s{s:ByteArray}(hs:qy s=true){l:List Nd}(h:∀ x∈l,GoodP (x.ptxt 7 false)):GoodP (some ⟨1,bs s⟩ :: yn l):=by
 have h1:=qld h
 cases l with
 |nil=>exact .one (q0d hs)
 |cons x l =>
  unfold yn at h1 ⊢;rw[List.flatMap_cons]at h1 ⊢;exact GoodP.snd (a:=some ⟨1,bs s⟩) (q0d hs) frN okN ⟨h1.1.tail,fun o ho=>h1.2 o (by rw[List.cons_append];exact List.mem_cons_of_mem _ ho)⟩
theorem q4v{k:Int}(h:2<=k/\k<=14):okO (some ⟨4,zq k⟩)/\Sx.kindOf (zq k)=k:=by
 have:k=2\/k=3\/k=4\/k=5\/k=6\/k=7\/k=8\/k=9\/k=10\/k=11\/k=12\/k=13\/k=14:=by omega
 rcases this with rfl|rfl|rfl|rfl|rfl|rfl|rfl|rfl|rfl|rfl|rfl|rfl|rfl <;> exact⟨⟨by decide,by decide⟩,by decide⟩
theorem q1e{ts:List Lx.Tok}{p:Nat}{R:List KT}{k:Int}{t:Nd}{L:List KT}(h:2<=k/\k<=14)(hp:Stn ts p (⟨4,zq k⟩ :: L))
  (hb:Prs ts (⟨3,[46]⟩ :: R) (fun f=>Sx.itemB ts f k (p+1)) t):Prs ts R (fun f=>Sx.item ts f p) t:=by
 obtain⟨q,hq,f0,hf⟩:=hb;refine⟨q+1,hq.next,f0,fun g hg=>?_⟩;have e1:txt ts p=zq k:=hp.hd.1;have e2:=(q4v h).2;have e3:=hf g hg;have e4:txt ts q=[46]:=hq.hd.1
 show Sx.item ts g p=_
 unfold Sx.item;simp only[e1,e2,e3];rw[q7 (by omega),qa e4]
theorem wa:okO (some ⟨3,[46]⟩)/\frO (some ⟨3,[46]⟩):=jb (c:=46) (by decide)
theorem q9x:okO (some ⟨3,[58]⟩)/\frO (some ⟨3,[58]⟩):=jb (c:=58) (by decide)
def q8g(k:Int)(l:List Nd):List KT :=
 if k=2\/k=14 then pcT (q1z l true)
 else if k=3 then pcT (q1z l.dropLast true)++⟨3,[58]⟩ :: (match l.getLast? with|some y=>pcT (y.ptxt 6 false)|none=>[])
 else if k=4\/k=5\/k=6\/k=7 then pcT (yn l)
 else if k=8\/k=9\/k=10\/k=11 then⟨3,[58]⟩ :: (match l.head? with|some a=>pcT (a.pbare false)|none=>[])
 else []
def itK:Nd->List KT| .mk k s l=>⟨4,zq k⟩ :: ((if k=2\/k=14\/k=3 then [] else [⟨1,bs s⟩])++(q8g k l++[⟨3,[46]⟩]))
theorem q6v{t:Nd}(h:ItV t):∃ P:Pc,pcB P=t.itm/\GoodP P/\pcT P=itK t/\∀ ts p R,Stn ts p (pcT P++R)->Prs ts R (fun f=>Sx.item ts f p) t:=by
 cases h with
 |names k l hk h0 hl =>
  have hk':2<=k/\k<=14:=by omega
  refine⟨some ⟨4,zq k⟩ :: none :: (q1z l true++[some ⟨3,[46]⟩]),?_,GoodP.snd (q4v hk').1 frN okN ((qe2 hl).snoc wa.2 wa.1),?_,fun ts p R hp=>?_⟩
  ·rw[zf,xp,jz,q5h,zf,ve]
   simp only[Nd.itm,x4];rw[qa hk,show bs Sx.noS=[] from rfl];simp
  ·simp only[itK,q8g]
   rw[qa (by omega),qa hk,qz,zp,xt];rfl
  ·rw[qz,zp,xt,qz,q17,List.cons_append,qe]at hp
   refine q1e hk' hp ?_;obtain⟨q,hq,f0,hf⟩:=q7x hl h0 hp.next (q7c (by decide))
   refine⟨q,hq,f0,fun g hg=>?_⟩;have hf:=hf g hg
   show Sx.itemB ts g k (p+1)=_
   unfold Sx.itemB;rw[qa hk];simp only[hf]
 |const l y h0 hl hy =>
  have hk':(2:Int)<=3/\(3:Int)<=14:=by omega
  refine⟨some ⟨4,zq 3⟩ :: none :: (q1z l true++(some ⟨3,[58]⟩ :: none :: (y.ptxt 6 false++[some ⟨3,[46]⟩]))),?_,
   GoodP.snd (q4v hk').1 frN okN ((qe2 hl).mid q9x.2 q9x.1 (GoodP.cons frN okN ((kx (q1r hy) 6 false).snoc wa.2 wa.1))),?_,fun ts p R hp=>?_⟩
  ·rw[zf,xp,jz,q5h,zf,xp,jz,q1h,zf,ve]
   simp only[Nd.itm,x4];rw[q7 (by decide),qa trivial,show bs Sx.noS=[] from rfl,show(l++[y]).length - 1=l.length by simp,List.take_left,q0j (by simp)];simp
  ·simp only[itK,q8g]
   rw[qa (by decide),q7 (by decide),qa trivial,List.dropLast_concat,List.getLast?_concat,qz,zp,xt,qz,zp,xt,List.nil_append,qe];rfl
  ·rw[qz,zp,xt,qz,zp,xt,qz,q17,List.cons_append,qe,List.cons_append,qe]at hp
   refine q1e hk' hp ?_;obtain⟨q,hq,f0,hf⟩:=q7x hl h0 hp.next (q7c (by decide))
   obtain⟨r,hr,f1,hf1⟩:=(q3d hy).1 _ _ _ _ hq.next (q7c (by decide))
   refine⟨r,hr,f0+f1,fun g hg=>?_⟩;have hf:=hf g (by omega);have hf1:=hf1 g (by omega);have e:txt ts q=[58]:=hq.hd.1
   show Sx.itemB ts g 3 (p+1)=_
   unfold Sx.itemB;rw[q7 (by decide),qa rfl];simp only[hf];rw[qa e];simp only[hf1]
 |pred k s l hk hs hl =>
  have hk':2<=k/\k<=14:=by omega
  refine⟨some ⟨4,zq k⟩ :: none :: ((some ⟨1,bs s⟩ :: yn l)++[some ⟨3,[46]⟩]),?_,GoodP.snd (q4v hk').1 frN okN ((q9s hs fun x hx=>kx (q1r (hl x hx)) 7 false).snoc wa.2 wa.1),?_,fun ts p R hp=>?_⟩
  ·rw[zf,xp,jz,zf,q7k,zf,ve]
   simp only[Nd.itm,x4];rw[q7 (by omega),q7 (by omega),qa (by omega)];simp
  ·simp only[itK,q8g]
   rw[q7 (by omega),q7 (by omega),q7 (by omega),qa (by omega),qz,zp,xt,qz];rfl
  ·rw[qz,zp,xt,qz,qz,q17,List.cons_append,List.cons_append,List.cons_append,qe]at hp
   refine q1e hk' hp ?_;obtain⟨q,hq,f0,hf⟩:=q5u hl ts _ _ [] hp.next.next (q7c (by decide)) (yg (by decide)).2.1
   refine⟨q,hq,f0,fun g hg=>?_⟩;have hf:=hf g hg
   show Sx.itemB ts g k (p+1)=_
   unfold Sx.itemB;rw[q7 (by omega),q7 (by omega),wf hp.next];simp only;unfold Sx.behind;rw[qa hk];simp only[hf];rfl
 |mode s l hs hl =>
  have hk':(2:Int)<=7/\(7:Int)<=14:=by omega
  refine⟨some ⟨4,zq 7⟩ :: none :: ((some ⟨1,bs s⟩ :: yn l)++[some ⟨3,[46]⟩]),?_,GoodP.snd (q4v hk').1 frN okN ((q9s hs fun x hx=>?_).snoc wa.2 wa.1),?_,fun ts p R hp=>?_⟩
  ·rw[zf,xp,jz,zf,q7k,zf,ve]
   simp only[Nd.itm,x4];rw[q7 (by decide),q7 (by decide),qa (by decide)];simp
  ·obtain⟨s',rfl,hs'⟩:=hl x hx
   rw[q8d];exact .one (q0d hs')
  ·simp only[itK,q8g]
   rw[q7 (by decide),q7 (by decide),q7 (by decide),qa (by decide),qz,zp,xt,qz];rfl
  ·rw[qz,zp,xt,qz,qz,q17,List.cons_append,List.cons_append,List.cons_append,qe]at hp
   refine q1e hk' hp ?_;obtain⟨q,hq,f0,hf⟩:=q68 hl ts _ _ [] hp.next.next (yg (x:=[46]) (by decide)).2.1
   refine⟨q,hq,f0,fun g hg=>?_⟩;have hf:=hf g hg
   show Sx.itemB ts g 7 (p+1)=_
   unfold Sx.itemB;rw[q7 (by decide),q7 (by decide),wf hp.next];simp only;unfold Sx.behind;rw[q7 (by decide),qa rfl];simp only[hf];rfl
 |rule k s a hk hs ha =>
  have hk':2<=k/\k<=14:=by omega
  refine⟨some ⟨4,zq k⟩ :: none :: some ⟨1,bs s⟩ :: some ⟨3,[58]⟩ :: none :: (a.ptxt 0 false++[some ⟨3,[46]⟩]),?_,
   GoodP.snd (q4v hk').1 frN okN (GoodP.snd (a:=some ⟨1,bs s⟩) (q0d hs) q9x.2 q9x.1 (GoodP.cons frN okN ((kx (q3n ha) 0 false).snoc wa.2 wa.1))),?_,fun ts p R hp=>?_⟩
  ·rw[zf,xp,zf,zf,xp,jz,q1h,zf,ve]
   simp only[Nd.itm,x4];rw[q7 (by omega),q7 (by omega),q7 (by omega),qa hk,q0j (by simp)];simp
  ·simp only[itK,q8g]
   rw[q7 (by omega),q7 (by omega),q7 (by omega),q7 (by omega),qa hk,qz,zp,qz,qz,zp,xt,wy];rfl
  ·rw[qz,zp,qz,qz,zp,xt,qz,q17,wy,List.cons_append,List.cons_append,List.cons_append,qe]at hp
   refine q1e hk' hp ?_;obtain⟨q,hq,f0,hf⟩:=(q9t ha).fo hp.next.next.next (yg (by decide)) (q9g (by decide))
   refine⟨q,hq,f0,fun g hg=>?_⟩;have hf:=hf g hg;have e:txt ts (p+1+1)=[58]:=hp.next.next.hd.1
   show Sx.itemB ts g k (p+1)=_
   unfold Sx.itemB;rw[q7 (by omega),q7 (by omega),wf hp.next];simp only;unfold Sx.behind;rw[q7 (by omega),q7 (by omega),qa hk,qa e];simp only[hf]
 |lone k s hk hs =>
  have hk':2<=k/\k<=14:=by omega
  refine⟨some ⟨4,zq k⟩ :: none :: ([some ⟨1,bs s⟩]++[some ⟨3,[46]⟩]),?_,GoodP.snd (q4v hk').1 frN okN ((GoodP.one (c:=some ⟨1,bs s⟩) (q0d hs)).snoc wa.2 wa.1),?_,fun ts p R hp=>?_⟩
  ·rw[zf,xp,jz,zf,ve,zf,ve]
   simp only[Nd.itm,x4];rw[q7 (by omega),q7 (by omega),q7 (by omega),q7 (by omega)];simp
  ·simp only[itK,q8g]
   rw[q7 (by omega),q7 (by omega),q7 (by omega),q7 (by omega),q7 (by omega)];rfl
  ·have hp:Stn ts p (⟨4,zq k⟩ :: ⟨1,bs s⟩ :: ⟨3,[46]⟩ :: R):=hp
   refine q1e hk' hp ⟨p+1+1,hp.next.next,0,fun g _=>?_⟩
   show Sx.itemB ts g k (p+1)=_
   unfold Sx.itemB;rw[q7 (by omega),q7 (by omega),wf hp.next];simp only;unfold Sx.behind;rw[q7 (by omega),q7 (by omega),q7 (by omega)]
theorem y8:∀ (l m:List KT) (r:Lx.Bs),Runs r l->Runs r m->l=m
 |[],[],_,_,_=>rfl
 |[],b :: m,r,h,h2=>by
  have h:Lx.skipC false r=r.length:=h;have e:=h2.1;rw[h,List.drop_of_length_le (q5 _)]at e;simp[Lx.tokR]at e
 |a :: l,[],r,h2,h=>by
  have h:Lx.skipC false r=r.length:=h;have e:=h2.1;rw[h,List.drop_of_length_le (q5 _)]at e;simp[Lx.tokR]at e
 |a :: l,b :: m,r,h,h2=>by
  have e:some (a.k,a.x.length)=some (b.k,b.x.length):=h.1.symm.trans h2.1;simp only[Option.some.injEq,Prod.mk.injEq]at e;have ex:a.x=b.x:=by rw[<-h.2.1,<-h2.2.1,e.2]
  have eab:a=b:=by
   obtain⟨ak,ax⟩:=a;obtain⟨bk,bx⟩:=b;simp only at e ex;rw[e.1,ex]
  subst eab;rw[y8 l m _ h.2.2.2 h2.2.2.2]
def qat:Lx.Tok:=⟨3,[41],0⟩
theorem qdr(us:List Lx.Tok):Sx.Less (us++[qat]) us us.length:=by
 have ag:∀ p,p < us.length->us[p]?=(us++[qat])[p]?:=fun p hp=>(List.getElem?_append_left hp).symm
 refine⟨fun p hp=>?_,fun p hp=>?_,fun p hp=>?_,by simp,rfl⟩
 ·unfold txt knd;rw[ag p hp];exact⟨rfl,rfl⟩
 ·unfold txt;rw[List.getElem?_eq_none hp]
 ·unfold knd;rw[List.getElem?_eq_none hp]
theorem q79{us:List Lx.Tok}{q:Nat}(h:Stn (us++[qat]) q [⟨3,[41]⟩]):q=us.length:=by
 have:=congrArg List.length h;simp at this;omega
theorem qe8:q78 [⟨3,[41]⟩]:=yg (by decide)
theorem qr8:NoS 0 [⟨3,[41]⟩]:=q9g (by decide)
theorem q57:∀ {l:List Nd},(∀ x∈l,ItV x)->Runs (l.flatMap fun x=>x.itm++[10]) (l.flatMap itK) /\
  ∀ (us:List Lx.Tok) p g acc,Stn (us++[qat]) p (l.flatMap itK++[⟨3,[41]⟩])->16*(us.length - p)+16<=g->Sx.items us g acc p = .ok (acc++l) us.length
 |[],_=>⟨rfl,fun us p g acc hp hg=>by
  obtain rfl:=q79 hp;obtain⟨g,rfl⟩:∃ g',g=g'+1:=⟨g - 1,by omega⟩;simp only[Sx.items]
  rw[q7 (by omega),List.append_nil]⟩
 |x :: l,h=>by
  obtain⟨P,hB,hG,hK',hP⟩:=q6v (h x (by simp));obtain⟨hR,hK⟩:=q57 (l:=l) fun y hy=>h y (by simp[hy])
  rw[List.flatMap_cons,List.flatMap_cons,<-hK'];refine⟨?_,fun us p g acc hp hg=>?_⟩
  ·rw[<-hB,qe]
   exact q44 (.inr ⟨_,rfl⟩) (q95 (by decide) hR) P (fun a ha=>hG.2 _ ha) hG.1
  ·rw[qe]at hp
   obtain⟨q,hq,f0,hf⟩:=hP _ _ _ hp;have hi:=hf f0 (q5 _);have gg:=Sx.item_goes hi
   have hql:q<=us.length:=by
    have:=congrArg List.length hq;simp at this;omega
   obtain⟨g,rfl⟩:∃ g',g=g'+1:=⟨g - 1,by omega⟩;simp only[Sx.items];rw[qa (by omega),(Sx.item_at (qdr us) (g:=g) (by omega) hi).1 hql];simp only;rw[hK us q g (acc++[x]) hq (by omega),qe];rfl
theorem q1p{k:Int}{s:ByteArray}{l:List Nd}(hk:15<=k):(Nd.mk k s l).whl=(Nd.mk k s l).txt 0 false:=by
 have:itemB (.mk k s l)=false:=by
  simp only[itemB];rw[q7 (by omega),q7 (by omega),q7 (by omega),q7 (by omega),q7 (by omega),q7 (by omega),Bool.and_false]
 simp only[Nd.whl];rw[q7 (by omega),this];rfl
def q1x(what:Int)(t:Nd):Bool:=if what=1 then xq t else if what=18 then qn t else if what=17 then zh t else zj t
theorem q1q{t:Nd}(hg:∀ m,GoodP (t.pbare m))(he:t.whl=t.txt 0 false):Runs t.whl (pcT (t.pbare false)):=by
 have h:=q44 (y:=[]) (m:=[]) (.inl rfl) rfl (t.pbare false) (fun a ha=>(hg false).2 _ ha) (hg false).1;rw[List.append_nil,List.append_nil,q24]at h;rw[he,<-q1h,wy,q24];exact h
theorem qhk{t:Nd}{what:Int}(hw:what=1\/what=18\/what=17\/what=31)(hfit:q1x what t=true){us:List Lx.Tok}(hs:Runs t.whl (us.map Lx.Tok.kt)) :
  Sx.whole us (Sx.fuel us) what = .ok t us.length:=by
 have L:=qdr us
 have hst:∀ K,us.map Lx.Tok.kt=K->Stn (us++[qat]) 0 (K++[⟨3,[41]⟩]):=fun K hK=>by
  unfold Stn;rw[List.drop_zero,List.map_append,hK];rfl
 rcases hw with rfl|rfl|rfl|rfl
 ·have hfit:xq t=true:=hfit
  obtain⟨k,s,l⟩:=t;simp only[xq,qd,qf]at hfit;obtain⟨rfl,h0,hl⟩:=hfit
  obtain⟨hR,hK⟩:=q57 (l:=l) fun x hx=>qci (by
   obtain⟨i,hi,rfl⟩:=List.getElem_of_mem hx
   exact(vy l).1 hl i hi)
  have e:us.map Lx.Tok.kt=l.flatMap itK:=y8 _ _ _ hs (by simp only[Nd.whl,if_true];exact hR);rw[qgv,hK us 0 _ [] (hst _ e) (by unfold Sx.fuel;omega),q02 h0];rfl
 ·have hv:=qcj (t:=t) hfit
  have hk:∃ k s l,t = .mk k s l/\15<=k:=by cases hv <;> exact⟨_,_,_,rfl,by omega⟩
  obtain⟨k,s,l,rfl,hk⟩:=hk;have e:=y8 _ _ _ hs (q1q (q3n hv) (q1p hk));obtain⟨q,hq,f0,hf⟩:=(q9t hv).fo (hst _ e) qe8 qr8;obtain rfl:=q79 hq;exact Sx.form_at L (hf f0 (q5 _)) (q5 _) _ (by unfold Sx.fuel;omega)
 ·have hv:=qce (t:=t) hfit
  have hk:∃ k s l,t = .mk k s l/\15<=k:=by
   cases hv with
   |app k s l h hl=>exact⟨_,_,_,rfl,by rcases h with h|h <;> omega⟩
   |lam1 s b h hb=>exact⟨_,_,_,rfl,by omega⟩
   |lam2 s y b h hy hb=>exact⟨_,_,_,rfl,by omega⟩
  obtain⟨k,s,l,rfl,hk⟩:=hk;have e:=y8 _ _ _ hs (q1q (q3f hv) (q1p hk));obtain⟨q,hq,f0,hf⟩:=q8y hv _ _ _ false (hst _ e) qe8;obtain rfl:=q79 hq;have h1:=((Sx.term_cut L f0 (max f0 (Sx.fuel us)) (Nat.le_max_left _ _)).1 0 _ _ (hf f0 (q5 _))).1 (q5 _);have h2:=Sx.term_fuel us 0 (Sx.fuel us) (by unfold Sx.fuel;omega) (max f0 (Sx.fuel us) - Sx.fuel us);rw[show Sx.fuel us+(max f0 (Sx.fuel us) - Sx.fuel us)=max f0 (Sx.fuel us)by omega,h1]at h2;exact h2.symm
 ·have hv:=q83 (t:=t) hfit
  have hk:∃ k s l,t = .mk k s l/\15<=k:=by cases hv <;> exact⟨_,_,_,rfl,by omega⟩
  obtain⟨k,s,l,rfl,hk⟩:=hk;have e:=y8 _ _ _ hs (q1q (q1r hv) (q1p hk))
  have hp:Stn (us++[qat]) 0 (pcT ((Nd.mk k s l).ptxt 6 false)++[⟨3,[41]⟩]):=by
   rw[wg,show q01 (Nd.mk k s l).kd 6 false=false from by cases hv <;> rfl];exact hst _ e
  obtain⟨q,hq,f0,hf⟩:=(q3d hv).1 _ _ _ _ hp (by decide);obtain rfl:=q79 hq;exact Sx.typed_at L (hf f0 (q5 _)) (q5 _) _ (by unfold Sx.fuel;omega)
theorem q9a{t:Nd}(hc:xv t=0){what:Int}(hw:what=1\/what=18\/what=17\/what=31)(hfit:q1x what t=true){r:Lx.Bs}{us:List Lx.Tok}(hs:Lx.scan r = .toks us)(hr:Runs t.whl (us.map Lx.Tok.kt)) :
  x3 r what=(some t,0,0):=by
 unfold x3;rw[hs];simp only;rw[qhk hw hfit hr];simp only;rw[q7 (Nat.lt_irrefl _),qa (by unfold q5j;rw[hc];rfl)]
end Go.Proofs.YtkckddojlignpaaGreatDoor
namespace Go.Proofs.YtkckddojlignpaaGreatDoor
open Lx (KT IsTok Runs)
inductive Sp:Tx->Tx->Prop
 |nil:Sp [] []
 |same (c:UInt8) {r r':Tx} (h:Sp r r'):Sp (c :: r) (c :: r')
 |feed {r r':Tx} (h:Sp r r'):Sp (32 :: r) (10 :: 32 :: 32 :: r')
theorem Sp.refl:∀ r:Tx,Sp r r
 |[]=>.nil
 |c :: r=>.same c (Sp.refl r)
theorem Sp.app{r r':Tx}(h:Sp r r'){s s':Tx}(h2:Sp s s'):Sp (r++s) (r'++s'):=by
 induction h with
 |nil=>exact h2
 |same c _ ih=>exact .same c ih
 |feed _ ih=>exact .feed ih
theorem Sp.lead{r r':Tx}(h:Sp r r')(h37:∀ c∈r,c≠37) :
  Sp (r.drop (Lx.skipC false r)) (r'.drop (Lx.skipC false r'))/\(Lx.skipC false r=r.length->Lx.skipC false r'=r'.length):=by
 induction h with
 |nil=>exact⟨.nil,fun _=>rfl⟩
 |same c h ih =>
  rename_i r r'
  have h37':=ih fun x hx=>h37 x (by simp[hx])
  by_cases hb:Lx.blank c=true
  ·have e:∀ s:Tx,Lx.skipC false (c :: s)=1+Lx.skipC false s:=fun s=>by simp only[Lx.skipC,hb,if_true]
   rw[e,e,Nat.add_comm 1,Nat.add_comm 1,List.drop_succ_cons,List.drop_succ_cons];refine⟨h37'.1,fun hl=>?_⟩;have:=h37'.2 (by simp only[qi]at hl;omega);simp only[qi];omega
  ·have hn:c.toNat≠37:=fun e=>h37 c (by simp) (by rw[<-UInt8.toNat_inj];exact e)
   have e:∀ s:Tx,Lx.skipC false (c :: s)=0:=fun s=>by simp only[Lx.skipC,Bool.eq_false_iff.2 hb,hn,if_false];rfl
   rw[e,e];exact⟨.same c h,fun hl=>by simp at hl⟩
 |feed h ih =>
  rename_i r r'
  have h37':=ih fun x hx=>h37 x (by simp[hx])
  have e:Lx.skipC false (32 :: r)=1+Lx.skipC false r:=by simp only[Lx.skipC];rfl
  have e':Lx.skipC false (10 :: 32 :: 32 :: r')=1+(1+(1+Lx.skipC false r')):=by simp only[Lx.skipC];rfl
  rw[e,e',Nat.add_comm 1 (Lx.skipC false r),List.drop_succ_cons,show 1+(1+(1+Lx.skipC false r'))=Lx.skipC false r'+1+1+1 by omega,List.drop_succ_cons,List.drop_succ_cons,List.drop_succ_cons];refine⟨h37'.1,fun hl=>?_⟩;have:=h37'.2 (by simp only[qi]at hl;omega);simp only[qi];omega
theorem Sp.word:∀ (x:Tx) {y t':Tx},(∀ c∈x,c≠32)->Sp (x++y) t'->∃ y',t'=x++y'/\Sp y y'
 |[],y,t',_,h=>⟨t',rfl,h⟩
 |c :: x,y,t',hx,h=>by
  rw[List.cons_append]at h;generalize hr:c :: (x++y)=r at h
  cases h with
  |nil=>cases hr
  |same c' h' =>
   obtain⟨rfl,rfl⟩:=List.cons.inj hr;obtain⟨y',rfl,hy⟩:=Sp.word x (fun d hd=>hx d (by simp[hd])) h';exact⟨y',rfl,hy⟩
  |feed h' =>
   obtain⟨rfl,_⟩:=List.cons.inj hr;exact absurd rfl (hx 32 (by simp))
theorem qb2{a:KT}(ha:IsTok a):∀ c∈a.x,c≠32/\c≠37:=fun c hc=>by
 have h:=Lx.tokR_mem ha.1 c hc;refine⟨?_,?_⟩
 ·rintro rfl;exact absurd h.1 (by decide)
 ·rintro rfl;exact h.2 rfl
theorem qad:∀ (l:List KT) (r r':Tx),(∀ c∈r,c≠37)->Sp r r'->Runs r l->Runs r' l
 |[],r,r',h37,hs,h=>(hs.lead h37).2 h
 |a :: l,r,r',h37,hs,h=>by
  have ha:=Lx.runs_tok _ _ h a (by simp);obtain⟨ht,hx,h4,hr⟩:=h;have hl:=(hs.lead h37).1;obtain⟨t,et⟩:∃ t,r.drop (Lx.skipC false r)=t:=⟨_,rfl⟩;obtain⟨t',et'⟩:∃ t',r'.drop (Lx.skipC false r')=t':=⟨_,rfl⟩;have h37t:∀ c∈t,c≠37:=fun c hc=>h37 c (by rw[<-et]at hc;exact List.mem_of_mem_drop hc)
  rw[et]at ht hx hr hl;rw[et']at hl;obtain⟨y,ey⟩:∃ y,t.drop a.x.length=y:=⟨_,rfl⟩
  have e:t=a.x++y:=by
   have h:=(List.take_append_drop a.x.length t).symm;rw[hx,ey]at h;exact h
  rw[ey]at hr;subst e;obtain⟨y',rfl,hy⟩:=Sp.word a.x (fun c hc=>(qb2 ha c hc).1) hl;have ih:=qad l y y' (fun c hc=>h37t c (List.mem_append_right _ hc)) hy hr
  show Lx.tokR (r'.drop (Lx.skipC false r'))=_/\(r'.drop (Lx.skipC false r')).take _=_/\_/\Runs ((r'.drop (Lx.skipC false r')).drop _) l
  rw[et'];refine⟨?_,List.take_left,h4,by rw[List.drop_left];exact ih⟩
  cases hy with
  |nil=>rw[List.append_nil];exact ha.1
  |same c h' =>
   have h64:c≠64:=fun e=>Lx.runs_head l _ hr (by rw[e];rfl)
   exact(Lx.tokR_stop a.x c _ _ h64).2 ((Lx.tokR_stop a.x c _ _ h64).1 ht)
  |feed h'=>exact q77 ha.1 (by decide) (by decide) (by decide) _
theorem q8a{P:Pc}(h:GoodP P):∀ c∈pcB P,c≠37:=fun c hc=>by
 unfold pcB at hc;obtain⟨o,ho,hco⟩:=List.mem_flatMap.1 hc
 cases o with
 |none =>
  simp only[List.mem_singleton]at hco;rw[hco];decide
 |some a=>exact(qb2 (h.2 _ ho) c hco).2
theorem q2b{t:Nd}{what:Int}(hw:what=1\/what=18\/what=17\/what=31)(hfit:q1x what t=true):∀ c∈t.whl,c≠37:=by
 have key:∀ {k:Int} {s:ByteArray} {l:List Nd},15<=k->(∀ m,GoodP ((Nd.mk k s l).pbare m))->∀ c∈(Nd.mk k s l).whl,c≠37:=fun hk hg c hc=>by
  rw[q1p hk,<-q1h,wy]at hc;exact q8a (hg false) c hc
 rcases hw with rfl|rfl|rfl|rfl
 ·have hfit:xq t=true:=hfit
  obtain⟨k,s,l⟩:=t;simp only[xq,qd,qf]at hfit;obtain⟨rfl,h0,hl⟩:=hfit;intro c hc;simp only[Nd.whl,if_true]at hc;obtain⟨x,hx,hcx⟩:=List.mem_flatMap.1 hc
  obtain⟨P,hB,hG,_⟩:=q6v (qci (t:=x) (by
   obtain⟨i,hi,rfl⟩:=List.getElem_of_mem hx
   exact(vy l).1 hl i hi))
  rcases List.mem_append.1 hcx with h|h
  ·rw[<-hB]at h
   exact q8a hG c h
  ·rw[List.mem_singleton.1 h];decide
 ·have hv:=qcj (t:=t) hfit
  have hk:∃ k s l,t = .mk k s l/\15<=k:=by cases hv <;> exact⟨_,_,_,rfl,by omega⟩
  obtain⟨k,s,l,rfl,hk⟩:=hk;exact key hk (q3n hv)
 ·have hv:=qce (t:=t) hfit
  have hk:∃ k s l,t = .mk k s l/\15<=k:=by
   cases hv with
   |app k s l h hl=>exact⟨_,_,_,rfl,by rcases h with h|h <;> omega⟩
   |lam1 s b h hb=>exact⟨_,_,_,rfl,by omega⟩
   |lam2 s y b h hy hb=>exact⟨_,_,_,rfl,by omega⟩
  obtain⟨k,s,l,rfl,hk⟩:=hk;exact key hk (q3f hv)
 ·have hv:=q83 (t:=t) hfit
  have hk:∃ k s l,t = .mk k s l/\15<=k:=by cases hv <;> exact⟨_,_,_,rfl,by omega⟩
  obtain⟨k,s,l,rfl,hk⟩:=hk;exact key hk (q1r hv)
theorem qky{t:Nd}(hc:xv t=0){what:Int}(hw:what=1\/what=18\/what=17\/what=31)(hfit:q1x what t=true){us vs:List Lx.Tok}{r:Lx.Bs}(hp:Lx.scan t.whl = .toks us)(hl:Sp t.whl r)(hs:Lx.scan r = .toks vs) :
  x3 r what=(some t,0,0):=by
 have h1:=qad _ _ _ (q2b hw hfit) hl (Lx.scan_runs hp).1;have h2:=y8 _ _ _ h1 (Lx.scan_runs hs).1;exact q9a hc hw hfit hs (by rw[<-h2];exact(Lx.scan_runs hp).1)
def kf(width:Nat):Nat->List Tx->Tx
 |_,[]=>[]
 |used,w :: ws=>if used+1+w.length<=width then 32 :: (w++kf width (used+1+w.length) ws) else 10 :: 32 :: 32 :: (w++kf width (2+w.length) ws)
def jr(width:Nat):List Tx->Tx
 |[]=>[]
 |w :: ws=>w++kf width w.length ws
theorem q8f(width:Nat):∀ (used:Nat) (ws:List Tx),Sp (Lib.joinTail [32] ws) (kf width used ws)
 |_,[]=>.nil
 |used,w :: ws=>by
  have e:Lib.joinTail [32] (w :: ws)=32 :: (w++Lib.joinTail [32] ws):=by simp[Lib.joinTail]
  rw[e];unfold kf
  split
  ·exact .same 32 ((Sp.refl w).app (q8f width _ ws))
  ·exact .feed ((Sp.refl w).app (q8f width _ ws))
theorem qnc(width:Nat)(ws:List Tx):Sp (Lib.join ws [32]) (jr width ws):=by
 cases ws with
 |nil=>exact .nil
 |cons w ws=>rw[Lib.join_cons];exact(Sp.refl w).app (q8f width _ ws)
theorem yr(sep:Tx):∀ (k:Nat) (s:Tx),Lib.join (Lib.splitK sep 0 k s) sep=s
 |0,s=>Lib.join_one s sep
 |k+1,s=>by
  unfold Lib.splitK
  split
  ·exact Lib.join_one s sep
  ·rename_i hne
   rcases Lib.index_spec s sep with ⟨h,_⟩|⟨i,h,hi,ho,_⟩
   ·rw[h]at hne;exact absurd rfl hne
   ·have ih:=yr sep k (s.drop (i+sep.length))
    have et:(Lib.index s sep).toNat=i:=by rw[h];rfl
    rw[et,Nat.add_zero]
    have hne2:∃ y r,Lib.splitK sep 0 k (s.drop (i+sep.length))=y :: r:=by
     cases k with
     |zero=>exact⟨_,_,rfl⟩
     |succ k =>
      unfold Lib.splitK
      split
      ·exact⟨_,_,rfl⟩
      ·exact⟨_,_,rfl⟩
    obtain⟨y,r,er⟩:=hne2;rw[er]at ih ⊢;rw[Lib.join_cons]at ih ⊢;have e2:Lib.joinTail sep (y :: r)=sep++(y++Lib.joinTail sep r):=by simp[Lib.joinTail]
    rw[e2,ih]
    have hp:sep <+: s.drop i:=by
     unfold Lib.occAt at ho;exact List.isPrefixOf_iff_prefix.1 ho
    obtain⟨z,hz⟩:=hp;have e3:s.drop (i+sep.length)=z:=by rw[<-List.drop_drop,<-hz,List.drop_left]
    rw[e3,hz,List.take_append_drop]
def kw(width:Nat)(s:Tx):Tx:=Lib.join ((Lib.split s [10]).map fun l=>jr width (Lib.split l [32])) [10]
theorem q7a(width:Nat)(s:Tx):Sp s (kw width s):=by
 have key:∀ ls:List Tx,Sp (Lib.join ls [10]) (Lib.join (ls.map fun l=>jr width (Lib.split l [32])) [10]):=by
  have hl:∀ l:Tx,Sp l (jr width (Lib.split l [32])):=fun l=>by
   have h:=qnc width (Lib.split l [32])
   rwa [show Lib.join (Lib.split l [32]) [32]=l from yr [32] _ l]at h
  have ht:∀ ls:List Tx,Sp (Lib.joinTail [10] ls) (Lib.joinTail [10] (ls.map fun l=>jr width (Lib.split l [32]))):=by
   intro ls
   induction ls with
   |nil=>exact .nil
   |cons l ls ih =>
    have e:∀ (x:Tx) (r:List Tx),Lib.joinTail [10] (x :: r)=10 :: (x++Lib.joinTail [10] r):=fun x r=>by simp[Lib.joinTail]
    rw[List.map_cons,e,e];exact .same 10 ((hl l).app ih)
  intro ls
  cases ls with
  |nil=>exact .nil
  |cons l ls=>rw[List.map_cons,Lib.join_cons,Lib.join_cons];exact(hl l).app (ht ls)
 have h:=key (Lib.split s [10])
 rwa [show Lib.join (Lib.split s [10]) [10]=s from yr [10] _ s]at h
end Go.Proofs.YtkckddojlignpaaGreatDoor
namespace Go.Proofs.YtkckddojlignpaaGreatDoor
theorem q1b(x:Tx)(r:List Tx):Lib.lens (x :: r)=x.length+Lib.lens r:=by simp[Lib.lens]
theorem q6t(width:Nat):∀ (used:Nat) (ws:List Tx),(kf width used ws).length<=Lib.lens ws+3*ws.length
 |used,[]=>by
  have e:kf width used []=[]:=by unfold kf;rfl
  rw[e];exact qp _
 |used,w :: ws=>by
  rw[q1b,qi];unfold kf
  split
  ·have:=q6t width (used+1+w.length) ws
   simp only[qi,qc];omega
  ·have:=q6t width (2+w.length) ws
   simp only[qi,qc];omega
theorem qbm(width:Nat)(ws:List Tx):(jr width ws).length<=Lib.lens ws+3*ws.length:=by
 cases ws with
 |nil=>simp[jr]
 |cons w ws =>
  have:=q6t width w.length ws;rw[q1b,qi];unfold jr;rw[qc];omega
theorem q08(s:Tx)(c:UInt8):∃ x r,Lib.split s [c]=x :: r:=by
 unfold Lib.split
 cases Lib.count s [c] with
 |zero=>exact⟨_,_,rfl⟩
 |succ k =>
  unfold Lib.splitK
  split
  ·exact⟨_,_,rfl⟩
  ·exact⟨_,_,rfl⟩
theorem q4i(s:Tx)(c:UInt8):Lib.lens (Lib.split s [c])+(Lib.split s [c]).length=s.length+1:=by
 have h:Lib.join (Lib.split s [c]) [c]=s:=yr [c] _ s;obtain⟨x,r,e⟩:=q08 s c;rw[e]at h ⊢;have h2:=Lib.join_length x r [c];rw[h]at h2;simp only[qi,qo]at h2 ⊢;omega
theorem qkz(width:Nat)(l:Tx):(jr width (Lib.split l [32])).length<=4*l.length+3:=by
 have h1:=qbm width (Lib.split l [32]);have h2:=q4i l 32;obtain⟨x,r,e⟩:=q08 l 32;rw[e]at h1 h2 ⊢;simp only[qi]at h1 h2;omega
def q11(t:Nd)(width:Int):Tx×Int :=
 if xv t=0 then(if width < 20\/200 < width then([],1) else match Lx.scan (kw width.toNat t.whl)with| .toks _=>(kw width.toNat t.whl,0)| .bad _ _=>([],2)) else([],xv t)
def q56(width:Nat)(ls:List ByteArray):List Tx:=ls.map fun l=>jr width (Lib.split l.data.toList [32])
theorem qdu(width:Nat):∀ ls:List ByteArray,Lib.lens (q56 width ls)<=4*Lib.lens (ls.map (·.data.toList))+3*ls.length
 |[]=>by simp[q56,Lib.lens]
 |l :: ls=>by
  have h1:=qdu width ls;have h2:=qkz width l.data.toList;unfold q56 at h1 ⊢;rw[List.map_cons,List.map_cons,q1b,q1b,qi];omega
theorem qp7(xs:List Tx):(Lib.join xs [10]).length<=Lib.lens xs+xs.length:=by
 cases xs with
 |nil=>simp[Lib.join_nil]
 |cons x r =>
  have:=Lib.join_length x r [10];simp only[qi,qo]at this ⊢;omega
theorem q1g(s:ByteArray)(c:UInt8):(Lib.splitB ⟨#[c]⟩ 0 (Lib.countB s ⟨#[c]⟩) s).map (·.data.toList)=Lib.split s.data.toList [c] :=
 Lib.splitB_data ⟨#[c]⟩ 0 _ s
theorem q2u(s:ByteArray)(c:UInt8):(Lib.splitB ⟨#[c]⟩ 0 (Lib.countB s ⟨#[c]⟩) s).length=Lib.countB s ⟨#[c]⟩+1 :=
 Lib.splitB_all ⟨#[c]⟩ (q5 1) 0 _ s rfl
theorem q7n(s:ByteArray)(c:UInt8):Lib.lens ((Lib.splitB ⟨#[c]⟩ 0 (Lib.countB s ⟨#[c]⟩) s).map (·.data.toList))+(Lib.countB s ⟨#[c]⟩+1)=s.size+1:=by
 have h:=q4i s.data.toList c;rw[<-q1g,qv,q2u]at h;rw[h,Lib.size_eq s]
theorem qi7(width:Nat)(s:ByteArray):Lib.join (q56 width (Lib.splitB ⟨#[10]⟩ 0 (Lib.countB s ⟨#[10]⟩) s)) [10]=kw width s.data.toList:=by
 unfold kw;rw[<-q1g];simp[q56,Function.comp_def]
end Go.Proofs.YtkckddojlignpaaGreatDoor
namespace Go.Proofs.YtkckddojlignpaaGreatDoor
open Go.RowKit Go.Shelf
theorem q9p(c:UInt8):∀ l:List UInt8,Lib.index l [c]=Lib.indexByte l c
 |[]=>rfl
 |b :: l=>by
  have ih:=q9p c l;unfold Lib.index Lib.indexByte;rw[ih]
  have e:[c].isPrefixOf (b :: l)=(b==c):=by
   simp only[List.isPrefixOf,Bool.and_true];exact Bool.beq_comm
  rw[e]
theorem qnm:(Tryz.prog.info? 9).map (fun i=>(i.zero,i.size,i.bytes))=some (some (.string ByteArray.empty),1,16):=by kernel_rfl
theorem qlf(s:ByteArray)(c:UInt8)(w:World)(hs:s.size < 4294967281) :
  Calls Tryz.prog 109 #[.string s,.string ⟨#[c]⟩,.int .i64 0,.int .i64 (-1)] w fun e w'=>e = .returned (.slice (some ⟨w.heap.size,0,none⟩) (Lib.countB s ⟨#[c]⟩+1) (Lib.countB s ⟨#[c]⟩+1))/\w'=w.alloc (.cells ((Lib.splitB ⟨#[c]⟩ 0 (Lib.countB s ⟨#[c]⟩) s).map Value.string).toArray 9):=by
 have hle:=Lib.countB_le ⟨#[c]⟩ (q5 1) s.size s (q5 _);have hlen:(Lib.splitB ⟨#[c]⟩ 0 (Lib.countB s ⟨#[c]⟩) s).length=Lib.countB s ⟨#[c]⟩+1:=Lib.splitB_all ⟨#[c]⟩ (q5 1) 0 _ s rfl
 have C:=Any.strings_genSplit_core (P:=Tryz.prog) (ρ:=Tryz.lays146_ren) { Tryz.lays146 with } qnm s ⟨#[c]⟩ 0 (-1) (Lib.countB s ⟨#[c]⟩+1) w hs (q5 1) (qp _)
  (fun x cs _=>(Any.strings_Index_one { Tryz.lays146 with } x c _).mono fun e w' ⟨he,hw⟩=>⟨by rw[he,<-q9p],hw⟩)
  ((Any.strings_Count_one { Tryz.lays146 with } s c w).mono fun e w' ⟨he,hw⟩=>⟨by
   rw[he]
   show _=Ending.returned (Value.int .i64 ((Lib.count s.data.toList [c]:Nat):Int))
   rw[Lib.count_one]
   rfl,hw⟩) (by decide) (by decide) (by rw[qa (by decide)];omega)
 rw[Nat.add_sub_cancel,hlen]at C;have e2:Lib.cellsOf (Lib.splitB ⟨#[c]⟩ 0 (Lib.countB s ⟨#[c]⟩) s) (Lib.countB s ⟨#[c]⟩+1)=((Lib.splitB ⟨#[c]⟩ 0 (Lib.countB s ⟨#[c]⟩) s).map Value.string).toArray:=by rw[<-hlen];exact Lib.cellsOf_full _
 rw[e2]at C;exact C
theorem qjm(s:ByteArray)(c:UInt8)(w:World)(hs:s.size < 4294967281) :
  Calls Tryz.prog 51 #[.string s,.string ⟨#[c]⟩] w fun e w'=>e = .returned (.slice (some ⟨w.heap.size,0,none⟩) (Lib.countB s ⟨#[c]⟩+1) (Lib.countB s ⟨#[c]⟩+1))/\w'=w.alloc (.cells ((Lib.splitB ⟨#[c]⟩ 0 (Lib.countB s ⟨#[c]⟩) s).map Value.string).toArray 9):=by
 have C:=qh (qlf s c w hs);go_enter Tryz.func51,Tryz.ntmps51
 go_wp2_with fail
 refine C.out.mono ?_;rintro e w'⟨rfl,hw⟩;rw[hw];go_wp2;go_ret;exact⟨rfl,rfl⟩
theorem qbl{ws:List ByteArray}{i:Nat}(h:i < ws.length):(ws[i]).size<=Lib.lens (ws.map (·.data.toList)):=by
 induction ws generalizing i with
 |nil=>cases h
 |cons x r ih =>
  rw[List.map_cons,q1b]
  cases i with
  |zero=>simp only[zo];rw[Lib.size_eq];omega
  |succ i =>
   have:=ih (i:=i) (by simpa using h);simp only[zy];omega
def yp(wd used:Nat)(ws:List Tx)(i:Nat):Tx:=if i=0 then jr wd ws else kf wd used (ws.drop i)
theorem qew{wd:Nat}{ws:List Tx}{w:Tx}{r:List Tx}(u:Nat)(h:ws=w :: r):yp wd u ws 0=w++yp wd w.length ws 1:=by
 subst h;simp[yp,jr]
theorem qjx{wd used:Nat}{ws:List Tx}{i:Nat}(hi:i < ws.length)(h0:i≠0)(hf:used+1+(ws[i]).length<=wd):yp wd used ws i=32 :: (ws[i]++yp wd (used+1+(ws[i]).length) ws (i+1)):=by
 unfold yp;rw[q7 h0,q7 (by omega),List.drop_eq_getElem_cons hi,kf,qa hf]
theorem qhc{wd used:Nat}{ws:List Tx}{i:Nat}(hi:i < ws.length)(h0:i≠0)(hf:¬ used+1+(ws[i]).length<=wd):yp wd used ws i=10 :: 32 :: 32 :: (ws[i]++yp wd (2+(ws[i]).length) ws (i+1)):=by
 unfold yp;rw[q7 h0,q7 (by omega),List.drop_eq_getElem_cons hi,kf,q7 hf]
theorem qjy{wd used:Nat}{ws:List Tx}(h0:ws.length≠0):yp wd used ws ws.length=[]:=by
 unfold yp;rw[q7 h0,List.drop_length];unfold kf;rfl
theorem qnb(s:ByteArray)(wd:Nat)(w:World)(hs:s.size<=10000000)(hwd:wd<=200) :
  Calls Tryz.prog 52 #[.string s,.int .i64 wd] w fun e w'=>e = .returned (S_ (jr wd (Lib.split (bs s) [32])))/\Below w.heap.size w w':=by
 have hsl:=q7n s 32;have hlen:=q2u s 32;have hsp:=q1g s 32;have CS:=qh (fun W=>qjm s 32 W (by omega));obtain⟨D,hD⟩:∃ D,Lib.splitB ⟨#[32]⟩ 0 (Lib.countB s ⟨#[32]⟩) s=D:=⟨_,rfl⟩;obtain⟨n,hn⟩:∃ n,Lib.countB s ⟨#[32]⟩+1=n:=⟨_,rfl⟩;simp only[hD,hn]at hsl hlen hsp CS;obtain⟨T,hT⟩:∃ T:List Tx,D.map (·.data.toList)=T:=⟨_,rfl⟩;have hTl:T.length=n:=by rw[<-hT,qv,hlen]
 have hsp':Lib.split (bs s) [32]=T:=by rw[<-hT];exact hsp.symm
 rw[hsp']
 have hR:(jr wd T).length<=100000000:=by
  have h1:=qbm wd T;rw[hT]at hsl;omega
 obtain⟨R,hRe⟩:∃ R,jr wd T=R:=⟨_,rfl⟩;rw[hRe]at hR;rw[hRe];have hn1:1<=n:=by omega
 have HR:=qh hR;have HRe:=qh hRe;have HT:=qh hT;have HTl:=qh hTl;have HDl:=qh hlen;have HSL:=qh hsl;have hn9:n<=10000001:=by omega
 clear hsp hsp' hD hn hR hRe hT hTl hlen hsl;obtain⟨b,hb⟩:∃ b,w.heap.size=b:=⟨_,rfl⟩;have HB:=qh hb;go_enter Tryz.func52,Tryz.ntmps52
 go_wp2_with fail
 refine(CS.out _).mono ?_;rintro e w1⟨rfl,hw1⟩;simp only[q6];rw[hb];have P1:=qh (show BdW b b [] w1 from hw1▸(qrp w b hb.symm).alloc _);have B1:=qh (show Below b w w1 from hw1▸((hb▸Below.refl w.heap.size w).alloc (by omega) _).alloc (by simp;omega) _)
 have X1:w1.heap[b+1]?=some (.cells (D.map Value.string).toArray 9 (0,0)):=by
  rw[hw1,<-hb];have:=qm (w.alloc (.cells #[.pointer none,.slice none 0 0] 122)) (.cells (D.map Value.string).toArray 9)
  rwa [q6]at this
 have HX1:=qh X1;have hb1:b < w1.heap.size:=by have:=za X1;omega
 clear hw1 X1 CS hb
 go_wp2_with fail
 go_loopw [6,12] (fun v6 v12 wr=>∃ (i used:Nat) (acc:Tx),i<=n/\v6 = .int .i64 used/\v12 = .int .i64 i/\Hid (acc++yp wd used T i=R)/\used<=acc.length/\Hid (BdW b b acc wr)/\Hid (Wr b b w1 wr)) (fun _ v12 _=>n - (intOf v12).toNat)
 case atStart=>exact⟨0,0,[],qp _,rfl,rfl,qh (by rw[List.nil_append,<-HRe.out];rfl),qp _,P1,qh (Wr.refl _ _ _)⟩
 case round =>
  obtain⟨i,used,acc,hi,rfl,rfl,HA,hua,PW,KW⟩:=hrel
  have hal:acc.length<=100000000:=by
   have h1:=HR.out;rw[<-HA.out,qc]at h1;omega
  have hu9:used<=100000000:=ql hua hal;have hbw:b<=wr.heap.size:=by have:=KW.out.bl.size;omega
  by_cases hlt:i < n
  ·have hlt':(i:Int) < (n:Int):=by omega
   have hi0:(0:Int)<=(i:Int):=by omega
   have hiD:i < D.length:=by rw[HDl.out];exact hlt
   have hiT:i < T.length:=by rw[HTl.out];exact hlt
   have hrow:wr.heap[b+1]?=some (.cells (D.map Value.string).toArray 9 (0,0)):=KW.out.kp (b+1) _ HX1.out (fun e=>by have:=zc e;omega) (fun _ _ e=>absurd (Obj.cells.inj e).2.1 (by decide));obtain⟨x,hx⟩:∃ x,D[i]=x:=⟨_,rfl⟩
   have x0:wr.cell? ⟨b+1,i,none⟩=some (.string x):=by
    rw[qk _ _ _ _ _ _ hrow,<-hx];simp[hiD]
   have hxT:T[i]=bs x:=by
    have e1:T[i]?=some (bs x):=by
     rw[<-HT.out,List.getElem?_map,qj hiD,hx];rfl
    rw[qj hiT]at e1;exact zc e1
   have hxs:x.size<=10000001:=by
    have h1:=qbl hiD;rw[hx]at h1;have h2:=HSL.out;omega
   have hbx:(bs x).length=x.size:=qr x;clear hx hrow
   by_cases h0:i=0
   ·subst h0
    have hA2:(acc++bs x)++yp wd x.size T 1=R:=by
     rw[<-HA.out,qew (w:=bs x) (r:=T.drop 1) used (by rw[<-hxT,<-List.drop_eq_getElem_cons hiT];rfl),hbx,qe]
    have HA2:=qh hA2;have hle2:=qh (show x.size<=(acc++bs x).length by rw[qc,hbx];omega);have CW:=qh (qa3 b b acc x wr PW.out (by omega) hbw);clear hA2 HA hxT hbx hiT hiD PW
    go_wp2_with fail
    refine CW.out.mono ?_;rintro e w2⟨rfl,pp,kk⟩;have P2:=qh pp;have K2:=qh (KW.out.trans kk);clear pp kk CW x0 KW;go_wp2;go_roundw
    case rel=>exact⟨1,x.size,acc++bs x,hlt,rfl,by push_cast;rfl,HA2,hle2.out,P2,K2⟩
    case measure=>simp[intOf];omega
   ·have hi1:((i:Int)==0)=false:=by rw[q9];omega
    by_cases hf:used+1+x.size<=wd
    ·have hf':(used:Int)+1+(x.size:Int)<=(wd:Int):=by omega
     have hA2:((acc++[32])++bs x)++yp wd (used+1+x.size) T (i+1)=R:=by
      rw[<-HA.out,qjx hiT h0 (by rw[hxT,hbx];exact hf),hxT,hbx];simp
     have HA2:=qh hA2;have hle2:=qh (show used+1+x.size<=((acc++[32])++bs x).length by simp only[qc,hbx,qi,qo];omega);have CB:=qh (qri b b acc 32 wr PW.out (by omega) hbw);have CW:=qh (fun w' (h:BdW b b (acc++[32]) w') (hh:b<=w'.heap.size)=>qa3 b b (acc++[32]) x w' h (by simp only[qc,qi,qo];omega) hh);clear hA2 HA hxT hbx hiT hiD PW
     go_wp2_with fail
     refine CB.out.mono ?_;rintro e w2⟨rfl,pp,kk⟩;have P2:=qh pp;have K2:=qh (KW.out.trans kk);have hb2:b<=w2.heap.size:=ql hbw kk.bl.size;clear pp kk CB x0 KW
     go_wp2_with fail
     refine(CW.out _ P2.out hb2).mono ?_;rintro e w3⟨rfl,pp,kk⟩;have P3:=qh pp;have K3:=qh (K2.out.trans kk);clear pp kk CW K2 P2;go_wp2;go_roundw
     case rel=>exact⟨i+1,used+1+x.size,(acc++[32])++bs x,hlt,by first|(push_cast;rfl)|(refine congrArg _ ?_;omega),by push_cast;rfl,HA2,hle2.out,P3,K3⟩
     case measure=>simp[intOf];omega
    ·have hf':¬ ((used:Int)+1+(x.size:Int)<=(wd:Int)):=by omega
     have hA2:((acc++[10,32,32])++bs x)++yp wd (2+x.size) T (i+1)=R:=by
      rw[<-HA.out,qhc hiT h0 (by rw[hxT,hbx];exact hf),hxT,hbx];simp
     have HA2:=qh hA2;have hle2:=qh (show 2+x.size<=((acc++[10,32,32])++bs x).length by simp only[qc,hbx,qi,qo];omega);have CB:=qh (qa3 b b acc ⟨#[10,32,32]⟩ wr PW.out (by show acc.length+3<=_;omega) hbw);have CW:=qh (fun w' (h:BdW b b (acc++[10,32,32]) w') (hh:b<=w'.heap.size)=>qa3 b b (acc++[10,32,32]) x w' h (by simp only[qc,qi,qo];omega) hh);clear hA2 HA hxT hbx hiT hiD PW
     go_wp2_with fail
     refine CB.out.mono ?_;rintro e w2⟨rfl,pp,kk⟩;have P2:Hid (BdW b b (acc++[10,32,32]) w2):=qh pp;have K2:=qh (KW.out.trans kk);have hb2:b<=w2.heap.size:=ql hbw kk.bl.size;clear pp kk CB KW
     go_wp2_with fail
     refine(CW.out _ P2.out hb2).mono ?_;rintro e w3⟨rfl,pp,kk⟩;have P3:=qh pp;have K3:=qh (K2.out.trans kk);clear pp kk CW K2 P2;go_wp2;go_roundw
     case rel=>exact⟨i+1,2+x.size,(acc++[10,32,32])++bs x,hlt,by first|(push_cast;rfl)|(refine congrArg _ ?_;omega),by push_cast;rfl,HA2,hle2.out,P3,K3⟩
     case measure=>simp[intOf];omega
  ·have hlt':¬ ((i:Int) < (n:Int)):=by omega
   have hin:i=n:=by omega
   have PE:=qh (show BdW b b R wr by
    have h1:=HA.out;rw[hin,<-HTl.out,qjy (by rw[HTl.out];omega),List.append_nil]at h1;rw[<-h1]
    exact PW.out)
   have CE:=qh (qfq b b R wr PE.out hbw);clear HA PW
   go_wp2_with fail
   refine CE.out.mono ?_;rintro e w5⟨rfl,hb5⟩;have B5:=qh ((B1.out.trans KW.out.bl).trans hb5);clear hb5 CE;unfold S_;go_wp2;go_ret;exact⟨rfl,HB.out▸B5.out⟩
def q0s(wd:Nat)(D:List ByteArray)(i:Nat):List Value:=((D.take i).map fun l=>S_ (jr wd (Lib.split l.data.toList [32])))++(D.drop i).map Value.string
theorem qn9(wd:Nat)(D:List ByteArray)(i:Nat)(h:i < D.length):(q0s wd D i).set i (S_ (jr wd (Lib.split (D[i]).data.toList [32])))=q0s wd D (i+1):=by
 unfold q0s;rw[qw h,List.drop_eq_getElem_cons h,List.map_append,List.map_cons,List.set_append_right _ _ (by simp;omega)];simp[Nat.min_eq_left (vn h)]
theorem qdt(wd:Nat)(D:List ByteArray)(i:Nat)(h:i < D.length):(q0s wd D i)[i]?=some (.string D[i]):=by
 unfold q0s;rw[List.getElem?_append_right (by simp;omega)];simp[Nat.min_eq_left (vn h),List.getElem?_drop,h]
theorem qi6(wd:Nat)(D:List ByteArray):q0s wd D D.length=(D.map fun l=>(⟨(jr wd (Lib.split l.data.toList [32])).toArray⟩:ByteArray)).map Value.string:=by
 unfold q0s;simp[S_,Function.comp_def]
theorem qp2{w:World}{k i:Nat}{wd:Nat}{D:List ByteArray}(h:w.heap[k]?=some (.cells (q0s wd D i).toArray 9 (0,0)))(hi:i < D.length) :
  (w.setCell ⟨k,i,none⟩ (S_ (jr wd (Lib.split (D[i]).data.toList [32])))).heap[k]?=some (.cells (q0s wd D (i+1)).toArray 9 (0,0)):=by
 rw[<-qn9 wd D i hi];simp[World.setCell,Array.getElem?_modify,h]
theorem qay(t:Nd)(wd:Int)(v0 v1 v2:Value)(w:World)(ht:NdR w t v0 v1 v2)(hg:GLw w)(h2:2<=w.heap.size) :
  Calls Tryz.prog 20 #[.agg #[v0,v1,v2],.int .i64 wd] w fun e w'=>e = .returned (.tuple #[S_ (q11 t wd).1,.int .i64 (q11 t wd).2])/\Below w.heap.size w w':=by
 obtain⟨k,s,kl,a,cap,rfl,rfl,rfl,rfl,hs,hl⟩:=ht.form;obtain⟨W,hW⟩:∃ W,w.alloc (.cells #[.int .i64 k,.string s,.slice a kl.length cap] 25)=W:=⟨_,rfl⟩;have hb0:=(Below.refl w.heap.size w).alloc (q5 _) (.cells #[.int .i64 k,.string s,.slice a kl.length cap] 25);have R0:Row3 W w.heap.size (.int .i64 k) (.string s) (.slice a kl.length cap):=by rw[<-hW];exact Row3.new _ _ _ _
 rw[hW]at hb0;have gW:=hg.keep fun b hb hl=>hb0.block b hl
 have tW:=ht.later hb0;have hsW:W.heap.size=w.heap.size+1:=by rw[<-hW];simp
 have CC:=qh (q1n (.mk k s kl) W _ _ _ tW);obtain⟨c,hc⟩:∃ c,xv (.mk k s kl)=c:=⟨_,rfl⟩;obtain⟨r,hr⟩:∃ r,q11 (.mk k s kl) wd=r:=⟨_,rfl⟩;rw[hr];unfold q11 at hr;rw[hc]at CC hr;have HB:=qh hb0;have HW:=qh hW;have HR:=qh R0;have HS:=qh hsW;have GW:=qh gW;have TW:=qh tW
 by_cases h0:c=0
 ·subst h0
  rw[qa rfl]at hr;have hc0:(((0:Nat):Int) != 0)=false:=rfl
  by_cases hwd:wd < 20\/200 < wd
  ·rw[qa hwd]at hr
   subst hr;obtain⟨⟨n0,n1,n2⟩,_⟩:=R0.cells;clear hc ht hg hW hb0 gW tW R0 hsW
   by_cases h20:wd < 20
   ·go_enter Tryz.func20,Tryz.ntmps20
    go_upto_region 1 with fail
    rw[HW.out]
    go_wp2_with fail
    refine CC.out.mono ?_;rintro e w1⟨rfl,hb⟩;have B1:=qh hb;clear hb CC n0 n1 n2;go_wp2;go_ret2;exact⟨rfl,HB.out.trans (B1.out.mono (by have:=HS.out;omega))⟩
   ·have h200:200 < wd:=by omega
    go_enter Tryz.func20,Tryz.ntmps20
    go_upto_region 1 with fail
    rw[HW.out]
    go_wp2_with fail
    refine CC.out.mono ?_;rintro e w1⟨rfl,hb⟩;have B1:=qh hb;clear hb CC n0 n1 n2;go_wp2;go_ret2;exact⟨rfl,HB.out.trans (B1.out.mono (by have:=HS.out;omega))⟩
  ·rw[q7 hwd]at hr
   obtain⟨m,rfl⟩:∃ m:Nat,wd=m:=⟨wd.toNat,by omega⟩;have hm1:¬ ((m:Int) < 20):=by omega
   have hm2:¬ (200 < (m:Int)):=by omega
   have hm200:m<=200:=by omega
   rw[Int.toNat_natCast]at hr;obtain⟨hok,hsz⟩:=q4d hc;have hlen:=qa9 hok;have CP:=qh (fun w' (hb:Below W.heap.size W w')=>q5w (.mk k s kl) hc _ _ _ w' (TW.out.later hb) (GW.out.keep fun b h1 h3=>hb.block b h3) (by have:=hb.size;have:=HS.out;omega));obtain⟨T,hT⟩:∃ T,(Nd.mk k s kl).whl=T:=⟨_,rfl⟩;rw[hT]at CP hr hlen;have hTl:T.length<=800000:=by omega
   obtain⟨TB,hTB⟩:∃ TB:ByteArray,TB=⟨T.toArray⟩:=⟨_,rfl⟩;have hTBs:TB.size=T.length:=by rw[hTB];simp[ByteArray.size]
   have hTBd:TB.data.toList=T:=by rw[hTB]
   have CS:=qh (fun w'=>qjm TB 10 w' (by omega));have hsl:=q7n TB 10;have hDl:=q2u TB 10;have hjn:=qi7 m TB;obtain⟨D,hD⟩:∃ D,Lib.splitB ⟨#[10]⟩ 0 (Lib.countB TB ⟨#[10]⟩) TB=D:=⟨_,rfl⟩;obtain⟨n,hn⟩:∃ n,Lib.countB TB ⟨#[10]⟩+1=n:=⟨_,rfl⟩;simp only[hD,hn]at hsl hDl hjn CS;rw[hTBd]at hjn;have hn1:n<=800001:=by omega
   have hDs:∀ i (h:i < D.length),(D[i]).size<=10000000:=fun i h=>by have:=qbl h;omega
   have hll:=qdu m D;have hje:=qp7 (q56 m D);have hml:(q56 m D).length=n:=by unfold q56;rw[qv,hDl]
   rw[hjn,hml]at hje;rw[hDl]at hll;have hLL:(kw m T).length<=10000000:=by omega
   obtain⟨xs,hxs⟩:∃ xs:List ByteArray,(D.map fun l=>(⟨(jr m (Lib.split l.data.toList [32])).toArray⟩:ByteArray))=xs:=⟨_,rfl⟩;have hxl:xs.length=n:=by rw[<-hxs,qv,hDl]
   have hxj:Lib.join (xs.map (·.data.toList)) (⟨#[10]⟩:ByteArray).data.toList=kw m T:=by
    rw[<-hjn,<-hxs];simp[q56,Function.comp_def]
   have hxv:q0s m D n=xs.map Value.string:=by rw[<-hDl,qi6,hxs]
   have CJ:=qh (fun w' kk (hk:w'.heap[kk]?=some (.cells (q0s m D n).toArray 9 (0,0)))=>Tryz.strings_Join kk 0 n xs ⟨#[10]⟩ w' (fun j x hj=>by
    rw[Nat.zero_add,qk _ _ _ _ _ _ hk,hxv]
    simp[hj]) (za hk) (by omega) (by omega) (by rw[hxj];omega))
   simp only[hxl,hxj]at CJ
   have CL:Hid (∀ w':World,Calls Tryz.prog 46 #[.string ⟨(kw m T).toArray⟩] w' fun e w''=>e = .returned (.tuple #[.string ⟨r.1.toArray⟩,.int .i64 r.2])/\Below w'.heap.size w' w''):=qh (fun w'=>(q7y ⟨(kw m T).toArray⟩ w' (by show(kw m T).toArray.size<=maxLen;unfold maxLen;simp;omega)).mono fun e w'' ⟨he,hb⟩=>⟨by
    rw[he,<-hr,zr]
    cases Lx.scan (kw m T) <;> rfl,hb⟩)
   obtain⟨J,hJ⟩:∃ J,(kw m T).toArray=J:=⟨_,rfl⟩;rw[hJ]at CL CJ;have CD:=qh (fun i (h:i < D.length) w'=>qnb D[i] m w' (hDs i h) hm200);obtain⟨⟨n0,n1,n2⟩,_⟩:=R0.cells;unfold S_ at CP;rw[<-hTB]at CP;unfold S_;obtain⟨r1,r2⟩:=r;simp only at CL ⊢;have HDl:=qh hDl;clear hT hlen hok hc hr ht hg hW hb0 gW tW R0 hsW hsz hTl hTB hTBs hTBd hsl hDl hjn hD hn hDs hll hje hml hLL hxs hxl hxj hxv hJ hwd;go_enter Tryz.func20,Tryz.ntmps20
   go_upto_region 1 with fail
   rw[HW.out]
   go_wp2_with fail
   refine CC.out.mono ?_;rintro e w1⟨rfl,hb⟩;have B1:=qh hb;have R1:=qh (HR.out.below hb HR.out.lt);clear hb CC n0 n1 n2;obtain⟨⟨n0,n1,n2⟩,_⟩:=R1.out.cells
   go_wp2_with fail
   refine(CP.out _ B1.out).mono ?_;rintro e w2⟨rfl,hb⟩;have B2:=qh (B1.out.trans (hb.mono B1.out.size));clear hb CP n0 n1 n2
   go_wp2_with fail
   refine(CS.out _).mono ?_;rintro e w3⟨rfl,hw3⟩;obtain⟨kb,hkb⟩:∃ kb,w2.heap.size=kb:=⟨_,rfl⟩;rw[hkb]
   have X3:=qh (show w3.heap[kb]?=some (.cells (q0s m D 0).toArray 9 (0,0))by
    rw[hw3,<-hkb];have:=qm w2 (.cells (D.map Value.string).toArray 9)
    simpa[q0s]using this)
   have B3:=qh (show Below kb w2 w3 from hw3▸(hkb▸Below.refl w2.heap.size w2).alloc (by omega) _);have HK:=qh hkb;clear hw3 hkb CS
   go_wp2_with fail
   go_loopw [26] (fun v26 wr=>∃ i:Nat,i<=n/\v26 = .int .i64 i/\Hid (wr.heap[kb]?=some (.cells (q0s m D i).toArray 9 (0,0)))/\Hid (Below kb w3 wr)) (fun v26 _=>n - (intOf v26).toNat)
   case atStart=>exact⟨0,qp _,rfl,X3,qh (Below.refl _ _)⟩
   case round =>
    obtain⟨i,hi,rfl,XI,BI⟩:=hrel
    by_cases hlt:i < n
    ·have hlt':(i:Int) < (n:Int):=by omega
     have hi0:(0:Int)<=(i:Int):=by omega
     have hiD:i < D.length:=by rw[HDl.out];exact hlt
     have x0:wr.cell? ⟨kb,i,none⟩=some (.string D[i]):=by
      rw[qk _ _ _ _ _ _ XI.out];have:=qdt m D i hiD;simpa using this
     have C1:=qh (CD.out i hiD wr);have hklt:=za XI.out;have HS1:=qh (fun(w':World) (h:w'.heap[kb]?=some (.cells (q0s m D i).toArray 9 (0,0)))=>qp2 h hiD);have HG:=qh (qdt m D i hiD);obtain⟨y,hy⟩:∃ y,D[i]=y:=⟨_,rfl⟩;rw[hy]at x0 HS1 HG;simp only[hy]at C1;have e9:bs y=y.data.toList:=rfl;simp only[e9]at C1;obtain⟨Z,hZ⟩:∃ Z,jr m (Lib.split y.data.toList [32])=Z:=⟨_,rfl⟩;simp only[hZ]at C1 HS1;unfold S_ at C1 HS1;clear hy hZ e9
     go_wp2_with fail
     refine C1.out.mono ?_;rintro e w5⟨rfl,hb5⟩;have r5:w5.heap[kb]?=some (.cells (q0s m D i).toArray 9 (0,0)):=(hb5.block kb hklt).trans XI.out
     have c5:w5.cell? ⟨kb,i,none⟩=some (.string y):=by
      rw[qk _ _ _ _ _ _ r5];simpa using HG.out
     have f5:w5.frozen? ⟨kb,i,none⟩=false:=Lib.frozen_of_heap r5 i;have X6:=qh (HS1.out w5 r5);have B6:=qh ((BI.out.trans (hb5.mono (vn hklt))).setCell (p:=⟨kb,i,none⟩) (q5 _) (.string ⟨Z.toArray⟩));clear r5 hb5 C1 x0 HG HS1;go_wp2;go_roundw
     case rel=>exact⟨i+1,hlt,by push_cast;rfl,X6,B6⟩
     case measure=>simp[intOf];omega
    ·have hlt':¬ ((i:Int) < (n:Int)):=by omega
     have hin:i=n:=by omega
     have CJ1:=qh (CJ.out wr kb (hin▸XI.out));have BZ:=qh (show Below kb w2 wr from B3.out.trans BI.out);clear XI BI CJ
     go_wp2_with fail
     refine CJ1.out.mono ?_;rintro e w5⟨rfl,hb5⟩;have B5:=qh (hb5.mono (show kb<=wr.heap.size by have h1:=BZ.out.size;have h2:=HK.out;omega));clear hb5 CJ1
     go_wp2_with fail
     refine(CL.out _).mono ?_;rintro e w6⟨rfl,hb6⟩;have B6:=qh (hb6.mono (show kb<=w5.heap.size by have h1:=BZ.out.size;have h2:=HK.out;have h3:=B5.out.size;omega));clear hb6 CL;go_wp2;go_ret2;exact⟨rfl,HB.out.trans ((B2.out.trans (((BZ.out.trans B5.out).trans B6.out).mono (by have h1:=HK.out;have h2:=B2.out.size;omega))).mono (by have:=HS.out;omega))⟩
 ·rw[q7 h0]at hr
  have hc0:((c:Int)==0)=false:=by rw[q9];exact h0
  have hc1:((c:Int) != 0)=true:=by rw[bne_iff_ne];exact h0
  subst hr;obtain⟨⟨n0,n1,n2⟩,_⟩:=R0.cells;clear hc ht hg hW hb0 gW tW R0 hsW h0;go_enter Tryz.func20,Tryz.ntmps20
  go_upto_region 1 with fail
  rw[HW.out]
  go_wp2_with fail
  refine CC.out.mono ?_;rintro e w1⟨rfl,hb⟩;have B1:=qh hb;clear hb CC n0 n1 n2;go_wp2;go_ret2;exact⟨rfl,HB.out.trans (B1.out.mono (by have:=HS.out;omega))⟩
end Go.Proofs.YtkckddojlignpaaGreatDoor
namespace Go.Proofs.YtkckddojlignpaaGreatDoor
open Go.RowKit
def q05(i:Int):Int:=if i=0 then 1 else if i=1 then 18 else if i=2 then 17 else 31
theorem qgp(i:Int):q05 i=1\/q05 i=18\/q05 i=17\/q05 i=31:=by
 unfold q05
 repeat' split
 all_goals simp
theorem NodeIs.box{H B:Nat}{W1:World}{k:Int}{s:ByteArray}{a:Option Addr}{n c:Nat}{o:Option Nd}(h:NodeIs B W1 k s a n c o)(hB:B=H+1)(u0 u1 u2:Value):NodeIs H (((W1.setCell ⟨H,0,none⟩ u0).setCell ⟨H,1,none⟩ u1).setCell ⟨H,2,none⟩ u2) k s a n c o:=by
 subst hB
 cases o with
 |none=>exact h
 |some t =>
  show NdS (fun b=>H<=b) _ t (.int .i64 k) (.string s) (.slice a n c)
  exact(show NdS (fun b=>H+1<=b) W1 t (.int .i64 k) (.string s) (.slice a n c) from h).keep fun b (h1:H+1<=b) _=>⟨(Below.heap_setCell _ _ _ _ (show b≠H by omega)).trans ((Below.heap_setCell _ _ _ _ (show b≠H by omega)).trans (Below.heap_setCell _ _ _ _ (show b≠H by omega))),show H<=b by omega⟩
theorem qkg(s:ByteArray){o:Option Nd}{p er:Nat}(hp:x3 (bs s) 1=(o,p,er))(w:World)(hw:2<=w.heap.size)(gl:GLw w)(hs:s.size<=maxLen) :
  Calls Tryz.prog 32 #[.string s,.int .i64 0] w (wb (o,p,er) w):=by
 have hb0:=(Below.refl w.heap.size w).alloc (q5 _) (.cells #[.int .i64 0,.string ⟨#[]⟩,.slice none 0 0] 25);have C:=qh (qc1 s (w.alloc (.cells #[.int .i64 0,.string ⟨#[]⟩,.slice none 0 0] 25)) (by simp;omega) (gl.keep fun b hb1 hb2=>hb0.block b hb2) hs);rw[hp]at C;have HB:=qh hb0;have R1:=qh (Row3.new w (.int .i64 0) (.string ⟨#[]⟩) (.slice none 0 0));clear hp hb0 gl hw;go_enter Tryz.func32,Tryz.ntmps32
 go_wp2_with fail
 refine C.out.mono ?_;intro e w1 hq;obtain⟨k,sx,a,n,c,rfl,hb,hn⟩:=hq;have R2:=qh (R1.out.below hb R1.out.lt);have HB1:=qh hb;have HN:=qh hn;clear hb hn C;obtain⟨⟨n0,n1,n2⟩,m0,m1,m2⟩:=R2.out.cells;go_wp2;refine yi (Row3.put R2.out _ _ _) rfl rfl rfl rfl rfl ⟨k,sx,a,n,c,rfl,?_,HN.out.box (q6 _ _) _ _ _⟩;exact(((HB.out.trans (HB1.out.mono (by simp))).setCell (p:=⟨w.heap.size,0,none⟩) (q5 _) _).setCell (p:=⟨w.heap.size,1,none⟩) (q5 _) _).setCell (p:=⟨w.heap.size,2,none⟩) (q5 _) _
theorem qkf(s:ByteArray){o:Option Nd}{p er:Nat}(hp:x3 (bs s) 18=(o,p,er))(w:World)(hw:2<=w.heap.size)(gl:GLw w)(hs:s.size<=maxLen) :
  Calls Tryz.prog 32 #[.string s,.int .i64 1] w (wb (o,p,er) w):=by
 have hb0:=(Below.refl w.heap.size w).alloc (q5 _) (.cells #[.int .i64 0,.string ⟨#[]⟩,.slice none 0 0] 25);have C:=qh (q2r s (w.alloc (.cells #[.int .i64 0,.string ⟨#[]⟩,.slice none 0 0] 25)) (by simp;omega) (gl.keep fun b hb1 hb2=>hb0.block b hb2) hs);rw[hp]at C;have HB:=qh hb0;have R1:=qh (Row3.new w (.int .i64 0) (.string ⟨#[]⟩) (.slice none 0 0));clear hp hb0 gl hw;go_enter Tryz.func32,Tryz.ntmps32
 go_wp2_with fail
 refine C.out.mono ?_;intro e w1 hq;obtain⟨k,sx,a,n,c,rfl,hb,hn⟩:=hq;have R2:=qh (R1.out.below hb R1.out.lt);have HB1:=qh hb;have HN:=qh hn;clear hb hn C;obtain⟨⟨n0,n1,n2⟩,m0,m1,m2⟩:=R2.out.cells;go_wp2;refine yi (Row3.put R2.out _ _ _) rfl rfl rfl rfl rfl ⟨k,sx,a,n,c,rfl,?_,HN.out.box (q6 _ _) _ _ _⟩;exact(((HB.out.trans (HB1.out.mono (by simp))).setCell (p:=⟨w.heap.size,0,none⟩) (q5 _) _).setCell (p:=⟨w.heap.size,1,none⟩) (q5 _) _).setCell (p:=⟨w.heap.size,2,none⟩) (q5 _) _
theorem qke(s:ByteArray){o:Option Nd}{p er:Nat}(hp:x3 (bs s) 17=(o,p,er))(w:World)(hw:2<=w.heap.size)(gl:GLw w)(hs:s.size<=maxLen) :
  Calls Tryz.prog 32 #[.string s,.int .i64 2] w (wb (o,p,er) w):=by
 have hb0:=(Below.refl w.heap.size w).alloc (q5 _) (.cells #[.int .i64 0,.string ⟨#[]⟩,.slice none 0 0] 25);have C:=qh (qcd s (w.alloc (.cells #[.int .i64 0,.string ⟨#[]⟩,.slice none 0 0] 25)) (by simp;omega) (gl.keep fun b hb1 hb2=>hb0.block b hb2) hs);rw[hp]at C;have HB:=qh hb0;have R1:=qh (Row3.new w (.int .i64 0) (.string ⟨#[]⟩) (.slice none 0 0));clear hp hb0 gl hw;go_enter Tryz.func32,Tryz.ntmps32
 go_wp2_with fail
 refine C.out.mono ?_;intro e w1 hq;obtain⟨k,sx,a,n,c,rfl,hb,hn⟩:=hq;have R2:=qh (R1.out.below hb R1.out.lt);have HB1:=qh hb;have HN:=qh hn;clear hb hn C;obtain⟨⟨n0,n1,n2⟩,m0,m1,m2⟩:=R2.out.cells;go_wp2;refine yi (Row3.put R2.out _ _ _) rfl rfl rfl rfl rfl ⟨k,sx,a,n,c,rfl,?_,HN.out.box (q6 _ _) _ _ _⟩;exact(((HB.out.trans (HB1.out.mono (by simp))).setCell (p:=⟨w.heap.size,0,none⟩) (q5 _) _).setCell (p:=⟨w.heap.size,1,none⟩) (q5 _) _).setCell (p:=⟨w.heap.size,2,none⟩) (q5 _) _
theorem qkd(s:ByteArray){o:Option Nd}{p er:Nat}(hp:x3 (bs s) 31=(o,p,er))(w:World)(hw:2<=w.heap.size)(gl:GLw w)(hs:s.size<=maxLen) :
  Calls Tryz.prog 32 #[.string s,.int .i64 3] w (wb (o,p,er) w):=by
 have hb0:=(Below.refl w.heap.size w).alloc (q5 _) (.cells #[.int .i64 0,.string ⟨#[]⟩,.slice none 0 0] 25);have C:=qh (qcc s (w.alloc (.cells #[.int .i64 0,.string ⟨#[]⟩,.slice none 0 0] 25)) (by simp;omega) (gl.keep fun b hb1 hb2=>hb0.block b hb2) hs);rw[hp]at C;have HB:=qh hb0;have R1:=qh (Row3.new w (.int .i64 0) (.string ⟨#[]⟩) (.slice none 0 0));clear hp hb0 gl hw;go_enter Tryz.func32,Tryz.ntmps32
 go_wp2_with fail
 refine C.out.mono ?_;intro e w1 hq;obtain⟨k,sx,a,n,c,rfl,hb,hn⟩:=hq;have R2:=qh (R1.out.below hb R1.out.lt);have HB1:=qh hb;have HN:=qh hn;clear hb hn C;obtain⟨⟨n0,n1,n2⟩,m0,m1,m2⟩:=R2.out.cells;go_wp2;refine yi (Row3.put R2.out _ _ _) rfl rfl rfl rfl rfl ⟨k,sx,a,n,c,rfl,?_,HN.out.box (q6 _ _) _ _ _⟩;exact(((HB.out.trans (HB1.out.mono (by simp))).setCell (p:=⟨w.heap.size,0,none⟩) (q5 _) _).setCell (p:=⟨w.heap.size,1,none⟩) (q5 _) _).setCell (p:=⟨w.heap.size,2,none⟩) (q5 _) _
theorem q7u(s:ByteArray)(i:Int)(hi:i=0\/i=1\/i=2\/i=3){o:Option Nd}{p er:Nat}(hp:x3 (bs s) (q05 i)=(o,p,er))(w:World)(hw:2<=w.heap.size)(gl:GLw w)(hs:s.size<=maxLen) :
  Calls Tryz.prog 32 #[.string s,.int .i64 i] w (wb (o,p,er) w):=by
 rcases hi with rfl|rfl|rfl|rfl
 ·exact qkg s hp w hw gl hs
 ·exact qkf s hp w hw gl hs
 ·exact qke s hp w hw gl hs
 ·exact qkd s hp w hw gl hs
mutual
theorem qcz:∀ t:Nd,ki t t=true
 | .mk k s l=>by simp only[ki,qd0 l,beq_self_eq_true,Bool.and_self]
theorem qd0:∀ l:List Nd,ju l l=true
 |[]=>by simp only[ju]
 |a :: l=>by simp only[ju,qcz a,qd0 l,Bool.and_self]
end
end Go.Proofs.YtkckddojlignpaaGreatDoor
namespace Go.Proofs.YtkckddojlignpaaGreatDoor
def Nd.k':Nd->Int| .mk k _ _=>k
def Nd.s':Nd->ByteArray| .mk _ s _=>s
def It.fr(x:It):Bool:=(x.t.k'==15||x.t.k'==16) && (!x.wd && !Lib.containsS x.ins x.t.s')
def occ(kind:Int)(out:List ByteArray)(x:It):List ByteArray :=
 if(x.t.k'==kind && (x.fr && !Lib.containsS out x.t.s'))=true then out++[x.t.s'] else out
theorem qqw{x:It}{k:Int}{s:ByteArray}{l:List Nd}(h:x.t = .mk k s l){V:Bool}(hV:((k==15||k==16) && (!x.wd && !Lib.containsS x.ins s))=V)(kind:Int)(out:List ByteArray) :
  occ kind out x=if(k==kind && (V && !Lib.containsS out s))=true then out++[s] else out:=by
 subst hV;obtain⟨d,ins,wd,t⟩:=x;subst h;rfl
def q10(kind:Int)(its:List It):List ByteArray:=its.foldl (occ kind) []
theorem qks(kind:Int)(its:List It)(x:It):q10 kind (its++[x])=occ kind (q10 kind its) x:=by
 unfold q10;rw[List.foldl_append];rfl
theorem qox(kind:Int)(out:List ByteArray)(x:It):(occ kind out x).length<=out.length+1:=by
 unfold occ
 split
 ·simp
 ·omega
theorem qbe(kind:Int):∀ (its:List It) (out:List ByteArray),(its.foldl (occ kind) out).length<=out.length+its.length
 |[],out=>by simp
 |x :: l,out=>by
  have h1:=qbe kind l (occ kind out x);have h2:=qox kind out x;simp only[List.foldl_cons,qi];omega
theorem qn3(kind:Int)(its:List It):(q10 kind its).length<=its.length:=by
 have:=qbe kind its [];unfold q10;simpa using this
mutual
theorem qgf(d:Nat)(ins:List ByteArray)(wd:Bool):∀ t:Nd,∀ x∈xm d ins wd t,x.ins.length<=ins.length+t.sz
 | .mk k s l,x,hx=>by
  simp only[xm,List.mem_cons]at hx;simp only[Nd.sz];rcases hx with rfl|hx
  ·simp only;omega
  ·have:=qdz (d+1) ins (if y3 k then ins++[s] else ins) (k==7) l (by split <;> simp) x hx
   omega
theorem qdz(d:Nat)(ins il:List ByteArray)(wd:Bool):∀ l:List Nd,il.length<=ins.length+1->∀ x∈vu d ins il wd l,x.ins.length<=ins.length+1+Nd.szL l
 |[],_,x,hx=>by simp[vu]at hx
 |a :: l,h,x,hx=>by
  simp only[vu,List.mem_append]at hx;simp only[Nd.szL];rcases hx with hx|hx
  ·have h1:=qgf d _ wd a x hx
   split at h1 <;> omega
  ·have:=qdz d ins il wd l h x hx
   omega
end
mutual
def qrh(kind:Int)(bound out:List ByteArray):Nd->List ByteArray
 | .mk k s l=>if k=7 then out else qoc kind bound (if y3 k then bound++[s] else bound) (if(k==kind && !Lib.containsS bound s) && !Lib.containsS out s then out++[s] else out) l
def qoc(kind:Int)(ins il out:List ByteArray):List Nd->List ByteArray
 |[]=>out
 |a :: l=>qoc kind ins il (qrh kind (if l.isEmpty then il else ins) out a) l
end
mutual
def q53:Nd->Prop
 | .mk k _ l=>if k=7 then ∀ x∈l,∃ k s,x = .mk k s [] else mdL l
def mdL:List Nd->Prop
 |[]=>True
 |a :: l=>q53 a/\mdL l
end
mutual
def smN:Nd->Prop
 | .mk _ s l=>s.size<=64/\smL l
def smL:List Nd->Prop
 |[]=>True
 |a :: l=>smN a/\smL l
end
theorem qfy:∀ l:List Nd,smL l↔∀ x∈l,smN x
 |[]=>by simp[smL]
 |a :: l=>by simp only[smL,List.forall_mem_cons];rw[qfy l]
theorem qga:∀ l:List Nd,mdL l↔∀ x∈l,q53 x
 |[]=>by simp[mdL]
 |a :: l=>by simp only[mdL,List.forall_mem_cons];rw[qga l]
mutual
theorem qjq(d:Nat)(ins:List ByteArray)(wd:Bool):∀ t:Nd,smN t->∀ x∈xm d ins wd t,x.t.s'.size<=64
 | .mk k s l,h,x,hx=>by
  simp only[xm,List.mem_cons]at hx;simp only[smN]at h;rcases hx with rfl|hx
  ·exact h.1
  ·exact qfx (d+1) ins _ _ l h.2 x hx
theorem qfx(d:Nat)(ins il:List ByteArray)(wd:Bool):∀ l:List Nd,smL l->∀ x∈vu d ins il wd l,x.t.s'.size<=64
 |[],_,x,hx=>by simp[vu]at hx
 |a :: l,h,x,hx=>by
  simp only[vu,List.mem_append]at hx;simp only[smL]at h;rcases hx with hx|hx
  ·exact qjq d _ wd a h.1 x hx
  ·exact qfx d ins il wd l h.2 x hx
end
def nm_(c:UInt8):Nd:=.mk 15 ⟨#[c]⟩ []
def qh0:Nd:=.mk 25 ⟨#[]⟩ [nm_ 97,.mk 23 ⟨#[]⟩ [.mk 22 ⟨#[]⟩ [nm_ 98,nm_ 99],nm_ 100]]
def qgz:Nd:=.mk 27 ⟨#[]⟩ [.mk 27 ⟨#[]⟩ [nm_ 97,.mk 28 ⟨#[]⟩ [nm_ 98,nm_ 99]],nm_ 100]
def qgy:Nd:=.mk 22 ⟨#[]⟩ [.mk 29 ⟨#[]⟩ [.mk 18 ⟨#[120]⟩ [.mk 15 ⟨#[112]⟩ [nm_ 120]]],nm_ 113]
def qaa:Nd:=.mk 16 ⟨#[88]⟩ []
def q4g:Nd:=.mk 1 ⟨#[]⟩ [.mk 4 ⟨#[112]⟩ [nm_ 105,.mk 31 ⟨#[]⟩ [nm_ 105,nm_ 105]],.mk 8 ⟨#[114]⟩ [.mk 27 ⟨#[]⟩ [.mk 15 ⟨#[112]⟩ [qaa],.mk 15 ⟨#[113]⟩ [qaa]]]]
abbrev qgx:ByteArray:={ data:=#[97,32,45,111,32,98,32,42,32,99,32,38,32,100] }
abbrev qq1:ByteArray:={ data:=#[97,32,111,45,32,40,98,32,60,61,32,99,41,32,111,45,32,40,40,100,41,41] }
abbrev qq0:ByteArray:={ data:=#[97,32,45,111] }
abbrev qpz:ByteArray:={ data:=#[97,32,41,32,98] }
abbrev qpy:ByteArray:={ data:=#[112,114,101,100,32,112,32,105,32,40,105,32,45,62,32,105,41,46,32,114,117,108,101,32,114,58,32,112,32,88,32,111,45,32,113,32,88,46] }
theorem qqr:x3 (bs qgx) 18=(some qh0,0,0):=by kernel_rfl
theorem qqq:x3 (bs qq1) 18=(some qgz,0,0):=by kernel_rfl
theorem qqp:x3 (bs qq0) 18=(none,4,20):=by kernel_rfl
theorem qqo:x3 (bs qpz) 18=(none,2,20):=by kernel_rfl
theorem qqn:x3 (bs qpy) 1=(some q4g,0,0):=by kernel_rfl
abbrev qqv:ByteArray:={ data:=#[97,32,111,45,32,40,98,32,60,61,32,99,41,32,111,45,32,100] }
abbrev qqu:ByteArray:={ data:=#[33,40,97,108,108,32,120,46,32,112,32,120,41,32,42,32,113] }
abbrev qqt:ByteArray:={ data:=#[112,114,101,100,32,112,32,105,32,40,105,32,45,62,32,105,41,46,10,114,117,108,101,32,114,58,32,112,32,88,32,111,45,32,113,32,88,46,10] }
theorem qql:zx qh0=(bs qgx,0):=by kernel_rfl
theorem qqk:zx qgz=(bs qqv,0):=by kernel_rfl
theorem qqj:zx qgy=(bs qqu,0):=by kernel_rfl
theorem qqi:zx q4g=(bs qqt,0):=by kernel_rfl
theorem qrd:q10 16 (xm 0 [] false q4g)=[⟨#[88]⟩]:=by kernel_rfl
theorem qpx:xv q4g=0:=by kernel_rfl
end Go.Proofs.YtkckddojlignpaaGreatDoor
namespace Go.Proofs.YtkckddojlignpaaGreatDoor
open Go.RowKit Go.Shelf
theorem q97{n₁:Nat}{w:World}{a:Option Addr}{n c:Nat}{ss:List ByteArray}(h:x9 n₁ w (.slice a n c) ss) :
  n=ss.length/\(ss=[]\/∃ g,a=some ⟨g,0,none⟩/\∀ j,j < ss.length->w.cell? ⟨g,0+j,none⟩=some (.string (ss.getD j ByteArray.empty))):=by
 have h':w.ownsRow n₁ 9 1 (.slice a n c) (ss.map Value.string).length (ss.map Value.string):=h;obtain⟨a',c',e⟩:=yh h'
 cases e;refine⟨by simp,?_⟩;rcases h'.2 with ⟨_,h0⟩|⟨g,cap,cur,hv,_⟩
 ·left
  simpa using h0
 ·right
  cases hv;refine⟨g,rfl,fun j hj=>?_⟩
  have hc:=h'.cells (g:=g) rfl j (.string (ss.getD j ByteArray.empty)) (by
   rw[List.getElem?_map,List.getD_eq_getElem?_getD,qj hj]
   rfl)
  have hadd:(⟨g,0,none⟩:Addr).add j=⟨g,0+j,none⟩:=by unfold Addr.add;split <;> simp_all
  rwa [hadd]at hc
theorem qca(x:ByteArray):Lib.containsS [] x=false:=by
 rw[<-Bool.not_eq_true,Lib.containsS_iff];simp
theorem qea{n₁:Nat}(w:World)(a:Option Addr)(n c:Nat)(ss:List ByteArray)(x:ByteArray)(h:x9 n₁ w (.slice a n c) ss)(hl:ss.length<=9000000000000000000) :
  Calls Tryz.prog 61 #[.slice a n c,.string x] w fun e w'=>e = .returned (.bool (Lib.containsS ss x))/\w'=w:=by
 obtain⟨rfl,h0|⟨g,rfl,hc⟩⟩:=q97 h
 ·subst h0
  rw[qca];exact Tryz.slices_Contains_string_empty a c x w
 ·refine(Tryz.slices_Contains_string g 0 ss.length c ss x w (q5 _) (by omega) hc).mono ?_
  rintro e w'⟨rfl,rfl⟩;rw[qt (q5 _)];exact⟨rfl,rfl⟩
theorem qlh(n₁:Nat)(ap ai:Option Addr)(np cp ni ci:Nat)(wd:Bool)(k:Int)(s:ByteArray)(a:Option Addr)(n cap:Nat)(ss:List ByteArray)(w:World)(hi:x9 n₁ w (.slice ai ni ci) ss)(hl:ss.length<=90000) :
  Calls Tryz.prog 60 #[.agg #[.slice ap np cp,.slice ai ni ci,.bool wd],.agg #[.int .i64 k,.string s,.slice a n cap]] w fun e w'=>e = .returned (.bool ((k==15||k==16) && (!wd && !Lib.containsS ss s)))/\Below w.heap.size w w':=by
 obtain⟨W,hW⟩:∃ W,(w.alloc (.cells #[.slice ap np cp,.slice ai ni ci,.bool wd] 85)).alloc (.cells #[.int .i64 k,.string s,.slice a n cap] 25)=W:=⟨_,rfl⟩;have hb:Below w.heap.size w W:=by rw[<-hW];exact((Below.refl _ w).alloc (q5 _) _).alloc (by simp) _
 have hi2:x9 n₁ W (.slice ai ni ci) ss:=zd hi fun g e=>hb.block g (World.ownsRow.lt hi g e).2
 have CC:=qh (qea W ai ni ci ss s hi2 (by omega));obtain⟨V,hV⟩:∃ V,Lib.containsS ss s=V:=⟨_,rfl⟩;rw[hV]at CC ⊢;have HB:=qh hb;have HW:=qh hW;have hA:RowP W w.heap.size (.slice ap np cp) (.slice ai ni ci) (.bool wd):=by rw[<-hW];exact(Below.heap_alloc _ _ _ (by simp only[q6];omega)).trans (qm _ _)
 have hN:Row3 W (w.heap.size+1) (.int .i64 k) (.string s) (.slice a n cap):=by rw[<-hW];exact x6 (by simp)
 obtain⟨⟨p0,p1,p2⟩,_⟩:=hA.cells;obtain⟨⟨n0,n1,n2⟩,_⟩:=hN.cells;obtain⟨X,hX⟩:∃ X,(k==15||k==16)=X:=⟨_,rfl⟩;rw[hX];have HX:=qh hX;clear hV hb hW hi hi2 hA hN hX hl
 cases h15:(k==15)with
 |true =>
  have HE:Hid (X=true):=qh (by rw[<-HX.out,h15];rfl);clear HX
  cases wd with
  |true =>
   go_enter Tryz.func60,Tryz.ntmps60
   go_upto_region 1 with fail
   rw[HW.out];go_wp2;go_ret;exact⟨by rw[HE.out];rfl,HB.out⟩
  |false =>
   go_enter Tryz.func60,Tryz.ntmps60
   go_upto_region 1 with fail
   rw[HW.out]
   go_wp2_with fail
   refine CC.out.mono ?_;rintro e w1⟨rfl,rfl⟩;go_wp2;go_ret;exact⟨by rw[HE.out];rfl,HB.out⟩
 |false =>
  cases h16:(k==16)with
  |true =>
   have HE:Hid (X=true):=qh (by rw[<-HX.out,h15,h16];rfl);clear HX
   cases wd with
   |true =>
    go_enter Tryz.func60,Tryz.ntmps60
    go_upto_region 1 with fail
    rw[HW.out];go_wp2;go_ret;exact⟨by rw[HE.out];rfl,HB.out⟩
   |false =>
    go_enter Tryz.func60,Tryz.ntmps60
    go_upto_region 1 with fail
    rw[HW.out]
    go_wp2_with fail
    refine CC.out.mono ?_;rintro e w1⟨rfl,rfl⟩;go_wp2;go_ret;exact⟨by rw[HE.out];rfl,HB.out⟩
  |false =>
   have HE:Hid (X=false):=qh (by rw[<-HX.out,h15,h16];rfl);clear HX;go_enter Tryz.func60,Tryz.ntmps60
   go_upto_region 1 with fail
   rw[HW.out];go_wp2;go_ret;exact⟨by rw[HE.out];rfl,HB.out⟩
def q25(out:List ByteArray):List (List UInt8×Value):=out.map fun s=>(bs s,.bool true)
theorem qrq(s:ByteArray):S_ (bs s) = .string s:=rfl
theorem qbq(out:List ByteArray)(s:ByteArray):js (q25 out) (bs s)=if Lib.containsS out s=true then some (.bool true) else none:=by
 unfold js q25;rw[List.find?_map]
 by_cases h:s∈out
 ·rw[qa ((Lib.containsS_iff _ _).2 h)]
  cases hf:out.find? ((fun p:List UInt8×Value=>p.1==bs s)∘fun s=>(bs s,Value.bool true))with
  |none =>
   rw[List.find?_eq_none]at hf;have:=hf s h;simp at this
  |some x=>rfl
 ·rw[q7 (fun e=>h ((Lib.containsS_iff _ _).1 e))]
  cases hf:out.find? ((fun p:List UInt8×Value=>p.1==bs s)∘fun s=>(bs s,Value.bool true))with
  |none=>rfl
  |some x =>
   have h1:=List.mem_of_find?_eq_some hf;have h2:=List.find?_some hf;simp only[Function.comp_apply,beq_iff_eq]at h2;rw[qee h2]at h1;exact absurd h1 h
theorem qaf{P:Program}{w:World}{t k e:TypeId}(ht:P.underlying t=some (.map k e))(hk:P.underlying k=some .string){z:Value}(hz:(zeroValue e).run P w = .ok z w){b:Nat}{L:List (List UInt8×Value)}(hm:StrMap w b L)(s:List UInt8) :
  (Instr.lookup t (.map (some b)) (S_ s) false).run P w = .ok ((js L s).getD z) w:=by
 obtain⟨es,c,h1,h2⟩:=hm;obtain⟨r,h3,h4⟩:=q27 s es.toList L 0 h2;unfold S_ at h3 ⊢
 cases r with
 |none =>
  have h5:js L s=none:=by rw[<-h4];rfl
  simp[Instr.lookup,run_underlying ht,MapKept.run_getObj_map h1,q3b,hk,run_underlying hk,Instr.findKey,h3,hz,Result.andThen,h5]
 |some p =>
  have h5:js L s=some p.2:=by rw[<-h4];rfl
  simp[Instr.lookup,run_underlying ht,MapKept.run_getObj_map h1,q3b,hk,run_underlying hk,Instr.findKey,h3,Result.andThen,h5]
theorem qoo{w:World}{b:Nat}{out:List ByteArray}(hm:StrMap w b (q25 out))(s:ByteArray) :
  (Instr.lookup 139 (.map (some b)) (.string s) false).run Tryz.prog w = .ok (.bool (Lib.containsS out s)) w:=by
 have:=qaf (P:=Tryz.prog) (z:=.bool false) Tryz.underlying139 Tryz.underlying9 (by kernel_rfl) hm (bs s);rw[qrq,qbq]at this;rw[this]
 cases Lib.containsS out s <;> rfl
theorem qmt{w:World}{b:Nat}{out:List ByteArray}(hm:StrMap w b (q25 out))(s:ByteArray)(hs:Lib.containsS out s=false) :
  ∃ w',(Instr.mapUpdate 139 (.map (some b)) (.string s) (.bool true)).run Tryz.prog w = .ok () w'/\StrMap w' b (q25 (out++[s]))/\w'.heap.size=w.heap.size/\(∀ B,B<=b->Below B w w')/\∀ j,j≠b->w'.heap[j]?=w.heap[j]?:=by
 obtain⟨w',h1,h2,h3,h4,h5,h6,h7⟩:=q3y (P:=Tryz.prog) Tryz.underlying139 Tryz.underlying9 hm (bs s) (.bool true) (by rw[qbq,q7 (by rw[hs];decide)]);refine⟨w',h1,?_,h3,fun B hB=>⟨h4,h5,h6,Nat.le_of_eq h3.symm,fun j hj=>h7 j (by omega)⟩,h7⟩;unfold q25 at h2 ⊢;rw[List.map_append];exact h2
structure JFc(L1 T:Nat)(w1:World)(out:List ByteArray)(W:World):Prop where
 b:Below L1 w1 W
 z:T+1+1 < W.heap.size
 d:W.heap[T+1]?=some (.deferred (some []))
 m:StrMap W (L1+1) (q25 out)
 v:W.heap[L1+1+1]?=some (.cells #[.map (some (L1+1))] 139 (0,0))
 c:∃ vl,W.heap[L1]?=some (.cells #[vl] 42 (0,0))/\x9 (T+1+1+1) W vl out
def Oo(L1:Nat)(W:World)(b:Nat):Prop:=b=L1\/∃ v,W.cell? ⟨L1,0,none⟩=some v/\v.ownBlock=some b
theorem JFc.keep{L1 T:Nat}{w1 W W':World}{out:List ByteArray}(j:JFc L1 T w1 out W)(hT:L1+1+1+1=T)(hb:Below L1 w1 W')(hz:W.heap.size<=W'.heap.size)
  (hk:∀ b,b < W.heap.size->b≠T+1+1->(b < T+1+1\/Oo L1 W b)->W'.heap[b]?=W.heap[b]?):JFc L1 T w1 out W':=by
 have z:=j.z;obtain⟨vl,c1,c2⟩:=j.c;refine⟨hb,by omega,(hk _ (by omega) (by omega) (.inl (by omega))).trans j.d,j.m.keep (hk _ (by omega) (by omega) (.inl (by omega))),(hk _ (by omega) (by omega) (.inl (by omega))).trans j.v,vl,(hk _ (by omega) (by omega) (.inl (by omega))).trans c1,zd c2 fun g e=>?_⟩;have:=World.ownsRow.lt c2 g e;exact hk g this.2 (by omega) (.inr (.inr ⟨vl,qk _ _ _ _ _ _ c1,e⟩))
theorem JFc.own{L1 T:Nat}{w1 W:World}{out:List ByteArray}(j:JFc L1 T w1 out W){b:Nat}(h:Oo L1 W b):b=L1\/(T+1+1+1<=b/\b < W.heap.size):=by
 rcases h with h|⟨v,h1,h2⟩
 ·exact .inl h
 ·obtain⟨vl,c1,c2⟩:=j.c
  rw[qk _ _ _ _ _ _ c1]at h1
  cases h1;exact .inr (World.ownsRow.lt c2 b h2)
theorem JFc.add{L1 T:Nat}{w1 w6 w8:World}{out:List ByteArray}{s:ByteArray}{vl v':Value}(hT:L1+1+1+1=T)(hb:Below L1 w1 w8)(z:T+1+1 < w6.heap.size)(hz:w6.heap.size<=w8.heap.size)(d:w6.heap[T+1]?=some (.deferred (some [])))
  (m:StrMap w6 (L1+1) (q25 (out++[s]))) (v:w6.heap[L1+1+1]?=some (.cells #[.map (some (L1+1))] 139 (0,0)))
  (c:w6.heap[L1]?=some (.cells #[vl] 42 (0,0))) (ho:∀ g,vl.ownBlock=some g->T+1+1+1<=g) (hk:∀ b,b < w6.heap.size->vl.ownBlock≠some b->w8.heap[b]?=w6.heap[b]?) (r:x9 (T+1+1+1) w8 v' (out++[s])) :
  JFc L1 T w1 (out++[s]) (w8.setCell ⟨L1,0,none⟩ v'):=by
 have far:∀ b,b≠L1->(w8.setCell ⟨L1,0,none⟩ v').heap[b]?=w8.heap[b]?:=fun b hb=>Below.heap_setCell _ _ _ _ (by simp only;exact hb)
 have lo:∀ b,b < T+1+1+1->w8.heap[b]?=w6.heap[b]?:=fun b hb=>hk b (by omega) (fun e=>by have:=ho b e;omega)
 refine⟨hb.setCell (p:=⟨L1,0,none⟩) (q5 _) _,by rw[qq];omega,(far _ (by omega)).trans ((lo _ (by omega)).trans d),m.keep ((far _ (by omega)).trans (lo _ (by omega))),(far _ (by omega)).trans ((lo _ (by omega)).trans v),v',heap_setCell_same _ _ 0 _ _ _ ((lo _ (by omega)).trans c),zd r fun g e=>far g (by have:=World.ownsRow.lt r g e;omega)⟩
theorem JFc.putLoop{L1 T:Nat}{w1 W:World}{out:List ByteArray}(j:JFc L1 T w1 out W)(hT:L1+1+1+1=T)(rl:Loop):JFc L1 T w1 out (W.putObj (T+1+1) (.loop rl)) :=
 j.keep hT (jo j.b _ _ (by omega)) (by rw[World.putObj_size];exact q5 _) (fun b _ h2 _=>World.putObj_heap_other h2)
theorem Kc.putLoop{L1 T:Nat}{A W:World}{r:Loop}(k:Kc (Oo L1) A W)(hT:L1+1+1+1=T)(hl:A.heap[T+1+1]?=some (.loop r))(rl:Loop):Kc (Oo L1) A (W.putObj (T+1+1) (.loop rl)):=by
 refine⟨by rw[World.putObj_size];exact k.1,fun b c t z h1 e=>(World.putObj_heap_other (by rintro rfl;rw[hl]at e;cases e)).trans (k.2.1 b c t z h1 e),fun b hb=>k.2.2 b ?_⟩;rcases hb with h|⟨v,h1,h2⟩
 ·exact .inl h
 ·exact .inr ⟨v,(World.cell?_of_block (w:=W) (World.putObj_heap_other (by simp only;omega))).symm.trans h1,h2⟩
theorem Kc.same{L1 T:Nat}{A W:World}{r:Loop}(hT:L1+1+1+1=T)(hz:A.heap.size<=W.heap.size)(hl:A.heap[T+1+1]?=some (.loop r))(hk:∀ b,b < A.heap.size->b≠T+1+1->W.heap[b]?=A.heap[b]?):Kc (Oo L1) A W:=by
 have:=za hl;refine⟨hz,fun b c t z h1 e=>(hk b (za e) (by rintro rfl;rw[hl]at e;cases e)).trans e,fun b hb=>.inl ?_⟩;rcases hb with h|⟨v,h1,h2⟩
 ·exact .inl h
 ·exact .inr ⟨v,(World.cell?_of_block (w:=A) (hk L1 (by omega) (by omega))).symm.trans h1,h2⟩
theorem Kc.added{L1 T:Nat}{A W:World}{r:Loop}{vl v':Value}{L:List (List UInt8×Value)}(hz:A.heap.size<=W.heap.size)(hl:A.heap[T+1+1]?=some (.loop r))(hm:StrMap A (L1+1) L)
  (hc:A.heap[L1]?=some (.cells #[vl] 42 (0,0))) (hc':W.heap[L1]?=some (.cells #[v'] 42 (0,0))) (hv:∀ g,v'.ownBlock=some g->vl.ownBlock=some g\/A.heap.size<=g)
  (hk:∀ b,b < A.heap.size->b≠T+1+1->b≠L1+1->b≠L1->vl.ownBlock≠some b->W.heap[b]?=A.heap[b]?):Kc (Oo L1) A W:=by
 have hcl:A.cell? ⟨L1,0,none⟩=some vl:=qk _ _ _ _ _ _ hc;refine⟨hz,fun b c t z h1 e=>(hk b (za e) (by rintro rfl;rw[hl]at e;cases e) (by rintro rfl;obtain⟨es,cl,h2,_⟩:=hm;rw[h2]at e;cases e) (fun e2=>h1 (.inl e2)) (fun e2=>h1 (.inr ⟨vl,hcl,e2⟩))).trans e,fun b hb=>?_⟩;rcases hb with h|⟨v,h1,h2⟩
 ·exact .inl (.inl h)
 ·rw[qk _ _ _ _ _ _ hc']at h1
  cases h1;exact(hv b h2).imp (fun e=>.inr ⟨vl,hcl,e⟩) id
theorem q5r{w6 w7 w8:World}{vl:Value}{o:Obj}(hb7:Below w6.drew.heap.size w6.drew w7)(g:(w7.alloc o).grownBy w8 vl.ownBlock) :
  (∀ b,b < w6.heap.size->vl.ownBlock≠some b->w8.heap[b]?=w6.heap[b]?)/\w6.heap.size<=w8.heap.size/\(∀ B,B<=w6.heap.size->(∀ k,vl.ownBlock=some k->B<=k)->Below B w6 w8):=by
 have hz:w6.heap.size<=w7.heap.size:=hb7.size;have hz2:(w7.alloc o).heap.size<=w8.heap.size:=g.size;rw[q6]at hz2;refine⟨fun b hb hne=>?_,by omega,fun B hB hk=>?_⟩
 ·exact(g.block b (by rw[q6];omega) (fun e=>hne e.symm)).trans ((Below.heap_alloc _ _ _ (by omega)).trans (hb7.block b hb))
 ·exact(((Below.refl B w6).drew.trans (hb7.mono (show B<=w6.drew.heap.size from hB))).alloc (by omega) _).grown g (by rw[q6];omega) hk
theorem yw{F:Fence}{n:Nat}{P:Program}{ops:Array Oper}{o:Oper}{a:Act}{w w':World}{K:Act->World->Prop}{Q:Exit->Act->World->Prop}{E:Prop}{r v u:Value}(hgd:o.guard=none)(s x:Operand)(t:TypeId)
  (ho:o.op = .call { callee:=.builtin .append,args:=#[s,x],argTypes:=#[t,t] }) (hs:a.eval s=v) (hx:a.eval x=u) (hrun:(Builtin.append_ #[t,t] o.type #[v,u]).run P w = .ok r w') (h:K (a.put o.dst r) w') :
  if Region.wanted o (yielded ops a.tmps)=true then Oper.wpIn F n P o a w K Q else E:=by
 have hw:Region.wanted o (yielded ops a.tmps)=true:=by simp[Region.wanted,hgd]
 rw[qa hw];unfold Oper.wpIn;refine⟨?_,?_⟩
 ·simp[Oper.about,ho,resolve,Target.leads,Sem.run_pure]
 ·rw[Oper.semAt_plain F _ _ (by rw[ho];intro c hc';cases hc')]
  simp[execOp,ho,resolve,invoke,builtin,hs,hx,hrun,Result.andThen];exact h
attribute [local go_sem] Oper.semAt_some
theorem qdm(t:Nd)(kind:Int)(w:World)(v0 v1 v2:Value)(ht:NdR w t v0 v1 v2)(hv:xv t=0)(hsm:smN t)(hsz:t.sz<=4000) :
  Calls Tryz.prog 55 #[.agg #[v0,v1,v2],.int .i64 kind] w fun e w'=>∃ v,e = .returned (.tuple #[v,.int .i64 0])/\x9 w.heap.size w' v (q10 kind (xm 0 [] false t))/\Below w.heap.size w w':=by
 obtain⟨k,s,kids,a,cap,rfl,rfl,rfl,rfl,hs,hl⟩:=ht.form;have eg:∀ args w,(callFunc 120 args).run Tryz.prog w = .ok (.enter 120 args) w:=enters_of Tryz.func120 (by kernel_rfl) rfl;have hmm:=@run_makeMap Tryz.prog;obtain⟨W0,hW0⟩:∃ W0,(w.alloc (.cells #[.int .i64 k,.string s,.slice a kids.length cap] 25)).alloc (.cells #[.int .i64 kind] 3)=W0:=⟨_,rfl⟩;obtain⟨h,hh⟩:∃ h,w.heap.size=h:=⟨_,rfl⟩;have b0:Below h w W0:=by rw[<-hW0,<-hh];exact((Below.refl _ w).alloc (q5 _) _).alloc (by simp) _
 have r0:Row3 W0 h (.int .i64 k) (.string s) (.slice a kids.length cap):=by rw[<-hW0,<-hh];exact(Below.heap_alloc _ _ _ (by simp only[q6];omega)).trans (qm _ _)
 have k0:W0.heap[h+1]?=some (.cells #[.int .i64 kind] 3 (0,0)):=by rw[<-hW0,<-hh];exact x6 (by simp)
 have z0:W0.heap.size=h+1+1:=by rw[<-hW0];simp[hh]
 have t0:NdR W0 (.mk k s kids) (.int .i64 k) (.string s) (.slice a kids.length cap):=ht.later (by rw[hh];exact b0);have CC:=qh (q1n _ W0 _ _ _ t0);rw[hv]at CC;refine(callsIn_wide (n:=6)).1 ?_;refine q1o Tryz.func55 rfl ?_;simp only[Tryz.ntmps55,List.size_toArray,qi,qo,Nat.reduceAdd,Nat.reduceSub,Array.replicate_succ,Array.replicate_zero,List.push_toArray,List.append_toArray,List.nil_append,List.cons_append];refine jq (zz ?_)
 gi_wp2
 (try rw[hW0])
 (try rw[hh])
 clear hW0;obtain⟨⟨n0,n1,n2⟩,_⟩:=r0.cells;refine jq (zz ?_)
 gi_wp2_with fail
 refine⟨trivial,((callsIn_wide (n:=5)).2 CC.out).mono ?_⟩;rintro e w1⟨rfl,hb1⟩;have r1:Row3 w1 h (.int .i64 k) (.string s) (.slice a kids.length cap):=(hb1.block _ r0.lt).trans r0;have k1:w1.heap[h+1]?=some (.cells #[.int .i64 kind] 3 (0,0)):=(hb1.block _ (by omega)).trans k0;have B1:Below h w w1:=b0.trans (hb1.mono (by omega));have z1:h+1+1<=w1.heap.size:=by have:=hb1.size;omega
 have t1:=qh (t0.later hb1);clear n0 n1 n2 hb1 CC t0 k0 r0 b0
 gi_wp2
 refine jq (zz ?_)
 gi_wp2
 refine jq (zz ?_)
 gi_wp2
 obtain⟨L1,hL1⟩:∃ L1,w1.heap.size=L1:=⟨_,rfl⟩;obtain⟨W3,hW3⟩:∃ W3,((w1.alloc (.cells #[.slice none 0 0] 42)).alloc (.map #[] 0)).alloc (.cells #[.map (some (L1+1))] 139)=W3:=⟨_,rfl⟩;have z3:W3.heap.size=L1+1+1+1:=by rw[<-hW3];simp[hL1]
 have o3:∀ b,b < L1->W3.heap[b]?=w1.heap[b]?:=fun b hb=>by
  rw[<-hW3];exact(Below.heap_alloc _ _ _ (by simp only[q6];omega)).trans ((Below.heap_alloc _ _ _ (by simp only[q6];omega)).trans (Below.heap_alloc _ _ _ (by omega)))
 have B3:Below L1 w1 W3:=by
  rw[<-hW3];exact(((Below.refl _ w1).alloc (by omega) _).alloc (by simp only[q6];omega) _).alloc (by simp only[q6];omega) _
 have l3:W3.heap[L1]?=some (.cells #[.slice none 0 0] 42 (0,0)):=by
  rw[<-hW3,<-hL1];exact(Below.heap_alloc _ _ _ (by simp only[q6];omega)).trans ((Below.heap_alloc _ _ _ (by simp only[q6];omega)).trans (qm _ _))
 have m3:StrMap W3 (L1+1) (q25 []):=⟨#[],0,by
  rw[<-hW3,<-hL1]
  exact(Below.heap_alloc _ _ _ (by simp only[q6];omega)).trans (x6 (by simp)),by simp[q25]⟩
 have v3:W3.heap[L1+1+1]?=some (.cells #[.map (some (L1+1))] 139 (0,0)):=by
  rw[<-hW3,<-hL1];exact x6 (by simp)
 rw[hL1]at z1;have r3:Row3 W3 h (.int .i64 k) (.string s) (.slice a kids.length cap):=(o3 _ (by omega)).trans r1;have k3:W3.heap[h+1]?=some (.cells #[.int .i64 kind] 3 (0,0)):=(o3 _ (by omega)).trans k1;have t3:NdR W3 (.mk k s kids) (.int .i64 k) (.string s) (.slice a kids.length cap):=t1.out.later (by rw[hL1];exact B3)
 (try rw[hL1])
 (try rw[hW3])
 clear hW3 r1;obtain⟨⟨n0,n1,n2⟩,_⟩:=r3.cells;refine jq (jq (zz ?_))
 gi_wp2_with fail
 refine⟨trivial,((callsIn_wide (n:=5)).2 (qcl k s a kids.length cap _)).mono ?_⟩;rintro e w2⟨rfl,rfl⟩
 gi_wp2
 obtain⟨T,hT⟩:∃ T,L1+1+1+1=T:=⟨_,rfl⟩;rw[hT]at z3
 (try rw[z3])
 (try rw[hT])
 clear n0 n1 n2;refine q49 (q0q (gf:=120) (lb:=#[.pointer (some ⟨T,0,none⟩)]) rfl eg ?_);intro r hr;have hr1:r.state = .ready:=by rw[hr]
 have hr2:r.pending=none:=by rw[hr]
 have hr3:r.params=#[19,20]:=by rw[hr]
 obtain⟨W4,hW4⟩:∃ W4,W3.alloc (.cells #[.int .i64 k,.string s,.slice a kids.length cap] 25)=W4:=⟨_,rfl⟩;have z4:W4.heap.size=T+1:=by rw[<-hW4,q6,z3]
 have b4:Row3 W4 T (.int .i64 k) (.string s) (.slice a kids.length cap):=by rw[<-hW4];exact x6 (by omega)
 have o4:∀ b,b < T->W4.heap[b]?=W3.heap[b]?:=fun b hb=>by rw[<-hW4];exact Below.heap_alloc _ _ _ (by omega)
 have B4:Below L1 w1 W4:=by rw[<-hW4];exact B3.alloc (by omega) _
 rw[hW4];clear hW4;obtain⟨W1,hW1⟩:∃ W1,(W4.alloc (.deferred (some []))).alloc (.loop r)=W1:=⟨_,rfl⟩;have old:∀ b,b < T+1->W1.heap[b]?=W4.heap[b]?:=fun b hb=>by rw[<-hW1];exact(Below.heap_alloc _ _ _ (by simp only[q6];omega)).trans (Below.heap_alloc _ _ _ (by omega))
 have zW1:W1.heap.size=T+1+1+1:=by rw[<-hW1];simp[z4]
 have hd1:W1.heap[T+1]?=some (.deferred (some [])):=by rw[<-hW1];exact(Below.heap_alloc _ _ _ (by simp only[q6];omega)).trans (x6 (by omega))
 have hl1:W1.heap[T+1+1]?=some (.loop r):=by rw[<-hW1];exact x6 (by simp only[q6];omega)
 have hB1:Below L1 w1 W1:=by rw[<-hW1];exact(B4.alloc (by omega) _).alloc (by simp only[q6];omega) _
 have j0:JFc L1 T w1 (q10 kind []) W1:=⟨hB1,by omega,hd1,m3.keep ((old _ (by omega)).trans (o4 _ (by omega))),((old _ (by omega)).trans (o4 _ (by omega))).trans v3,_,((old _ (by omega)).trans (o4 _ (by omega))).trans l3,World.ownsRow_nil _ _ _ _⟩;have hsup:Sup w1 W1:=fun b c t z e=>(hB1.block b (by rw[<-hL1];exact za e)).trans e
 have K1:=qh k1
 have hcall:CallsIn Fence.wide 5 Tryz.prog 120 #[.func (.yield (T+1+1)) #[] #[],.pointer (some ⟨T,0,none⟩)] W1
   (fun e w'=>(∃ v,e = .returned v)/\JFc L1 T w1 (q10 kind (xm 0 [] false (.mk k s kids))) w'/\w'.heap[T+1+1]?=some (.loop r)):=by
  refine(callsIn_wide (n:=5)).2 ?_
  refine(qaz (Oo L1) (T+1+1) T w1 W1 (fun pre W=>pre.length<=4000/\JFc L1 T w1 (q10 kind pre) W/\W.heap[T+1+1]?=some (.loop r)) (fun _ _=>False) k s kids a cap
   (fun pre W hj=>by have:=hj.1;omega) (fun pre A B hj hb hk=>⟨hj.1,hj.2.1.keep hT (hj.2.1.b.trans (hb.mono (by omega))) hb.size (fun b _ _ h3=>h3.elim (fun h=>hb.block b (by omega)) (fun h=>hk b h)),(hb.block _ (by omega)).trans hj.2.2⟩)
   (fun A B hb b h=>h.imp id (fun⟨v,h1,h2⟩=>⟨v,(hb.cell (p:=⟨L1,0,none⟩) (by simp only;omega)).symm.trans h1,h2⟩)) (fun pre A hj b hb=>by have:=hj.2.1.z;rcases hj.2.1.own hb with h|h <;> omega)
   ?_ t1.out ((old T (by omega)).trans b4) hsup (by omega) (fun b hb=>by rcases j0.own hb with h|h <;> omega) ⟨by simp,j0,hl1⟩).mono ?_
  ·intro m pre it A vp vi u0 u1 u2 n₁ ps hn1 hj hall hpd hg
   obtain⟨hjl,hjm,hjr⟩:=hj;obtain⟨hgd,hgp,hgi,hgt⟩:=hg;have hlen:(pre++[it]).length<=4000:=by have:=hall.length_le;rw[q87]at this;omega
   have hsz1:it.t.s'.size<=64:=qjq 0 [] false _ hsm it (hall.subset (by simp));obtain⟨ap,cp,rfl⟩:=yh hgp;obtain⟨ai,ci,hvi⟩:=yh hgi;subst hvi;rw[qv]at hgi;obtain⟨k1,s1,l1,a1,c1,ht1,rfl,rfl,rfl,_,_⟩:=hgt.form;have hil:it.ins.length<=90000:=by have:=qgf 0 [] false _ it (hall.subset (by simp));simp only[qo]at this;omega
   obtain⟨V,hV⟩:∃ V,((k1==15||k1==16) && (!it.wd && !Lib.containsS it.ins s1))=V:=⟨_,rfl⟩;have hos:=(qks kind pre it).trans (qqw ht1 hV kind _);rw[ht1]at hsz1;simp only[Nd.s']at hsz1;obtain⟨out,hout⟩:∃ out,q10 kind pre=out:=⟨_,rfl⟩;have hol:out.length<=4000:=by rw[<-hout];have:=qn3 kind pre;omega
   rw[hout]at hjm hos;obtain⟨out',hout'⟩:∃ out',q10 kind (pre++[it])=out':=⟨_,rfl⟩;rw[hout']at hos;obtain⟨R,hR⟩:∃ R:Ending->World->Prop,(fun e W'=>(e = .returned (.bool true)/\((pre++[it]).length<=4000/\JFc L1 T w1 (q10 kind (pre++[it])) W'/\W'.heap[T+1+1]?=some (.loop r))/\Kc (Oo L1) A W')\/(e = .returned (.bool false)/\False/\Kc (Oo L1) A W'))=R:=⟨_,rfl⟩;rw[hR];have HR:Hid (∀ W',JFc L1 T w1 out' W'->W'.heap[T+1+1]?=some (.loop r)->Kc (Oo L1) A W'->R (.returned (.bool true)) W'):=qh (fun W' j1 j2 j3=>by rw[<-hR];exact .inl ⟨rfl,⟨hlen,by rw[hout'];exact j1,j2⟩,j3⟩);clear hR hout hout' hlen hall hjl;refine⟨_,_,_,_,run_yield (P:=Tryz.prog) hjr (by rw[hr3];rfl),?_⟩;have hr4:r.fn=55:=by rw[hr]
   rw[hr4];refine q0r trivial Tryz.func55 ?_;have hrs:=hr1;have HJ:=qh hjm;have HJR:=qh hjr;have HRR:=qh hr;have HOS:=qh hos;have HGI:=qh hgi;have hVH:=qh hV;have HIL:=qh hil;simp only[hr];clear hgp hgi hgt hjm hjr hr hr1 hr2 hr3 hr4 hos hV hil
   gi_wp2
   refine⟨_,run_beginRound (r:=r) ((Below.heap_alloc _ _ _ (by have:=za HJR.out;simp only[q6];omega)).trans ((Below.heap_alloc _ _ _ (za HJR.out)).trans HJR.out)) hrs,?_⟩;obtain⟨N,hN⟩:∃ N,A.heap.size=N:=⟨_,rfl⟩;obtain⟨W2,hW2⟩:∃ W2,((A.alloc (.cells #[.slice ap ps.length cp,.slice ai it.ins.length ci,.bool it.wd] 85)).alloc (.cells #[.int .i64 k1,.string s1,.slice a1 l1.length c1] 25)).putObj (T+1+1) (.loop { r with state:=.busy })=W2:=⟨_,rfl⟩;have hTN:T+1+1 < N:=by have:=HJ.out.z;omega
   have ko:∀ b,b < N->b≠T+1+1->W2.heap[b]?=A.heap[b]?:=fun b hb1 hb2=>by
    rw[<-hW2];exact(World.putObj_heap_other hb2).trans ((Below.heap_alloc _ _ _ (by simp only[q6];omega)).trans (Below.heap_alloc _ _ _ (by omega)))
   have mz:W2.heap.size=N+1+1:=by rw[<-hW2,World.putObj_size,q6,q6,hN]
   have m5:W2.heap[T+1+1]?=some (.loop { r with state:=.busy }):=by rw[<-hW2];exact World.putObj_heap_same (by simp only[q6];omega)
   have mt:RowP W2 N (.slice ap ps.length cp) (.slice ai it.ins.length ci) (.bool it.wd):=by
    rw[<-hW2,<-hN];exact(World.putObj_heap_other (by omega)).trans ((Below.heap_alloc _ _ _ (by simp only[q6];omega)).trans (qm _ _))
   have mx:Row3 W2 (N+1) (.int .i64 k1) (.string s1) (.slice a1 l1.length c1):=by
    rw[<-hW2,<-hN];exact(World.putObj_heap_other (by omega)).trans (x6 (by simp))
   have mb:Below L1 w1 W2:=by rw[<-hW2];exact jo ((HJ.out.b.alloc (by omega) _).alloc (by simp only[q6];omega) _) _ _ (by omega)
   have mj:JFc L1 T w1 out W2:=HJ.out.keep hT mb (by omega) (fun b h1 h2 _=>ko b (by omega) h2);have mi:x9 n₁ W2 (.slice ai it.ins.length ci) it.ins:=zd HGI.out fun g e=>by have:=World.ownsRow.lt HGI.out g e;exact ko g (by omega) (by omega)
   rw[hW2,hN];obtain⟨⟨p0,p1,p2⟩,_⟩:=mt.cells;obtain⟨⟨x0,x1,x2⟩,_⟩:=mx.cells;have hkb:=(mb.block (h+1) (by omega)).trans K1.out;have kc:W2.cell? ⟨h+1,0,none⟩=some (.int .i64 kind):=qk _ _ _ _ _ _ hkb;have HM:=qh mj;have HKO:=qh ko;have HMZ:=qh mz;have HM5:=qh m5;have HMX:=qh mx;have HN:=qh hN;have CF:=qh (qlh n₁ ap ai ps.length cp it.ins.length ci it.wd k1 s1 a1 l1.length c1 it.ins W2 mi HIL.out);rw[hVH.out]at CF;obtain⟨wd,hwd⟩:∃ wd,it.wd=wd:=⟨_,rfl⟩;obtain⟨NI,hni⟩:∃ NI,it.ins.length=NI:=⟨_,rfl⟩;obtain⟨NP,hnp⟩:∃ NP,ps.length=NP:=⟨_,rfl⟩;rw[hwd,hni,hnp]at CF;rw[hwd]at p2;rw[hni]at p1;rw[hnp]at p0;have e0:({ ({ r with state:=.busy }:Loop)with state:=.ready,pending:=none }:Loop)=r:=by rw[HRR.out]
   have E0:=qh e0
   have FIN:Hid (∀ W',Below W2.heap.size W2 W'->out'=out->R (.returned (.bool true)) (W'.putObj (T+1+1) (.loop r))):=qh (fun W' hb he=>by
    have kk:∀ b,b < A.heap.size->b≠T+1+1->W'.heap[b]?=A.heap[b]?:=fun b h1 h2=>(hb.block b (by omega)).trans (ko b (by omega) h2)
    have jj:JFc L1 T w1 out W':=HJ.out.keep hT (mb.trans (hb.mono (by omega))) (by have:=hb.size;omega) (fun b h1 h2 _=>kk b h1 h2);refine HR.out _ ?_ (World.putObj_heap_same (by have:=hb.size;omega)) ((Kc.same hT (by have:=hb.size;omega) HJR.out kk).putLoop hT HJR.out r);rw[he]
    exact jj.putLoop hT r)
   have FINL:Hid (∀ W',Below W2.heap.size W2 W'->W'.heap[T+1+1]?=some (.loop { r with state:=.busy })):=qh (fun W' hb=>(hb.block _ (by omega)).trans m5);clear ko mz m5 mt mx mj mb mi hW2 hN hkb hwd hni hnp e0
   cases hkk:(k1==kind)with
   |false =>
    have HE:Hid (out'=out):=qh (by rw[HOS.out,hkk];simp)
    gi_wp2
    refine⟨trivial,?_⟩
    gi_wp2
    refine⟨_,_,run_endRound none (FINL.out _ (Below.refl _ _)),?_⟩;simp only[Option.isNone_none,if_true];rw[E0.out];exact FIN.out _ (Below.refl _ _) HE.out
   |true =>
    gi_wp2_with fail
    refine⟨trivial,fun e=>(by cases e),(CallsIn.inRound _ ((callsIn_wide (n:=m - 1)).2 CF.out)).mono ?_⟩;rintro e w5⟨rfl,hb5⟩;have HB5:=qh hb5;clear hb5 CF p0 p1 p2
    cases V with
    |false =>
     have HE:Hid (out'=out):=qh (by rw[HOS.out,hkk];simp)
     gi_wp2
     refine⟨_,_,run_endRound none (FINL.out _ HB5.out),?_⟩;simp only[Option.isNone_none,if_true];rw[E0.out];exact FIN.out _ HB5.out HE.out
    |true =>
     have hzN:=HMZ.out;have mj5:JFc L1 T w1 out w5:=HM.out.keep hT (HM.out.b.trans (HB5.out.mono (by have:=HM.out.z;omega))) HB5.out.size (fun b h1 _ _=>HB5.out.block b h1);have mx5:Row3 w5 (N+1) (.int .i64 k1) (.string s1) (.slice a1 l1.length c1):=(HB5.out.block _ HMX.out.lt).trans HMX.out;have z5:=HB5.out.size;obtain⟨vl,cl5,rl5⟩:=mj5.c;have v5:w5.cell? ⟨L1+1+1,0,none⟩=some (.map (some (L1+1))):=qk _ _ _ _ _ _ mj5.v;obtain⟨⟨y0,y1,y2⟩,_⟩:=mx5.cells;have hlk:=qoo mj5.m s1;obtain⟨X,hX⟩:∃ X,Lib.containsS out s1=X:=⟨_,rfl⟩;have HE:Hid (out'=if X=true then out else out++[s1]):=qh (by rw[HOS.out,hkk,hX];cases X <;> rfl);rw[hX]at hlk
     cases X with
     |true =>
      clear y0 y2 cl5 rl5 mj5 mx5 hX x0 x1 x2 hzN z5
      gi_wp2
      refine⟨_,_,run_endRound none (FINL.out _ HB5.out),?_⟩;simp only[Option.isNone_none,if_true];rw[E0.out];exact FIN.out _ HB5.out (by rw[HE.out];simp)
     |false =>
      obtain⟨w6,hmu,m6,z6,b6,o6⟩:=qmt mj5.m s1 hX;have hne6:∀ b,b≠L1+1->w6.heap[b]?=w5.heap[b]?:=o6;have cl6:=(o6 L1 (by omega)).trans cl5;have mx6:Row3 w6 (N+1) (.int .i64 k1) (.string s1) (.slice a1 l1.length c1):=(o6 _ (by omega)).trans mx5;have rl6:x9 (T+1+1+1) w6 vl out:=zd rl5 fun g e=>o6 g (by have:=World.ownsRow.lt rl5 g e;omega)
      have l6:w6.cell? ⟨L1,0,none⟩=some vl:=qk _ _ _ _ _ _ cl6;have n6:w6.cell? ⟨N+1,1,none⟩=some (.string s1):=mx6.cells.1.2.1;have hown6:∀ g,vl.ownBlock=some g->T+1+1+1<=g/\g < w6.heap.size:=World.ownsRow.lt rl6;have D6:=qh ((o6 (T+1) (by omega)).trans mj5.d);have V6:=qh ((o6 (L1+1+1) (by omega)).trans mj5.v);have M6:=qh m6;have CL6:=qh cl6;have RL6:=qh rl6;have B6:=qh (mj5.b.trans (b6 L1 (by omega)));have O6:=qh hne6;have Z6:Hid (T+1+1 < w6.heap.size/\N+1+1<=w6.heap.size):=qh (by have:=mj5.z;omega);have F6:=qh (show w6.frozen? ⟨L1,0,none⟩=false from frozen_of_row _ _ _ _ _ cl6);have CC6:=qh (qbw s1 w6.drew (by omega));obtain⟨iS,hS,hSz,hSs,hSb⟩:=info_parts qaq;clear y0 y2 cl5 rl5 mj5 mx5 hX x0 x1 x2 hzN z5 m6 z6 b6 o6 hne6 cl6 mx6 rl6
      gi_wp2_with fail
      have LEAF:∀ (g8 cap8:Nat) (w8:World),((∀ b,b < w6.heap.size->vl.ownBlock≠some b->w8.heap[b]?=w6.heap[b]?)/\w6.heap.size<=w8.heap.size/\(∀ B,B<=w6.heap.size->(∀ k,vl.ownBlock=some k->B<=k)->Below B w6 w8)) ->
        x9 (T+1+1+1) w8 (.slice (some ⟨g8,0,none⟩) (out++[s1]).length cap8) (out++[s1])->(∀ g',(Value.slice (some ⟨g8,0,none⟩) (out++[s1]).length cap8).ownBlock=some g'->vl.ownBlock=some g'\/w6.heap.size<=g') ->
        ∃ v w',(Instr.endRound (T+1+1) none).run Tryz.prog (w8.setCell ⟨L1,0,none⟩ (.slice (some ⟨g8,0,none⟩) (out.length+1) cap8)) = .ok v w'/\R (.returned v) w':=by
       intro g8 cap8 w8 ⟨hk8,hz8,hb8⟩ q8 ho8;have e9:out.length+1=(out++[s1]).length:=by simp
       rw[e9];clear e9;have hz6:=Z6.out;have hNN:=HN.out;have hzM:=HMZ.out;obtain⟨v',hv'⟩:∃ v',Value.slice (some ⟨g8,0,none⟩) (out++[s1]).length cap8=v':=⟨_,rfl⟩;rw[hv']at q8 ho8 ⊢;have far:∀ b,b≠L1->(w8.setCell ⟨L1,0,none⟩ v').heap[b]?=w8.heap[b]?:=fun b hb=>Below.heap_setCell _ _ _ _ (by simp only;exact hb)
       have c6A:∀ b,b < N->b≠T+1+1->b≠L1+1->w6.heap[b]?=A.heap[b]?:=fun b h1 h2 h3=>(O6.out b h3).trans ((HB5.out.block b (by omega)).trans (HKO.out b h1 h2))
       have hlow:∀ g,vl.ownBlock=some g->T+1+1+1<=g:=fun g e=>(hown6 g e).1
       have hzJ:=HJ.out.z
       have hloop:(w8.setCell ⟨L1,0,none⟩ v').heap[T+1+1]?=some (.loop { r with state:=.busy }) :=
        (far _ (by omega)).trans ((hk8 _ (by omega) (fun e=>by have:=hlow _ e;omega)).trans ((O6.out _ (by omega)).trans (FINL.out _ HB5.out)))
       refine⟨_,_,run_endRound none hloop,?_⟩;simp only[Option.isNone_none,if_true];rw[E0.out];have jadd:JFc L1 T w1 (out++[s1]) (w8.setCell ⟨L1,0,none⟩ v'):=JFc.add hT (B6.out.trans (hb8 L1 (by omega) (fun k e=>by have:=hlow k e;omega))) hz6.1 hz8 D6.out M6.out V6.out CL6.out hlow hk8 q8;have hcA:A.heap[L1]?=some (.cells #[vl] 42 (0,0)):=(c6A L1 (by omega) (by omega) (by omega)).symm.trans CL6.out;have hc9:(w8.setCell ⟨L1,0,none⟩ v').heap[L1]?=some (.cells #[v'] 42 (0,0)):=heap_setCell_same _ _ 0 _ _ _ ((hk8 L1 (by omega) (fun e=>by have:=hlow _ e;omega)).trans CL6.out)
       have kc:Kc (Oo L1) A (w8.setCell ⟨L1,0,none⟩ v'):=Kc.added (by rw[qq];omega) HJR.out HJ.out.m hcA hc9 (fun g e=>(ho8 g e).imp id (fun h=>by omega))
        (fun b h1 h2 h3 h4 h5=>(far b h4).trans ((hk8 b (by omega) h5).trans (c6A b (by omega) h2 h3)))
       refine HR.out _ ?_ (World.putObj_heap_same (by rw[qq];omega)) (kc.putLoop hT HJR.out r);have e':out'=out++[s1]:=by rw[HE.out];simp
       rw[e'];exact jadd.putLoop hT r
      refine wpIn_region_any (by kernel_rfl) ?_;change wpAnyIn _ _ _ _ _ _ _ _ _ (World.drew _);refine wpAnyIn_ready (rs:=[0,1]) (by kernel_rfl) (by simp) ?_;refine AllReadyIn.cons rfl (fun K hK=>?_) ?_
      ·skip
       go_simp;refine hK _ _ ?_;clear hK K;refine wpAnyIn_ready (rs:=[1]) (by kernel_rfl) (by simp) ?_;refine AllReadyIn.cons rfl (fun K hK=>?_) ?_
       ·skip
        go_simp;refine hK _ _ ?_;clear hK K;refine wpAnyIn_ready (rs:=[2]) (by kernel_rfl) (by simp) ?_;refine AllReadyIn.cons rfl (fun K hK=>?_) ?_
        ·skip
         go_simp;refine hK _ _ ?_;clear hK K;refine wpAnyIn_ready (rs:=[3]) (by kernel_rfl) (by simp) ?_;refine AllReadyIn.cons rfl (fun K hK=>?_) ?_
         ·skip
          go_simp;refine⟨trivial,fun e=>(by cases e),?_⟩;refine(CallsIn.inRound _ ((callsIn_wide (n:=m - 1)).2 CC6.out)).mono ?_;rintro e w7⟨rfl,hb7⟩;have hz7:w6.heap.size<=w7.heap.size:=hb7.size;have hL7:L1 < w7.heap.size:=(by have:=Z6.out;omega);have l7:w7.cell? ⟨L1,0,none⟩=some vl:=(hb7.cell (p:=⟨L1,0,none⟩) (show L1 < w6.heap.size by have:=Z6.out;omega)).trans l6;have l7a:=(fun o=>(World.cell?_alloc_past (w:=w7) o L1 0 hL7).trans l7);have r7:x9 (T+1+1+1) (w7.alloc (.cells #[.string s1] 9)) vl out:=zd RL6.out (fun g e=>(Below.heap_alloc _ _ _ (by have:=hown6 g e;omega)).trans (hb7.block g (hown6 g e).2));obtain⟨g8,cap8,w8,hap,q8,p8,gr8,hg8⟩:=yd (P:=Tryz.prog) (w7.alloc (.cells #[.string s1] 9)) 42 42 (T+1+1+1) 9 iS _ 16 Tryz.underlying42 hS hSz hSs hSb rfl vl (out.map Value.string) r7 ⟨w7.heap.size,0,none⟩ 1 (.string s1) (q2l w7 _ _ _ rfl) rfl (by rw[qv];unfold maxLen;omega) (by rw[qv];omega) (by rw[q6];have:=Z6.out;omega);have A8:=qh (q5r hb7 gr8);have f8:w8.frozen? ⟨L1,0,none⟩=false:=frozen_of_row _ _ _ _ _ ((A8.out.1 L1 (by have:=Z6.out;omega) (fun e=>by have:=hown6 L1 e;omega)).trans CL6.out);have c8:w8.cell? ⟨L1,0,none⟩=some vl:=qk _ _ _ _ _ _ ((A8.out.1 L1 (by have:=Z6.out;omega) (fun e=>by have:=hown6 L1 e;omega)).trans CL6.out);have Q8:=qh (q2f q8);have HG8:=qh (q2h (n:=(out++[s1]).length) (cap:=cap8) hg8 (by rw[q6];exact Nat.le_succ_of_le hz7));rw[qv]at hap;have HAP:=qh hap;clear q8 p8 gr8 hg8 r7 hb7 hap;go_simp;refine hK _ _ ?_;clear hK K;refine wpAnyIn_ready (rs:=[4]) (by kernel_rfl) (by simp) ?_;refine AllReadyIn.cons rfl (fun K hK=>?_) ?_
          ·skip
           go_simp;refine hK _ _ ?_;clear hK K;refine wpAnyIn_ready (rs:=[5]) (by kernel_rfl) (by simp) ?_;refine AllReadyIn.cons rfl (fun K hK=>?_) ?_
           ·skip
            refine yw rfl _ _ 42 rfl rfl rfl HAP.out ?_;refine hK _ _ ?_;clear hK K;refine wpAnyIn_ready (rs:=[6]) (by kernel_rfl) (by simp) ?_;refine AllReadyIn.cons rfl (fun K hK=>?_) ?_
            ·skip
             go_simp;refine hK _ _ ?_;clear hK K;refine wpAnyIn_done (by kernel_rfl) ?_ _;go_simp;simp only[q09];exact LEAF g8 cap8 w8 A8.out Q8.out HG8.out
            exact AllReadyIn.nil
           exact AllReadyIn.nil
          exact AllReadyIn.nil
         exact AllReadyIn.nil
        exact AllReadyIn.nil
       exact AllReadyIn.nil
      refine AllReadyIn.cons rfl (fun K hK=>?_) ?_
      ·skip
       go_simp;refine hK _ _ ?_;clear hK K;refine wpAnyIn_ready (rs:=[0,2]) (by kernel_rfl) (by simp) ?_;refine AllReadyIn.cons rfl (fun K hK=>?_) ?_
       ·skip
        go_simp;refine hK _ _ ?_;clear hK K;refine wpAnyIn_ready (rs:=[2]) (by kernel_rfl) (by simp) ?_;refine AllReadyIn.cons rfl (fun K hK=>?_) ?_
        ·skip
         go_simp;refine hK _ _ ?_;clear hK K;refine wpAnyIn_ready (rs:=[3]) (by kernel_rfl) (by simp) ?_;refine AllReadyIn.cons rfl (fun K hK=>?_) ?_
         ·skip
          go_simp;refine⟨trivial,fun e=>(by cases e),?_⟩;refine(CallsIn.inRound _ ((callsIn_wide (n:=m - 1)).2 CC6.out)).mono ?_;rintro e w7⟨rfl,hb7⟩;have hz7:w6.heap.size<=w7.heap.size:=hb7.size;have hL7:L1 < w7.heap.size:=(by have:=Z6.out;omega);have l7:w7.cell? ⟨L1,0,none⟩=some vl:=(hb7.cell (p:=⟨L1,0,none⟩) (show L1 < w6.heap.size by have:=Z6.out;omega)).trans l6;have l7a:=(fun o=>(World.cell?_alloc_past (w:=w7) o L1 0 hL7).trans l7);have r7:x9 (T+1+1+1) (w7.alloc (.cells #[.string s1] 9)) vl out:=zd RL6.out (fun g e=>(Below.heap_alloc _ _ _ (by have:=hown6 g e;omega)).trans (hb7.block g (hown6 g e).2));obtain⟨g8,cap8,w8,hap,q8,p8,gr8,hg8⟩:=yd (P:=Tryz.prog) (w7.alloc (.cells #[.string s1] 9)) 42 42 (T+1+1+1) 9 iS _ 16 Tryz.underlying42 hS hSz hSs hSb rfl vl (out.map Value.string) r7 ⟨w7.heap.size,0,none⟩ 1 (.string s1) (q2l w7 _ _ _ rfl) rfl (by rw[qv];unfold maxLen;omega) (by rw[qv];omega) (by rw[q6];have:=Z6.out;omega);have A8:=qh (q5r hb7 gr8);have f8:w8.frozen? ⟨L1,0,none⟩=false:=frozen_of_row _ _ _ _ _ ((A8.out.1 L1 (by have:=Z6.out;omega) (fun e=>by have:=hown6 L1 e;omega)).trans CL6.out);have c8:w8.cell? ⟨L1,0,none⟩=some vl:=qk _ _ _ _ _ _ ((A8.out.1 L1 (by have:=Z6.out;omega) (fun e=>by have:=hown6 L1 e;omega)).trans CL6.out);have Q8:=qh (q2f q8);have HG8:=qh (q2h (n:=(out++[s1]).length) (cap:=cap8) hg8 (by rw[q6];exact Nat.le_succ_of_le hz7));rw[qv]at hap;have HAP:=qh hap;clear q8 p8 gr8 hg8 r7 hb7 hap;go_simp;refine hK _ _ ?_;clear hK K;refine wpAnyIn_ready (rs:=[4]) (by kernel_rfl) (by simp) ?_;refine AllReadyIn.cons rfl (fun K hK=>?_) ?_
          ·skip
           go_simp;refine hK _ _ ?_;clear hK K;refine wpAnyIn_ready (rs:=[5]) (by kernel_rfl) (by simp) ?_;refine AllReadyIn.cons rfl (fun K hK=>?_) ?_
           ·skip
            refine yw rfl _ _ 42 rfl rfl rfl HAP.out ?_;refine hK _ _ ?_;clear hK K;refine wpAnyIn_ready (rs:=[6]) (by kernel_rfl) (by simp) ?_;refine AllReadyIn.cons rfl (fun K hK=>?_) ?_
            ·skip
             go_simp;refine hK _ _ ?_;clear hK K;refine wpAnyIn_done (by kernel_rfl) ?_ _;go_simp;simp only[q09];exact LEAF g8 cap8 w8 A8.out Q8.out HG8.out
            exact AllReadyIn.nil
           exact AllReadyIn.nil
          exact AllReadyIn.nil
         exact AllReadyIn.nil
        exact AllReadyIn.nil
       refine AllReadyIn.cons rfl (fun K hK=>?_) ?_
       ·skip
        go_simp;refine hK _ _ ?_;clear hK K;refine wpAnyIn_ready (rs:=[0,3]) (by kernel_rfl) (by simp) ?_;refine AllReadyIn.cons rfl (fun K hK=>?_) ?_
        ·skip
         go_simp;refine hK _ _ ?_;clear hK K;refine wpAnyIn_ready (rs:=[3]) (by kernel_rfl) (by simp) ?_;refine AllReadyIn.cons rfl (fun K hK=>?_) ?_
         ·skip
          go_simp;refine⟨trivial,fun e=>(by cases e),?_⟩;refine(CallsIn.inRound _ ((callsIn_wide (n:=m - 1)).2 CC6.out)).mono ?_;rintro e w7⟨rfl,hb7⟩;have hz7:w6.heap.size<=w7.heap.size:=hb7.size;have hL7:L1 < w7.heap.size:=(by have:=Z6.out;omega);have l7:w7.cell? ⟨L1,0,none⟩=some vl:=(hb7.cell (p:=⟨L1,0,none⟩) (show L1 < w6.heap.size by have:=Z6.out;omega)).trans l6;have l7a:=(fun o=>(World.cell?_alloc_past (w:=w7) o L1 0 hL7).trans l7);have r7:x9 (T+1+1+1) (w7.alloc (.cells #[.string s1] 9)) vl out:=zd RL6.out (fun g e=>(Below.heap_alloc _ _ _ (by have:=hown6 g e;omega)).trans (hb7.block g (hown6 g e).2));obtain⟨g8,cap8,w8,hap,q8,p8,gr8,hg8⟩:=yd (P:=Tryz.prog) (w7.alloc (.cells #[.string s1] 9)) 42 42 (T+1+1+1) 9 iS _ 16 Tryz.underlying42 hS hSz hSs hSb rfl vl (out.map Value.string) r7 ⟨w7.heap.size,0,none⟩ 1 (.string s1) (q2l w7 _ _ _ rfl) rfl (by rw[qv];unfold maxLen;omega) (by rw[qv];omega) (by rw[q6];have:=Z6.out;omega);have A8:=qh (q5r hb7 gr8);have f8:w8.frozen? ⟨L1,0,none⟩=false:=frozen_of_row _ _ _ _ _ ((A8.out.1 L1 (by have:=Z6.out;omega) (fun e=>by have:=hown6 L1 e;omega)).trans CL6.out);have c8:w8.cell? ⟨L1,0,none⟩=some vl:=qk _ _ _ _ _ _ ((A8.out.1 L1 (by have:=Z6.out;omega) (fun e=>by have:=hown6 L1 e;omega)).trans CL6.out);have Q8:=qh (q2f q8);have HG8:=qh (q2h (n:=(out++[s1]).length) (cap:=cap8) hg8 (by rw[q6];exact Nat.le_succ_of_le hz7));rw[qv]at hap;have HAP:=qh hap;clear q8 p8 gr8 hg8 r7 hb7 hap;go_simp;refine hK _ _ ?_;clear hK K;refine wpAnyIn_ready (rs:=[4]) (by kernel_rfl) (by simp) ?_;refine AllReadyIn.cons rfl (fun K hK=>?_) ?_
          ·skip
           go_simp;refine hK _ _ ?_;clear hK K;refine wpAnyIn_ready (rs:=[5]) (by kernel_rfl) (by simp) ?_;refine AllReadyIn.cons rfl (fun K hK=>?_) ?_
           ·skip
            refine yw rfl _ _ 42 rfl rfl rfl HAP.out ?_;refine hK _ _ ?_;clear hK K;refine wpAnyIn_ready (rs:=[6]) (by kernel_rfl) (by simp) ?_;refine AllReadyIn.cons rfl (fun K hK=>?_) ?_
            ·skip
             go_simp;refine hK _ _ ?_;clear hK K;refine wpAnyIn_done (by kernel_rfl) ?_ _;go_simp;simp only[q09];exact LEAF g8 cap8 w8 A8.out Q8.out HG8.out
            exact AllReadyIn.nil
           exact AllReadyIn.nil
          exact AllReadyIn.nil
         exact AllReadyIn.nil
        refine AllReadyIn.cons rfl (fun K hK=>?_) ?_
        ·skip
         go_simp;refine⟨trivial,fun e=>(by cases e),?_⟩;refine(CallsIn.inRound _ ((callsIn_wide (n:=m - 1)).2 CC6.out)).mono ?_;rintro e w7⟨rfl,hb7⟩;have hz7:w6.heap.size<=w7.heap.size:=hb7.size;have hL7:L1 < w7.heap.size:=(by have:=Z6.out;omega);have l7:w7.cell? ⟨L1,0,none⟩=some vl:=(hb7.cell (p:=⟨L1,0,none⟩) (show L1 < w6.heap.size by have:=Z6.out;omega)).trans l6;have l7a:=(fun o=>(World.cell?_alloc_past (w:=w7) o L1 0 hL7).trans l7);have r7:x9 (T+1+1+1) (w7.alloc (.cells #[.string s1] 9)) vl out:=zd RL6.out (fun g e=>(Below.heap_alloc _ _ _ (by have:=hown6 g e;omega)).trans (hb7.block g (hown6 g e).2));obtain⟨g8,cap8,w8,hap,q8,p8,gr8,hg8⟩:=yd (P:=Tryz.prog) (w7.alloc (.cells #[.string s1] 9)) 42 42 (T+1+1+1) 9 iS _ 16 Tryz.underlying42 hS hSz hSs hSb rfl vl (out.map Value.string) r7 ⟨w7.heap.size,0,none⟩ 1 (.string s1) (q2l w7 _ _ _ rfl) rfl (by rw[qv];unfold maxLen;omega) (by rw[qv];omega) (by rw[q6];have:=Z6.out;omega);have A8:=qh (q5r hb7 gr8);have f8:w8.frozen? ⟨L1,0,none⟩=false:=frozen_of_row _ _ _ _ _ ((A8.out.1 L1 (by have:=Z6.out;omega) (fun e=>by have:=hown6 L1 e;omega)).trans CL6.out);have c8:w8.cell? ⟨L1,0,none⟩=some vl:=qk _ _ _ _ _ _ ((A8.out.1 L1 (by have:=Z6.out;omega) (fun e=>by have:=hown6 L1 e;omega)).trans CL6.out);have Q8:=qh (q2f q8);have HG8:=qh (q2h (n:=(out++[s1]).length) (cap:=cap8) hg8 (by rw[q6];exact Nat.le_succ_of_le hz7));rw[qv]at hap;have HAP:=qh hap;clear q8 p8 gr8 hg8 r7 hb7 hap;go_simp;refine hK _ _ ?_;clear hK K;refine wpAnyIn_ready (rs:=[0,4]) (by kernel_rfl) (by simp) ?_;refine AllReadyIn.cons rfl (fun K hK=>?_) ?_
         ·skip
          go_simp;refine hK _ _ ?_;clear hK K;refine wpAnyIn_ready (rs:=[4]) (by kernel_rfl) (by simp) ?_;refine AllReadyIn.cons rfl (fun K hK=>?_) ?_
          ·skip
           go_simp;refine hK _ _ ?_;clear hK K;refine wpAnyIn_ready (rs:=[5]) (by kernel_rfl) (by simp) ?_;refine AllReadyIn.cons rfl (fun K hK=>?_) ?_
           ·skip
            refine yw rfl _ _ 42 rfl rfl rfl HAP.out ?_;refine hK _ _ ?_;clear hK K;refine wpAnyIn_ready (rs:=[6]) (by kernel_rfl) (by simp) ?_;refine AllReadyIn.cons rfl (fun K hK=>?_) ?_
            ·skip
             go_simp;refine hK _ _ ?_;clear hK K;refine wpAnyIn_done (by kernel_rfl) ?_ _;go_simp;simp only[q09];exact LEAF g8 cap8 w8 A8.out Q8.out HG8.out
            exact AllReadyIn.nil
           exact AllReadyIn.nil
          exact AllReadyIn.nil
         refine AllReadyIn.cons rfl (fun K hK=>?_) ?_
         ·skip
          go_simp;refine hK _ _ ?_;clear hK K;refine wpAnyIn_ready (rs:=[0]) (by kernel_rfl) (by simp) ?_;refine AllReadyIn.cons rfl (fun K hK=>?_) ?_
          ·skip
           go_simp;refine hK _ _ ?_;clear hK K;refine wpAnyIn_ready (rs:=[5]) (by kernel_rfl) (by simp) ?_;refine AllReadyIn.cons rfl (fun K hK=>?_) ?_
           ·skip
            refine yw rfl _ _ 42 rfl rfl rfl HAP.out ?_;refine hK _ _ ?_;clear hK K;refine wpAnyIn_ready (rs:=[6]) (by kernel_rfl) (by simp) ?_;refine AllReadyIn.cons rfl (fun K hK=>?_) ?_
            ·skip
             go_simp;refine hK _ _ ?_;clear hK K;refine wpAnyIn_done (by kernel_rfl) ?_ _;go_simp;simp only[q09];exact LEAF g8 cap8 w8 A8.out Q8.out HG8.out
            exact AllReadyIn.nil
           exact AllReadyIn.nil
          exact AllReadyIn.nil
         exact AllReadyIn.nil
        exact AllReadyIn.nil
       exact AllReadyIn.nil
      exact AllReadyIn.nil
  ·rintro e w' ⟨hv,hj|⟨q,_,hf⟩⟩
   ·exact⟨hv,hj.2⟩
   ·exact hf.elim
 rw[z4,hW1];refine hcall.mono ?_;clear hcall j0 hsup hd1 hl1 old o4 B4 b4 hB1 m3 v3 l3 k3 r3 t3 B3 o3;rintro e w'⟨⟨v0,rfl⟩,j,jl⟩;refine⟨none,w'.putObj (T+1+1) (.loop { r with state:=.exhausted }),?_,?_⟩
 ·refine(run_endLoop (P:=Tryz.prog) jl (by rw[hr1];simp)).trans ?_
  rw[hr2]
 ·have j5:=j.putLoop hT { r with state:=.exhausted }
  obtain⟨W5,hW5⟩:∃ W5,w'.putObj (T+1+1) (.loop { r with state:=.exhausted })=W5:=⟨_,rfl⟩;rw[hW5]at j5 ⊢;dsimp only[Exit.inBlock,Exit.then];obtain⟨vl,cl5,rl5⟩:=j5.c;have c5:W5.cell? ⟨L1,0,none⟩=some vl:=qk _ _ _ _ _ _ cl5;have J5:=qh j5;have RL5:=qh rl5;clear j j5 jl hW5 cl5 rl5 hr hr1 hr2 hr3 hW1;refine zz (n:=6) ?_;refine wpIn_wide.2 ?_;go_wp2;refine⟨by simp,.inl ⟨_,_,rfl,run_takeDeferred J5.out.d,?_⟩⟩;refine⟨.tuple #[vl,.int .i64 0],by simp[results,Tryz.results55,go_sem],vl,rfl,?_,jo (B1.trans (J5.out.b.mono (by omega))) _ _ (by omega)⟩;exact zd (vj RL5.out (by omega)) fun g e=>World.putObj_heap_other (by have:=World.ownsRow.lt RL5.out g e;omega)
end Go.Proofs.YtkckddojlignpaaGreatDoor
namespace Go.Proofs.YtkckddojlignpaaGreatDoor
theorem qh8{n:Nat}:jv 7 n=false:=by
 unfold jv;simp
mutual
theorem q3l:∀ t:Nd,t.okP=true->smN t/\q53 t
 | .mk k s l,h=>by
  simp only[Nd.okP,qd,qf]at h;obtain⟨h1,h2,h3⟩:=h;have:=q6n l h3;simp only[smN,q53];refine⟨⟨h2,this.1⟩,?_⟩
  split
  ·rename_i hk
   subst hk;rw[qh8]at h1
   cases h1
  ·exact this.2
theorem q6n:∀ l:List Nd,Nd.okL l=true->smL l/\mdL l
 |[],_=>by simp only[smL,mdL];exact⟨trivial,trivial⟩
 |a :: l,h=>by
  simp only[Nd.okL,qd]at h;have h1:=q3l a h.1;have h2:=q6n l h.2;simp only[smL,mdL];exact⟨⟨h1.1,h2.1⟩,h1.2,h2.2⟩
end
theorem qi3{t:Nd}(h:vq t=true):∃ k s,t = .mk k s []:=by
 obtain⟨k,s,l⟩:=t;simp only[vq,qd,qf]at h;have:l=[]:=List.eq_nil_of_length_eq_zero h.2.1;subst this;exact⟨k,s,rfl⟩
theorem q9l{t:Nd}(h:itemB t=true):smN t/\q53 t:=by
 have ho:=qap h;obtain⟨k,s,l⟩:=t;obtain⟨h1,_,h3⟩:=ho;have hf:=q6n l h3;simp only[smN,q53];refine⟨⟨h1,hf.1⟩,?_⟩
 split
 ·rename_i hk
  subst hk;simp only[itemB,Int.reduceEq,or_self,if_false,if_true,qd]at h;intro x hx;obtain⟨i,hi,rfl⟩:=List.getElem_of_mem hx;exact qi3 ((q19 l).1 h.2.1 i hi)
 ·exact hf.2
theorem qen{t:Nd}(h:xv t=0):smN t/\q53 t:=by
 unfold xv at h
 split at h
 ·cases h
 ·split at h
  ·cases h
  ·split at h
   ·rename_i hv
    simp only[Bool.or_eq_true]at hv;rcases hv with h|h|h|h|h
    ·exact q3l t (q3v _ _ (q5 _) h)
    ·exact q3l t (qac _ _ (q5 _) h)
    ·exact q3l t (qar _ _ (q5 _) h)
    ·exact q9l h
    ·obtain⟨k,s,l⟩:=t
     simp only[xq,qd,qf]at h;obtain⟨rfl,hs,hl⟩:=h
     have hi:∀ x∈l,smN x/\q53 x:=fun x hx=>by
      obtain⟨i,hi,rfl⟩:=List.getElem_of_mem hx;exact q9l ((vy l).1 hl i hi)
     simp only[smN,q53];refine⟨⟨y9 hs,(qfy l).2 fun x hx=>(hi x hx).1⟩,?_⟩;rw[q7 (by decide)];exact(qga l).2 fun x hx=>(hi x hx).2
   ·cases h
end Go.Proofs.YtkckddojlignpaaGreatDoor
namespace Go.Proofs.YtkckddojlignpaaGreatDoor
open Go.RowKit Go.Shelf
theorem qc5(t:Nd)(kind:Int)(w:World)(v0 v1 v2:Value)(ht:NdR w t v0 v1 v2)(c:Int)(hv:xv t=c)(hc:c≠0) :
  Calls Tryz.prog 55 #[.agg #[v0,v1,v2],.int .i64 kind] w fun e w'=>e = .returned (.tuple #[.slice none 0 0,.int .i64 c])/\Below w.heap.size w w':=by
 obtain⟨k,s,kids,a,cap,rfl,rfl,rfl,rfl,hs,hl⟩:=ht.form;obtain⟨W0,hW0⟩:∃ W0,(w.alloc (.cells #[.int .i64 k,.string s,.slice a kids.length cap] 25)).alloc (.cells #[.int .i64 kind] 3)=W0:=⟨_,rfl⟩;have b0:Below w.heap.size w W0:=by rw[<-hW0];exact((Below.refl _ w).alloc (q5 _) _).alloc (by simp) _
 have r0:Row3 W0 w.heap.size (.int .i64 k) (.string s) (.slice a kids.length cap):=by rw[<-hW0];exact(Below.heap_alloc _ _ _ (by simp only[q6];omega)).trans (qm _ _)
 have t0:NdR W0 (.mk k s kids) (.int .i64 k) (.string s) (.slice a kids.length cap):=ht.later b0;have CC:=qh (q1n _ W0 _ _ _ t0);rw[hv]at CC;have hcb:((c:Int) != 0)=true:=by rw[bne_iff_ne];exact hc
 obtain⟨⟨n0,n1,n2⟩,_⟩:=r0.cells;have HB:=qh b0;clear b0 r0 t0 ht hv hc;go_enter Tryz.func55,Tryz.ntmps55
 go_upto_region 1 with fail
 (try rw[hW0])
 clear hW0
 go_wp2_with fail
 refine CC.out.mono ?_;rintro e w1⟨rfl,hb⟩;have HB1:=qh hb;clear hb CC n0 n1 n2;go_wp2;go_ret2;exact⟨rfl,HB.out.trans (HB1.out.mono HB.out.size)⟩
def qjb(kind:Int)(t:Nd)(w:World)(e:Ending)(w':World):Prop :=
 ∃ v,e = .returned (.tuple #[v,.int .i64 (xv t)])/\x9 w.heap.size w' v (if xv t=0 then q10 kind (xm 0 [] false t) else [])/\Below w.heap.size w w'
theorem qc6(t:Nd)(kind:Int)(w:World)(v0 v1 v2:Value)(ht:NdR w t v0 v1 v2) :
  Calls Tryz.prog 55 #[.agg #[v0,v1,v2],.int .i64 kind] w (qjb kind t w):=by
 by_cases h:xv t=0
 ·refine(qdm t kind w v0 v1 v2 ht h (qen h).1 (q4d h).2).mono ?_
  rintro e w'⟨v,rfl,hr,hb⟩;refine⟨v,by rw[h],?_,hb⟩;rw[qa h];exact hr
 ·refine(qc5 t kind w v0 v1 v2 ht _ rfl h).mono ?_
  rintro e w'⟨rfl,hb⟩;refine⟨_,rfl,?_,hb⟩;rw[q7 h];exact World.ownsRow_nil _ _ _ _
theorem qkr(g:Nat)(kind:Int)(hg:(g=22/\kind=15)\/(g=24/\kind=16))(t:Nd)(w:World)(v0 v1 v2:Value)(ht:NdR w t v0 v1 v2) :
  Calls Tryz.prog g #[.agg #[v0,v1,v2]] w (qjb kind t w):=by
 obtain⟨k,s,kids,a,cap,rfl,rfl,rfl,rfl,hs,hl⟩:=ht.form;obtain⟨W0,hW0⟩:∃ W0,w.alloc (.cells #[.int .i64 k,.string s,.slice a kids.length cap] 25)=W0:=⟨_,rfl⟩;have b0:Below w.heap.size w W0:=by rw[<-hW0];exact(Below.refl _ w).alloc (q5 _) _
 have z0:W0.heap.size=w.heap.size+1:=by rw[<-hW0];simp
 have r0:Row3 W0 w.heap.size (.int .i64 k) (.string s) (.slice a kids.length cap):=by rw[<-hW0];exact qm _ _
 have C0:=qc6 _ kind W0 _ _ _ (ht.later b0);unfold qjb at C0 ⊢;obtain⟨L,hL⟩:∃ L,(if xv (.mk k s kids)=0 then q10 kind (xm 0 [] false (.mk k s kids)) else [])=L:=⟨_,rfl⟩;obtain⟨c,hc⟩:∃ c,xv (.mk k s kids)=c:=⟨_,rfl⟩;rw[hL,hc]at C0;rw[hL,hc];have CC:=qh C0;obtain⟨⟨n0,n1,n2⟩,_⟩:=r0.cells;have HB:=qh b0;have HZ:=qh z0;clear b0 r0 ht hL hc C0 z0;rcases hg with ⟨rfl,rfl⟩|⟨rfl,rfl⟩
 ·go_enter Tryz.func22,Tryz.ntmps22
  go_upto_region 1 with fail
  (try rw[hW0])
  clear hW0
  go_wp2_with fail
  refine CC.out.mono ?_;rintro e w1⟨v,rfl,hr,hb⟩;have HB1:=qh hb;have HR:=qh hr;clear hb hr CC n0 n1 n2;go_wp2;go_ret2;exact⟨v,rfl,vj HR.out (by have:=HZ.out;omega),HB.out.trans (HB1.out.mono HB.out.size)⟩
 ·go_enter Tryz.func24,Tryz.ntmps24
  go_upto_region 1 with fail
  (try rw[hW0])
  clear hW0
  go_wp2_with fail
  refine CC.out.mono ?_;rintro e w1⟨v,rfl,hr,hb⟩;have HB1:=qh hb;have HR:=qh hr;clear hb hr CC n0 n1 n2;go_wp2;go_ret2;exact⟨v,rfl,vj HR.out (by have:=HZ.out;omega),HB.out.trans (HB1.out.mono HB.out.size)⟩
theorem qc9(g:Nat)(eg:∀ args w,(callFunc g args).run Tryz.prog w = .ok (.enter g args) w)(k k':Int)(s s':ByteArray)(l m:List Nd)(w:World)(a a':Option Addr)(cap cap':Nat)
  (ht:NdR w (.mk k s l) (.int .i64 k) (.string s) (.slice a l.length cap)) (hu:NdR w (.mk k' s' m) (.int .i64 k') (.string s') (.slice a' m.length cap')) (hl:l.length<=maxLen) (_hm:m.length<=maxLen)
  (C:∀ i,(h:i < l.length)->(h2:i < m.length)->∀ (w:World) (v0 v1 v2 u0 u1 u2:Value),NdR w l[i] v0 v1 v2->NdR w m[i] u0 u1 u2->Calls Tryz.prog g #[.agg #[v0,v1,v2],.agg #[u0,u1,u2]] w fun e w'=>e = .returned (.bool (ki l[i] m[i]))/\Below w.heap.size w w') :
  Calls Tryz.prog 76 #[.slice a l.length cap,.slice a' m.length cap',.func (.func g) #[] #[]] w fun e w'=>e = .returned (.bool (ju l m))/\Below w.heap.size w w':=by
 unfold maxLen at hl;have CC:=qh C;clear C
 by_cases hll:l.length=m.length
 ·have hl2:((l.length:Int) != (m.length:Int))=false:=by rw[hll];simp
  have HL:=qh hll;have HT:=qh ht;have HU:=qh hu;clear hll ht hu;go_enter Tryz.func76,Tryz.ntmps76;go_wp2
  go_loopw [17] (fun v wr=>∃ i:Nat,i<=l.length/\v = .int .i64 i/\Hid (ju l m=ju (l.drop i) (m.drop i))/\Hid (Below w.heap.size w wr)) (fun v _=>l.length - (intOf v).toNat)
  case atStart=>exact⟨0,qp _,rfl,rfl,Below.refl _ _⟩
  case round =>
   obtain⟨i,hi,rfl,hrun,hbl⟩:=hrel
   by_cases hlt:i < l.length
   ·have hlt':(i:Int) < (l.length:Int):=by omega
    have hi2:i < m.length:=by have:=HL.out;omega
    have hlt2:(i:Int) < (m.length:Int):=by omega
    have hi0:(0:Int)<=(i:Int):=by omega
    obtain⟨b,o,k1,s1,l1,a1,c1,rfl,e1,x0,x1,x2,r1⟩:=(HT.out.later hbl.out).kid i hlt;obtain⟨b',o',k2,s2,l2,a2,c2,rfl,e2,y0,y1,y2,r2⟩:=(HU.out.later hbl.out).kid i hi2;have Hst:=qh (q94 hlt hi2);obtain⟨V,hV⟩:∃ V,ki l[i] m[i]=V:=⟨_,rfl⟩;have C1:=fun w=>CC.out i hlt hi2 w (.int .i64 k1) (.string s1) (.slice a1 l1.length c1) (.int .i64 k2) (.string s2) (.slice a2 l2.length c2)
    rw[hV]at C1 Hst;rw[e1,e2]at C1;have C2:=qh C1;have R1:=qh r1;have R2:=qh r2;have L2:=qg x0;have L3:=qg y0;have yy0:=fun o=>(World.cell?_alloc_past (w:=wr) o b' (o'+i*3) L3).trans y0
    have yy1:=fun o=>(World.cell?_alloc_past (w:=wr) o b' (o'+i*3+1) L3).trans y1
    have yy2:=fun o=>(World.cell?_alloc_past (w:=wr) o b' (o'+i*3+2) L3).trans y2
    have Hbl:=hbl;clear e1 e2 hV r1 r2 C1
    go_wp2_with fail
    refine(C2.out _ (R1.out.later (((Below.refl _ _).alloc (q5 _) _).alloc (by simp) _)) (R2.out.later (((Below.refl _ _).alloc (q5 _) _).alloc (by simp) _))).mono ?_;rintro e w5⟨rfl,hb5⟩;have hbx:Hid (Below w.heap.size w w5):=qh (Hbl.out.trans ((((Below.refl wr.heap.size wr).alloc (q5 _) _).alloc (by simp) _).trans (hb5.mono (by simp;omega))|>.mono Hbl.out.size));clear C2 R1 R2 x0 x1 x2 y0 y1 y2 yy0 yy1 yy2 hb5
    cases V with
    |false =>
     go_wp2;go_ret;exact⟨by rw[hrun.out,Hst.out];rfl,hbx.out⟩
    |true =>
     go_wp2;go_roundw
     case rel=>exact⟨i+1,hlt,by push_cast;rfl,qh (by rw[hrun.out,Hst.out];rfl),hbx⟩
     case measure=>simp[intOf];omega
   ·have hlt':¬ ((i:Int) < (l.length:Int)):=by omega
    go_wp2;go_ret;exact⟨by rw[hrun.out,qba (by omega) (by have:=HL.out;omega)];rfl,hbl.out⟩
 ·have hl2:((l.length:Int) != (m.length:Int))=true:=by rw[bne_iff_ne];omega
  have HS:=qh (q69 l m hll);clear hll ht hu;go_enter Tryz.func76,Tryz.ntmps76;go_wp2;go_ret;exact⟨by rw[HS.out];rfl,Below.refl _ _⟩
theorem qju(n:Nat):∀ (t u:Nd) (w:World) (v0 v1 v2 u0 u1 u2:Value),t.sz<=n->NdR w t v0 v1 v2->NdR w u u0 u1 u2 ->
  Calls Tryz.prog 38 #[.agg #[v0,v1,v2],.agg #[u0,u1,u2]] w fun e w'=>e = .returned (.bool (ki t u))/\Below w.heap.size w w':=by
 induction n with
 |zero=>intro t u w v0 v1 v2 u0 u1 u2 h;cases t;simp only[Nd.sz]at h;omega
 |succ n ih =>
  intro t u w v0 v1 v2 u0 u1 u2 hsz ht hu;obtain⟨k,s,l,a,cap,rfl,rfl,rfl,rfl,hs,hl⟩:=ht.form;obtain⟨k',s',l',a',cap',rfl,rfl,rfl,rfl,hs',hl'⟩:=hu.form;have eg:∀ args w,(callFunc 38 args).run Tryz.prog w = .ok (.enter 38 args) w:=enters_of Tryz.func38 (by kernel_rfl) rfl;have CE:=qh (fun w h1 h2=>qc9 _ eg k k' s s' l l' w a a' cap cap' h1 h2 hl hl' (fun i hi hi2 w v0 v1 v2 u0 u1 u2=>ih l[i] l'[i] w v0 v1 v2 u0 u1 u2 (by have:=Nd.kid_lt k s l i hi;omega)));clear ih eg;have HB:Hid (Below w.heap.size w ((w.alloc (Obj.cells #[Value.int IntKind.i64 k,Value.string s,Value.slice a l.length cap] 25)).alloc (Obj.cells #[Value.int IntKind.i64 k',Value.string s',Value.slice a' l'.length cap'] 25))):=qh (((Below.refl _ w).alloc (q5 _) _).alloc (by simp) _);have HT:=qh (ht.later HB.out);have HU:=qh (hu.later HB.out);have HS:Hid (ki (.mk k s l) (.mk k' s' l')=((k==k' && s.toList==s'.toList) && ju l l')):=qh (by simp only[ki]);obtain⟨V,hV⟩:∃ V,ju l l'=V:=⟨_,rfl⟩;obtain⟨V2,hV2⟩:∃ V,(s.toList==s'.toList)=V:=⟨_,rfl⟩;rw[hV]at CE HS;rw[hV2]at HS;clear hV ht hu
  by_cases hk:k=k'
  ·have hk2:(k==k')=true:=by rw[hk];simp
   rw[hk2]at HS;clear hk
   cases V2 with
   |false =>
    go_enter Tryz.func38,Tryz.ntmps38;go_wp2;go_ret;exact⟨by rw[HS.out];rfl,HB.out⟩
   |true =>
    go_enter Tryz.func38,Tryz.ntmps38
    go_wp2_with fail
    refine(CE.out _ HT.out HU.out).mono ?_;rintro e w5⟨rfl,hb5⟩;have HB2:Hid (Below w.heap.size w w5):=qh (HB.out.trans (hb5.mono HB.out.size));clear hb5 CE HT HU;go_wp2;go_ret;exact⟨by rw[HS.out];rfl,HB2.out⟩
  ·have hk2:(k==k')=false:=by rw[q9];exact hk
   rw[hk2]at HS;clear hk;go_enter Tryz.func38,Tryz.ntmps38;go_wp2;go_ret;exact⟨by rw[HS.out];rfl,HB.out⟩
end Go.Proofs.YtkckddojlignpaaGreatDoor
namespace Go.Proofs.YtkckddojlignpaaGreatDoor
open Go.RowKit
def St(w wi:World):Prop:=Below w.heap.size w wi/\GLw wi/\2<=wi.heap.size
theorem St.below{w wi wj:World}(h:St w wi)(hb:Below wi.heap.size wi wj):St w wj:=⟨h.1.trans (hb.mono h.1.size),h.2.1.keep fun b _ hl=>hb.block b hl,ql h.2.2 hb.size⟩
theorem St.alloc{w wi:World}(h:St w wi)(o:Obj):St w (wi.alloc o):=h.below ((Below.refl _ wi).alloc (q5 _) o)
theorem q35(s:ByteArray)(what:Int)(g:Nat)(hg:(g=11/\what=18)\/(g=9/\what=1))(k:Int)(n:ByteArray)(l:List Nd)(hp:x3 (bs s) what=(some (.mk k n l),0,0))(hs:s.size<=maxLen)(w wi:World)(h:St w wi) :
  Calls Tryz.prog g #[.string s] wi fun e w'=>∃ a c,e = .returned (.tuple #[.agg #[.int .i64 k,.string n,.slice a l.length c],.int .i64 0,.int .i64 0])/\St w w'/\NdR w' (.mk k n l) (.int .i64 k) (.string n) (.slice a l.length c):=by
 have C:Calls Tryz.prog g #[.string s] wi (wb (x3 (bs s) what) wi):=by
  rcases hg with ⟨rfl,rfl⟩|⟨rfl,rfl⟩
  ·exact q2r s wi h.2.2 h.2.1 hs
  ·exact qc1 s wi h.2.2 h.2.1 hs
 rw[hp]at C;refine C.mono ?_;rintro e w'⟨k',s',a,m,c,rfl,hb,hn⟩;have hr:NdR w' (.mk k n l) (.int .i64 k') (.string s') (.slice a m c):=NdS.toR hn;obtain⟨k2,s2,l2,a2,c2,e1,e2,e3,e4,_,_⟩:=hr.form
 cases e1
 cases e2
 cases e3
 cases e4;exact⟨a,c,rfl,h.below hb,hr⟩
theorem q7o(s:ByteArray)(p er:Nat)(hp:x3 (bs s) 18=(none,p,er))(hs:s.size<=maxLen)(w wi:World)(h:St w wi) :
  Calls Tryz.prog 11 #[.string s] wi fun e w'=>e = .returned (.tuple #[.agg #[.int .i64 0,.string ⟨#[]⟩,.slice none 0 0],.int .i64 p,.int .i64 er])/\St w w':=by
 have C:=q2r s wi h.2.2 h.2.1 hs;rw[hp]at C;refine C.mono ?_;rintro e w'⟨k',s',a,m,c,rfl,hb,hn⟩;obtain⟨rfl,rfl,rfl,rfl,rfl⟩:=hn;exact⟨rfl,h.below hb⟩
theorem q0w(t:Nd)(out:ByteArray)(hp:zx t=(bs out,0))(w wi:World)(h:St w wi)(v0 v1 v2:Value)(ht:NdR wi t v0 v1 v2) :
  Calls Tryz.prog 18 #[.agg #[v0,v1,v2]] wi fun e w'=>e = .returned (.tuple #[.string out,.int .i64 0])/\St w w'/\Below wi.heap.size wi w':=by
 have C:=q2m t v0 v1 v2 wi ht h.2.1 h.2.2;rw[hp]at C;refine C.mono ?_;rintro e w'⟨rfl,hb⟩;exact⟨rfl,h.below hb,hb⟩
theorem qer(k:Int)(s:ByteArray)(a:Option Addr)(n c:Nat)(w wi:World)(h:St w wi) :
  Calls Tryz.prog 36 #[.int .i64 k,.string s,.slice a n c] wi fun e w'=>e = .returned (.agg #[.int .i64 k,.string s,.slice a n c])/\St w w'/\Below wi.heap.size wi w':=by
 have R1:=qh (Row3.new wi (.int .i64 k) (.string s) (.slice a n c));have HB:=qh ((Below.refl wi.heap.size wi).alloc (q5 _) (.cells #[.int .i64 k,.string s,.slice a n c] 25));have HS:=qh (h.alloc (.cells #[.int .i64 k,.string s,.slice a n c] 25));clear h;go_enter Tryz.func36,Tryz.ntmps36;go_wp2;exact zg R1.out rfl rfl rfl ⟨rfl,HS.out,HB.out⟩
theorem qes(s:ByteArray)(a:Option Addr)(n c:Nat)(w wi:World)(h:St w wi) :
  Calls Tryz.prog 37 #[.string s,.slice a n c] wi fun e w'=>e = .returned (.agg #[.int .i64 15,.string s,.slice a n c])/\St w w'/\Below wi.heap.size wi w':=by
 have R1:=qh (Row3.new wi (.int .i64 15) (.string s) (.slice a n c));have HB:=qh ((Below.refl wi.heap.size wi).alloc (q5 _) (.cells #[.int .i64 15,.string s,.slice a n c] 25));have HS:=qh (h.alloc (.cells #[.int .i64 15,.string s,.slice a n c] 25));clear h;go_enter Tryz.func37,Tryz.ntmps37;go_wp2;exact zg R1.out rfl rfl rfl ⟨rfl,HS.out,HB.out⟩
theorem NdR.lit1{w:World}{b:Nat}{k k1:Int}{s s1:ByteArray}{l1:List Nd}{a1:Option Addr}{c1:Nat}(hs:s.size<=maxLen)(h:w.heap[b]?=some (.cells #[.int .i64 k1,.string s1,.slice a1 l1.length c1] 25 (0,0)))
  (r:NdR w (.mk k1 s1 l1) (.int .i64 k1) (.string s1) (.slice a1 l1.length c1)):NdR w (.mk k s [.mk k1 s1 l1]) (.int .i64 k) (.string s) (.slice (some ⟨b,0,none⟩) 1 1):=by
 refine .mk k s [.mk k1 s1 l1] (some ⟨b,0,none⟩) 1 b 0 (fun _=>.int .i64 k1) (fun _=>.string s1) (fun _=>.slice a1 l1.length c1) hs (by simp[maxLen]) (by simp) (fun _=>rfl) ?_ ?_ ?_ ?_
 all_goals (intro i hi;obtain rfl:i=0:=by simpa using hi)
 ·exact qk _ _ _ _ _ _ h
 ·exact qk _ _ _ _ _ _ h
 ·exact qk _ _ _ _ _ _ h
 ·exact r
theorem NdR.lit2{w:World}{b:Nat}{k k1 k2:Int}{s s1 s2:ByteArray}{l1 l2:List Nd}{a1 a2:Option Addr}{c1 c2:Nat}(hs:s.size<=maxLen)(h:w.heap[b]?=some (.cells #[.int .i64 k1,.string s1,.slice a1 l1.length c1,.int .i64 k2,.string s2,.slice a2 l2.length c2] 25 (0,0)))
  (r1:NdR w (.mk k1 s1 l1) (.int .i64 k1) (.string s1) (.slice a1 l1.length c1)) (r2:NdR w (.mk k2 s2 l2) (.int .i64 k2) (.string s2) (.slice a2 l2.length c2)):NdR w (.mk k s [.mk k1 s1 l1,.mk k2 s2 l2]) (.int .i64 k) (.string s) (.slice (some ⟨b,0,none⟩) 2 2):=by
 refine .mk k s [.mk k1 s1 l1,.mk k2 s2 l2] (some ⟨b,0,none⟩) 2 b 0 (fun i=>if i=0 then .int .i64 k1 else .int .i64 k2) (fun i=>if i=0 then .string s1 else .string s2) (fun i=>if i=0 then .slice a1 l1.length c1 else .slice a2 l2.length c2) hs (by simp[maxLen]) (by simp) (fun _=>rfl) ?_ ?_ ?_ ?_
 all_goals (intro i hi;obtain rfl|rfl:i=0\/i=1:=by simp at hi;omega)
 ·exact qk _ _ _ _ _ _ h
 ·exact qk _ _ _ _ _ _ h
 ·exact qk _ _ _ _ _ _ h
 ·exact qk _ _ _ _ _ _ h
 ·exact qk _ _ _ _ _ _ h
 ·exact qk _ _ _ _ _ _ h
 ·exact r1
 ·exact r2
theorem NdR.leaf(w:World)(k:Int)(s:ByteArray)(hs:s.size<=maxLen):NdR w (.mk k s []) (.int .i64 k) (.string s) (.slice none 0 0):=(NdS.leaf (fun _=>True) w k s hs none 0).toR
end Go.Proofs.YtkckddojlignpaaGreatDoor
