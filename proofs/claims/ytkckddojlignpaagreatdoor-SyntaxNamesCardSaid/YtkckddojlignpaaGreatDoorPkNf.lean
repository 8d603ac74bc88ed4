/- A part of the proof, packed: see the last text of this claim. -/
import Derived.Test.YtkckddojlignpaaGreatDoorPkNa
import Derived.Test.YtkckddojlignpaaGreatDoorPkNb
import Derived.Test.YtkckddojlignpaaGreatDoorPkNc
import Derived.Test.YtkckddojlignpaaGreatDoorPkNd
import Derived.Test.YtkckddojlignpaaGreatDoorPkNe
import Derived.OwnWalkIn
import Derived.Stop.RegionWithIn
import Derived.BigGuardIn
import Derived.BigQuiet
import Derived.StillTailTactics
import Derived.Maps.AppendAt
import Derived.Deep.RegionLaw
import Derived.Deep.RegionHeld3
set_option maxHeartbeats 20000000
set_option maxRecDepth 100000
namespace Go.Proofs.YtkckddojlignpaaGreatDoor
open Go.RowKit
theorem q86{k p:Int}{s:ByteArray}(h:xt ⟨k,s,p⟩=true):s.size<=64:=by
 unfold xt qav at h
 cases hs:Lx.scan (bs s)with
 |bad i e=>rw[hs]at h;cases h
 |toks ts =>
  rw[hs]at h;simp only at h;have hb:=q6o hs
  match ts,h,hb with
  |[],h,_=>simp[q25]at h
  |[t],h,hb =>
   simp only[List.map_cons,List.map_nil,q25,q29]at h;have h1:=(hb t (by simp)).1;simp only[ql,beq_iff_eq]at h
   have h2:t.text.length=s.size:=by
    have:=h.1.2
    first|(rw[<-this];simp[ByteArray.size])|(have h3:=ki this;rw[<-h3];simp[ByteArray.size])
   omega
  |t :: u :: r,h,_=>simp[q25]at h
theorem yu{s:ByteArray}(h:zf s=true):s.size<=64:=q86 h
theorem q3q{s:ByteArray}(h:xy s=true):s.size<=64:=q86 h
theorem yf{s:ByteArray}(h:zb s=true):s.size<=64:=by
 unfold zb at h;rw[ByteArray.toList_eq]at h;have h2:s.data.toList=[]:=by simpa using h
 have:s.size=0:=by
  show s.data.size=0
  rw[<-Array.length_toList,h2];rfl
 omega
theorem kw:∀ {l:List Nd},(∀ x∈l,x.okP=true)->Nd.okL l=true
 |[],_=>by simp only[Nd.okL]
 |a :: l,h=>by
  simp only[Nd.okL,ql];exact⟨h a (by simp),kw fun x hx=>h x (by simp[hx])⟩
theorem q1g:∀ {l:List Nd},Nd.okL l=true->∀ x∈l,x.okP=true
 |a :: l,h,x,hx=>by
  simp only[Nd.okL,ql]at h;rcases List.mem_cons.1 hx with rfl|hx
  ·exact h.1
  ·exact q1g h.2 x hx
theorem q1d:∀ {l:List Nd} {x:Nd},x∈l->x.sz<=Nd.szL l
 |a :: l,x,hx=>by
  simp only[Nd.szL];rcases List.mem_cons.1 hx with rfl|hx
  ·omega
  ·have:=q1d hx;omega
theorem q6y:∀ {l:List Nd},yn l=true->∀ x∈l,x5 x=true
 |a :: l,h,x,hx=>by
  simp only[yn,ql]at h;rcases List.mem_cons.1 hx with rfl|hx
  ·exact h.1
  ·exact q6y h.2 x hx
theorem q51:∀ {l:List Nd},q01 l=true->∀ x∈l,zv x=true
 |a :: l,h,x,hx=>by
  simp only[q01,ql]at h;rcases List.mem_cons.1 hx with rfl|hx
  ·exact h.1
  ·exact q51 h.2 x hx
theorem q31:∀ {l:List Nd},jb l=true->∀ x∈l,qt x=true
 |a :: l,h,x,hx=>by
  simp only[jb,ql]at h;rcases List.mem_cons.1 hx with rfl|hx
  ·exact h.1
  ·exact q31 h.2 x hx
theorem q12{k:Int}{s:ByteArray}{l:List Nd}(h1:ji k l.length=true)(h2:s.size<=64)(h3:Nd.okL l=true):(Nd.mk k s l).okP=true:=by
 simp only[Nd.okP,ql,qp];exact⟨h1,h2,h3⟩
theorem q2e:∀ (N:Nat) (t:Nd),t.sz<=N->x5 t=true->t.okP=true:=by
 intro N
 induction N with
 |zero=>rintro⟨k,s,l⟩ h;simp only[Nd.sz]at h;omega
 |succ N ih =>
  rintro⟨k,s,l⟩h ht;simp only[Nd.sz]at h;simp only[x5]at ht
  split at ht
  ·rename_i hk
   subst hk;simp only[ql,qp]at ht;exact q12 (by rw[ht.2.1];decide) (yf ht.1) (kw fun x hx=>ih x (by have:=q1d hx;omega) (q6y ht.2.2 x hx))
  ·simp only[ql,qp]at ht
   obtain⟨rfl,hl,hn⟩:=ht;have:l=[]:=List.eq_nil_of_length_eq_zero hl;subst this;exact q12 (by decide) (yu hn) (by simp only[Nd.okL])
theorem q8j{s:ByteArray}{l:List Nd}(h:jy s l=true):s.size<=64/\(l.length=1\/l.length=2)/\(l.length=2->q1j l=true):=by
 simp only[jy,ql,Bool.or_eq_true,qp]at h;refine⟨h.1.elim yu q3q,h.2.imp id (·.1),fun e=>?_⟩;rcases h.2 with h2|h2
 ·omega
 ·exact h2.2
theorem q61:∀ (N:Nat) (t:Nd),t.sz<=N->zv t=true->t.okP=true:=by
 intro N
 induction N with
 |zero=>rintro⟨k,s,l⟩ h;simp only[Nd.sz]at h;omega
 |succ N ih =>
  rintro⟨k,s,l⟩h ht;simp only[Nd.sz]at h;simp only[zv]at ht
  split at ht
  ·rename_i hk
   subst hk;simp only[ql,qp]at ht;exact q12 rfl (yu ht.1) (kw fun x hx=>ih x (by have:=q1d hx;omega) (q51 ht.2.1 x hx))
  ·split at ht
   ·rename_i hk
    subst hk;simp only[ql,qp]at ht;exact q12 rfl (q3q ht.1) (kw fun x hx=>ih x (by have:=q1d hx;omega) (q51 ht.2.1 x hx))
   ·simp only[ql,qp]at ht
    obtain⟨rfl,hb,he⟩:=ht;obtain⟨h1,h2,h3⟩:=q8j hb;refine q12 (by rcases h2 with e|e <;> rw[e] <;> decide) h1 ?_
    match l,h2,h3,he,h with
    |[x],_,_,he,h =>
     simp only[q0g,List.isEmpty_nil,if_true,Nd.szL]at he h;exact kw fun y hy=>by rw[List.mem_singleton.1 hy];exact ih x (by omega) he
    |[x,y],_,h3,he,h =>
     have hx:=h3 rfl;simp only[q1j]at hx;simp only[q0g,List.isEmpty_cons,List.isEmpty_nil,if_true,Nd.szL]at he h;refine kw fun z hz=>?_
     rcases List.mem_cons.1 hz with rfl|hz
     ·exact q2e _ z (q9 _) hx
     ·rw[List.mem_singleton.1 hz];exact ih y (by omega) (by simpa using he)
    |[],h2,_,_,_=>simp at h2
    |_ :: _ :: _ :: _,h2,_,_,_=>simp at h2
theorem q6a:∀ (N:Nat) (t:Nd),t.sz<=N->qt t=true->t.okP=true:=by
 intro N
 induction N with
 |zero=>rintro⟨k,s,l⟩ h;simp only[Nd.sz]at h;omega
 |succ N ih =>
  rintro⟨k,s,l⟩h ht;simp only[Nd.sz]at h;simp only[qt]at ht
  split at ht
  ·exact q61 _ _ (q9 _) ht
  ·split at ht
   ·rename_i _ hk
    simp only[ql]at ht;obtain⟨hb,he⟩:=ht;obtain⟨h1,h2,h3⟩:=q8j hb;refine q12 (by rcases hk with rfl|rfl <;> rcases h2 with e|e <;> rw[e] <;> decide) h1 ?_
    match l,h2,h3,he,h with
    |[x],_,_,he,h =>
     simp only[yj,List.isEmpty_nil,if_true,Nd.szL]at he h;exact kw fun y hy=>by rw[List.mem_singleton.1 hy];exact ih x (by omega) he
    |[x,y],_,h3,he,h =>
     have hx:=h3 rfl;simp only[q1j]at hx;simp only[yj,List.isEmpty_cons,List.isEmpty_nil,if_true,Nd.szL]at he h;refine kw fun z hz=>?_
     rcases List.mem_cons.1 hz with rfl|hz
     ·exact q2e _ z (q9 _) hx
     ·rw[List.mem_singleton.1 hz];exact ih y (by omega) (by simpa using he)
    |[],h2,_,_,_=>simp at h2
    |_ :: _ :: _ :: _,h2,_,_,_=>simp at h2
   ·split at ht
    ·rename_i _ _ hk
     simp only[ql,qp]at ht;have:l=[]:=List.eq_nil_of_length_eq_zero ht.2;subst this;exact q12 (by rcases hk with rfl|rfl <;> decide) (yf ht.1) (by simp only[Nd.okL])
    ·split at ht
     ·rename_i _ _ _ hk
      simp only[ql,qp]at ht;exact q12 (by rw[ht.2.1];rcases hk with rfl|rfl <;> decide) (yf ht.1) (kw fun x hx=>ih x (by have:=q1d hx;omega) (q31 ht.2.2 x hx))
     ·simp only[ql,qp,wv]at ht
      have hk:=ht.1
      exact q12   (by rw [ht.2.2.1]; have : k = 22 \/ k = 23 \/ k = 24 \/ k = 25 \/ k = 26 \/ k = 27 \/ k = 28 := by omega
                      rcases this with rfl | rfl | rfl | rfl | rfl | rfl | rfl <;> decide) (yf          ht.2.1) (kw      fun x hx => ih x (by have := q1d     hx; omega) (q31       ht.2.2.2 x hx))
def Nd.okI:Nd->Prop| .mk k s l=>s.size<=64/\qi6 k l.length/\Nd.okL l=true
theorem qe4{t:Nd}(h:xl t=true):t.okP=true:=by
 obtain⟨k,s,l⟩:=t;simp only[xl,ql,qp]at h;obtain⟨rfl,hl,hn⟩:=h;have:l=[]:=List.eq_nil_of_length_eq_zero hl;subst this;exact q12 (by decide) (yu hn) (by simp only[Nd.okL])
theorem qln{t:Nd}(h:yi t=true):t.okP=true:=by
 obtain⟨k,s,l⟩:=t;simp only[yi,ql,Bool.or_eq_true,qp]at h;obtain⟨rfl,hl,hn⟩:=h;have:l=[]:=List.eq_nil_of_length_eq_zero hl;subst this;exact q12 (by decide) (by rcases hn with rfl|rfl|rfl <;> decide) (by simp only[Nd.okL])
theorem q90{l:List Nd}(h:∀ i (hi:i < l.length),(l[i]).okP=true):Nd.okL l=true:=kw fun x hx=>by
 obtain⟨i,hi,rfl⟩:=List.getElem_of_mem hx;exact h i hi
theorem q67{t:Nd}(h:itemB t=true):t.okI:=by
 obtain⟨k,s,l⟩:=t;simp only[itemB]at h
 split at h
 ·rename_i hk
  simp only[ql,qp]at h;exact⟨yf h.1,fun e=>by omega,q90 fun i hi=>qe4 ((q0t l).1 h.2.2 i hi)⟩
 ·split at h
  ·simp only[ql,qp]at h
   refine⟨yf h.1,fun e=>by omega,q90 fun i hi=>?_⟩
   by_cases he:i=l.length - 1
   ·subst he
    have h9:=h.2.2.2;rw[q3t (by omega)]at h9;exact q2e _ _ (q9 _) h9
   ·have:=(q0t _).1 h.2.2.1 i (by rw[List.length_take];omega)
    rw[List.getElem_take]at this;exact qe4 this
  ·simp only[ql]at h
   have hs:=yu h.1
   split at h
   ·simp only[ql]at h
    exact⟨hs,fun e=>by omega,kw fun x hx=>q2e _ x (q9 _) (q6y h.2.1 x hx)⟩
   ·split at h
    ·simp only[ql]at h
     exact⟨hs,fun e=>by omega,q90 fun i hi=>qln ((q0u l).1 h.2.1 i hi)⟩
    ·split at h
     ·simp only[ql,qp]at h
      exact⟨hs,fun e=>by omega,kw fun x hx=>q6a _ x (q9 _) (q31 h.2.2 x hx)⟩
     ·split at h
      ·simp only[qp]at h
       have:l=[]:=List.eq_nil_of_length_eq_zero h.2;subst this;exact⟨hs,fun e=>by omega,by simp only[Nd.okL]⟩
      ·simp at h
def Nd.okW:Nd->Prop| .mk k s l=>if k=1 then ∀ x∈l,x.okI else if itemB (.mk k s l)=true then(Nd.mk k s l).okI else(Nd.mk k s l).okP=true
theorem q6x{t:Nd}(h:zx t=0):t.okW/\t.sz<=4000:=by
 unfold zx at h
 split at h
 ·cases h
 ·split at h
  ·cases h
  ·split at h
   ·rename_i h1 _ hv
    refine⟨?_,by omega⟩;obtain⟨k,s,l⟩:=t;simp only[Bool.or_eq_true]at hv
    show if k=1 then ∀ x∈l,x.okI else if itemB (.mk k s l)=true then(Nd.mk k s l).okI else(Nd.mk k s l).okP=true
    have hp:x5 (.mk k s l)=true\/zv (.mk k s l)=true\/qt (.mk k s l)=true->(Nd.mk k s l).okP=true:=by
     rintro(h|h|h)
     ·exact q2e _ _ (q9 _) h
     ·exact q61 _ _ (q9 _) h
     ·exact q6a _ _ (q9 _) h
    by_cases hk:k=1
    ·subst hk
     rw[qj rfl];rcases hv with h|h|h|h|h
     ·have:=hp (.inl h);simp[Nd.okP,ji]at this
     ·have:=hp (.inr (.inl h));simp[Nd.okP,ji]at this
     ·have:=hp (.inr (.inr h));simp[Nd.okP,ji]at this
     ·simp[itemB]at h
     ·simp only[kj,ql]at h
      intro x hx;obtain⟨i,hi,rfl⟩:=List.getElem_of_mem hx;exact q67 ((wu l).1 h.2.2 i hi)
    ·rw[qd hk]
     split
     ·rename_i h;exact q67 h
     ·rename_i hi
      rcases hv with h|h|h|h|h
      ·exact hp (.inl h)
      ·exact hp (.inr (.inl h))
      ·exact hp (.inr (.inr h))
      ·exact absurd h hi
      ·simp only[kj,ql,qp]at h
       exact absurd h.1 hk
   ·cases h
def Nd.whl:Nd->Tx| .mk k s l=>if k=1 then l.flatMap fun x=>x.itm++[10] else if itemB (.mk k s l)=true then(Nd.mk k s l).itm else(Nd.mk k s l).txt 0 false
theorem qa3(k:Int):∀ l:List (List UInt8×Int),(∀ o∈l,o.1.length<=8)->(q32 k l).length<=8
 |[],_=>by simp[q32]
 |o :: l,h=>by
  simp only[q32]
  split
  ·exact h o (by simp)
  ·exact qa3 k l fun o ho=>h o (by simp[ho])
theorem q81(k:Int):(wq k).length<=8:=qa3 k _ (by decide)
theorem qfc(k:Int):(q82 k).length<=2:=by
 unfold q82
 split
 ·rename_i sg bd h
  unfold q2m opsL at h;simp only[q4k]at h
  repeat' split at h
  all_goals first|(cases h;decide)|cases h
 ·simp
theorem qj9(k:Int)(f:Bool->Tx)(n:Nat)(h:∀ m,(f m).length<=n)(bind:Nat)(more:Bool):(qeg k f bind more).length<=n+2:=by
 unfold qeg
 split
 ·have:=h false
  simp;omega
 ·have:=h more
  omega
theorem qdk{t:Nd}(h:∀ m,(t.bare m).length+10<=100*t.sz)(bind:Nat)(more:Bool):(t.txt bind more).length+8<=100*t.sz:=by
 have h0:=h false;have:=qj9 t.kd t.bare (100*t.sz - 10) (fun m=>by have:=h m;omega) bind more;unfold Nd.txt;omega
theorem qdn{l:List Nd}(F:Nd->Tx)(h:∀ x∈l,(F x).length<=100*x.sz):(l.flatMap F).length<=100*Nd.szL l:=by
 induction l with
 |nil=>simp
 |cons a l ih =>
  have h1:=h a (by simp);have h2:=ih fun x hx=>h x (by simp[hx])
  simp only[List.flatMap_cons,qg,Nd.szL];omega
theorem qmf{t:Nd}(ho:t.okP=true)(h:∀ m,(t.bare m).length+10<=100*t.sz):t.arg.length+8<=100*t.sz:=by
 have h0:=h false;obtain⟨k,s,l⟩:=t;unfold Nd.arg qgo;simp only[Nd.okP,ql,qp]at ho;have h1:1<=(Nd.mk k s l).sz:=by simp only[Nd.sz];omega
 simp only
 split
 ·simp
  omega
 ·rw[zd]
  omega
theorem q0n{l:List Nd}(h:∀ x∈l,∀ m,(x.bare m).length+10<=100*x.sz)(i:Nat)(hi:i < l.length)(bind:Nat)(more:Bool):(q2o l (Nd.bareL l) i bind more).length+8<=100*(l[i]).sz:=by
 rw[q0w hi];exact qdk (h _ (List.getElem_mem hi)) bind more
theorem qko:∀ (N:Nat) (t:Nd),t.sz<=N->t.okP=true->∀ m,(t.bare m).length+10<=100*t.sz:=by
 intro N
 induction N with
 |zero=>rintro⟨k,s,l⟩ h;simp only[Nd.sz]at h;omega
 |succ N ih =>
  rintro⟨k,s,l⟩h ho m;simp only[Nd.okP,ql,qp]at ho;obtain⟨h1,h2,h3⟩:=ho;simp only[Nd.sz]at h ⊢;have hk:∀ x∈l,∀ m,(x.bare m).length+10<=100*x.sz:=fun x hx=>ih x (by have:=q1d hx;omega) (q1g h3 x hx)
  have hsb:(bs s).length<=64:=by rw[zd];exact h2
  have how:=q81 k;have hsg:=qfc k
  by_cases h15:k=15\/k=16
  ·rw[q5y h15]
   have:=qdn (l:=l) (fun x=>32 :: x.arg) (fun x hx=>by have:=qmf (q1g h3 x hx) (hk x hx);simp only[qr];omega);rw[qg];omega
  ·simp only[Nd.bare,qao]
   rw[qd h15]
   by_cases hb:17<=k/\k<=19
   ·have h12:l.length=1\/l.length=2:=by
     have:k=17\/k=18\/k=19:=by omega
     rcases this with rfl|rfl|rfl <;> simpa[ji]using h1
    have hbf:(y8 s l (Nd.bareL l)).length<=72+100*Nd.szL l:=by
     unfold y8;rcases h12 with e|e
     ·match l,e with
      |[x],_ =>
       have h0:=q0n hk 0 (by simp) 0 false;simp only[List.length_singleton,Nat.sub_self,qg,Nd.szL,zk]at h0 ⊢;rw[qd (by omega)];simp;omega
     ·match l,e with
      |[x,y],_ =>
       have h0:=q0n hk 0 (by simp) 6 false;have h9:=q0n hk 1 (by simp) 0 false;simp only[qr,qz,Nat.zero_add,Nat.reduceAdd,qg,Nd.szL,zk,zi]at h0 h9 ⊢;rw[qj (by omega)];simp;omega
    split
    ·rw[qg];omega
    ·rw[qj (by omega),qg,qg]
     simp;omega
   ·rw[qd (by omega),qd (by omega)]
    split
    ·omega
    ·split
     ·rename_i _ hk29
      subst hk29;have:1<=l.length:=by simpa[ji]using h1
      have h0:=q0n hk 0 (by omega) 5 m;have h9:=y5 l 0 (by omega);rw[qg];omega
     ·split
      ·rename_i _ _ hk30
       subst hk30;have:1<=l.length:=by simpa[ji]using h1
       have h0:=q0n hk 0 (by omega) 0 false;have h9:=y5 l 0 (by omega);rw[qg,qg];simp;omega
      ·rename_i m20 m29 m30
       have hl2:2<=l.length:=by
        simp only[ji,decide_eq_false (fun e=>h15 (.inl e)),decide_eq_false (fun e=>h15 (.inr e)),decide_eq_false (fun e=>m20 (.inl e)),decide_eq_false (fun e=>m20 (.inr e)),decide_eq_false m29,decide_eq_false m30,Bool.false_or,Bool.or_eq_true,ql,qp,Bool.false_and]at h1;omega
       match l,hl2 with
       |x :: y :: r,_ =>
        have h0:=q0n hk 0 (by simp) (q64 (q5h k)) true;have h9:=q0n hk 1 (by simp) (q3d (q5h k)) m;simp only[Nd.szL,qg,zk,zi,qr,qz]at h0 h9 ⊢;omega
theorem q4a{t:Nd}(ho:t.okP=true)(bind:Nat)(more:Bool):(t.txt bind more).length+8<=100*t.sz:=qdk (qko _ t (q9 _) ho) bind more
theorem q7f:∀ {l:List Nd} (f:Bool),Nd.okL l=true->(jw l f).length<=66*Nd.szL l
 |[],f,_=>by simp[jw]
 |⟨k,s,kl⟩ :: l,f,h=>by
  simp only[Nd.okL,ql,Nd.okP,qp]at h;have:=q7f false h.2;simp only[jw,Nd.nm,qg,Nd.szL,Nd.sz];have h2:(if f=true then([]:Tx) else [44,32]).length<=2:=by split <;> simp
  rw[zd];omega
theorem qk3{l:List Nd}(h:Nd.okL l=true)(n:Nat):Nd.okL (l.take n)=true:=kw fun x hx=>q1g h x (List.mem_of_mem_take hx)
theorem qe5{t:Nd}(h:t.okI):t.itm.length<=100*t.sz:=by
 obtain⟨k,s,l⟩:=t;obtain⟨h1,h2,h3⟩:=h;have how:=q81 k
 have hb:(xz k l).length<=100*Nd.szL l+10:=by
  unfold xz
  split
  ·have:=q7f true h3;omega
  ·split
   ·rename_i hk
    have hl:=h2 (.inl hk);have e:l.length - 1 < l.length:=by omega
    have h4:=q7f true (qk3 h3 (l.length - 1));have h5:=q4a (q1g h3 _ (List.getElem_mem e)) 6 false;have h6:=q6z l (l.length - 1) e;rw[qw (by omega)]at h6;rw[q1i e];simp only[qg,qr,qz];omega
   ·split
    ·have:=qdn (l:=l) (fun x=>32 :: x.txt 7 false) (fun x hx=>by have:=q4a (q1g h3 x hx) 7 false;simp only[qr];omega)
     omega
    ·split
     ·rename_i hk
      have hl:=h2 (by omega);have h5:=q4a (q1g h3 _ (List.getElem_mem (show 0 < l.length by omega))) 0 false;have h6:=y5 l 0 (by omega);rw[q1i (by omega)];simp only[qg,qr,qz];omega
     ·simp
 simp only[Nd.itm,qg,qr,qz,zd,Nd.sz];omega
theorem qdj{t:Nd}(h:t.okW):t.whl.length<=200*t.sz:=by
 obtain⟨k,s,l⟩:=t;unfold Nd.whl;have h':if k=1 then ∀ x∈l,x.okI else if itemB (.mk k s l)=true then(Nd.mk k s l).okI else(Nd.mk k s l).okP=true:=h
 simp only
 split
 ·rename_i hk
  rw[qj hk]at h'
  have:∀ l:List Nd,(∀ x∈l,x.okI)->(l.flatMap fun x=>x.itm++[10]).length<=200*Nd.szL l:=by
   intro l
   induction l with
   |nil=>simp
   |cons a l ih =>
    intro hl;have h1:=qe5 (hl a (by simp));have h2:=ih fun x hx=>hl x (by simp[hx])
    have h3:1<=a.sz:=by obtain⟨k,s,l⟩:=a;simp only[Nd.sz];omega
    simp only[List.flatMap_cons,qg,Nd.szL,qr,qz];omega
  have:=this l h';simp only[Nd.sz];omega
 ·rename_i hk
  rw[qd hk]at h'
  split
  ·rename_i hi
   rw[qj hi]at h';have:=qe5 h';omega
  ·rename_i hi
   rw[qd hi]at h';have:=q4a h' 0 false;omega
end Go.Proofs.YtkckddojlignpaaGreatDoor
namespace Go.Proofs.YtkckddojlignpaaGreatDoor
theorem qep{n:Nat}:ji 7 n=false:=by
 unfold ji;simp
mutual
theorem q2y:∀ t:Nd,t.okP=true->smN t/\q1h t
 | .mk k s l,h=>by
  simp only[Nd.okP,ql,qp]at h;obtain⟨h1,h2,h3⟩:=h;have:=q5j l h3;simp only[smN,q1h];refine⟨⟨h2,this.1⟩,?_⟩
  split
  ·rename_i hk
   subst hk;rw[qep]at h1
   cases h1
  ·exact this.2
theorem q5j:∀ l:List Nd,Nd.okL l=true->smL l/\mdL l
 |[],_=>by simp only[smL,mdL];exact⟨trivial,trivial⟩
 |a :: l,h=>by
  simp only[Nd.okL,ql]at h;have h1:=q2y a h.1;have h2:=q5j l h.2;simp only[smL,mdL];exact⟨⟨h1.1,h2.1⟩,h1.2,h2.2⟩
end
theorem qfp{t:Nd}(h:yi t=true):∃ k s,t = .mk k s []:=by
 obtain⟨k,s,l⟩:=t;simp only[yi,ql,qp]at h;have:l=[]:=List.eq_nil_of_length_eq_zero h.2.1;subst this;exact⟨k,s,rfl⟩
theorem q89{t:Nd}(h:itemB t=true):smN t/\q1h t:=by
 have ho:=q67 h;obtain⟨k,s,l⟩:=t;obtain⟨h1,_,h3⟩:=ho;have hf:=q5j l h3;simp only[smN,q1h];refine⟨⟨h1,hf.1⟩,?_⟩
 split
 ·rename_i hk
  subst hk;simp only[itemB,Int.reduceEq,or_self,if_false,if_true,ql]at h;intro x hx;obtain⟨i,hi,rfl⟩:=List.getElem_of_mem hx;exact qfp ((q0u l).1 h.2.1 i hi)
 ·exact hf.2
theorem q0f{t:Nd}(h:zx t=0):smN t/\q1h t:=by
 unfold zx at h
 split at h
 ·cases h
 ·split at h
  ·cases h
  ·split at h
   ·rename_i hv
    simp only[Bool.or_eq_true]at hv;rcases hv with h|h|h|h|h
    ·exact q2y t (q2e _ _ (q9 _) h)
    ·exact q2y t (q61 _ _ (q9 _) h)
    ·exact q2y t (q6a _ _ (q9 _) h)
    ·exact q89 h
    ·obtain⟨k,s,l⟩:=t
     simp only[kj,ql,qp]at h;obtain⟨rfl,hs,hl⟩:=h
     have hi:∀ x∈l,smN x/\q1h x:=fun x hx=>by
      obtain⟨i,hi,rfl⟩:=List.getElem_of_mem hx;exact q89 ((wu l).1 hl i hi)
     simp only[smN,q1h];refine⟨⟨yf hs,(qdr l).2 fun x hx=>(hi x hx).1⟩,?_⟩;rw[qd (by decide)];exact(qe3 l).2 fun x hx=>(hi x hx).2
   ·cases h
end Go.Proofs.YtkckddojlignpaaGreatDoor
namespace Go.Proofs.YtkckddojlignpaaGreatDoor
open Go.RowKit Go.Shelf
attribute [local go_sem] Oper.semAt_some
abbrev jt:Nd:=.mk 0 ⟨#[]⟩ []
theorem wm(w:World):NdR w jt (.int .i64 0) (.string ⟨#[]⟩) (.slice none 0 0):=(NdS.leaf (fun _=>True) w 0 ⟨#[]⟩ (by decide) none 0).toR
theorem q3j{t:Nd}(h:zx t=0):t.sz<=4000:=by
 unfold zx at h
 split at h
 ·cases h
 ·omega
def PR(er:Int)(tr:Nd)(W:World)(e:Ending)(W':World):Prop :=
 ∃ u0 u1 u2,e = .returned (.tuple #[.agg #[u0,u1,u2],.int .i64 er])/\NdR W' tr u0 u1 u2/\Below W.heap.size W W'
attribute [local go_sem] Oper.semAt_some
theorem NdS.lts{S:Nat->Prop}{w:World}{t:Nd}{v0 v1 v2:Value}(h:NdS S w t v0 v1 v2):NdS (fun b=>S b/\b < w.heap.size) w t v0 v1 v2:=NdS.mono (fun _ h1 h2=>⟨h1,h2⟩) h
def PRS(S:Nat->Prop)(er:Int)(tr:Nd)(W:World)(e:Ending)(W':World):Prop :=
 ∃ u0 u1 u2,e = .returned (.tuple #[.agg #[u0,u1,u2],.int .i64 er])/\NdS S W' tr u0 u1 u2/\Below W.heap.size W W'
theorem q6v(S:Nat->Prop)(t:Nd)(v0 v1 v2:Value)(w:World)(ht:NdS S w t v0 v1 v2)(er:Int)(tr:Nd)(hc:zx t=er)(hA:(er≠0/\tr=jt)\/(er=0/\tr=t)) :
  Calls Tryz.prog 62 #[.agg #[v0,v1,v2]] w (PRS S er tr w):=by
 obtain⟨k0,s0,l0,a0,c0,rfl,rfl,rfl,rfl,_,_⟩:=ht.form;obtain⟨H,hH⟩:∃ H,w.heap.size=H:=⟨_,rfl⟩;obtain⟨W2,hW2⟩:∃ W2,(w.alloc (.cells #[.int .i64 k0,.string s0,.slice a0 l0.length c0] 25)).alloc (.cells #[.int .i64 0,.string ⟨#[]⟩,.slice none 0 0] 25)=W2:=⟨_,rfl⟩;have z2:W2.heap.size=H+1+1:=by rw[<-hW2];simp[hH]
 have B2:Below H w W2:=by rw[<-hW2,<-hH];exact((Below.refl _ w).alloc (q9 _) _).alloc (by simp) _
 have N2:Row3 W2 H (.int .i64 k0) (.string s0) (.slice a0 l0.length c0):=by
  rw[<-hW2,<-hH];exact(Below.heap_alloc _ _ _ (by simp)).trans (qk _ _)
 have R2:Row3 W2 (H+1) (.int .i64 0) (.string ⟨#[]⟩) (.slice none 0 0):=by rw[<-hW2,<-hH];exact za (by simp)
 have CK:=qh (vk _ W2 _ _ _ (ht.toR.later (by rw[hH];exact B2)));rw[hc]at CK;have HT:=qh (NdS.lts ht);have HH:=qh hH;have HZ:=qh z2;have HAS:=qh hA;have HB2:=qh B2;have HN2:=qh N2;have HR2:=qh R2;obtain⟨⟨n0,n1,n2⟩,_⟩:=N2.cells;clear ht hc hA B2 N2 R2;go_enter Tryz.func62,Tryz.ntmps62
 go_upto_region 1 with fail
 (try rw[hW2])
 (try rw[HH.out])
 clear hW2
 go_wp2_with fail
 refine CK.out.mono ?_;rintro e w3⟨rfl,b3⟩;have zz:=HZ.out;have N3:Row3 w3 H (.int .i64 k0) (.string s0) (.slice a0 l0.length c0):=HN2.out.below b3 HN2.out.lt;have R3:Row3 w3 (H+1) (.int .i64 0) (.string ⟨#[]⟩) (.slice none 0 0):=HR2.out.below b3 HR2.out.lt;have HB3:=qh (HB2.out.trans (b3.mono (by omega)));obtain⟨⟨n0',n1',n2'⟩,_⟩:=N3.cells;obtain⟨⟨r0,r1,r2⟩,q0,q1,q2⟩:=R3.cells;have HR3:=qh R3;clear n0 n1 n2 N3 R3 CK HN2 HR2 HB2
 by_cases hc0:er=0
 ·subst hc0
  have hE:Hid (tr = .mk k0 s0 l0):=qh (by
   rcases HAS.out with h|h
   ·exact absurd rfl h.1
   ·exact h.2)
  go_wp2;refine kr (HR3.out.put _ _ _) rfl rfl rfl rfl ?_;refine⟨_,_,_,rfl,?_,by rw[HH.out];exact zu HB3.out (by omega) _ _ _⟩;rw[hE.out];have hh:=HH.out;exact HT.out.keep (S':=S) (fun b (h1:S b/\b < w.heap.size) _=>⟨(zu HB3.out (show H<=H+1 by omega) _ _ _).block b (by omega),h1.1⟩)
 ·have hc1:(er==0)=false:=by simp[hc0]
  have hE:Hid (tr=jt):=qh (by
   rcases HAS.out with h|h
   ·exact h.2
   ·exact absurd h.1 hc0)
  clear n0' n1' n2';go_wp2;refine kr (HR3.out.put _ _ _) rfl rfl rfl rfl ?_;rw[hE.out];exact⟨_,_,_,rfl,NdS.leaf _ _ _ _ (by decide) _ _,by rw[HH.out];exact zu HB3.out (by omega) _ _ _⟩
theorem q26{n₁:Nat}{w:World}{a:Option Addr}{n c:Nat}{ss:List ByteArray}(h:ze n₁ w (.slice a n c) ss) :
  n=ss.length/\(ss=[]\/∃ g,a=some ⟨g,0,none⟩/\∀ j,j < ss.length->w.cell? ⟨g,0+j,none⟩=some (.string (ss.getD j ByteArray.empty))):=by
 have h':w.ownsRow n₁ 9 1 (.slice a n c) (ss.map Value.string).length (ss.map Value.string):=h;obtain⟨a',c',e⟩:=zr h'
 cases e;refine⟨by simp,?_⟩;rcases h'.2 with ⟨_,h0⟩|⟨g,cap,cur,hv,_⟩
 ·left
  simpa using h0
 ·right
  cases hv;refine⟨g,rfl,fun j hj=>?_⟩
  have hc:=h'.cells (g:=g) rfl j (.string (ss.getD j ByteArray.empty)) (by
   rw[List.getElem?_map,List.getD_eq_getElem?_getD,qq hj]
   rfl)
  have hadd:(⟨g,0,none⟩:Addr).add j=⟨g,0+j,none⟩:=by unfold Addr.add;split <;> simp_all
  rwa [hadd]at hc
theorem qaj(x:ByteArray):Lib.containsS [] x=false:=by
 rw[<-Bool.not_eq_true,Lib.containsS_iff];simp
theorem q2r{n₁:Nat}(w:World)(a:Option Addr)(n c:Nat)(ss:List ByteArray)(x:ByteArray)(h:ze n₁ w (.slice a n c) ss)(hl:ss.length<=9000000000000000000) :
  Calls Tryz.prog 61 #[.slice a n c,.string x] w fun e w'=>e = .returned (.bool (Lib.containsS ss x))/\w'=w:=by
 obtain⟨rfl,h0|⟨g,rfl,hc⟩⟩:=q26 h
 ·subst h0
  rw[qaj];exact Tryz.slices_Contains_string_empty a c x w
 ·refine(Tryz.slices_Contains_string g 0 ss.length c ss x w (q9 _) (by omega) hc).mono ?_
  rintro e w'⟨rfl,rfl⟩;rw[qw (q9 _)];exact⟨rfl,rfl⟩
theorem q30(n₁:Nat)(ap ai:Option Addr)(np cp ni ci:Nat)(wd:Bool)(k:Int)(s:ByteArray)(a:Option Addr)(n cap:Nat)(ss:List ByteArray)(w:World)(hi:ze n₁ w (.slice ai ni ci) ss)(hl:ss.length<=90000) :
  Calls Tryz.prog 60 #[.agg #[.slice ap np cp,.slice ai ni ci,.bool wd],.agg #[.int .i64 k,.string s,.slice a n cap]] w fun e w'=>e = .returned (.bool ((k==15||k==16) && (!wd && !Lib.containsS ss s)))/\Below w.heap.size w w':=by
 obtain⟨W,hW⟩:∃ W,(w.alloc (.cells #[.slice ap np cp,.slice ai ni ci,.bool wd] 85)).alloc (.cells #[.int .i64 k,.string s,.slice a n cap] 25)=W:=⟨_,rfl⟩;have hb:Below w.heap.size w W:=by rw[<-hW];exact((Below.refl _ w).alloc (q9 _) _).alloc (by simp) _
 have hi2:ze n₁ W (.slice ai ni ci) ss:=qy hi fun g e=>hb.block g (World.ownsRow.lt hi g e).2
 have CC:=qh (q2r W ai ni ci ss s hi2 (by omega));obtain⟨V,hV⟩:∃ V,Lib.containsS ss s=V:=⟨_,rfl⟩;rw[hV]at CC ⊢;have HB:=qh hb;have HW:=qh hW;have hA:RowP W w.heap.size (.slice ap np cp) (.slice ai ni ci) (.bool wd):=by rw[<-hW];exact(Below.heap_alloc _ _ _ (by simp only[q6];omega)).trans (qk _ _)
 have hN:Row3 W (w.heap.size+1) (.int .i64 k) (.string s) (.slice a n cap):=by rw[<-hW];exact za (by simp)
 obtain⟨⟨p0,p1,p2⟩,_⟩:=hA.cells;obtain⟨⟨n0,n1,n2⟩,_⟩:=hN.cells;obtain⟨X,hX⟩:∃ X,(k==15||k==16)=X:=⟨_,rfl⟩;rw[hX];have HX:=qh hX;clear hV hb hW hi hi2 hA hN hX hl
 cases h15:(k==15)with
 |true =>
  have HE:Hid (X=true):=qh (by rw[<-HX.out,h15];rfl);clear HX
  cases wd with
  |true =>
   go_enter Tryz.func60,Tryz.ntmps60
   go_upto_region 1 with fail
   rw[HW.out];go_wp2;go_ret;exact⟨by rw[HE.out];rfl,HB.out⟩
  |false =>
   go_enter Tryz.func60,Tryz.ntmps60
   go_upto_region 1 with fail
   rw[HW.out]
   go_wp2_with fail
   refine CC.out.mono ?_;rintro e w1⟨rfl,rfl⟩;go_wp2;go_ret;exact⟨by rw[HE.out];rfl,HB.out⟩
 |false =>
  cases h16:(k==16)with
  |true =>
   have HE:Hid (X=true):=qh (by rw[<-HX.out,h15,h16];rfl);clear HX
   cases wd with
   |true =>
    go_enter Tryz.func60,Tryz.ntmps60
    go_upto_region 1 with fail
    rw[HW.out];go_wp2;go_ret;exact⟨by rw[HE.out];rfl,HB.out⟩
   |false =>
    go_enter Tryz.func60,Tryz.ntmps60
    go_upto_region 1 with fail
    rw[HW.out]
    go_wp2_with fail
    refine CC.out.mono ?_;rintro e w1⟨rfl,rfl⟩;go_wp2;go_ret;exact⟨by rw[HE.out];rfl,HB.out⟩
  |false =>
   have HE:Hid (X=false):=qh (by rw[<-HX.out,h15,h16];rfl);clear HX;go_enter Tryz.func60,Tryz.ntmps60
   go_upto_region 1 with fail
   rw[HW.out];go_wp2;go_ret;exact⟨by rw[HE.out];rfl,HB.out⟩
attribute [local go_sem] Oper.semAt_some
def q0m(fr:ByteArray)(ins:List ByteArray)(wd:Bool)(k:Int)(s:ByteArray):Bool:=s.toList==fr.toList && ((k==15||k==16) && (!wd && !Lib.containsS ins s))
def q7g(fr tn:ByteArray)(kind:Int)(_:List Value)(ins:List ByteArray)(wd:Bool):Nd->Nd
 | .mk k s l=>if q0m fr ins wd k s=true then .mk kind tn l else .mk k s l
theorem Row3.put01{W:World}{b:Nat}{v0 v1 v2:Value}(h:Row3 W b v0 v1 v2)(u0 u1:Value):Row3 ((W.setCell ⟨b,0,none⟩ u0).setCell ⟨b,1,none⟩ u1).drew b u0 u1 v2:=by
 have h0:W.heap[b]?=some (.cells #[v0,v1,v2] 25 (0,0)):=h;exact(zp (zp h0)).trans rfl
theorem qjt(n₁ fb kb tb:Nat)(fr tn:ByteArray)(kind k:Int)(s:ByteArray)(np cp ni ci n c:Nat)(ap ai a:Option Addr)(ins:List ByteArray)(wd:Bool)(A:World)
  (hf:A.heap[fb]?=some (.cells #[.string fr] 9 (0,0))) (hk:A.heap[kb]?=some (.cells #[.int .i64 kind] 3 (0,0))) (ht:A.heap[tb]?=some (.cells #[.string tn] 9 (0,0)))
  (hi:ze n₁ A (.slice ai ni ci) ins) (hl:ins.length<=90000) (V:Bool) (hV:q0m fr ins wd k s=V) :
  Calls Tryz.prog 64 #[.agg #[.slice ap np cp,.slice ai ni ci,.bool wd],.agg #[.int .i64 k,.string s,.slice a n c],.pointer (some ⟨fb,0,none⟩),.pointer (some ⟨kb,0,none⟩),.pointer (some ⟨tb,0,none⟩)] A fun e W' =>
   e = .returned (.agg (if V=true then #[.int .i64 kind,.string tn,.slice a n c] else #[.int .i64 k,.string s,.slice a n c]))/\Below A.heap.size A W':=by
 obtain⟨H,hH⟩:∃ H,A.heap.size=H:=⟨_,rfl⟩;obtain⟨W3,hW3⟩:∃ W3,((A.alloc (.cells #[.slice ap np cp,.slice ai ni ci,.bool wd] 85)).alloc (.cells #[.int .i64 k,.string s,.slice a n c] 25)).alloc (.cells #[.int .i64 0,.string ⟨#[]⟩,.slice none 0 0] 25)=W3:=⟨_,rfl⟩;have z3:W3.heap.size=H+1+1+1:=by rw[<-hW3];simp[hH]
 have B3:Below H A W3:=by rw[<-hW3,<-hH];exact(((Below.refl _ A).alloc (q9 _) _).alloc (by simp) _).alloc (by simp only[q6];omega) _
 have A3:RowP W3 H (.slice ap np cp) (.slice ai ni ci) (.bool wd):=by
  rw[<-hW3,<-hH];exact(Below.heap_alloc _ _ _ (by simp only[q6];omega)).trans ((Below.heap_alloc _ _ _ (by simp only[q6];omega)).trans (qk _ _))
 have N3:Row3 W3 (H+1) (.int .i64 k) (.string s) (.slice a n c):=by
  rw[<-hW3,<-hH];exact(Below.heap_alloc _ _ _ (by simp only[q6];omega)).trans (za (by simp))
 have R3:Row3 W3 (H+1+1) (.int .i64 0) (.string ⟨#[]⟩) (.slice none 0 0):=by rw[<-hW3,<-hH];exact za (by simp)
 have lf:fb < H:=by rw[<-hH];exact q15 hf
 have lk:kb < H:=by rw[<-hH];exact q15 hk
 have lt:tb < H:=by rw[<-hH];exact q15 ht
 have f3:W3.cell? ⟨fb,0,none⟩=some (.string fr):=qm _ _ _ _ _ _ ((B3.block _ lf).trans hf);have K3:=qh ((B3.block _ lk).trans hk);have T3:=qh ((B3.block _ lt).trans ht);have hi3:ze n₁ W3 (.slice ai ni ci) ins:=qy hi fun g e=>B3.block g (by rw[<-hH];exact(World.ownsRow.lt hi g e).2)
 have CF:=qh (q30 n₁ ap ai np cp ni ci wd k s a n c ins W3 hi3 hl);obtain⟨F,hF⟩:∃ F,((k==15||k==16) && (!wd && !Lib.containsS ins s))=F:=⟨_,rfl⟩;rw[hF]at CF;unfold q0m at hV;rw[hF]at hV;obtain⟨⟨a0,a1,a2⟩,_⟩:=A3.cells;obtain⟨⟨n0,n1,n2⟩,_⟩:=N3.cells;have HB3:=qh B3;have HN3:=qh N3;have HR3:=qh R3;have HH:=qh hH;have HZ3:=qh z3;clear hf hk ht hi hF B3 A3 N3 R3 hi3 z3
 by_cases hse:s.toList=fr.toList
 ·have e1:(s.toList==fr.toList)=true:=by rw[beq_iff_eq];exact hse
  rw[e1,Bool.true_and]at hV;subst hV;have HSE:=qh hse;clear hse;go_enter Tryz.func64,Tryz.ntmps64
  go_upto_region 1 with fail
  (try rw[hW3])
  (try rw[HH.out])
  clear hW3
  go_wp2_with fail
  refine CF.out.mono ?_;rintro e w4⟨rfl,b4⟩;have zz:=HZ3.out;have N4:Row3 w4 (H+1) (.int .i64 k) (.string s) (.slice a n c):=HN3.out.below b4 HN3.out.lt;have R4:Row3 w4 (H+1+1) (.int .i64 0) (.string ⟨#[]⟩) (.slice none 0 0):=HR3.out.below b4 HR3.out.lt;have k4:w4.cell? ⟨kb,0,none⟩=some (.int .i64 kind):=qm _ _ _ _ _ _ ((b4.block _ (by omega)).trans K3.out);have t4:w4.cell? ⟨tb,0,none⟩=some (.string tn):=qm _ _ _ _ _ _ ((b4.block _ (by omega)).trans T3.out);have HR4:=qh R4;have HN4:=qh N4;have HB4:=qh (HB3.out.trans (b4.mono (by omega)));clear b4 CF a0 a1 a2 n0 n1 n2 f3 K3 T3
  cases F with
  |true =>
   obtain⟨⟨n0,n1,n2⟩,nf0,nf1,nf2⟩:=N4.cells;clear N4 R4
   go_upto_region 2 with fail
   go_cut [17] (fun _ wx=>Hid (Row3 wx (H+1) (.int .i64 kind) (.string tn) (.slice a n c)/\Row3 wx (H+1+1) (.int .i64 0) (.string ⟨#[]⟩) (.slice none 0 0)/\Below H A wx))
   case first =>
    go_region
    all_goals (try go_wp2)
    all_goals go_meet
    all_goals exact qh ⟨HN4.out.put01 _ _,(HR4.out.other (p:=⟨H+1,0,none⟩) _ (by simp)).other (p:=⟨H+1,1,none⟩) _ (by simp),((HB4.out.setCell (p:=⟨H+1,0,none⟩) (by simp) _).setCell (p:=⟨H+1,1,none⟩) (by simp) _).drew⟩
   case rest =>
    rename World=>wx
    obtain⟨N5,R5,B5⟩:=hcut.out;have HR5:=qh R5;have HB5:=qh B5;obtain⟨⟨n0',n1',n2'⟩,_⟩:=N5.cells;obtain⟨⟨r0,r1,r2⟩,rf0,rf1,rf2⟩:=R5.cells;clear N5 R5 B5 n0 n1 n2 nf0 nf1 nf2 k4 t4 hcut;go_wp2;refine zh (HR5.out.put _ _ _) rfl rfl rfl ⟨rfl,?_⟩;exact zu HB5.out (by omega) _ _ _
  |false =>
   obtain⟨⟨n0,n1,n2⟩,_⟩:=N4.cells;obtain⟨⟨r0,r1,r2⟩,rf0,rf1,rf2⟩:=R4.cells;clear N4 R4 k4 t4;go_wp2;refine zh (HR4.out.put _ _ _) rfl rfl rfl ⟨rfl,?_⟩;exact zu HB4.out (by omega) _ _ _
 ·have e1:(s.toList==fr.toList)=false:=by rw[qc];exact hse
  have e2:(s=fr)=False:=eq_false (by rintro rfl;exact hse rfl);rw[e1,Bool.false_and]at hV;subst hV;obtain⟨⟨r0,r1,r2⟩,rf0,rf1,rf2⟩:=HR3.out.cells;clear hse CF K3 T3;go_enter Tryz.func64,Tryz.ntmps64
  go_upto_region 1 with fail
  (try rw[hW3])
  (try rw[HH.out])
  clear hW3;go_wp2;refine zh (HR3.out.put _ _ _) rfl rfl rfl ⟨rfl,?_⟩;exact zu HB3.out (by omega) _ _ _
theorem NdS.renamed{S:Nat->Prop}{w:World}{k kind:Int}{s tn:ByteArray}{l:List Nd}{v0 v1 v2:Value}(h:NdS S w (.mk k s l) v0 v1 v2)(hs:tn.size<=maxLen):NdS S w (.mk kind tn l) (.int .i64 kind) (.string tn) v2:=by
 cases h with
 |mk k s l a cap b o f0 f1 f2 hs' hl hc ha hS h0 h1 h2 hr=>exact .mk kind tn l a _ b o f0 f1 f2 hs hl hc ha hS h0 h1 h2 hr
def qkt(fb kb tb:Nat)(fr tn:ByteArray)(kind:Int)(A:World):Prop:=A.heap[fb]?=some (.cells #[.string fr] 9 (0,0))/\A.heap[kb]?=some (.cells #[.int .i64 kind] 3 (0,0))/\A.heap[tb]?=some (.cells #[.string tn] 9 (0,0))
theorem qb2(fb kb tb:Nat)(fr tn:ByteArray)(kind:Int)(hts:tn.size<=maxLen)
  (n₁ H:Nat) (A:World) (vp vi v0 v1 v2:Value) (ps:List Value) (ins:List ByteArray) (wd:Bool) (t:Nd) (_hn:H<=A.heap.size) (hC:qkt fb kb tb fr tn kind A) (hp:xa n₁ A vp ps) (hi:ze n₁ A vi ins) (hl:ins.length<=90000) (ht:NdO (fun b=>b < H) vp vi A t v0 v1 v2) :
  Calls Tryz.prog 64 (#[.agg #[vp,vi,.bool wd],.agg #[v0,v1,v2]]++#[.pointer (some ⟨fb,0,none⟩),.pointer (some ⟨kb,0,none⟩),.pointer (some ⟨tb,0,none⟩)]) A fun e W'=>∃ u0 u1 u2,e = .returned (.agg #[u0,u1,u2])/\NdO (fun b=>b < H\/A.heap.size<=b) vp vi W' (q7g fr tn kind ps ins wd t) u0 u1 u2/\Below A.heap.size A W':=by
 obtain⟨k,s,l,a,c,rfl,rfl,rfl,rfl,_,_⟩:=ht.form;obtain⟨ap,cp,hvp⟩:=zr hp;obtain⟨ai,ci,hvi⟩:=zr hi;subst hvp hvi;refine(qjt n₁ fb kb tb fr tn kind k s _ cp _ ci l.length c ap ai a ins wd A hC.1 hC.2.1 hC.2.2 hi hl (q0m fr ins wd k s) rfl).mono ?_;rintro e w'⟨rfl,hb'⟩;simp only[q7g]
 by_cases hq:q0m fr ins wd k s=true
 ·rw[qj hq,qj hq]
  refine⟨_,_,_,rfl,?_,hb'⟩;exact NdS.renamed (NdS.keep (fun b h1 _=>⟨hb'.block b (by have:=h1.2;omega),h1.1,Or.inl h1.2⟩) ht) hts
 ·rw[qd hq,qd hq]
  refine⟨_,_,_,rfl,?_,hb'⟩;exact NdS.keep (fun b h1 _=>⟨hb'.block b (by have:=h1.2;omega),h1.1,Or.inl h1.2⟩) ht
end Go.Proofs.YtkckddojlignpaaGreatDoor
namespace Go.Proofs.YtkckddojlignpaaGreatDoor
mutual
def kf(fr tn:ByteArray)(kind:Int)(ins:List ByteArray)(wd:Bool):Nd->Nd
 | .mk k s l=>.mk (if q0m fr ins wd k s=true then kind else k) (if q0m fr ins wd k s=true then tn else s) (vf fr tn kind ins (if zo k then ins++[s] else ins) (k==7) l)
def vf(fr tn:ByteArray)(kind:Int)(ins il:List ByteArray)(wd:Bool):List Nd->List Nd
 |[]=>[]
 |a :: l=>kf fr tn kind (if l.isEmpty then il else ins) wd a :: vf fr tn kind ins il wd l
end
theorem q1l(fr tn:ByteArray)(kind:Int)(ins il:List ByteArray)(wd:Bool):∀ l:List Nd,(vf fr tn kind ins il wd l).length=l.length
 |[]=>by simp only[vf]
 |a :: l=>by simp only[vf,qr,q1l fr tn kind ins il wd l]
theorem q76(fr tn:ByteArray)(kind:Int)(ins il:List ByteArray)(wd:Bool):∀ (l:List Nd) (i:Nat) (h:i < l.length),(vf fr tn kind ins il wd l)[i]'(by rw[q1l];exact h)=kf fr tn kind (if i+1=l.length then il else ins) wd l[i]
 |[a],0,_=>by simp[vf]
 |a :: b :: l,0,_=>by simp[vf]
 |a :: l,i+1,h=>by
  simp only[vf,zi,qr];rw[q76 fr tn kind ins il wd l i (by simpa using h)]
  congr 2
  simp
theorem qhb{fr:ByteArray}{ins:List ByteArray}{wd:Bool}{k:Int}{s:ByteArray}(h:q0m fr ins wd k s=true):k=15\/k=16:=by
 unfold q0m at h;simp only[ql,Bool.or_eq_true,beq_iff_eq]at h;exact h.2.1
theorem q6c{fr tn:ByteArray}{kind:Int}(hk:kind=15\/kind=16):∀ (n:Nat) (t:Nd),t.sz<=n->∀ ps ins wd,Bld (fun _ _ _ _=>True) (q7g fr tn kind) ps ins wd t (kf fr tn kind ins wd t)
 |0,t,h=>by have:=q39 t;omega
 |n+1,.mk k s l,h=>fun ps ins wd=>by
  have hl:∀ (i:Nat) (hi:i < l.length),l[i].sz<=n:=fun i hi=>by have:=y5 l i hi;simp only[Nd.sz]at h;omega
  simp only[kf]
  by_cases hb:q0m fr ins wd k s=true
  ·have hkk:=qhb hb
   rw[qj hb,qj hb];have b1:zo k=false:=by rcases hkk with rfl|rfl <;> rfl
   have b2:zo kind=false:=by rcases hk with rfl|rfl <;> rfl
   have b3:(k==7)=false:=by rcases hkk with rfl|rfl <;> rfl
   have b4:(kind==7)=false:=by rcases hk with rfl|rfl <;> rfl
   refine .mk ps ins wd (.mk k s l) kind tn l _ trivial (by simp only[q7g];rw[qj hb]) (q1l _ _ _ _ _ _ l) fun i hi=>?_
   rw[q76 _ _ _ _ _ _ l i hi,b1,b2,b3,b4];have:=q6c (fr:=fr) (tn:=tn) hk n l[i] (hl i hi) (ps++[.int .i64 i]) ins false;simpa using this
  ·rw[qd hb,qd hb]
   refine .mk ps ins wd (.mk k s l) k s l _ trivial (by simp only[q7g];rw[qd hb]) (q1l _ _ _ _ _ _ l) fun i hi=>?_
   rw[q76 _ _ _ _ _ _ l i hi];have:=q6c (fr:=fr) (tn:=tn) hk n l[i] (hl i hi) (ps++[.int .i64 i]) (if(zo k && decide (i+1=l.length))=true then ins++[s] else ins) (k==7)
   have e:(if i+1=l.length then(if zo k=true then ins++[s] else ins) else ins)=(if(zo k && decide (i+1=l.length))=true then ins++[s] else ins):=by
    by_cases h1:i+1=l.length
    ·rw[qj h1];simp[h1]
    ·rw[qd h1];simp[h1]
   rw[e];exact this
mutual
theorem q8s(fr tn:ByteArray)(kind:Int)(ins:List ByteArray)(wd:Bool):∀ t:Nd,(kf fr tn kind ins wd t).sz=t.sz/\(kf fr tn kind ins wd t).dp=t.dp
 | .mk k s l=>by
  have:=qdw fr tn kind ins (if zo k then ins++[s] else ins) (k==7) l;simp only[kf,Nd.sz,Nd.dp];omega
theorem qdw(fr tn:ByteArray)(kind:Int)(ins il:List ByteArray)(wd:Bool):∀ l:List Nd,Nd.szL (vf fr tn kind ins il wd l)=Nd.szL l/\Nd.dpL (vf fr tn kind ins il wd l)=Nd.dpL l
 |[]=>by simp only[vf];exact⟨trivial,trivial⟩
 |a :: l=>by
  have h1:=q8s fr tn kind (if l.isEmpty then il else ins) wd a;have h2:=qdw fr tn kind ins il wd l;simp only[vf,Nd.szL,Nd.dpL];omega
end
mutual
theorem q8t(fr tn:ByteArray)(ht:tn.size<=64)(kind:Int)(ins:List ByteArray)(wd:Bool):∀ t:Nd,smN t->smN (kf fr tn kind ins wd t)
 | .mk k s l,h=>by
  simp only[smN]at h;have:=qdx fr tn ht kind ins (if zo k then ins++[s] else ins) (k==7) l h.2;simp only[kf,smN];refine⟨?_,this⟩
  split
  ·exact ht
  ·exact h.1
theorem qdx(fr tn:ByteArray)(ht:tn.size<=64)(kind:Int)(ins il:List ByteArray)(wd:Bool):∀ l:List Nd,smL l->smL (vf fr tn kind ins il wd l)
 |[],_=>by simp only[vf,smL]
 |a :: l,h=>by
  simp only[smL]at h;simp only[vf,smL];exact⟨q8t fr tn ht kind _ wd a h.1,qdx fr tn ht kind ins il wd l h.2⟩
end
end Go.Proofs.YtkckddojlignpaaGreatDoor
namespace Go.Proofs.YtkckddojlignpaaGreatDoor
open Go.RowKit Go.Shelf
def q1m(out:List ByteArray):List (List UInt8×Value):=out.map fun s=>(bs s,.bool true)
theorem qo1(s:ByteArray):S_ (bs s) = .string s:=rfl
theorem qa1(out:List ByteArray)(s:ByteArray):jv (q1m out) (bs s)=if Lib.containsS out s=true then some (.bool true) else none:=by
 unfold jv q1m;rw[List.find?_map]
 by_cases h:s∈out
 ·rw[qj ((Lib.containsS_iff _ _).2 h)]
  cases hf:out.find? ((fun p:List UInt8×Value=>p.1==bs s)∘fun s=>(bs s,Value.bool true))with
  |none =>
   rw[List.find?_eq_none]at hf;have:=hf s h;simp at this
  |some x=>rfl
 ·rw[qd (fun e=>h ((Lib.containsS_iff _ _).1 e))]
  cases hf:out.find? ((fun p:List UInt8×Value=>p.1==bs s)∘fun s=>(bs s,Value.bool true))with
  |none=>rfl
  |some x =>
   have h1:=List.mem_of_find?_eq_some hf;have h2:=List.find?_some hf;simp only[Function.comp_apply,beq_iff_eq]at h2;rw[qc5 h2]at h1;exact absurd h1 h
theorem q8r{P:Program}{w:World}{t k e:TypeId}(ht:P.underlying t=some (.map k e))(hk:P.underlying k=some .string){z:Value}(hz:(zeroValue e).run P w = .ok z w){b:Nat}{L:List (List UInt8×Value)}(hm:StrMap w b L)(s:List UInt8) :
  (Instr.lookup t (.map (some b)) (S_ s) false).run P w = .ok ((jv L s).getD z) w:=by
 obtain⟨es,c,h1,h2⟩:=hm;obtain⟨r,h3,h4⟩:=q1o s es.toList L 0 h2;unfold S_ at h3 ⊢
 cases r with
 |none =>
  have h5:jv L s=none:=by rw[<-h4];rfl
  simp[Instr.lookup,run_underlying ht,MapKept.run_getObj_map h1,q2t,hk,run_underlying hk,Instr.findKey,h3,hz,Result.andThen,h5]
 |some p =>
  have h5:jv L s=some p.2:=by rw[<-h4];rfl
  simp[Instr.lookup,run_underlying ht,MapKept.run_getObj_map h1,q2t,hk,run_underlying hk,Instr.findKey,h3,Result.andThen,h5]
theorem ql8{w:World}{b:Nat}{out:List ByteArray}(hm:StrMap w b (q1m out))(s:ByteArray) :
  (Instr.lookup 139 (.map (some b)) (.string s) false).run Tryz.prog w = .ok (.bool (Lib.containsS out s)) w:=by
 have:=q8r (P:=Tryz.prog) (z:=.bool false) Tryz.underlying139 Tryz.underlying9 (by kernel_rfl) hm (bs s);rw[qo1,qa1]at this;rw[this]
 cases Lib.containsS out s <;> rfl
theorem qjq{w:World}{b:Nat}{out:List ByteArray}(hm:StrMap w b (q1m out))(s:ByteArray)(hs:Lib.containsS out s=false) :
  ∃ w',(Instr.mapUpdate 139 (.map (some b)) (.string s) (.bool true)).run Tryz.prog w = .ok () w'/\StrMap w' b (q1m (out++[s]))/\w'.heap.size=w.heap.size/\(∀ B,B<=b->Below B w w')/\∀ j,j≠b->w'.heap[j]?=w.heap[j]?:=by
 obtain⟨w',h1,h2,h3,h4,h5,h6,h7⟩:=q3b (P:=Tryz.prog) Tryz.underlying139 Tryz.underlying9 hm (bs s) (.bool true) (by rw[qa1,qd (by rw[hs];decide)]);refine⟨w',h1,?_,h3,fun B hB=>⟨h4,h5,h6,Nat.le_of_eq h3.symm,fun j hj=>h7 j (by omega)⟩,h7⟩;unfold q1m at h2 ⊢;rw[List.map_append];exact h2
structure JFc(L1 T:Nat)(w1:World)(out:List ByteArray)(W:World):Prop where
 b:Below L1 w1 W
 z:T+1+1 < W.heap.size
 d:W.heap[T+1]?=some (.deferred (some []))
 m:StrMap W (L1+1) (q1m out)
 v:W.heap[L1+1+1]?=some (.cells #[.map (some (L1+1))] 139 (0,0))
 c:∃ vl,W.heap[L1]?=some (.cells #[vl] 42 (0,0))/\ze (T+1+1+1) W vl out
def Oo(L1:Nat)(W:World)(b:Nat):Prop:=b=L1\/∃ v,W.cell? ⟨L1,0,none⟩=some v/\v.ownBlock=some b
theorem JFc.keep{L1 T:Nat}{w1 W W':World}{out:List ByteArray}(j:JFc L1 T w1 out W)(hT:L1+1+1+1=T)(hb:Below L1 w1 W')(hz:W.heap.size<=W'.heap.size)
  (hk:∀ b,b < W.heap.size->b≠T+1+1->(b < T+1+1\/Oo L1 W b)->W'.heap[b]?=W.heap[b]?):JFc L1 T w1 out W':=by
 have z:=j.z;obtain⟨vl,c1,c2⟩:=j.c;refine⟨hb,by omega,(hk _ (by omega) (by omega) (.inl (by omega))).trans j.d,j.m.keep (hk _ (by omega) (by omega) (.inl (by omega))),(hk _ (by omega) (by omega) (.inl (by omega))).trans j.v,vl,(hk _ (by omega) (by omega) (.inl (by omega))).trans c1,qy c2 fun g e=>?_⟩;have:=World.ownsRow.lt c2 g e;exact hk g this.2 (by omega) (.inr (.inr ⟨vl,qm _ _ _ _ _ _ c1,e⟩))
theorem JFc.own{L1 T:Nat}{w1 W:World}{out:List ByteArray}(j:JFc L1 T w1 out W){b:Nat}(h:Oo L1 W b):b=L1\/(T+1+1+1<=b/\b < W.heap.size):=by
 rcases h with h|⟨v,h1,h2⟩
 ·exact .inl h
 ·obtain⟨vl,c1,c2⟩:=j.c
  rw[qm _ _ _ _ _ _ c1]at h1
  cases h1;exact .inr (World.ownsRow.lt c2 b h2)
theorem JFc.add{L1 T:Nat}{w1 w6 w8:World}{out:List ByteArray}{s:ByteArray}{vl v':Value}(hT:L1+1+1+1=T)(hb:Below L1 w1 w8)(z:T+1+1 < w6.heap.size)(hz:w6.heap.size<=w8.heap.size)(d:w6.heap[T+1]?=some (.deferred (some [])))
  (m:StrMap w6 (L1+1) (q1m (out++[s]))) (v:w6.heap[L1+1+1]?=some (.cells #[.map (some (L1+1))] 139 (0,0)))
  (c:w6.heap[L1]?=some (.cells #[vl] 42 (0,0))) (ho:∀ g,vl.ownBlock=some g->T+1+1+1<=g) (hk:∀ b,b < w6.heap.size->vl.ownBlock≠some b->w8.heap[b]?=w6.heap[b]?) (r:ze (T+1+1+1) w8 v' (out++[s])) :
  JFc L1 T w1 (out++[s]) (w8.setCell ⟨L1,0,none⟩ v'):=by
 have far:∀ b,b≠L1->(w8.setCell ⟨L1,0,none⟩ v').heap[b]?=w8.heap[b]?:=fun b hb=>Below.heap_setCell _ _ _ _ (by simp only;exact hb)
 have lo:∀ b,b < T+1+1+1->w8.heap[b]?=w6.heap[b]?:=fun b hb=>hk b (by omega) (fun e=>by have:=ho b e;omega)
 refine⟨hb.setCell (p:=⟨L1,0,none⟩) (q9 _) _,by rw[qs];omega,(far _ (by omega)).trans ((lo _ (by omega)).trans d),m.keep ((far _ (by omega)).trans (lo _ (by omega))),(far _ (by omega)).trans ((lo _ (by omega)).trans v),v',heap_setCell_same _ _ 0 _ _ _ ((lo _ (by omega)).trans c),qy r fun g e=>far g (by have:=World.ownsRow.lt r g e;omega)⟩
theorem JFc.putLoop{L1 T:Nat}{w1 W:World}{out:List ByteArray}(j:JFc L1 T w1 out W)(hT:L1+1+1+1=T)(rl:Loop):JFc L1 T w1 out (W.putObj (T+1+1) (.loop rl)) :=
 j.keep hT (zw j.b _ _ (by omega)) (by rw[World.putObj_size];exact q9 _) (fun b _ h2 _=>World.putObj_heap_other h2)
theorem Kc.putLoop{L1 T:Nat}{A W:World}{r:Loop}(k:Kc (Oo L1) A W)(hT:L1+1+1+1=T)(hl:A.heap[T+1+1]?=some (.loop r))(rl:Loop):Kc (Oo L1) A (W.putObj (T+1+1) (.loop rl)):=by
 refine⟨by rw[World.putObj_size];exact k.1,fun b c t z h1 e=>(World.putObj_heap_other (by rintro rfl;rw[hl]at e;cases e)).trans (k.2.1 b c t z h1 e),fun b hb=>k.2.2 b ?_⟩;rcases hb with h|⟨v,h1,h2⟩
 ·exact .inl h
 ·exact .inr ⟨v,(World.cell?_of_block (w:=W) (World.putObj_heap_other (by simp only;omega))).symm.trans h1,h2⟩
theorem Kc.same{L1 T:Nat}{A W:World}{r:Loop}(hT:L1+1+1+1=T)(hz:A.heap.size<=W.heap.size)(hl:A.heap[T+1+1]?=some (.loop r))(hk:∀ b,b < A.heap.size->b≠T+1+1->W.heap[b]?=A.heap[b]?):Kc (Oo L1) A W:=by
 have:=zg hl;refine⟨hz,fun b c t z h1 e=>(hk b (zg e) (by rintro rfl;rw[hl]at e;cases e)).trans e,fun b hb=>.inl ?_⟩;rcases hb with h|⟨v,h1,h2⟩
 ·exact .inl h
 ·exact .inr ⟨v,(World.cell?_of_block (w:=A) (hk L1 (by omega) (by omega))).symm.trans h1,h2⟩
theorem Kc.added{L1 T:Nat}{A W:World}{r:Loop}{vl v':Value}{L:List (List UInt8×Value)}(hz:A.heap.size<=W.heap.size)(hl:A.heap[T+1+1]?=some (.loop r))(hm:StrMap A (L1+1) L)
  (hc:A.heap[L1]?=some (.cells #[vl] 42 (0,0))) (hc':W.heap[L1]?=some (.cells #[v'] 42 (0,0))) (hv:∀ g,v'.ownBlock=some g->vl.ownBlock=some g\/A.heap.size<=g)
  (hk:∀ b,b < A.heap.size->b≠T+1+1->b≠L1+1->b≠L1->vl.ownBlock≠some b->W.heap[b]?=A.heap[b]?):Kc (Oo L1) A W:=by
 have hcl:A.cell? ⟨L1,0,none⟩=some vl:=qm _ _ _ _ _ _ hc;refine⟨hz,fun b c t z h1 e=>(hk b (zg e) (by rintro rfl;rw[hl]at e;cases e) (by rintro rfl;obtain⟨es,cl,h2,_⟩:=hm;rw[h2]at e;cases e) (fun e2=>h1 (.inl e2)) (fun e2=>h1 (.inr ⟨vl,hcl,e2⟩))).trans e,fun b hb=>?_⟩;rcases hb with h|⟨v,h1,h2⟩
 ·exact .inl (.inl h)
 ·rw[qm _ _ _ _ _ _ hc']at h1
  cases h1;exact(hv b h2).imp (fun e=>.inr ⟨vl,hcl,e⟩) id
theorem q4r{w6 w7 w8:World}{vl:Value}{o:Obj}(hb7:Below w6.drew.heap.size w6.drew w7)(g:(w7.alloc o).grownBy w8 vl.ownBlock) :
  (∀ b,b < w6.heap.size->vl.ownBlock≠some b->w8.heap[b]?=w6.heap[b]?)/\w6.heap.size<=w8.heap.size/\(∀ B,B<=w6.heap.size->(∀ k,vl.ownBlock=some k->B<=k)->Below B w6 w8):=by
 have hz:w6.heap.size<=w7.heap.size:=hb7.size;have hz2:(w7.alloc o).heap.size<=w8.heap.size:=g.size;rw[q6]at hz2;refine⟨fun b hb hne=>?_,by omega,fun B hB hk=>?_⟩
 ·exact(g.block b (by rw[q6];omega) (fun e=>hne e.symm)).trans ((Below.heap_alloc _ _ _ (by omega)).trans (hb7.block b hb))
 ·exact(((Below.refl B w6).drew.trans (hb7.mono (show B<=w6.drew.heap.size from hB))).alloc (by omega) _).grown g (by rw[q6];omega) hk
theorem yr{F:Fence}{n:Nat}{P:Program}{ops:Array Oper}{o:Oper}{a:Act}{w w':World}{K:Act->World->Prop}{Q:Exit->Act->World->Prop}{E:Prop}{r v u:Value}(hgd:o.guard=none)(s x:Operand)(t:TypeId)
  (ho:o.op = .call { callee:=.builtin .append,args:=#[s,x],argTypes:=#[t,t] }) (hs:a.eval s=v) (hx:a.eval x=u) (hrun:(Builtin.append_ #[t,t] o.type #[v,u]).run P w = .ok r w') (h:K (a.put o.dst r) w') :
  if Region.wanted o (yielded ops a.tmps)=true then Oper.wpIn F n P o a w K Q else E:=by
 have hw:Region.wanted o (yielded ops a.tmps)=true:=by simp[Region.wanted,hgd]
 rw[qj hw];unfold Oper.wpIn;refine⟨?_,?_⟩
 ·simp[Oper.about,ho,resolve,Target.leads,Sem.run_pure]
 ·rw[Oper.semAt_plain F _ _ (by rw[ho];intro c hc';cases hc')]
  simp[execOp,ho,resolve,invoke,builtin,hs,hx,hrun,Result.andThen];exact h
attribute [local go_sem] Oper.semAt_some
theorem qbi(t:Nd)(kind:Int)(w:World)(v0 v1 v2:Value)(ht:NdR w t v0 v1 v2)(hv:zx t=0)(hsm:smN t)(hsz:t.sz<=4000) :
  Calls Tryz.prog 55 #[.agg #[v0,v1,v2],.int .i64 kind] w fun e w'=>∃ v,e = .returned (.tuple #[v,.int .i64 0])/\ze w.heap.size w' v (ye kind (zq 0 [] false t))/\Below w.heap.size w w':=by
 obtain⟨k,s,kids,a,cap,rfl,rfl,rfl,rfl,hs,hl⟩:=ht.form;have eg:∀ args w,(callFunc 120 args).run Tryz.prog w = .ok (.enter 120 args) w:=enters_of Tryz.func120 (by kernel_rfl) rfl;have hmm:=@run_makeMap Tryz.prog;obtain⟨W0,hW0⟩:∃ W0,(w.alloc (.cells #[.int .i64 k,.string s,.slice a kids.length cap] 25)).alloc (.cells #[.int .i64 kind] 3)=W0:=⟨_,rfl⟩;obtain⟨h,hh⟩:∃ h,w.heap.size=h:=⟨_,rfl⟩;have b0:Below h w W0:=by rw[<-hW0,<-hh];exact((Below.refl _ w).alloc (q9 _) _).alloc (by simp) _
 have r0:Row3 W0 h (.int .i64 k) (.string s) (.slice a kids.length cap):=by rw[<-hW0,<-hh];exact(Below.heap_alloc _ _ _ (by simp only[q6];omega)).trans (qk _ _)
 have k0:W0.heap[h+1]?=some (.cells #[.int .i64 kind] 3 (0,0)):=by rw[<-hW0,<-hh];exact za (by simp)
 have z0:W0.heap.size=h+1+1:=by rw[<-hW0];simp[hh]
 have t0:NdR W0 (.mk k s kids) (.int .i64 k) (.string s) (.slice a kids.length cap):=ht.later (by rw[hh];exact b0);have CC:=qh (vk _ W0 _ _ _ t0);rw[hv]at CC;refine(callsIn_wide (n:=6)).1 ?_;refine wk Tryz.func55 rfl ?_;simp only[Tryz.ntmps55,List.size_toArray,qr,qz,Nat.reduceAdd,Nat.reduceSub,Array.replicate_succ,Array.replicate_zero,List.push_toArray,List.append_toArray,List.nil_append,List.cons_append];refine xe (zm ?_)
 gi_wp2
 (try rw[hW0])
 (try rw[hh])
 clear hW0;obtain⟨⟨n0,n1,n2⟩,_⟩:=r0.cells;refine xe (zm ?_)
 gi_wp2_with fail
 refine⟨trivial,((callsIn_wide (n:=5)).2 CC.out).mono ?_⟩;rintro e w1⟨rfl,hb1⟩;have r1:Row3 w1 h (.int .i64 k) (.string s) (.slice a kids.length cap):=(hb1.block _ r0.lt).trans r0;have k1:w1.heap[h+1]?=some (.cells #[.int .i64 kind] 3 (0,0)):=(hb1.block _ (by omega)).trans k0;have B1:Below h w w1:=b0.trans (hb1.mono (by omega));have z1:h+1+1<=w1.heap.size:=by have:=hb1.size;omega
 have t1:=qh (t0.later hb1);clear n0 n1 n2 hb1 CC t0 k0 r0 b0
 gi_wp2
 refine xe (zm ?_)
 gi_wp2
 refine xe (zm ?_)
 gi_wp2
 obtain⟨L1,hL1⟩:∃ L1,w1.heap.size=L1:=⟨_,rfl⟩;obtain⟨W3,hW3⟩:∃ W3,((w1.alloc (.cells #[.slice none 0 0] 42)).alloc (.map #[] 0)).alloc (.cells #[.map (some (L1+1))] 139)=W3:=⟨_,rfl⟩;have z3:W3.heap.size=L1+1+1+1:=by rw[<-hW3];simp[hL1]
 have o3:∀ b,b < L1->W3.heap[b]?=w1.heap[b]?:=fun b hb=>by
  rw[<-hW3];exact(Below.heap_alloc _ _ _ (by simp only[q6];omega)).trans ((Below.heap_alloc _ _ _ (by simp only[q6];omega)).trans (Below.heap_alloc _ _ _ (by omega)))
 have B3:Below L1 w1 W3:=by
  rw[<-hW3];exact(((Below.refl _ w1).alloc (by omega) _).alloc (by simp only[q6];omega) _).alloc (by simp only[q6];omega) _
 have l3:W3.heap[L1]?=some (.cells #[.slice none 0 0] 42 (0,0)):=by
  rw[<-hW3,<-hL1];exact(Below.heap_alloc _ _ _ (by simp only[q6];omega)).trans ((Below.heap_alloc _ _ _ (by simp only[q6];omega)).trans (qk _ _))
 have m3:StrMap W3 (L1+1) (q1m []):=⟨#[],0,by
  rw[<-hW3,<-hL1]
  exact(Below.heap_alloc _ _ _ (by simp only[q6];omega)).trans (za (by simp)),by simp[q1m]⟩
 have v3:W3.heap[L1+1+1]?=some (.cells #[.map (some (L1+1))] 139 (0,0)):=by
  rw[<-hW3,<-hL1];exact za (by simp)
 rw[hL1]at z1;have r3:Row3 W3 h (.int .i64 k) (.string s) (.slice a kids.length cap):=(o3 _ (by omega)).trans r1;have k3:W3.heap[h+1]?=some (.cells #[.int .i64 kind] 3 (0,0)):=(o3 _ (by omega)).trans k1;have t3:NdR W3 (.mk k s kids) (.int .i64 k) (.string s) (.slice a kids.length cap):=t1.out.later (by rw[hL1];exact B3)
 (try rw[hL1])
 (try rw[hW3])
 clear hW3 r1;obtain⟨⟨n0,n1,n2⟩,_⟩:=r3.cells;refine xe (xe (zm ?_))
 gi_wp2_with fail
 refine⟨trivial,((callsIn_wide (n:=5)).2 (q3p k s a kids.length cap _)).mono ?_⟩;rintro e w2⟨rfl,rfl⟩
 gi_wp2
 obtain⟨T,hT⟩:∃ T,L1+1+1+1=T:=⟨_,rfl⟩;rw[hT]at z3
 (try rw[z3])
 (try rw[hT])
 clear n0 n1 n2;refine q0y (vh (gf:=120) (lb:=#[.pointer (some ⟨T,0,none⟩)]) rfl eg ?_);intro r hr;have hr1:r.state = .ready:=by rw[hr]
 have hr2:r.pending=none:=by rw[hr]
 have hr3:r.params=#[19,20]:=by rw[hr]
 obtain⟨W4,hW4⟩:∃ W4,W3.alloc (.cells #[.int .i64 k,.string s,.slice a kids.length cap] 25)=W4:=⟨_,rfl⟩;have z4:W4.heap.size=T+1:=by rw[<-hW4,q6,z3]
 have b4:Row3 W4 T (.int .i64 k) (.string s) (.slice a kids.length cap):=by rw[<-hW4];exact za (by omega)
 have o4:∀ b,b < T->W4.heap[b]?=W3.heap[b]?:=fun b hb=>by rw[<-hW4];exact Below.heap_alloc _ _ _ (by omega)
 have B4:Below L1 w1 W4:=by rw[<-hW4];exact B3.alloc (by omega) _
 rw[hW4];clear hW4;obtain⟨W1,hW1⟩:∃ W1,(W4.alloc (.deferred (some []))).alloc (.loop r)=W1:=⟨_,rfl⟩;have old:∀ b,b < T+1->W1.heap[b]?=W4.heap[b]?:=fun b hb=>by rw[<-hW1];exact(Below.heap_alloc _ _ _ (by simp only[q6];omega)).trans (Below.heap_alloc _ _ _ (by omega))
 have zW1:W1.heap.size=T+1+1+1:=by rw[<-hW1];simp[z4]
 have hd1:W1.heap[T+1]?=some (.deferred (some [])):=by rw[<-hW1];exact(Below.heap_alloc _ _ _ (by simp only[q6];omega)).trans (za (by omega))
 have hl1:W1.heap[T+1+1]?=some (.loop r):=by rw[<-hW1];exact za (by simp only[q6];omega)
 have hB1:Below L1 w1 W1:=by rw[<-hW1];exact(B4.alloc (by omega) _).alloc (by simp only[q6];omega) _
 have j0:JFc L1 T w1 (ye kind []) W1:=⟨hB1,by omega,hd1,m3.keep ((old _ (by omega)).trans (o4 _ (by omega))),((old _ (by omega)).trans (o4 _ (by omega))).trans v3,_,((old _ (by omega)).trans (o4 _ (by omega))).trans l3,World.ownsRow_nil _ _ _ _⟩;have hsup:Sup w1 W1:=fun b c t z e=>(hB1.block b (by rw[<-hL1];exact zg e)).trans e
 have K1:=qh k1
 have hcall:CallsIn Fence.wide 5 Tryz.prog 120 #[.func (.yield (T+1+1)) #[] #[],.pointer (some ⟨T,0,none⟩)] W1
   (fun e w'=>(∃ v,e = .returned v)/\JFc L1 T w1 (ye kind (zq 0 [] false (.mk k s kids))) w'/\w'.heap[T+1+1]?=some (.loop r)):=by
  refine(callsIn_wide (n:=5)).2 ?_
  refine(q2u (Oo L1) (T+1+1) T w1 W1 (fun pre W=>pre.length<=4000/\JFc L1 T w1 (ye kind pre) W/\W.heap[T+1+1]?=some (.loop r)) (fun _ _=>False) k s kids a cap
   (fun pre W hj=>by have:=hj.1;omega) (fun pre A B hj hb hk=>⟨hj.1,hj.2.1.keep hT (hj.2.1.b.trans (hb.mono (by omega))) hb.size (fun b _ _ h3=>h3.elim (fun h=>hb.block b (by omega)) (fun h=>hk b h)),(hb.block _ (by omega)).trans hj.2.2⟩)
   (fun A B hb b h=>h.imp id (fun⟨v,h1,h2⟩=>⟨v,(hb.cell (p:=⟨L1,0,none⟩) (by simp only;omega)).symm.trans h1,h2⟩)) (fun pre A hj b hb=>by have:=hj.2.1.z;rcases hj.2.1.own hb with h|h <;> omega)
   ?_ t1.out ((old T (by omega)).trans b4) hsup (by omega) (fun b hb=>by rcases j0.own hb with h|h <;> omega) ⟨by simp,j0,hl1⟩).mono ?_
  ·intro m pre it A vp vi u0 u1 u2 n₁ ps hn1 hj hall hpd hg
   obtain⟨hjl,hjm,hjr⟩:=hj;obtain⟨hgd,hgp,hgi,hgt⟩:=hg;have hlen:(pre++[it]).length<=4000:=by have:=hall.length_le;rw[q1f]at this;omega
   have hsz1:it.t.s'.size<=64:=qh4 0 [] false _ hsm it (hall.subset (by simp));obtain⟨ap,cp,rfl⟩:=zr hgp;obtain⟨ai,ci,hvi⟩:=zr hgi;subst hvi;rw[qx]at hgi;obtain⟨k1,s1,l1,a1,c1,ht1,rfl,rfl,rfl,_,_⟩:=hgt.form;have hil:it.ins.length<=90000:=by have:=q68 0 [] false _ it (hall.subset (by simp));simp only[qz]at this;omega
   obtain⟨V,hV⟩:∃ V,((k1==15||k1==16) && (!it.wd && !Lib.containsS it.ins s1))=V:=⟨_,rfl⟩;have hos:=(qhy kind pre it).trans (qne ht1 hV kind _);rw[ht1]at hsz1;simp only[Nd.s']at hsz1;obtain⟨out,hout⟩:∃ out,ye kind pre=out:=⟨_,rfl⟩;have hol:out.length<=4000:=by rw[<-hout];have:=qbj kind pre;omega
   rw[hout]at hjm hos;obtain⟨out',hout'⟩:∃ out',ye kind (pre++[it])=out':=⟨_,rfl⟩;rw[hout']at hos;obtain⟨R,hR⟩:∃ R:Ending->World->Prop,(fun e W'=>(e = .returned (.bool true)/\((pre++[it]).length<=4000/\JFc L1 T w1 (ye kind (pre++[it])) W'/\W'.heap[T+1+1]?=some (.loop r))/\Kc (Oo L1) A W')\/(e = .returned (.bool false)/\False/\Kc (Oo L1) A W'))=R:=⟨_,rfl⟩;rw[hR];have HR:Hid (∀ W',JFc L1 T w1 out' W'->W'.heap[T+1+1]?=some (.loop r)->Kc (Oo L1) A W'->R (.returned (.bool true)) W'):=qh (fun W' j1 j2 j3=>by rw[<-hR];exact .inl ⟨rfl,⟨hlen,by rw[hout'];exact j1,j2⟩,j3⟩);clear hR hout hout' hlen hall hjl;refine⟨_,_,_,_,run_yield (P:=Tryz.prog) hjr (by rw[hr3];rfl),?_⟩;have hr4:r.fn=55:=by rw[hr]
   rw[hr4];refine vj trivial Tryz.func55 ?_;have hrs:=hr1;have HJ:=qh hjm;have HJR:=qh hjr;have HRR:=qh hr;have HOS:=qh hos;have HGI:=qh hgi;have hVH:=qh hV;have HIL:=qh hil;simp only[hr];clear hgp hgi hgt hjm hjr hr hr1 hr2 hr3 hr4 hos hV hil
   gi_wp2
   refine⟨_,run_beginRound (r:=r) ((Below.heap_alloc _ _ _ (by have:=zg HJR.out;simp only[q6];omega)).trans ((Below.heap_alloc _ _ _ (zg HJR.out)).trans HJR.out)) hrs,?_⟩;obtain⟨N,hN⟩:∃ N,A.heap.size=N:=⟨_,rfl⟩;obtain⟨W2,hW2⟩:∃ W2,((A.alloc (.cells #[.slice ap ps.length cp,.slice ai it.ins.length ci,.bool it.wd] 85)).alloc (.cells #[.int .i64 k1,.string s1,.slice a1 l1.length c1] 25)).putObj (T+1+1) (.loop { r with state:=.busy })=W2:=⟨_,rfl⟩;have hTN:T+1+1 < N:=by have:=HJ.out.z;omega
   have ko:∀ b,b < N->b≠T+1+1->W2.heap[b]?=A.heap[b]?:=fun b hb1 hb2=>by
    rw[<-hW2];exact(World.putObj_heap_other hb2).trans ((Below.heap_alloc _ _ _ (by simp only[q6];omega)).trans (Below.heap_alloc _ _ _ (by omega)))
   have mz:W2.heap.size=N+1+1:=by rw[<-hW2,World.putObj_size,q6,q6,hN]
   have m5:W2.heap[T+1+1]?=some (.loop { r with state:=.busy }):=by rw[<-hW2];exact World.putObj_heap_same (by simp only[q6];omega)
   have mt:RowP W2 N (.slice ap ps.length cp) (.slice ai it.ins.length ci) (.bool it.wd):=by
    rw[<-hW2,<-hN];exact(World.putObj_heap_other (by omega)).trans ((Below.heap_alloc _ _ _ (by simp only[q6];omega)).trans (qk _ _))
   have mx:Row3 W2 (N+1) (.int .i64 k1) (.string s1) (.slice a1 l1.length c1):=by
    rw[<-hW2,<-hN];exact(World.putObj_heap_other (by omega)).trans (za (by simp))
   have mb:Below L1 w1 W2:=by rw[<-hW2];exact zw ((HJ.out.b.alloc (by omega) _).alloc (by simp only[q6];omega) _) _ _ (by omega)
   have mj:JFc L1 T w1 out W2:=HJ.out.keep hT mb (by omega) (fun b h1 h2 _=>ko b (by omega) h2);have mi:ze n₁ W2 (.slice ai it.ins.length ci) it.ins:=qy HGI.out fun g e=>by have:=World.ownsRow.lt HGI.out g e;exact ko g (by omega) (by omega)
   rw[hW2,hN];obtain⟨⟨p0,p1,p2⟩,_⟩:=mt.cells;obtain⟨⟨x0,x1,x2⟩,_⟩:=mx.cells;have hkb:=(mb.block (h+1) (by omega)).trans K1.out;have kc:W2.cell? ⟨h+1,0,none⟩=some (.int .i64 kind):=qm _ _ _ _ _ _ hkb;have HM:=qh mj;have HKO:=qh ko;have HMZ:=qh mz;have HM5:=qh m5;have HMX:=qh mx;have HN:=qh hN;have CF:=qh (q30 n₁ ap ai ps.length cp it.ins.length ci it.wd k1 s1 a1 l1.length c1 it.ins W2 mi HIL.out);rw[hVH.out]at CF;obtain⟨wd,hwd⟩:∃ wd,it.wd=wd:=⟨_,rfl⟩;obtain⟨NI,hni⟩:∃ NI,it.ins.length=NI:=⟨_,rfl⟩;obtain⟨NP,hnp⟩:∃ NP,ps.length=NP:=⟨_,rfl⟩;rw[hwd,hni,hnp]at CF;rw[hwd]at p2;rw[hni]at p1;rw[hnp]at p0;have e0:({ ({ r with state:=.busy }:Loop)with state:=.ready,pending:=none }:Loop)=r:=by rw[HRR.out]
   have E0:=qh e0
   have FIN:Hid (∀ W',Below W2.heap.size W2 W'->out'=out->R (.returned (.bool true)) (W'.putObj (T+1+1) (.loop r))):=qh (fun W' hb he=>by
    have kk:∀ b,b < A.heap.size->b≠T+1+1->W'.heap[b]?=A.heap[b]?:=fun b h1 h2=>(hb.block b (by omega)).trans (ko b (by omega) h2)
    have jj:JFc L1 T w1 out W':=HJ.out.keep hT (mb.trans (hb.mono (by omega))) (by have:=hb.size;omega) (fun b h1 h2 _=>kk b h1 h2);refine HR.out _ ?_ (World.putObj_heap_same (by have:=hb.size;omega)) ((Kc.same hT (by have:=hb.size;omega) HJR.out kk).putLoop hT HJR.out r);rw[he]
    exact jj.putLoop hT r)
   have FINL:Hid (∀ W',Below W2.heap.size W2 W'->W'.heap[T+1+1]?=some (.loop { r with state:=.busy })):=qh (fun W' hb=>(hb.block _ (by omega)).trans m5);clear ko mz m5 mt mx mj mb mi hW2 hN hkb hwd hni hnp e0
   cases hkk:(k1==kind)with
   |false =>
    have HE:Hid (out'=out):=qh (by rw[HOS.out,hkk];simp)
    gi_wp2
    refine⟨trivial,?_⟩
    gi_wp2
    refine⟨_,_,run_endRound none (FINL.out _ (Below.refl _ _)),?_⟩;simp only[Option.isNone_none,if_true];rw[E0.out];exact FIN.out _ (Below.refl _ _) HE.out
   |true =>
    gi_wp2_with fail
    refine⟨trivial,fun e=>(by cases e),(CallsIn.inRound _ ((callsIn_wide (n:=m - 1)).2 CF.out)).mono ?_⟩;rintro e w5⟨rfl,hb5⟩;have HB5:=qh hb5;clear hb5 CF p0 p1 p2
    cases V with
    |false =>
     have HE:Hid (out'=out):=qh (by rw[HOS.out,hkk];simp)
     gi_wp2
     refine⟨_,_,run_endRound none (FINL.out _ HB5.out),?_⟩;simp only[Option.isNone_none,if_true];rw[E0.out];exact FIN.out _ HB5.out HE.out
    |true =>
     have hzN:=HMZ.out;have mj5:JFc L1 T w1 out w5:=HM.out.keep hT (HM.out.b.trans (HB5.out.mono (by have:=HM.out.z;omega))) HB5.out.size (fun b h1 _ _=>HB5.out.block b h1);have mx5:Row3 w5 (N+1) (.int .i64 k1) (.string s1) (.slice a1 l1.length c1):=(HB5.out.block _ HMX.out.lt).trans HMX.out;have z5:=HB5.out.size;obtain⟨vl,cl5,rl5⟩:=mj5.c;have v5:w5.cell? ⟨L1+1+1,0,none⟩=some (.map (some (L1+1))):=qm _ _ _ _ _ _ mj5.v;obtain⟨⟨y0,y1,y2⟩,_⟩:=mx5.cells;have hlk:=ql8 mj5.m s1;obtain⟨X,hX⟩:∃ X,Lib.containsS out s1=X:=⟨_,rfl⟩;have HE:Hid (out'=if X=true then out else out++[s1]):=qh (by rw[HOS.out,hkk,hX];cases X <;> rfl);rw[hX]at hlk
     cases X with
     |true =>
      clear y0 y2 cl5 rl5 mj5 mx5 hX x0 x1 x2 hzN z5
      gi_wp2
      refine⟨_,_,run_endRound none (FINL.out _ HB5.out),?_⟩;simp only[Option.isNone_none,if_true];rw[E0.out];exact FIN.out _ HB5.out (by rw[HE.out];simp)
     |false =>
      obtain⟨w6,hmu,m6,z6,b6,o6⟩:=qjq mj5.m s1 hX;have hne6:∀ b,b≠L1+1->w6.heap[b]?=w5.heap[b]?:=o6;have cl6:=(o6 L1 (by omega)).trans cl5;have mx6:Row3 w6 (N+1) (.int .i64 k1) (.string s1) (.slice a1 l1.length c1):=(o6 _ (by omega)).trans mx5;have rl6:ze (T+1+1+1) w6 vl out:=qy rl5 fun g e=>o6 g (by have:=World.ownsRow.lt rl5 g e;omega)
      have l6:w6.cell? ⟨L1,0,none⟩=some vl:=qm _ _ _ _ _ _ cl6;have n6:w6.cell? ⟨N+1,1,none⟩=some (.string s1):=mx6.cells.1.2.1;have hown6:∀ g,vl.ownBlock=some g->T+1+1+1<=g/\g < w6.heap.size:=World.ownsRow.lt rl6;have D6:=qh ((o6 (T+1) (by omega)).trans mj5.d);have V6:=qh ((o6 (L1+1+1) (by omega)).trans mj5.v);have M6:=qh m6;have CL6:=qh cl6;have RL6:=qh rl6;have B6:=qh (mj5.b.trans (b6 L1 (by omega)));have O6:=qh hne6;have Z6:Hid (T+1+1 < w6.heap.size/\N+1+1<=w6.heap.size):=qh (by have:=mj5.z;omega);have F6:=qh (show w6.frozen? ⟨L1,0,none⟩=false from frozen_of_row _ _ _ _ _ cl6);have CC6:=qh (q5s s1 w6.drew (by omega));obtain⟨iS,hS,hSz,hSs,hSb⟩:=info_parts q69;clear y0 y2 cl5 rl5 mj5 mx5 hX x0 x1 x2 hzN z5 m6 z6 b6 o6 hne6 cl6 mx6 rl6
      gi_wp2_with fail
      have LEAF:∀ (g8 cap8:Nat) (w8:World),((∀ b,b < w6.heap.size->vl.ownBlock≠some b->w8.heap[b]?=w6.heap[b]?)/\w6.heap.size<=w8.heap.size/\(∀ B,B<=w6.heap.size->(∀ k,vl.ownBlock=some k->B<=k)->Below B w6 w8)) ->
        ze (T+1+1+1) w8 (.slice (some ⟨g8,0,none⟩) (out++[s1]).length cap8) (out++[s1])->(∀ g',(Value.slice (some ⟨g8,0,none⟩) (out++[s1]).length cap8).ownBlock=some g'->vl.ownBlock=some g'\/w6.heap.size<=g') ->
        ∃ v w',(Instr.endRound (T+1+1) none).run Tryz.prog (w8.setCell ⟨L1,0,none⟩ (.slice (some ⟨g8,0,none⟩) (out.length+1) cap8)) = .ok v w'/\R (.returned v) w':=by
       intro g8 cap8 w8 ⟨hk8,hz8,hb8⟩ q8 ho8;have e9:out.length+1=(out++[s1]).length:=by simp
       rw[e9];clear e9;have hz6:=Z6.out;have hNN:=HN.out;have hzM:=HMZ.out;obtain⟨v',hv'⟩:∃ v',Value.slice (some ⟨g8,0,none⟩) (out++[s1]).length cap8=v':=⟨_,rfl⟩;rw[hv']at q8 ho8 ⊢;have far:∀ b,b≠L1->(w8.setCell ⟨L1,0,none⟩ v').heap[b]?=w8.heap[b]?:=fun b hb=>Below.heap_setCell _ _ _ _ (by simp only;exact hb)
       have c6A:∀ b,b < N->b≠T+1+1->b≠L1+1->w6.heap[b]?=A.heap[b]?:=fun b h1 h2 h3=>(O6.out b h3).trans ((HB5.out.block b (by omega)).trans (HKO.out b h1 h2))
       have hlow:∀ g,vl.ownBlock=some g->T+1+1+1<=g:=fun g e=>(hown6 g e).1
       have hzJ:=HJ.out.z
       have hloop:(w8.setCell ⟨L1,0,none⟩ v').heap[T+1+1]?=some (.loop { r with state:=.busy }) :=
        (far _ (by omega)).trans ((hk8 _ (by omega) (fun e=>by have:=hlow _ e;omega)).trans ((O6.out _ (by omega)).trans (FINL.out _ HB5.out)))
       refine⟨_,_,run_endRound none hloop,?_⟩;simp only[Option.isNone_none,if_true];rw[E0.out];have jadd:JFc L1 T w1 (out++[s1]) (w8.setCell ⟨L1,0,none⟩ v'):=JFc.add hT (B6.out.trans (hb8 L1 (by omega) (fun k e=>by have:=hlow k e;omega))) hz6.1 hz8 D6.out M6.out V6.out CL6.out hlow hk8 q8;have hcA:A.heap[L1]?=some (.cells #[vl] 42 (0,0)):=(c6A L1 (by omega) (by omega) (by omega)).symm.trans CL6.out;have hc9:(w8.setCell ⟨L1,0,none⟩ v').heap[L1]?=some (.cells #[v'] 42 (0,0)):=heap_setCell_same _ _ 0 _ _ _ ((hk8 L1 (by omega) (fun e=>by have:=hlow _ e;omega)).trans CL6.out)
       have kc:Kc (Oo L1) A (w8.setCell ⟨L1,0,none⟩ v'):=Kc.added (by rw[qs];omega) HJR.out HJ.out.m hcA hc9 (fun g e=>(ho8 g e).imp id (fun h=>by omega))
        (fun b h1 h2 h3 h4 h5=>(far b h4).trans ((hk8 b (by omega) h5).trans (c6A b (by omega) h2 h3)))
       refine HR.out _ ?_ (World.putObj_heap_same (by rw[qs];omega)) (kc.putLoop hT HJR.out r);have e':out'=out++[s1]:=by rw[HE.out];simp
       rw[e'];exact jadd.putLoop hT r
      refine wpIn_region_any (by kernel_rfl) ?_;change wpAnyIn _ _ _ _ _ _ _ _ _ (World.drew _);refine wpAnyIn_ready (rs:=[0,1]) (by kernel_rfl) (by simp) ?_;refine AllReadyIn.cons rfl (fun K hK=>?_) ?_
      ·skip
       go_simp;refine hK _ _ ?_;clear hK K;refine wpAnyIn_ready (rs:=[1]) (by kernel_rfl) (by simp) ?_;refine AllReadyIn.cons rfl (fun K hK=>?_) ?_
       ·skip
        go_simp;refine hK _ _ ?_;clear hK K;refine wpAnyIn_ready (rs:=[2]) (by kernel_rfl) (by simp) ?_;refine AllReadyIn.cons rfl (fun K hK=>?_) ?_
        ·skip
         go_simp;refine hK _ _ ?_;clear hK K;refine wpAnyIn_ready (rs:=[3]) (by kernel_rfl) (by simp) ?_;refine AllReadyIn.cons rfl (fun K hK=>?_) ?_
         ·skip
          go_simp;refine⟨trivial,fun e=>(by cases e),?_⟩;refine(CallsIn.inRound _ ((callsIn_wide (n:=m - 1)).2 CC6.out)).mono ?_;rintro e w7⟨rfl,hb7⟩;have hz7:w6.heap.size<=w7.heap.size:=hb7.size;have hL7:L1 < w7.heap.size:=(by have:=Z6.out;omega);have l7:w7.cell? ⟨L1,0,none⟩=some vl:=(hb7.cell (p:=⟨L1,0,none⟩) (show L1 < w6.heap.size by have:=Z6.out;omega)).trans l6;have l7a:=(fun o=>(World.cell?_alloc_past (w:=w7) o L1 0 hL7).trans l7);have r7:ze (T+1+1+1) (w7.alloc (.cells #[.string s1] 9)) vl out:=qy RL6.out (fun g e=>(Below.heap_alloc _ _ _ (by have:=hown6 g e;omega)).trans (hb7.block g (hown6 g e).2));obtain⟨g8,cap8,w8,hap,q8,p8,gr8,hg8⟩:=yk (P:=Tryz.prog) (w7.alloc (.cells #[.string s1] 9)) 42 42 (T+1+1+1) 9 iS _ 16 Tryz.underlying42 hS hSz hSs hSb rfl vl (out.map Value.string) r7 ⟨w7.heap.size,0,none⟩ 1 (.string s1) (q1b w7 _ _ _ rfl) rfl (by rw[qx];unfold maxLen;omega) (by rw[qx];omega) (by rw[q6];have:=Z6.out;omega);have A8:=qh (q4r hb7 gr8);have f8:w8.frozen? ⟨L1,0,none⟩=false:=frozen_of_row _ _ _ _ _ ((A8.out.1 L1 (by have:=Z6.out;omega) (fun e=>by have:=hown6 L1 e;omega)).trans CL6.out);have c8:w8.cell? ⟨L1,0,none⟩=some vl:=qm _ _ _ _ _ _ ((A8.out.1 L1 (by have:=Z6.out;omega) (fun e=>by have:=hown6 L1 e;omega)).trans CL6.out);have Q8:=qh (q0r q8);have HG8:=qh (q11 (n:=(out++[s1]).length) (cap:=cap8) hg8 (by rw[q6];exact Nat.le_succ_of_le hz7));rw[qx]at hap;have HAP:=qh hap;clear q8 p8 gr8 hg8 r7 hb7 hap;go_simp;refine hK _ _ ?_;clear hK K;refine wpAnyIn_ready (rs:=[4]) (by kernel_rfl) (by simp) ?_;refine AllReadyIn.cons rfl (fun K hK=>?_) ?_
          ·skip
           go_simp;refine hK _ _ ?_;clear hK K;refine wpAnyIn_ready (rs:=[5]) (by kernel_rfl) (by simp) ?_;refine AllReadyIn.cons rfl (fun K hK=>?_) ?_
           ·skip
            refine yr rfl _ _ 42 rfl rfl rfl HAP.out ?_;refine hK _ _ ?_;clear hK K;refine wpAnyIn_ready (rs:=[6]) (by kernel_rfl) (by simp) ?_;refine AllReadyIn.cons rfl (fun K hK=>?_) ?_
            ·skip
             go_simp;refine hK _ _ ?_;clear hK K;refine wpAnyIn_done (by kernel_rfl) ?_ _;go_simp;simp only[q02];exact LEAF g8 cap8 w8 A8.out Q8.out HG8.out
            exact AllReadyIn.nil
           exact AllReadyIn.nil
          exact AllReadyIn.nil
         exact AllReadyIn.nil
        exact AllReadyIn.nil
       exact AllReadyIn.nil
      refine AllReadyIn.cons rfl (fun K hK=>?_) ?_
      ·skip
       go_simp;refine hK _ _ ?_;clear hK K;refine wpAnyIn_ready (rs:=[0,2]) (by kernel_rfl) (by simp) ?_;refine AllReadyIn.cons rfl (fun K hK=>?_) ?_
       ·skip
        go_simp;refine hK _ _ ?_;clear hK K;refine wpAnyIn_ready (rs:=[2]) (by kernel_rfl) (by simp) ?_;refine AllReadyIn.cons rfl (fun K hK=>?_) ?_
        ·skip
         go_simp;refine hK _ _ ?_;clear hK K;refine wpAnyIn_ready (rs:=[3]) (by kernel_rfl) (by simp) ?_;refine AllReadyIn.cons rfl (fun K hK=>?_) ?_
         ·skip
          go_simp;refine⟨trivial,fun e=>(by cases e),?_⟩;refine(CallsIn.inRound _ ((callsIn_wide (n:=m - 1)).2 CC6.out)).mono ?_;rintro e w7⟨rfl,hb7⟩;have hz7:w6.heap.size<=w7.heap.size:=hb7.size;have hL7:L1 < w7.heap.size:=(by have:=Z6.out;omega);have l7:w7.cell? ⟨L1,0,none⟩=some vl:=(hb7.cell (p:=⟨L1,0,none⟩) (show L1 < w6.heap.size by have:=Z6.out;omega)).trans l6;have l7a:=(fun o=>(World.cell?_alloc_past (w:=w7) o L1 0 hL7).trans l7);have r7:ze (T+1+1+1) (w7.alloc (.cells #[.string s1] 9)) vl out:=qy RL6.out (fun g e=>(Below.heap_alloc _ _ _ (by have:=hown6 g e;omega)).trans (hb7.block g (hown6 g e).2));obtain⟨g8,cap8,w8,hap,q8,p8,gr8,hg8⟩:=yk (P:=Tryz.prog) (w7.alloc (.cells #[.string s1] 9)) 42 42 (T+1+1+1) 9 iS _ 16 Tryz.underlying42 hS hSz hSs hSb rfl vl (out.map Value.string) r7 ⟨w7.heap.size,0,none⟩ 1 (.string s1) (q1b w7 _ _ _ rfl) rfl (by rw[qx];unfold maxLen;omega) (by rw[qx];omega) (by rw[q6];have:=Z6.out;omega);have A8:=qh (q4r hb7 gr8);have f8:w8.frozen? ⟨L1,0,none⟩=false:=frozen_of_row _ _ _ _ _ ((A8.out.1 L1 (by have:=Z6.out;omega) (fun e=>by have:=hown6 L1 e;omega)).trans CL6.out);have c8:w8.cell? ⟨L1,0,none⟩=some vl:=qm _ _ _ _ _ _ ((A8.out.1 L1 (by have:=Z6.out;omega) (fun e=>by have:=hown6 L1 e;omega)).trans CL6.out);have Q8:=qh (q0r q8);have HG8:=qh (q11 (n:=(out++[s1]).length) (cap:=cap8) hg8 (by rw[q6];exact Nat.le_succ_of_le hz7));rw[qx]at hap;have HAP:=qh hap;clear q8 p8 gr8 hg8 r7 hb7 hap;go_simp;refine hK _ _ ?_;clear hK K;refine wpAnyIn_ready (rs:=[4]) (by kernel_rfl) (by simp) ?_;refine AllReadyIn.cons rfl (fun K hK=>?_) ?_
          ·skip
           go_simp;refine hK _ _ ?_;clear hK K;refine wpAnyIn_ready (rs:=[5]) (by kernel_rfl) (by simp) ?_;refine AllReadyIn.cons rfl (fun K hK=>?_) ?_
           ·skip
            refine yr rfl _ _ 42 rfl rfl rfl HAP.out ?_;refine hK _ _ ?_;clear hK K;refine wpAnyIn_ready (rs:=[6]) (by kernel_rfl) (by simp) ?_;refine AllReadyIn.cons rfl (fun K hK=>?_) ?_
            ·skip
             go_simp;refine hK _ _ ?_;clear hK K;refine wpAnyIn_done (by kernel_rfl) ?_ _;go_simp;simp only[q02];exact LEAF g8 cap8 w8 A8.out Q8.out HG8.out
            exact AllReadyIn.nil
           exact AllReadyIn.nil
          exact AllReadyIn.nil
         exact AllReadyIn.nil
        exact AllReadyIn.nil
       refine AllReadyIn.cons rfl (fun K hK=>?_) ?_
       ·skip
        go_simp;refine hK _ _ ?_;clear hK K;refine wpAnyIn_ready (rs:=[0,3]) (by kernel_rfl) (by simp) ?_;refine AllReadyIn.cons rfl (fun K hK=>?_) ?_
        ·skip
         go_simp;refine hK _ _ ?_;clear hK K;refine wpAnyIn_ready (rs:=[3]) (by kernel_rfl) (by simp) ?_;refine AllReadyIn.cons rfl (fun K hK=>?_) ?_
         ·skip
          go_simp;refine⟨trivial,fun e=>(by cases e),?_⟩;refine(CallsIn.inRound _ ((callsIn_wide (n:=m - 1)).2 CC6.out)).mono ?_;rintro e w7⟨rfl,hb7⟩;have hz7:w6.heap.size<=w7.heap.size:=hb7.size;have hL7:L1 < w7.heap.size:=(by have:=Z6.out;omega);have l7:w7.cell? ⟨L1,0,none⟩=some vl:=(hb7.cell (p:=⟨L1,0,none⟩) (show L1 < w6.heap.size by have:=Z6.out;omega)).trans l6;have l7a:=(fun o=>(World.cell?_alloc_past (w:=w7) o L1 0 hL7).trans l7);have r7:ze (T+1+1+1) (w7.alloc (.cells #[.string s1] 9)) vl out:=qy RL6.out (fun g e=>(Below.heap_alloc _ _ _ (by have:=hown6 g e;omega)).trans (hb7.block g (hown6 g e).2));obtain⟨g8,cap8,w8,hap,q8,p8,gr8,hg8⟩:=yk (P:=Tryz.prog) (w7.alloc (.cells #[.string s1] 9)) 42 42 (T+1+1+1) 9 iS _ 16 Tryz.underlying42 hS hSz hSs hSb rfl vl (out.map Value.string) r7 ⟨w7.heap.size,0,none⟩ 1 (.string s1) (q1b w7 _ _ _ rfl) rfl (by rw[qx];unfold maxLen;omega) (by rw[qx];omega) (by rw[q6];have:=Z6.out;omega);have A8:=qh (q4r hb7 gr8);have f8:w8.frozen? ⟨L1,0,none⟩=false:=frozen_of_row _ _ _ _ _ ((A8.out.1 L1 (by have:=Z6.out;omega) (fun e=>by have:=hown6 L1 e;omega)).trans CL6.out);have c8:w8.cell? ⟨L1,0,none⟩=some vl:=qm _ _ _ _ _ _ ((A8.out.1 L1 (by have:=Z6.out;omega) (fun e=>by have:=hown6 L1 e;omega)).trans CL6.out);have Q8:=qh (q0r q8);have HG8:=qh (q11 (n:=(out++[s1]).length) (cap:=cap8) hg8 (by rw[q6];exact Nat.le_succ_of_le hz7));rw[qx]at hap;have HAP:=qh hap;clear q8 p8 gr8 hg8 r7 hb7 hap;go_simp;refine hK _ _ ?_;clear hK K;refine wpAnyIn_ready (rs:=[4]) (by kernel_rfl) (by simp) ?_;refine AllReadyIn.cons rfl (fun K hK=>?_) ?_
          ·skip
           go_simp;refine hK _ _ ?_;clear hK K;refine wpAnyIn_ready (rs:=[5]) (by kernel_rfl) (by simp) ?_;refine AllReadyIn.cons rfl (fun K hK=>?_) ?_
           ·skip
            refine yr rfl _ _ 42 rfl rfl rfl HAP.out ?_;refine hK _ _ ?_;clear hK K;refine wpAnyIn_ready (rs:=[6]) (by kernel_rfl) (by simp) ?_;refine AllReadyIn.cons rfl (fun K hK=>?_) ?_
            ·skip
             go_simp;refine hK _ _ ?_;clear hK K;refine wpAnyIn_done (by kernel_rfl) ?_ _;go_simp;simp only[q02];exact LEAF g8 cap8 w8 A8.out Q8.out HG8.out
            exact AllReadyIn.nil
           exact AllReadyIn.nil
          exact AllReadyIn.nil
         exact AllReadyIn.nil
        refine AllReadyIn.cons rfl (fun K hK=>?_) ?_
        ·skip
         go_simp;refine⟨trivial,fun e=>(by cases e),?_⟩;refine(CallsIn.inRound _ ((callsIn_wide (n:=m - 1)).2 CC6.out)).mono ?_;rintro e w7⟨rfl,hb7⟩;have hz7:w6.heap.size<=w7.heap.size:=hb7.size;have hL7:L1 < w7.heap.size:=(by have:=Z6.out;omega);have l7:w7.cell? ⟨L1,0,none⟩=some vl:=(hb7.cell (p:=⟨L1,0,none⟩) (show L1 < w6.heap.size by have:=Z6.out;omega)).trans l6;have l7a:=(fun o=>(World.cell?_alloc_past (w:=w7) o L1 0 hL7).trans l7);have r7:ze (T+1+1+1) (w7.alloc (.cells #[.string s1] 9)) vl out:=qy RL6.out (fun g e=>(Below.heap_alloc _ _ _ (by have:=hown6 g e;omega)).trans (hb7.block g (hown6 g e).2));obtain⟨g8,cap8,w8,hap,q8,p8,gr8,hg8⟩:=yk (P:=Tryz.prog) (w7.alloc (.cells #[.string s1] 9)) 42 42 (T+1+1+1) 9 iS _ 16 Tryz.underlying42 hS hSz hSs hSb rfl vl (out.map Value.string) r7 ⟨w7.heap.size,0,none⟩ 1 (.string s1) (q1b w7 _ _ _ rfl) rfl (by rw[qx];unfold maxLen;omega) (by rw[qx];omega) (by rw[q6];have:=Z6.out;omega);have A8:=qh (q4r hb7 gr8);have f8:w8.frozen? ⟨L1,0,none⟩=false:=frozen_of_row _ _ _ _ _ ((A8.out.1 L1 (by have:=Z6.out;omega) (fun e=>by have:=hown6 L1 e;omega)).trans CL6.out);have c8:w8.cell? ⟨L1,0,none⟩=some vl:=qm _ _ _ _ _ _ ((A8.out.1 L1 (by have:=Z6.out;omega) (fun e=>by have:=hown6 L1 e;omega)).trans CL6.out);have Q8:=qh (q0r q8);have HG8:=qh (q11 (n:=(out++[s1]).length) (cap:=cap8) hg8 (by rw[q6];exact Nat.le_succ_of_le hz7));rw[qx]at hap;have HAP:=qh hap;clear q8 p8 gr8 hg8 r7 hb7 hap;go_simp;refine hK _ _ ?_;clear hK K;refine wpAnyIn_ready (rs:=[0,4]) (by kernel_rfl) (by simp) ?_;refine AllReadyIn.cons rfl (fun K hK=>?_) ?_
         ·skip
          go_simp;refine hK _ _ ?_;clear hK K;refine wpAnyIn_ready (rs:=[4]) (by kernel_rfl) (by simp) ?_;refine AllReadyIn.cons rfl (fun K hK=>?_) ?_
          ·skip
           go_simp;refine hK _ _ ?_;clear hK K;refine wpAnyIn_ready (rs:=[5]) (by kernel_rfl) (by simp) ?_;refine AllReadyIn.cons rfl (fun K hK=>?_) ?_
           ·skip
            refine yr rfl _ _ 42 rfl rfl rfl HAP.out ?_;refine hK _ _ ?_;clear hK K;refine wpAnyIn_ready (rs:=[6]) (by kernel_rfl) (by simp) ?_;refine AllReadyIn.cons rfl (fun K hK=>?_) ?_
            ·skip
             go_simp;refine hK _ _ ?_;clear hK K;refine wpAnyIn_done (by kernel_rfl) ?_ _;go_simp;simp only[q02];exact LEAF g8 cap8 w8 A8.out Q8.out HG8.out
            exact AllReadyIn.nil
           exact AllReadyIn.nil
          exact AllReadyIn.nil
         refine AllReadyIn.cons rfl (fun K hK=>?_) ?_
         ·skip
          go_simp;refine hK _ _ ?_;clear hK K;refine wpAnyIn_ready (rs:=[0]) (by kernel_rfl) (by simp) ?_;refine AllReadyIn.cons rfl (fun K hK=>?_) ?_
          ·skip
           go_simp;refine hK _ _ ?_;clear hK K;refine wpAnyIn_ready (rs:=[5]) (by kernel_rfl) (by simp) ?_;refine AllReadyIn.cons rfl (fun K hK=>?_) ?_
           ·skip
            refine yr rfl _ _ 42 rfl rfl rfl HAP.out ?_;refine hK _ _ ?_;clear hK K;refine wpAnyIn_ready (rs:=[6]) (by kernel_rfl) (by simp) ?_;refine AllReadyIn.cons rfl (fun K hK=>?_) ?_
            ·skip
             go_simp;refine hK _ _ ?_;clear hK K;refine wpAnyIn_done (by kernel_rfl) ?_ _;go_simp;simp only[q02];exact LEAF g8 cap8 w8 A8.out Q8.out HG8.out
            exact AllReadyIn.nil
           exact AllReadyIn.nil
          exact AllReadyIn.nil
         exact AllReadyIn.nil
        exact AllReadyIn.nil
       exact AllReadyIn.nil
      exact AllReadyIn.nil
  ·rintro e w' ⟨hv,hj|⟨q,_,hf⟩⟩
   ·exact⟨hv,hj.2⟩
   ·exact hf.elim
 rw[z4,hW1];refine hcall.mono ?_;clear hcall j0 hsup hd1 hl1 old o4 B4 b4 hB1 m3 v3 l3 k3 r3 t3 B3 o3;rintro e w'⟨⟨v0,rfl⟩,j,jl⟩;refine⟨none,w'.putObj (T+1+1) (.loop { r with state:=.exhausted }),?_,?_⟩
 ·refine(run_endLoop (P:=Tryz.prog) jl (by rw[hr1];simp)).trans ?_
  rw[hr2]
 ·have j5:=j.putLoop hT { r with state:=.exhausted }
  obtain⟨W5,hW5⟩:∃ W5,w'.putObj (T+1+1) (.loop { r with state:=.exhausted })=W5:=⟨_,rfl⟩;rw[hW5]at j5 ⊢;dsimp only[Exit.inBlock,Exit.then];obtain⟨vl,cl5,rl5⟩:=j5.c;have c5:W5.cell? ⟨L1,0,none⟩=some vl:=qm _ _ _ _ _ _ cl5;have J5:=qh j5;have RL5:=qh rl5;clear j j5 jl hW5 cl5 rl5 hr hr1 hr2 hr3 hW1;refine zm (n:=6) ?_;refine wpIn_wide.2 ?_;go_wp2;refine⟨by simp,.inl ⟨_,_,rfl,run_takeDeferred J5.out.d,?_⟩⟩;refine⟨.tuple #[vl,.int .i64 0],by simp[results,Tryz.results55,go_sem],vl,rfl,?_,zw (B1.trans (J5.out.b.mono (by omega))) _ _ (by omega)⟩;exact qy (ju RL5.out (by omega)) fun g e=>World.putObj_heap_other (by have:=World.ownsRow.lt RL5.out g e;omega)
attribute [local go_sem] Oper.semAt_some
def xf(fr tn:ByteArray)(it:It):Bool:=(it.t.s'.toList==fr.toList && fr.toList != tn.toList) && (it.fr && Lib.containsS it.ins tn)
def q0z(fr tn:ByteArray)(t:Nd):Bool:=(zq 0 [] false t).any (xf fr tn)
structure RB(h:Nat)(w:World)(k:Int)(s:ByteArray)(v2:Value)(fr tn:ByteArray)(er:Int)(W:World):Prop where
 b:Below h w W
 z:h+1+1+1+1 < W.heap.size
 n:Row3 W h (.int .i64 k) (.string s) v2
 f:W.heap[h+1]?=some (.cells #[.string fr] 9 (0,0))
 t:W.heap[h+1+1]?=some (.cells #[.string tn] 9 (0,0))
 r:Row3 W (h+1+1+1) (.int .i64 0) (.string ⟨#[]⟩) (.slice none 0 0)
 e:W.heap[h+1+1+1+1]?=some (.cells #[.int .i64 er] 26 (0,0))
theorem RB.keep{h:Nat}{w A B:World}{k er:Int}{s fr tn:ByteArray}{v2:Value}(j:RB h w k s v2 fr tn er A)(hb:Below h w B)(hz:A.heap.size<=B.heap.size)(ho:∀ b,b < h+1+1+1+1+1->B.heap[b]?=A.heap[b]?):RB h w k s v2 fr tn er B :=
 ⟨hb,qu j.z hz,(ho _ (by omega)).trans j.n,(ho _ (by omega)).trans j.f,(ho _ (by omega)).trans j.t,(ho _ (by omega)).trans j.r,(ho _ (by omega)).trans j.e⟩
structure JQ(h T kb:Nat)(w:World)(k:Int)(s:ByteArray)(v2:Value)(fr tn:ByteArray)(kind er:Int)(rl:Loop)(W:World):Prop where
 j:RB h w k s v2 fr tn er W
 z:T+1+1 < W.heap.size
 d:W.heap[T+1]?=some (.deferred (some []))
 l:W.heap[T+1+1]?=some (.loop rl)
 k:W.heap[kb]?=some (.cells #[.int .i64 kind] 3 (0,0))
theorem JQ.keep{h T kb:Nat}{w A B:World}{k kind er:Int}{s fr tn:ByteArray}{v2:Value}{rl:Loop}(q:JQ h T kb w k s v2 fr tn kind er rl A)(hb:Below h w B)(hz:A.heap.size<=B.heap.size)(hk:h+1+1+1+1 < kb)(hT:kb < T)(ho:∀ b,b<=T+1+1->B.heap[b]?=A.heap[b]?):JQ h T kb w k s v2 fr tn kind er rl B :=
 ⟨q.j.keep hb hz fun b h1=>ho b (by omega),qu q.z hz,(ho _ (by omega)).trans q.d,(ho _ (by omega)).trans q.l,(ho _ (by omega)).trans q.k⟩
theorem qcc{α:Type}(p:α->Bool)(l:List α)(x:α):(l++[x]).any p=(l.any p||p x):=by rw[List.any_append];simp
theorem RB.below{h:Nat}{w A B:World}{k er:Int}{s fr tn:ByteArray}{v2:Value}{N:Nat}(j:RB h w k s v2 fr tn er A)(hb:Below N A B)(hN:h+1+1+1+1 < N):RB h w k s v2 fr tn er B :=
 j.keep (j.b.trans (hb.mono (by omega))) hb.size fun b h1=>hb.block b (by omega)
theorem qcm(t:Nd)(fr tn:ByteArray)(w:World)(v0 v1 v2:Value)(ht:NdR w t v0 v1 v2)(hfs:fr.size<=maxLen)(hts:tn.size<=maxLen)(hv:zx t=0)(hsm:smN t)(hsz:t.sz<=4000)(hfr:(zf fr||xy fr)=true)(htn:(zf tn||xy tn)=true)(TK:Bool)(hTK:q0z fr tn t=TK)(kind:Int)(hkd:kind=if xy tn=true then 16 else 15)(h64:tn.size<=64)
  (er:Int) (tr:Nd) (hc:zx (kf fr tn kind [] false t)=er) (hA:(er≠0/\tr=jt)\/(er=0/\tr=kf fr tn kind [] false t)) :
  Calls Tryz.prog 26 #[.agg #[v0,v1,v2],.string fr,.string tn] w fun e w'=>(TK=true/\PR 22 jt w e w')\/(TK=false/\PR er tr w e w'):=by
 obtain⟨k,s,kids,a,cap,rfl,rfl,rfl,rfl,hs,hl⟩:=ht.form;have eg:∀ args w,(callFunc 120 args).run Tryz.prog w = .ok (.enter 120 args) w:=enters_of Tryz.func120 (by kernel_rfl) rfl;obtain⟨W0,hW0⟩:∃ W0,((((w.alloc (.cells #[.int .i64 k,.string s,.slice a kids.length cap] 25)).alloc (.cells #[.string fr] 9)).alloc (.cells #[.string tn] 9)).alloc (.cells #[.int .i64 0,.string ⟨#[]⟩,.slice none 0 0] 25)).alloc (.cells #[.int .i64 0] 26)=W0:=⟨_,rfl⟩;obtain⟨h,hh⟩:∃ h,w.heap.size=h:=⟨_,rfl⟩;have b0:Below h w W0:=by rw[<-hW0,<-hh];exact(((((Below.refl _ w).alloc (q9 _) _).alloc (by simp) _).alloc (by simp only[q6];omega) _).alloc (by simp only[q6];omega) _).alloc (by simp only[q6];omega) _
 have z0:W0.heap.size=h+1+1+1+1+1:=by rw[<-hW0];simp[hh]
 have r0:Row3 W0 h (.int .i64 k) (.string s) (.slice a kids.length cap):=by
  rw[<-hW0,<-hh];exact(Below.heap_alloc _ _ _ (by simp only[q6];omega)).trans ((Below.heap_alloc _ _ _ (by simp only[q6];omega)).trans ((Below.heap_alloc _ _ _ (by simp only[q6];omega)).trans ((Below.heap_alloc _ _ _ (by simp only[q6];omega)).trans (qk _ _))))
 have f0:W0.heap[h+1]?=some (.cells #[.string fr] 9 (0,0)):=by
  rw[<-hW0,<-hh];exact(Below.heap_alloc _ _ _ (by simp only[q6];omega)).trans ((Below.heap_alloc _ _ _ (by simp only[q6];omega)).trans ((Below.heap_alloc _ _ _ (by simp only[q6];omega)).trans (za (by simp))))
 have t0:W0.heap[h+1+1]?=some (.cells #[.string tn] 9 (0,0)):=by
  rw[<-hW0,<-hh];exact(Below.heap_alloc _ _ _ (by simp only[q6];omega)).trans ((Below.heap_alloc _ _ _ (by simp only[q6];omega)).trans (za (by simp)))
 have q0:Row3 W0 (h+1+1+1) (.int .i64 0) (.string ⟨#[]⟩) (.slice none 0 0):=by
  rw[<-hW0,<-hh];exact(Below.heap_alloc _ _ _ (by simp only[q6];omega)).trans (za (by simp))
 have e0:W0.heap[h+1+1+1+1]?=some (.cells #[.int .i64 0] 26 (0,0)):=by rw[<-hW0,<-hh];exact za (by simp)
 have nr0:NdR W0 (.mk k s kids) (.int .i64 k) (.string s) (.slice a kids.length cap):=ht.later (by rw[hh];exact b0);have CC:=qh (vk _ W0 _ _ _ nr0);rw[hv]at CC;have CF:=qh (q1y fr hfs);have CT:=qh (q1y tn hts);have CV:=qh (fun W=>q9w tn W hts);unfold q34 at CF CT;simp only[hfr]at CF;simp only[htn]at CT;have HKD:=qh hkd;have HH:=qh hh;have hk56:kind=15\/kind=16:=by rw[hkd];split <;> simp
 have hmf:∀ (fn:Fn) (first cap:Array Value) (w:World),(Instr.makeFunc fn first cap).run Tryz.prog w = .ok (.func fn first cap) w:=fun _ _ _ _=>rfl
 have HCK:=qh hc;have HAS:=qh hA;change Hid (∀ W,Calls Tryz.prog 58 #[.string tn] W fun e w'=>e = .returned (.bool (xy tn))/\Below W.heap.size W w')at CV;obtain⟨vt,hvt⟩:∃ vt,xy tn=vt:=⟨_,rfl⟩;rw[hvt]at CV HKD;clear hkd hfr htn hvt;refine(callsIn_wide (n:=6)).1 ?_;refine wk Tryz.func26 rfl ?_;simp only[Tryz.ntmps26,List.size_toArray,qr,qz,Nat.reduceAdd,Nat.reduceSub,Array.replicate_succ,Array.replicate_zero,List.push_toArray,List.append_toArray,List.nil_append,List.cons_append];refine xe (zm ?_)
 gi_wp2
 (try rw[hW0])
 (try rw[hh])
 clear hW0;obtain⟨⟨n0,n1,n2⟩,_⟩:=r0.cells;refine xe (zm ?_)
 gi_wp2_with fail
 refine⟨trivial,((callsIn_wide (n:=5)).2 CC.out).mono ?_⟩;rintro e w1⟨rfl,hb1⟩;have j1:RB h w k s (.slice a kids.length cap) fr tn 0 w1:=(⟨b0,by omega,r0,f0,t0,q0,e0⟩:RB h w k s (.slice a kids.length cap) fr tn 0 W0).below hb1 (by omega);have nr1:=qh (nr0.later hb1);clear n0 n1 n2 hb1 CC nr0 r0 b0 f0 t0 q0 e0 z0
 gi_wp2
 have cf:w1.cell? ⟨h+1,0,none⟩=some (.string fr):=qm _ _ _ _ _ _ j1.f;refine xe (zm ?_)
 gi_wp2_with fail
 refine⟨trivial,((callsIn_wide (n:=5)).2 (CF.out _)).mono ?_⟩;rintro e w2⟨rfl,hb2⟩;have j2:=j1.below hb2 j1.z;have nr2:=qh (nr1.out.later hb2);have ct:w2.cell? ⟨h+1+1,0,none⟩=some (.string tn):=qm _ _ _ _ _ _ j2.t;clear hb2 CF cf j1 nr1
 gi_wp2_with fail
 refine⟨trivial,((callsIn_wide (n:=5)).2 (CT.out _)).mono ?_⟩;rintro e w3⟨rfl,hb3⟩;have j3:=j2.below hb3 j2.z;have nr3:=qh (nr2.out.later hb3);clear hb3 CT ct j2 nr2
 gi_wp2
 obtain⟨kb,hkb⟩:∃ kb,w3.heap.size=kb:=⟨_,rfl⟩;have hkb5:h+1+1+1+1 < kb:=by have:=j3.z;omega
 refine xe (zm ?_)
 gi_wp2
 obtain⟨W4,hW4⟩:∃ W4,w3.alloc (.cells #[.int .i64 15] 3)=W4:=⟨_,rfl⟩;have b4:Below kb w3 W4:=by rw[<-hW4,<-hkb];exact(Below.refl _ _).alloc (q9 _) _
 have k4:W4.heap[kb]?=some (.cells #[.int .i64 15] 3 (0,0)):=by rw[<-hW4,<-hkb];exact qk _ _
 have z4:W4.heap.size=kb+1:=by rw[<-hW4];simp[hkb]
 have j4:=j3.below b4 hkb5;have nr4:=qh (nr3.out.later (by rw[hkb];exact b4))
 (try rw[hW4])
 (try rw[hkb])
 have HKB:=qh hkb;clear hW4 hkb b4 j3 nr3;have ct:W4.cell? ⟨h+1+1,0,none⟩=some (.string tn):=qm _ _ _ _ _ _ j4.t;refine xe (zm ?_)
 gi_wp2_with fail
 refine⟨trivial,((callsIn_wide (n:=5)).2 (CV.out _)).mono ?_⟩;rintro e w5⟨rfl,hb5⟩;have j5:=j4.below hb5 j4.z;have nr5:=qh (nr4.out.later hb5);have k5:=(hb5.block _ (show kb < W4.heap.size by omega)).trans k4;have z5:kb < w5.heap.size:=by have:=hb5.size;omega
 clear hb5 CV ct j4 nr4 k4 z4;have ck:w5.cell? ⟨kb,0,none⟩=some (.int .i64 15):=qm _ _ _ _ _ _ k5;have cz:w5.frozen? ⟨kb,0,none⟩=false:=frozen_of_row _ _ _ _ _ k5
 cases vt with
 |true =>
  gi_wp2
  obtain⟨V,hVw⟩:∃ V,w5.setCell ⟨kb,0,none⟩ (.int .i64 16)=V:=⟨_,rfl⟩;have far5:∀ b,b≠kb->V.heap[b]?=w5.heap[b]?:=fun b hb=>by rw[<-hVw];exact Below.heap_setCell _ _ _ _ (by simp only;exact hb)
  have zV:kb < V.heap.size:=by rw[<-hVw,qs];exact z5
  have jV:RB h w k s (.slice a kids.length cap) fr tn 0 V:=j5.keep (by rw[<-hVw];exact j5.b.setCell (p:=⟨kb,0,none⟩) (by simp only;omega) _) (by rw[<-hVw,qs];exact q9 _) fun b hb=>far5 b (by omega)
  have kV:V.heap[kb]?=some (.cells #[.int .i64 kind] 3 (0,0)):=by rw[<-hVw,HKD.out];exact heap_setCell_same _ _ 0 _ _ _ k5
  have nrV:Hid (NdR V (.mk k s kids) (.int .i64 k) (.string s) (.slice a kids.length cap)):=qh (ht.later (by rw[HH.out];exact jV.b));rw[hVw];clear hVw far5 ck cz k5 z5 j5 nr5;obtain⟨⟨n0,n1,n2⟩,_⟩:=jV.n.cells;obtain⟨L1,hL1⟩:∃ L1,V.heap.size=L1:=⟨_,rfl⟩;rw[hL1]at zV;refine xe (xe (zm ?_))
  gi_wp2_with fail
  refine⟨trivial,((callsIn_wide (n:=5)).2 (q3p k s a kids.length cap _)).mono ?_⟩;rintro e w2'⟨rfl,rfl⟩
  gi_wp2
  (try rw[hL1])
  clear n0 n1 n2;refine q0y (vh (gf:=120) (lb:=#[.pointer (some ⟨L1,0,none⟩)]) rfl eg ?_);intro r hr;have hr1:r.state = .ready:=by rw[hr]
  have hr2:r.pending=none:=by rw[hr]
  have hr3:r.params=#[31,32]:=by rw[hr]
  obtain⟨W4,hW4⟩:∃ W4,V.alloc (.cells #[.int .i64 k,.string s,.slice a kids.length cap] 25)=W4:=⟨_,rfl⟩;have z4:W4.heap.size=L1+1:=by rw[<-hW4,q6,hL1]
  have b4:Row3 W4 L1 (.int .i64 k) (.string s) (.slice a kids.length cap):=by rw[<-hW4];exact za hL1.symm
  have B4:Below L1 V W4:=by rw[<-hW4,<-hL1];exact(Below.refl _ _).alloc (q9 _) _
  rw[hW4];clear hW4;obtain⟨W1,hW1⟩:∃ W1,(W4.alloc (.deferred (some []))).alloc (.loop r)=W1:=⟨_,rfl⟩;have old:∀ b,b < L1+1->W1.heap[b]?=W4.heap[b]?:=fun b hb=>by rw[<-hW1];exact(Below.heap_alloc _ _ _ (by simp only[q6];omega)).trans (Below.heap_alloc _ _ _ (by omega))
  have zW1:W1.heap.size=L1+1+1+1:=by rw[<-hW1];simp[z4]
  have hd1:W1.heap[L1+1]?=some (.deferred (some [])):=by rw[<-hW1];exact(Below.heap_alloc _ _ _ (by simp only[q6];omega)).trans (za (by omega))
  have hl1:W1.heap[L1+1+1]?=some (.loop r):=by rw[<-hW1];exact za (by simp only[q6];omega)
  have hB1:Below L1 V W1:=by rw[<-hW1];exact(B4.alloc (by omega) _).alloc (by simp only[q6];omega) _
  have jq0:JQ h L1 kb w k s (.slice a kids.length cap) fr tn kind 0 r W1:=⟨jV.keep (jV.b.trans (hB1.mono (by omega))) (by omega) fun b hb=>hB1.block b (by omega),by omega,hd1,hl1,(hB1.block kb (by omega)).trans kV⟩
  have hsup:Sup w W1:=fun b c t z e=>by
   have hb:=zg e;rw[HH.out]at hb;exact(jq0.j.b.block b hb).trans e
  have hcall:CallsIn Fence.wide 5 Tryz.prog 120 #[.func (.yield (L1+1+1)) #[] #[],.pointer (some ⟨L1,0,none⟩)] W1
    (fun e w'=>(∃ v,e = .returned v)/\((((zq 0 [] false (.mk k s kids)).length<=4000/\(zq 0 [] false (.mk k s kids)).any (xf fr tn)=false)/\JQ h L1 kb w k s (.slice a kids.length cap) fr tn kind 0 r w')\/∃ q,q <+: zq 0 [] false (.mk k s kids)/\q.any (xf fr tn)=true/\JQ h L1 kb w k s (.slice a kids.length cap) fr tn kind 22 { r with state:=.done,pending:=some .ret } w')):=by
   refine(callsIn_wide (n:=5)).2 ?_
   refine q2u (fun _ b=>b=h+1+1+1\/b=h+1+1+1+1) (L1+1+1) L1 w W1 (fun pre W=>(pre.length<=4000/\pre.any (xf fr tn)=false)/\JQ h L1 kb w k s (.slice a kids.length cap) fr tn kind 0 r W) (fun q W=>q.any (xf fr tn)=true/\JQ h L1 kb w k s (.slice a kids.length cap) fr tn kind 22 { r with state:=.done,pending:=some .ret } W) k s kids a cap
    (fun pre W hj=>by have:=hj.1.1;omega) (fun pre A B hj hb _=>⟨hj.1,hj.2.keep (hj.2.j.b.trans (hb.mono (by omega))) hb.size hkb5 zV fun b hb'=>hb.block b (by omega)⟩) (fun _ _ _ b hb=>hb) (fun pre A hj b hb=>by have:=hj.2.j.z;omega) ?_ ht ((old L1 (by omega)).trans b4) hsup (by rw[HH.out];have:=jq0.j.z;omega) (fun b hb=>by rw[HH.out];omega) ⟨⟨by simp,by simp⟩,jq0⟩
   intro m pre it A vp vi u0 u1 u2 n₁ ps hn1 hj hall hpd hg;obtain⟨⟨hpl,hpt⟩,hjq⟩:=hj;obtain⟨hgd,hgp,hgi,hgt⟩:=hg;have hlen:(pre++[it]).length<=4000:=by have:=hall.length_le;rw[q1f]at this;omega
   obtain⟨ap,cp,rfl⟩:=zr hgp;obtain⟨ai,ci,hvi⟩:=zr hgi;subst hvi;rw[qx]at hgi;obtain⟨k1,s1,l1,a1,c1,ht1,rfl,rfl,rfl,_,_⟩:=hgt.form;have hil:it.ins.length<=90000:=by have:=q68 0 [] false _ it (hall.subset (by simp));simp only[qz]at this;omega
   obtain⟨FV,hF⟩:∃ FV,((k1==15||k1==16) && (!it.wd && !Lib.containsS it.ins s1))=FV:=⟨_,rfl⟩;obtain⟨CV,hC⟩:∃ CV,Lib.containsS it.ins tn=CV:=⟨_,rfl⟩
   have htk:(pre++[it]).any (xf fr tn)=((s1.toList==fr.toList && fr.toList != tn.toList) && (FV && CV)):=by
    rw[qcc,hpt,Bool.false_or,<-hF,<-hC];unfold xf It.fr;rw[ht1];rfl
   obtain⟨R,hR⟩:∃ R:Ending->World->Prop,(fun e W'=>(e = .returned (.bool true)/\(((pre++[it]).length<=4000/\(pre++[it]).any (xf fr tn)=false)/\JQ h L1 kb w k s (.slice a kids.length cap) fr tn kind 0 r W')/\Kc (fun _ b=>b=h+1+1+1\/b=h+1+1+1+1) A W')\/(e = .returned (.bool false)/\((pre++[it]).any (xf fr tn)=true/\JQ h L1 kb w k s (.slice a kids.length cap) fr tn kind 22 { r with state:=.done,pending:=some .ret } W')/\Kc (fun _ b=>b=h+1+1+1\/b=h+1+1+1+1) A W'))=R:=⟨_,rfl⟩
   show YieldAt Fence.wide m Tryz.prog (L1+1+1) _ A (fun e W'=>(e = .returned (.bool true)/\(((pre++[it]).length<=4000/\(pre++[it]).any (xf fr tn)=false)/\JQ h L1 kb w k s (.slice a kids.length cap) fr tn kind 0 r W')/\Kc (fun _ b=>b=h+1+1+1\/b=h+1+1+1+1) A W')\/(e = .returned (.bool false)/\((pre++[it]).any (xf fr tn)=true/\JQ h L1 kb w k s (.slice a kids.length cap) fr tn kind 22 { r with state:=.done,pending:=some .ret } W')/\Kc (fun _ b=>b=h+1+1+1\/b=h+1+1+1+1) A W'))
   rw[hR];rw[htk]at hR;have HR:=qh hR;clear hR htk hpt hpl hall hpd;refine⟨_,_,_,_,run_yield (P:=Tryz.prog) hjq.l (by rw[hr3];rfl),?_⟩;have hr4:r.fn=26:=by rw[hr]
   rw[hr4];refine vj trivial Tryz.func26 ?_;have hrs:=hr1;have HJ:=qh hjq;have HRR:=qh hr;have HGI:=qh hgi;simp only[hr];clear hgp hgi hgt hjq hr hr1 hr2 hr3 hr4
   gi_wp2
   refine⟨_,run_beginRound (r:=r) ((Below.heap_alloc _ _ _ (by have:=zg HJ.out.l;simp only[q6];omega)).trans ((Below.heap_alloc _ _ _ (zg HJ.out.l)).trans HJ.out.l)) hrs,?_⟩;obtain⟨N,hN⟩:∃ N,A.heap.size=N:=⟨_,rfl⟩;obtain⟨W2,hW2⟩:∃ W2,((A.alloc (.cells #[.slice ap ps.length cp,.slice ai it.ins.length ci,.bool it.wd] 85)).alloc (.cells #[.int .i64 k1,.string s1,.slice a1 l1.length c1] 25)).putObj (L1+1+1) (.loop { r with state:=.busy })=W2:=⟨_,rfl⟩;have hTN:L1+1+1 < N:=by have:=HJ.out.z;omega
   have ko:∀ b,b < N->b≠L1+1+1->W2.heap[b]?=A.heap[b]?:=fun b hb1 hb2=>by
    rw[<-hW2];exact(World.putObj_heap_other hb2).trans ((Below.heap_alloc _ _ _ (by simp only[q6];omega)).trans (Below.heap_alloc _ _ _ (by omega)))
   have mz:W2.heap.size=N+1+1:=by rw[<-hW2,World.putObj_size,q6,q6,hN]
   have m5:W2.heap[L1+1+1]?=some (.loop { r with state:=.busy }):=by rw[<-hW2];exact World.putObj_heap_same (by simp only[q6];omega)
   have mt:RowP W2 N (.slice ap ps.length cp) (.slice ai it.ins.length ci) (.bool it.wd):=by
    rw[<-hW2,<-hN];exact(World.putObj_heap_other (by omega)).trans ((Below.heap_alloc _ _ _ (by simp only[q6];omega)).trans (qk _ _))
   have mx:Row3 W2 (N+1) (.int .i64 k1) (.string s1) (.slice a1 l1.length c1):=by
    rw[<-hW2,<-hN];exact(World.putObj_heap_other (by omega)).trans (za (by simp))
   have mb:Below h w W2:=by rw[<-hW2];exact zw ((HJ.out.j.b.alloc (by omega) _).alloc (by simp only[q6];omega) _) _ _ (by omega)
   have mj:RB h w k s (.slice a kids.length cap) fr tn 0 W2:=HJ.out.j.keep mb (by omega) fun b hb=>ko b (by omega) (by omega)
   have mi:ze n₁ W2 (.slice ai it.ins.length ci) it.ins:=qy HGI.out fun g e=>by have:=World.ownsRow.lt HGI.out g e;exact ko g (by omega) (by omega)
   rw[hW2,hN];obtain⟨⟨p0,p1,p2⟩,_⟩:=mt.cells;obtain⟨⟨x0,x1,x2⟩,_⟩:=mx.cells;have cf:W2.cell? ⟨h+1,0,none⟩=some (.string fr):=qm _ _ _ _ _ _ mj.f;have ct:W2.cell? ⟨h+1+1,0,none⟩=some (.string tn):=qm _ _ _ _ _ _ mj.t;have CFR:=qh (q30 n₁ ap ai ps.length cp it.ins.length ci it.wd k1 s1 a1 l1.length c1 it.ins W2 mi hil);rw[hF]at CFR;have HMT:=qh mt;have HMI:=qh mi;have HMJ:=qh mj;have HMZ:=qh mz;have HCV:=qh hC;have HIL:=qh hil;have e0:({ ({ r with state:=.busy }:Loop)with state:=.ready,pending:=none }:Loop)=r:=by rw[HRR.out]
   have E0:=qh e0
   have KEEP:Hid (∀ (er:Int) (W':World) (rl:Loop),W2.heap.size<=W'.heap.size->Below h w W'->(∀ b,b < W2.heap.size->b≠h+1+1+1->b≠h+1+1+1+1->W'.heap[b]?=W2.heap[b]?)->Row3 W' (h+1+1+1) (.int .i64 0) (.string ⟨#[]⟩) (.slice none 0 0)->W'.heap[h+1+1+1+1]?=some (.cells #[.int .i64 er] 26 (0,0)) ->
     JQ h L1 kb w k s (.slice a kids.length cap) fr tn kind er rl (W'.putObj (L1+1+1) (.loop rl))/\Kc (fun _ b=>b=h+1+1+1\/b=h+1+1+1+1) A (W'.putObj (L1+1+1) (.loop rl))):=qh (fun er W' rl hz hbw ho hr3 he4=>by
    have po:∀ b,b≠L1+1+1->(W'.putObj (L1+1+1) (.loop rl)).heap[b]?=W'.heap[b]?:=fun b hb=>World.putObj_heap_other hb
    have kk:∀ b,b < N->b≠L1+1+1->b≠h+1+1+1->b≠h+1+1+1+1->(W'.putObj (L1+1+1) (.loop rl)).heap[b]?=A.heap[b]?:=fun b h1 h2 h3 h4=>(po b h2).trans ((ho b (by omega) h3 h4).trans (ko b h1 h2))
    refine⟨⟨⟨zw hbw _ _ (by omega),by rw[World.putObj_size];omega,(kk _ (by omega) (by omega) (by omega) (by omega)).trans HJ.out.j.n,(kk _ (by omega) (by omega) (by omega) (by omega)).trans HJ.out.j.f,(kk _ (by omega) (by omega) (by omega) (by omega)).trans HJ.out.j.t,(po _ (by omega)).trans hr3,(po _ (by omega)).trans he4⟩,by rw[World.putObj_size];omega,(kk _ (by omega) (by omega) (by omega) (by omega)).trans HJ.out.d,World.putObj_heap_same (by omega),(kk _ (by omega) (by omega) (by omega) (by omega)).trans HJ.out.k⟩,by rw[World.putObj_size];omega,fun b c t z hb e=>?_,fun b hb=>.inl hb⟩;have hlt:b < N:=by rw[<-hN];exact zg e
    have hne:b≠L1+1+1:=by rintro rfl;rw[HJ.out.l]at e;cases e
    exact(kk b hlt hne (fun e=>hb (.inl e)) (fun e=>hb (.inr e))).trans e)
   have FIN:Hid (∀ W',Below W2.heap.size W2 W'->((s1.toList==fr.toList && fr.toList != tn.toList) && (FV && CV))=false->R (.returned (.bool true)) (W'.putObj (L1+1+1) (.loop r))):=qh (fun W' hb he=>by
    rw[<-HR.out];have kq:=KEEP.out 0 W' r hb.size (mb.trans (hb.mono (by omega))) (fun b h1 _ _=>hb.block b h1) ((hb.block _ (by omega)).trans mj.r) ((hb.block _ (by omega)).trans mj.e)
    exact .inl ⟨rfl,⟨⟨hlen,he⟩,kq.1⟩,kq.2⟩)
   have FINL:Hid (∀ W',Below W2.heap.size W2 W'->W'.heap[L1+1+1]?=some (.loop { r with state:=.busy })):=qh (fun W' hb=>(hb.block _ (by omega)).trans m5);have HM5:=qh m5;obtain⟨wd,hwd⟩:∃ wd,it.wd=wd:=⟨_,rfl⟩;obtain⟨NI,hni⟩:∃ NI,it.ins.length=NI:=⟨_,rfl⟩;obtain⟨NP,hnp⟩:∃ NP,ps.length=NP:=⟨_,rfl⟩;rw[hwd,hni,hnp]at CFR HMT;rw[hwd]at p2;rw[hni]at p1 HMI;rw[hnp]at p0;clear ko mz m5 mt mx mj mb mi hW2 hN hwd hnp e0 hF hC hil hlen
   by_cases h1:s1.toList=fr.toList
   ·have e1:(s1.toList==fr.toList)=true:=by rw[beq_iff_eq];exact h1
    rw[e1,Bool.true_and]at FIN;have HE1:=qh h1;clear h1
    by_cases h2:fr.toList=tn.toList
    ·have e2:(fr.toList != tn.toList)=false:=by rw[h2];simp
     have hFT:=FIN.out _ (Below.refl _ _) (by rw[e2];rfl);have HE2:=qh h2;clear h2
     gi_wp2
     refine⟨trivial,?_⟩
     gi_wp2
     refine⟨trivial,?_⟩
     gi_wp2
     refine⟨_,_,run_endRound none (FINL.out _ (Below.refl _ _)),?_⟩;simp only[Option.isNone_none,if_true];rw[E0.out];exact hFT
    ·have e2:(fr.toList != tn.toList)=true:=by rw[bne_iff_ne];exact h2
     have e3:(fr.toList==tn.toList)=false:=by rw[qc];exact h2
     rw[e2,Bool.true_and]at FIN
     gi_wp2_with fail
     refine⟨trivial,fun e=>(by cases e),(CallsIn.inRound _ ((callsIn_wide (n:=m - 1)).2 CFR.out)).mono ?_⟩;rintro e w5⟨rfl,hb5⟩;have HB5:=qh hb5;have z5:=hb5.size;have hmz:=HMZ.out;have mj5:RB h w k s (.slice a kids.length cap) fr tn 0 w5:=HMJ.out.below hb5 (by omega);have mt5:RowP w5 N (.slice ap NP cp) (.slice ai NI ci) (.bool wd):=(hb5.block _ (by omega)).trans HMT.out;have mi5:ze n₁ w5 (.slice ai NI ci) it.ins:=qy HMI.out fun g e=>hb5.block g (World.ownsRow.lt HMI.out g e).2
     have CB:=qh (q2r w5 ai NI ci it.ins tn mi5 (by have:=HIL.out;omega));rw[HCV.out]at CB;have HMJ5:=qh mj5;obtain⟨⟨y0,y1,y2⟩,_⟩:=mt5.cells;have ct5:w5.cell? ⟨h+1+1,0,none⟩=some (.string tn):=qm _ _ _ _ _ _ mj5.t;clear hb5 CFR p0 p1 p2 x0 x1 x2 cf ct mj5 mt5 mi5
     cases FV with
     |false =>
      have hFT:=FIN.out _ HB5.out rfl
      gi_wp2
      refine⟨trivial,?_⟩
      gi_wp2
      refine⟨_,_,run_endRound none (FINL.out _ HB5.out),?_⟩;simp only[Option.isNone_none,if_true];rw[E0.out];exact hFT
     |true =>
      gi_wp2_with fail
      refine⟨trivial,fun e=>(by cases e),(CallsIn.inRound _ ((callsIn_wide (n:=m - 1)).2 CB.out)).mono ?_⟩;rintro e w6⟨rfl,rfl⟩
      cases CV with
      |false =>
       have hFT:=FIN.out _ HB5.out rfl
       gi_wp2
       refine⟨_,_,run_endRound none (FINL.out _ HB5.out),?_⟩;simp only[Option.isNone_none,if_true];rw[E0.out];exact hFT
      |true =>
       obtain⟨⟨r0,r1,r2⟩,rf0,rf1,rf2⟩:=HMJ5.out.r.cells;have er0:=qm _ _ 0 _ _ _ HMJ5.out.e;have ef0:=frozen_of_row _ _ 0 _ _ HMJ5.out.e;clear CB y0 y1 y2 ct5
       gi_wp2
       obtain⟨V6,hV6⟩:∃ V6,(((w6.setCell ⟨h+1+1+1,0,none⟩ (.int .i64 0)).setCell ⟨h+1+1+1,1,none⟩ (.string ⟨#[]⟩)).setCell ⟨h+1+1+1,2,none⟩ (.slice none 0 0)).setCell ⟨h+1+1+1+1,0,none⟩ (.int .i64 22)=V6:=⟨_,rfl⟩
       have far6:∀ b,b≠h+1+1+1->b≠h+1+1+1+1->V6.heap[b]?=w6.heap[b]?:=fun b h1 h2=>by
        rw[<-hV6];exact(Below.heap_setCell _ _ _ _ (by simp only;exact h2)).trans ((Below.heap_setCell _ _ _ _ (by simp only;exact h1)).trans ((Below.heap_setCell _ _ _ _ (by simp only;exact h1)).trans (Below.heap_setCell _ _ _ _ (by simp only;exact h1))))
       have zV6:V6.heap.size=w6.heap.size:=by rw[<-hV6];simp only[qs]
       have rV6:Row3 V6 (h+1+1+1) (.int .i64 0) (.string ⟨#[]⟩) (.slice none 0 0):=by
        rw[<-hV6];exact(HMJ5.out.r.put _ _ _).other (p:=⟨h+1+1+1+1,0,none⟩) _ (by simp)
       have eV6:V6.heap[h+1+1+1+1]?=some (.cells #[.int .i64 22] 26 (0,0)):=by
        rw[<-hV6];exact heap_setCell_same _ _ 0 _ _ _ ((Below.heap_setCell _ _ _ _ (by simp)).trans ((Below.heap_setCell _ _ _ _ (by simp)).trans ((Below.heap_setCell _ _ _ _ (by simp)).trans HMJ5.out.e)))
       have bV6:Below h w V6:=by
        rw[<-hV6];exact(((HMJ5.out.b.setCell (p:=⟨h+1+1+1,0,none⟩) (by simp only;omega) _).setCell (p:=⟨h+1+1+1,1,none⟩) (by simp only;omega) _).setCell (p:=⟨h+1+1+1,2,none⟩) (by simp only;omega) _).setCell (p:=⟨h+1+1+1+1,0,none⟩) (by simp only;omega) _
       rw[hV6];clear hV6;refine⟨_,_,run_endRound (some .ret) ((far6 _ (by omega) (by omega)).trans (FINL.out _ HB5.out)),?_⟩;simp only[Option.isNone_some,Bool.false_eq_true,if_false];rw[<-HR.out];have kq:=KEEP.out 22 V6 { r with state:=.done,pending:=some .ret } (by rw[zV6];exact z5) bV6 (fun b h1 h2 h3=>(far6 b h2 h3).trans (HB5.out.block b h1)) rV6 eV6;exact .inr ⟨rfl,⟨by rw[HE1.out,e2];simp,kq.1⟩,kq.2⟩
   ·have e1:(s1.toList==fr.toList)=false:=by rw[qc];exact h1
    have e2:(s1=fr)=False:=eq_false (by rintro rfl;exact h1 rfl);have hFT:=FIN.out _ (Below.refl _ _) (by rw[e1];rfl);clear h1 CFR HMT p0 p1 p2
    gi_wp2
    refine⟨trivial,?_⟩
    gi_wp2
    refine⟨trivial,?_⟩
    gi_wp2
    refine⟨_,_,run_endRound none (FINL.out _ (Below.refl _ _)),?_⟩;simp only[Option.isNone_none,if_true];rw[E0.out];exact hFT
  rw[z4,hW1];refine hcall.mono ?_;clear hcall hsup old b4 B4 hd1 hl1 hB1 jq0 jV kV;rintro e w'⟨⟨v0,rfl⟩,⟨⟨hp4,hpt⟩,jq⟩|⟨q,hq,hqt,jq⟩⟩
  ·have hT:TK=false:=by rw[<-hTK];exact hpt
   refine⟨none,w'.putObj (L1+1+1) (.loop { r with state:=.exhausted }),?_,?_⟩
   ·refine(run_endLoop (P:=Tryz.prog) jq.l (by rw[hr1];simp)).trans ?_
    rw[hr2]
   ·obtain⟨W5,hW5⟩:∃ W5,w'.putObj (L1+1+1) (.loop { r with state:=.exhausted })=W5:=⟨_,rfl⟩
    have po:∀ b,b≠L1+1+1->W5.heap[b]?=w'.heap[b]?:=fun b hb=>by rw[<-hW5];exact World.putObj_heap_other hb
    have j5:RB h w k s (.slice a kids.length cap) fr tn 0 W5:=jq.j.keep (by rw[<-hW5];exact zw jq.j.b _ _ (by omega)) (by rw[<-hW5,World.putObj_size];exact q9 _) fun b hb=>po b (by omega)
    have d5:W5.heap[L1+1]?=some (.deferred (some [])):=(po _ (by omega)).trans jq.d;have k5:W5.heap[kb]?=some (.cells #[.int .i64 kind] 3 (0,0)):=(po _ (by omega)).trans jq.k;have z5:L1+1+1 < W5.heap.size:=by rw[<-hW5,World.putObj_size];exact jq.z
    rw[hW5];dsimp only[Exit.inBlock,Exit.then];have nr5:NdR W5 (.mk k s kids) (.int .i64 k) (.string s) (.slice a kids.length cap):=ht.later (by rw[HH.out];exact j5.b);have hsz5:=q8s fr tn kind [] false (.mk k s kids);have hsm5:=q8t fr tn h64 kind [] false _ hsm
    have RBD:=qh (q37 64 #[.pointer (some ⟨h+1,0,none⟩),.pointer (some ⟨kb,0,none⟩),.pointer (some ⟨h+1+1,0,none⟩)] W5 (qkt (h+1) kb (h+1+1) fr tn kind) (fun _ _ _ _=>True) (q7g fr tn kind) (fun _ _=>rfl)
     (fun A B hC hb=>⟨(hb.block _ (by omega)).trans hC.1,(hb.block _ (by omega)).trans hC.2.1,(hb.block _ (by omega)).trans hC.2.2⟩)
     (fun n₁ H A vp vi v0 v1 v2 ps ins wd t _ _ h3 h4 h5 h6 h7 _ h9 _=>qb2 (h+1) kb (h+1+1) fr tn kind hts n₁ H A vp vi v0 v1 v2 ps ins wd t h3 h4 h5 h6 h7 h9) _ _ (q6c hk56 _ (.mk k s kids) (q9 _) [] [] false) _ _ _ ⟨j5.f,k5,j5.t⟩ nr5 (by omega) hsm5)
    obtain⟨⟨n0,n1,n2⟩,_⟩:=j5.n.cells;have J5:=qh j5;have D5:=qh d5;clear hsz5 hsm5 nr5 k5 hpt hp4 po hW5;refine zm (n:=6) ?_;refine wpIn_wide.2 ?_
    go_wp2_with fail
    refine RBD.out.mono ?_;rintro e w6⟨u0,u1,u2,rfl,t6,b6⟩;have j6:=J5.out.below b6 (by have:=J5.out.z;omega);have d6:w6.heap[L1+1]?=some (.deferred (some [])):=(b6.block _ (by omega)).trans D5.out;have CK:=qh (q6v _ _ _ _ _ w6 t6 er tr HCK.out HAS.out);obtain⟨_,_,_,a6,c6,e6,rfl,rfl,rfl,_,_⟩:=t6.form;have z6:L1+1+1 < w6.heap.size:=by have:=b6.size;omega
    clear RBD n0 n1 n2 b6 J5 D5 j5 d5
    go_wp2_with fail
    refine CK.out.mono ?_;rintro e w7⟨y0,y1,y2,rfl,t7,b7⟩;have j7:=j6.below b7 (by have:=j6.z;omega);have d7:w7.heap[L1+1]?=some (.deferred (some [])):=(b7.block _ (by omega)).trans d6;have T7:=qh t7;obtain⟨k7,s7,l7,a7,c7,e7,rfl,rfl,rfl,_,_⟩:=t7.form;obtain⟨⟨r0,r1,r2⟩,rf0,rf1,rf2⟩:=j7.r.cells;have er0:=qm _ _ 0 _ _ _ j7.e;have ef0:=frozen_of_row _ _ 0 _ _ j7.e;have J7:=qh j7;have D7:=qh d7;have B67:=qh b7;have hzz:h+1+1+1+1 < W5.heap.size:=by omega
    clear CK t6 t7 b7 j6 d6 j7 d7;go_wp2;obtain⟨V7,hV7⟩:∃ V7,(((w7.setCell ⟨h+1+1+1,0,none⟩ (.int .i64 k7)).setCell ⟨h+1+1+1,1,none⟩ (.string s7)).setCell ⟨h+1+1+1,2,none⟩ (.slice a7 l7.length c7)).setCell ⟨h+1+1+1+1,0,none⟩ (.int .i64 er)=V7:=⟨_,rfl⟩
    have far7:∀ b,b≠h+1+1+1->b≠h+1+1+1+1->V7.heap[b]?=w7.heap[b]?:=fun b h1 h2=>by
     rw[<-hV7];exact(Below.heap_setCell _ _ _ _ (by simp only;exact h2)).trans ((Below.heap_setCell _ _ _ _ (by simp only;exact h1)).trans ((Below.heap_setCell _ _ _ _ (by simp only;exact h1)).trans (Below.heap_setCell _ _ _ _ (by simp only;exact h1))))
    have rV7:Row3 V7 (h+1+1+1) (.int .i64 k7) (.string s7) (.slice a7 l7.length c7):=by
     rw[<-hV7];exact(J7.out.r.put _ _ _).other (p:=⟨h+1+1+1+1,0,none⟩) _ (by simp)
    have eV7:V7.heap[h+1+1+1+1]?=some (.cells #[.int .i64 er] 26 (0,0)):=by
     rw[<-hV7];exact heap_setCell_same _ _ 0 _ _ _ ((Below.heap_setCell _ _ _ _ (by simp)).trans ((Below.heap_setCell _ _ _ _ (by simp)).trans ((Below.heap_setCell _ _ _ _ (by simp)).trans J7.out.e)))
    have bV7:Below h w V7:=by
     rw[<-hV7];exact(((J7.out.b.setCell (p:=⟨h+1+1+1,0,none⟩) (by simp only;omega) _).setCell (p:=⟨h+1+1+1,1,none⟩) (by simp only;omega) _).setCell (p:=⟨h+1+1+1,2,none⟩) (by simp only;omega) _).setCell (p:=⟨h+1+1+1+1,0,none⟩) (by simp only;omega) _
    rw[hV7];clear hV7;have dV7:V7.heap[L1+1]?=some (.deferred (some [])):=(far7 _ (by omega) (by omega)).trans D7.out;refine⟨by simp,.inl ⟨_,_,rfl,run_takeDeferred dV7,?_⟩⟩;have po:∀ b,b≠L1+1->(V7.putObj (L1+1) (.deferred none)).heap[b]?=V7.heap[b]?:=fun b hb=>World.putObj_heap_other hb
    have r8:Row3 (V7.putObj (L1+1) (.deferred none)) (h+1+1+1) (.int .i64 k7) (.string s7) (.slice a7 l7.length c7):=(po _ (by omega)).trans rV7;obtain⟨⟨g0,g1,g2⟩,_⟩:=r8.cells;have ge0:(V7.putObj (L1+1) (.deferred none)).cell? ⟨h+1+1+1+1,0,none⟩=some (.int .i64 er):=qm _ _ _ _ _ _ ((po _ (by omega)).trans eV7);refine⟨.tuple #[.agg #[.int .i64 k7,.string s7,.slice a7 l7.length c7],.int .i64 er],by simp[results,Tryz.results26,go_sem,g0,g1,g2,ge0],?_⟩;exact .inr ⟨hT,_,_,_,rfl,(T7.out.keep (S':=fun _=>True) (fun b (h1:W5.heap.size<=b) _=>⟨(po b (by omega)).trans (far7 b (by omega) (by omega)),trivial⟩)).toR,by rw[HH.out];exact zw bV7 _ _ (by omega)⟩
  ·have hT:TK=true:=by
    rw[<-hTK];unfold q0z;rw[List.any_eq_true]at hqt ⊢;obtain⟨x,hx1,hx2⟩:=hqt;exact⟨x,hq.subset hx1,hx2⟩
   refine⟨some .ret,w'.putObj (L1+1+1) (.loop { ({ r with state:=.done,pending:=some .ret }:Loop)with state:=.exhausted }),?_,?_⟩
   ·exact run_endLoop (P:=Tryz.prog) jq.l (by simp)
   ·obtain⟨W5,hW5⟩:∃ W5,w'.putObj (L1+1+1) (.loop { ({ r with state:=.done,pending:=some .ret }:Loop)with state:=.exhausted })=W5:=⟨_,rfl⟩
    have po:∀ b,b≠L1+1+1->W5.heap[b]?=w'.heap[b]?:=fun b hb=>by rw[<-hW5];exact World.putObj_heap_other hb
    have j5:RB h w k s (.slice a kids.length cap) fr tn 22 W5:=jq.j.keep (by rw[<-hW5];exact zw jq.j.b _ _ (by omega)) (by rw[<-hW5,World.putObj_size];exact q9 _) fun b hb=>po b (by omega)
    have d5:W5.heap[L1+1]?=some (.deferred (some [])):=(po _ (by omega)).trans jq.d;rw[hW5];clear hW5 po jq hqt hq hr hr1 hr2 hr3
    gi_wp2
    refine⟨by simp,.inl ⟨_,_,rfl,run_takeDeferred d5,?_⟩⟩;have po:∀ b,b≠L1+1->(W5.putObj (L1+1) (.deferred none)).heap[b]?=W5.heap[b]?:=fun b hb=>World.putObj_heap_other hb
    have r5:Row3 (W5.putObj (L1+1) (.deferred none)) (h+1+1+1) (.int .i64 0) (.string ⟨#[]⟩) (.slice none 0 0):=(po _ (by omega)).trans j5.r;obtain⟨⟨r0,r1,r2⟩,_⟩:=r5.cells;have re0:(W5.putObj (L1+1) (.deferred none)).cell? ⟨h+1+1+1+1,0,none⟩=some (.int .i64 22):=qm _ _ _ _ _ _ ((po _ (by omega)).trans j5.e);refine⟨.tuple #[.agg #[.int .i64 0,.string ⟨#[]⟩,.slice none 0 0],.int .i64 22],by simp[results,Tryz.results26,go_sem,r0,r1,r2,re0],?_⟩;exact⟨_,_,_,rfl,wm _,by rw[HH.out];exact zw j5.b _ _ (by omega)⟩
 |false =>
  gi_wp2
  obtain⟨V,hVw⟩:∃ V,w5=V:=⟨_,rfl⟩;have zV:kb < V.heap.size:=by rw[<-hVw];exact z5
  have jV:RB h w k s (.slice a kids.length cap) fr tn 0 V:=by rw[<-hVw];exact j5
  have kV:V.heap[kb]?=some (.cells #[.int .i64 kind] 3 (0,0)):=by rw[<-hVw,HKD.out];exact k5
  have nrV:Hid (NdR V (.mk k s kids) (.int .i64 k) (.string s) (.slice a kids.length cap)):=qh (by rw[<-hVw];exact nr5.out);rw[hVw];clear hVw ck cz k5 z5 j5 nr5;obtain⟨⟨n0,n1,n2⟩,_⟩:=jV.n.cells;obtain⟨L1,hL1⟩:∃ L1,V.heap.size=L1:=⟨_,rfl⟩;rw[hL1]at zV;refine xe (xe (zm ?_))
  gi_wp2_with fail
  refine⟨trivial,((callsIn_wide (n:=5)).2 (q3p k s a kids.length cap _)).mono ?_⟩;rintro e w2'⟨rfl,rfl⟩
  gi_wp2
  (try rw[hL1])
  clear n0 n1 n2;refine q0y (vh (gf:=120) (lb:=#[.pointer (some ⟨L1,0,none⟩)]) rfl eg ?_);intro r hr;have hr1:r.state = .ready:=by rw[hr]
  have hr2:r.pending=none:=by rw[hr]
  have hr3:r.params=#[31,32]:=by rw[hr]
  obtain⟨W4,hW4⟩:∃ W4,V.alloc (.cells #[.int .i64 k,.string s,.slice a kids.length cap] 25)=W4:=⟨_,rfl⟩;have z4:W4.heap.size=L1+1:=by rw[<-hW4,q6,hL1]
  have b4:Row3 W4 L1 (.int .i64 k) (.string s) (.slice a kids.length cap):=by rw[<-hW4];exact za hL1.symm
  have B4:Below L1 V W4:=by rw[<-hW4,<-hL1];exact(Below.refl _ _).alloc (q9 _) _
  rw[hW4];clear hW4;obtain⟨W1,hW1⟩:∃ W1,(W4.alloc (.deferred (some []))).alloc (.loop r)=W1:=⟨_,rfl⟩;have old:∀ b,b < L1+1->W1.heap[b]?=W4.heap[b]?:=fun b hb=>by rw[<-hW1];exact(Below.heap_alloc _ _ _ (by simp only[q6];omega)).trans (Below.heap_alloc _ _ _ (by omega))
  have zW1:W1.heap.size=L1+1+1+1:=by rw[<-hW1];simp[z4]
  have hd1:W1.heap[L1+1]?=some (.deferred (some [])):=by rw[<-hW1];exact(Below.heap_alloc _ _ _ (by simp only[q6];omega)).trans (za (by omega))
  have hl1:W1.heap[L1+1+1]?=some (.loop r):=by rw[<-hW1];exact za (by simp only[q6];omega)
  have hB1:Below L1 V W1:=by rw[<-hW1];exact(B4.alloc (by omega) _).alloc (by simp only[q6];omega) _
  have jq0:JQ h L1 kb w k s (.slice a kids.length cap) fr tn kind 0 r W1:=⟨jV.keep (jV.b.trans (hB1.mono (by omega))) (by omega) fun b hb=>hB1.block b (by omega),by omega,hd1,hl1,(hB1.block kb (by omega)).trans kV⟩
  have hsup:Sup w W1:=fun b c t z e=>by
   have hb:=zg e;rw[HH.out]at hb;exact(jq0.j.b.block b hb).trans e
  have hcall:CallsIn Fence.wide 5 Tryz.prog 120 #[.func (.yield (L1+1+1)) #[] #[],.pointer (some ⟨L1,0,none⟩)] W1
    (fun e w'=>(∃ v,e = .returned v)/\((((zq 0 [] false (.mk k s kids)).length<=4000/\(zq 0 [] false (.mk k s kids)).any (xf fr tn)=false)/\JQ h L1 kb w k s (.slice a kids.length cap) fr tn kind 0 r w')\/∃ q,q <+: zq 0 [] false (.mk k s kids)/\q.any (xf fr tn)=true/\JQ h L1 kb w k s (.slice a kids.length cap) fr tn kind 22 { r with state:=.done,pending:=some .ret } w')):=by
   refine(callsIn_wide (n:=5)).2 ?_
   refine q2u (fun _ b=>b=h+1+1+1\/b=h+1+1+1+1) (L1+1+1) L1 w W1 (fun pre W=>(pre.length<=4000/\pre.any (xf fr tn)=false)/\JQ h L1 kb w k s (.slice a kids.length cap) fr tn kind 0 r W) (fun q W=>q.any (xf fr tn)=true/\JQ h L1 kb w k s (.slice a kids.length cap) fr tn kind 22 { r with state:=.done,pending:=some .ret } W) k s kids a cap
    (fun pre W hj=>by have:=hj.1.1;omega) (fun pre A B hj hb _=>⟨hj.1,hj.2.keep (hj.2.j.b.trans (hb.mono (by omega))) hb.size hkb5 zV fun b hb'=>hb.block b (by omega)⟩) (fun _ _ _ b hb=>hb) (fun pre A hj b hb=>by have:=hj.2.j.z;omega) ?_ ht ((old L1 (by omega)).trans b4) hsup (by rw[HH.out];have:=jq0.j.z;omega) (fun b hb=>by rw[HH.out];omega) ⟨⟨by simp,by simp⟩,jq0⟩
   intro m pre it A vp vi u0 u1 u2 n₁ ps hn1 hj hall hpd hg;obtain⟨⟨hpl,hpt⟩,hjq⟩:=hj;obtain⟨hgd,hgp,hgi,hgt⟩:=hg;have hlen:(pre++[it]).length<=4000:=by have:=hall.length_le;rw[q1f]at this;omega
   obtain⟨ap,cp,rfl⟩:=zr hgp;obtain⟨ai,ci,hvi⟩:=zr hgi;subst hvi;rw[qx]at hgi;obtain⟨k1,s1,l1,a1,c1,ht1,rfl,rfl,rfl,_,_⟩:=hgt.form;have hil:it.ins.length<=90000:=by have:=q68 0 [] false _ it (hall.subset (by simp));simp only[qz]at this;omega
   obtain⟨FV,hF⟩:∃ FV,((k1==15||k1==16) && (!it.wd && !Lib.containsS it.ins s1))=FV:=⟨_,rfl⟩;obtain⟨CV,hC⟩:∃ CV,Lib.containsS it.ins tn=CV:=⟨_,rfl⟩
   have htk:(pre++[it]).any (xf fr tn)=((s1.toList==fr.toList && fr.toList != tn.toList) && (FV && CV)):=by
    rw[qcc,hpt,Bool.false_or,<-hF,<-hC];unfold xf It.fr;rw[ht1];rfl
   obtain⟨R,hR⟩:∃ R:Ending->World->Prop,(fun e W'=>(e = .returned (.bool true)/\(((pre++[it]).length<=4000/\(pre++[it]).any (xf fr tn)=false)/\JQ h L1 kb w k s (.slice a kids.length cap) fr tn kind 0 r W')/\Kc (fun _ b=>b=h+1+1+1\/b=h+1+1+1+1) A W')\/(e = .returned (.bool false)/\((pre++[it]).any (xf fr tn)=true/\JQ h L1 kb w k s (.slice a kids.length cap) fr tn kind 22 { r with state:=.done,pending:=some .ret } W')/\Kc (fun _ b=>b=h+1+1+1\/b=h+1+1+1+1) A W'))=R:=⟨_,rfl⟩
   show YieldAt Fence.wide m Tryz.prog (L1+1+1) _ A (fun e W'=>(e = .returned (.bool true)/\(((pre++[it]).length<=4000/\(pre++[it]).any (xf fr tn)=false)/\JQ h L1 kb w k s (.slice a kids.length cap) fr tn kind 0 r W')/\Kc (fun _ b=>b=h+1+1+1\/b=h+1+1+1+1) A W')\/(e = .returned (.bool false)/\((pre++[it]).any (xf fr tn)=true/\JQ h L1 kb w k s (.slice a kids.length cap) fr tn kind 22 { r with state:=.done,pending:=some .ret } W')/\Kc (fun _ b=>b=h+1+1+1\/b=h+1+1+1+1) A W'))
   rw[hR];rw[htk]at hR;have HR:=qh hR;clear hR htk hpt hpl hall hpd;refine⟨_,_,_,_,run_yield (P:=Tryz.prog) hjq.l (by rw[hr3];rfl),?_⟩;have hr4:r.fn=26:=by rw[hr]
   rw[hr4];refine vj trivial Tryz.func26 ?_;have hrs:=hr1;have HJ:=qh hjq;have HRR:=qh hr;have HGI:=qh hgi;simp only[hr];clear hgp hgi hgt hjq hr hr1 hr2 hr3 hr4
   gi_wp2
   refine⟨_,run_beginRound (r:=r) ((Below.heap_alloc _ _ _ (by have:=zg HJ.out.l;simp only[q6];omega)).trans ((Below.heap_alloc _ _ _ (zg HJ.out.l)).trans HJ.out.l)) hrs,?_⟩;obtain⟨N,hN⟩:∃ N,A.heap.size=N:=⟨_,rfl⟩;obtain⟨W2,hW2⟩:∃ W2,((A.alloc (.cells #[.slice ap ps.length cp,.slice ai it.ins.length ci,.bool it.wd] 85)).alloc (.cells #[.int .i64 k1,.string s1,.slice a1 l1.length c1] 25)).putObj (L1+1+1) (.loop { r with state:=.busy })=W2:=⟨_,rfl⟩;have hTN:L1+1+1 < N:=by have:=HJ.out.z;omega
   have ko:∀ b,b < N->b≠L1+1+1->W2.heap[b]?=A.heap[b]?:=fun b hb1 hb2=>by
    rw[<-hW2];exact(World.putObj_heap_other hb2).trans ((Below.heap_alloc _ _ _ (by simp only[q6];omega)).trans (Below.heap_alloc _ _ _ (by omega)))
   have mz:W2.heap.size=N+1+1:=by rw[<-hW2,World.putObj_size,q6,q6,hN]
   have m5:W2.heap[L1+1+1]?=some (.loop { r with state:=.busy }):=by rw[<-hW2];exact World.putObj_heap_same (by simp only[q6];omega)
   have mt:RowP W2 N (.slice ap ps.length cp) (.slice ai it.ins.length ci) (.bool it.wd):=by
    rw[<-hW2,<-hN];exact(World.putObj_heap_other (by omega)).trans ((Below.heap_alloc _ _ _ (by simp only[q6];omega)).trans (qk _ _))
   have mx:Row3 W2 (N+1) (.int .i64 k1) (.string s1) (.slice a1 l1.length c1):=by
    rw[<-hW2,<-hN];exact(World.putObj_heap_other (by omega)).trans (za (by simp))
   have mb:Below h w W2:=by rw[<-hW2];exact zw ((HJ.out.j.b.alloc (by omega) _).alloc (by simp only[q6];omega) _) _ _ (by omega)
   have mj:RB h w k s (.slice a kids.length cap) fr tn 0 W2:=HJ.out.j.keep mb (by omega) fun b hb=>ko b (by omega) (by omega)
   have mi:ze n₁ W2 (.slice ai it.ins.length ci) it.ins:=qy HGI.out fun g e=>by have:=World.ownsRow.lt HGI.out g e;exact ko g (by omega) (by omega)
   rw[hW2,hN];obtain⟨⟨p0,p1,p2⟩,_⟩:=mt.cells;obtain⟨⟨x0,x1,x2⟩,_⟩:=mx.cells;have cf:W2.cell? ⟨h+1,0,none⟩=some (.string fr):=qm _ _ _ _ _ _ mj.f;have ct:W2.cell? ⟨h+1+1,0,none⟩=some (.string tn):=qm _ _ _ _ _ _ mj.t;have CFR:=qh (q30 n₁ ap ai ps.length cp it.ins.length ci it.wd k1 s1 a1 l1.length c1 it.ins W2 mi hil);rw[hF]at CFR;have HMT:=qh mt;have HMI:=qh mi;have HMJ:=qh mj;have HMZ:=qh mz;have HCV:=qh hC;have HIL:=qh hil;have e0:({ ({ r with state:=.busy }:Loop)with state:=.ready,pending:=none }:Loop)=r:=by rw[HRR.out]
   have E0:=qh e0
   have KEEP:Hid (∀ (er:Int) (W':World) (rl:Loop),W2.heap.size<=W'.heap.size->Below h w W'->(∀ b,b < W2.heap.size->b≠h+1+1+1->b≠h+1+1+1+1->W'.heap[b]?=W2.heap[b]?)->Row3 W' (h+1+1+1) (.int .i64 0) (.string ⟨#[]⟩) (.slice none 0 0)->W'.heap[h+1+1+1+1]?=some (.cells #[.int .i64 er] 26 (0,0)) ->
     JQ h L1 kb w k s (.slice a kids.length cap) fr tn kind er rl (W'.putObj (L1+1+1) (.loop rl))/\Kc (fun _ b=>b=h+1+1+1\/b=h+1+1+1+1) A (W'.putObj (L1+1+1) (.loop rl))):=qh (fun er W' rl hz hbw ho hr3 he4=>by
    have po:∀ b,b≠L1+1+1->(W'.putObj (L1+1+1) (.loop rl)).heap[b]?=W'.heap[b]?:=fun b hb=>World.putObj_heap_other hb
    have kk:∀ b,b < N->b≠L1+1+1->b≠h+1+1+1->b≠h+1+1+1+1->(W'.putObj (L1+1+1) (.loop rl)).heap[b]?=A.heap[b]?:=fun b h1 h2 h3 h4=>(po b h2).trans ((ho b (by omega) h3 h4).trans (ko b h1 h2))
    refine⟨⟨⟨zw hbw _ _ (by omega),by rw[World.putObj_size];omega,(kk _ (by omega) (by omega) (by omega) (by omega)).trans HJ.out.j.n,(kk _ (by omega) (by omega) (by omega) (by omega)).trans HJ.out.j.f,(kk _ (by omega) (by omega) (by omega) (by omega)).trans HJ.out.j.t,(po _ (by omega)).trans hr3,(po _ (by omega)).trans he4⟩,by rw[World.putObj_size];omega,(kk _ (by omega) (by omega) (by omega) (by omega)).trans HJ.out.d,World.putObj_heap_same (by omega),(kk _ (by omega) (by omega) (by omega) (by omega)).trans HJ.out.k⟩,by rw[World.putObj_size];omega,fun b c t z hb e=>?_,fun b hb=>.inl hb⟩;have hlt:b < N:=by rw[<-hN];exact zg e
    have hne:b≠L1+1+1:=by rintro rfl;rw[HJ.out.l]at e;cases e
    exact(kk b hlt hne (fun e=>hb (.inl e)) (fun e=>hb (.inr e))).trans e)
   have FIN:Hid (∀ W',Below W2.heap.size W2 W'->((s1.toList==fr.toList && fr.toList != tn.toList) && (FV && CV))=false->R (.returned (.bool true)) (W'.putObj (L1+1+1) (.loop r))):=qh (fun W' hb he=>by
    rw[<-HR.out];have kq:=KEEP.out 0 W' r hb.size (mb.trans (hb.mono (by omega))) (fun b h1 _ _=>hb.block b h1) ((hb.block _ (by omega)).trans mj.r) ((hb.block _ (by omega)).trans mj.e)
    exact .inl ⟨rfl,⟨⟨hlen,he⟩,kq.1⟩,kq.2⟩)
   have FINL:Hid (∀ W',Below W2.heap.size W2 W'->W'.heap[L1+1+1]?=some (.loop { r with state:=.busy })):=qh (fun W' hb=>(hb.block _ (by omega)).trans m5);have HM5:=qh m5;obtain⟨wd,hwd⟩:∃ wd,it.wd=wd:=⟨_,rfl⟩;obtain⟨NI,hni⟩:∃ NI,it.ins.length=NI:=⟨_,rfl⟩;obtain⟨NP,hnp⟩:∃ NP,ps.length=NP:=⟨_,rfl⟩;rw[hwd,hni,hnp]at CFR HMT;rw[hwd]at p2;rw[hni]at p1 HMI;rw[hnp]at p0;clear ko mz m5 mt mx mj mb mi hW2 hN hwd hnp e0 hF hC hil hlen
   by_cases h1:s1.toList=fr.toList
   ·have e1:(s1.toList==fr.toList)=true:=by rw[beq_iff_eq];exact h1
    rw[e1,Bool.true_and]at FIN;have HE1:=qh h1;clear h1
    by_cases h2:fr.toList=tn.toList
    ·have e2:(fr.toList != tn.toList)=false:=by rw[h2];simp
     have hFT:=FIN.out _ (Below.refl _ _) (by rw[e2];rfl);have HE2:=qh h2;clear h2
     gi_wp2
     refine⟨trivial,?_⟩
     gi_wp2
     refine⟨trivial,?_⟩
     gi_wp2
     refine⟨_,_,run_endRound none (FINL.out _ (Below.refl _ _)),?_⟩;simp only[Option.isNone_none,if_true];rw[E0.out];exact hFT
    ·have e2:(fr.toList != tn.toList)=true:=by rw[bne_iff_ne];exact h2
     have e3:(fr.toList==tn.toList)=false:=by rw[qc];exact h2
     rw[e2,Bool.true_and]at FIN
     gi_wp2_with fail
     refine⟨trivial,fun e=>(by cases e),(CallsIn.inRound _ ((callsIn_wide (n:=m - 1)).2 CFR.out)).mono ?_⟩;rintro e w5⟨rfl,hb5⟩;have HB5:=qh hb5;have z5:=hb5.size;have hmz:=HMZ.out;have mj5:RB h w k s (.slice a kids.length cap) fr tn 0 w5:=HMJ.out.below hb5 (by omega);have mt5:RowP w5 N (.slice ap NP cp) (.slice ai NI ci) (.bool wd):=(hb5.block _ (by omega)).trans HMT.out;have mi5:ze n₁ w5 (.slice ai NI ci) it.ins:=qy HMI.out fun g e=>hb5.block g (World.ownsRow.lt HMI.out g e).2
     have CB:=qh (q2r w5 ai NI ci it.ins tn mi5 (by have:=HIL.out;omega));rw[HCV.out]at CB;have HMJ5:=qh mj5;obtain⟨⟨y0,y1,y2⟩,_⟩:=mt5.cells;have ct5:w5.cell? ⟨h+1+1,0,none⟩=some (.string tn):=qm _ _ _ _ _ _ mj5.t;clear hb5 CFR p0 p1 p2 x0 x1 x2 cf ct mj5 mt5 mi5
     cases FV with
     |false =>
      have hFT:=FIN.out _ HB5.out rfl
      gi_wp2
      refine⟨trivial,?_⟩
      gi_wp2
      refine⟨_,_,run_endRound none (FINL.out _ HB5.out),?_⟩;simp only[Option.isNone_none,if_true];rw[E0.out];exact hFT
     |true =>
      gi_wp2_with fail
      refine⟨trivial,fun e=>(by cases e),(CallsIn.inRound _ ((callsIn_wide (n:=m - 1)).2 CB.out)).mono ?_⟩;rintro e w6⟨rfl,rfl⟩
      cases CV with
      |false =>
       have hFT:=FIN.out _ HB5.out rfl
       gi_wp2
       refine⟨_,_,run_endRound none (FINL.out _ HB5.out),?_⟩;simp only[Option.isNone_none,if_true];rw[E0.out];exact hFT
      |true =>
       obtain⟨⟨r0,r1,r2⟩,rf0,rf1,rf2⟩:=HMJ5.out.r.cells;have er0:=qm _ _ 0 _ _ _ HMJ5.out.e;have ef0:=frozen_of_row _ _ 0 _ _ HMJ5.out.e;clear CB y0 y1 y2 ct5
       gi_wp2
       obtain⟨V6,hV6⟩:∃ V6,(((w6.setCell ⟨h+1+1+1,0,none⟩ (.int .i64 0)).setCell ⟨h+1+1+1,1,none⟩ (.string ⟨#[]⟩)).setCell ⟨h+1+1+1,2,none⟩ (.slice none 0 0)).setCell ⟨h+1+1+1+1,0,none⟩ (.int .i64 22)=V6:=⟨_,rfl⟩
       have far6:∀ b,b≠h+1+1+1->b≠h+1+1+1+1->V6.heap[b]?=w6.heap[b]?:=fun b h1 h2=>by
        rw[<-hV6];exact(Below.heap_setCell _ _ _ _ (by simp only;exact h2)).trans ((Below.heap_setCell _ _ _ _ (by simp only;exact h1)).trans ((Below.heap_setCell _ _ _ _ (by simp only;exact h1)).trans (Below.heap_setCell _ _ _ _ (by simp only;exact h1))))
       have zV6:V6.heap.size=w6.heap.size:=by rw[<-hV6];simp only[qs]
       have rV6:Row3 V6 (h+1+1+1) (.int .i64 0) (.string ⟨#[]⟩) (.slice none 0 0):=by
        rw[<-hV6];exact(HMJ5.out.r.put _ _ _).other (p:=⟨h+1+1+1+1,0,none⟩) _ (by simp)
       have eV6:V6.heap[h+1+1+1+1]?=some (.cells #[.int .i64 22] 26 (0,0)):=by
        rw[<-hV6];exact heap_setCell_same _ _ 0 _ _ _ ((Below.heap_setCell _ _ _ _ (by simp)).trans ((Below.heap_setCell _ _ _ _ (by simp)).trans ((Below.heap_setCell _ _ _ _ (by simp)).trans HMJ5.out.e)))
       have bV6:Below h w V6:=by
        rw[<-hV6];exact(((HMJ5.out.b.setCell (p:=⟨h+1+1+1,0,none⟩) (by simp only;omega) _).setCell (p:=⟨h+1+1+1,1,none⟩) (by simp only;omega) _).setCell (p:=⟨h+1+1+1,2,none⟩) (by simp only;omega) _).setCell (p:=⟨h+1+1+1+1,0,none⟩) (by simp only;omega) _
       rw[hV6];clear hV6;refine⟨_,_,run_endRound (some .ret) ((far6 _ (by omega) (by omega)).trans (FINL.out _ HB5.out)),?_⟩;simp only[Option.isNone_some,Bool.false_eq_true,if_false];rw[<-HR.out];have kq:=KEEP.out 22 V6 { r with state:=.done,pending:=some .ret } (by rw[zV6];exact z5) bV6 (fun b h1 h2 h3=>(far6 b h2 h3).trans (HB5.out.block b h1)) rV6 eV6;exact .inr ⟨rfl,⟨by rw[HE1.out,e2];simp,kq.1⟩,kq.2⟩
   ·have e1:(s1.toList==fr.toList)=false:=by rw[qc];exact h1
    have e2:(s1=fr)=False:=eq_false (by rintro rfl;exact h1 rfl);have hFT:=FIN.out _ (Below.refl _ _) (by rw[e1];rfl);clear h1 CFR HMT p0 p1 p2
    gi_wp2
    refine⟨trivial,?_⟩
    gi_wp2
    refine⟨trivial,?_⟩
    gi_wp2
    refine⟨_,_,run_endRound none (FINL.out _ (Below.refl _ _)),?_⟩;simp only[Option.isNone_none,if_true];rw[E0.out];exact hFT
  rw[z4,hW1];refine hcall.mono ?_;clear hcall hsup old b4 B4 hd1 hl1 hB1 jq0 jV kV;rintro e w'⟨⟨v0,rfl⟩,⟨⟨hp4,hpt⟩,jq⟩|⟨q,hq,hqt,jq⟩⟩
  ·have hT:TK=false:=by rw[<-hTK];exact hpt
   refine⟨none,w'.putObj (L1+1+1) (.loop { r with state:=.exhausted }),?_,?_⟩
   ·refine(run_endLoop (P:=Tryz.prog) jq.l (by rw[hr1];simp)).trans ?_
    rw[hr2]
   ·obtain⟨W5,hW5⟩:∃ W5,w'.putObj (L1+1+1) (.loop { r with state:=.exhausted })=W5:=⟨_,rfl⟩
    have po:∀ b,b≠L1+1+1->W5.heap[b]?=w'.heap[b]?:=fun b hb=>by rw[<-hW5];exact World.putObj_heap_other hb
    have j5:RB h w k s (.slice a kids.length cap) fr tn 0 W5:=jq.j.keep (by rw[<-hW5];exact zw jq.j.b _ _ (by omega)) (by rw[<-hW5,World.putObj_size];exact q9 _) fun b hb=>po b (by omega)
    have d5:W5.heap[L1+1]?=some (.deferred (some [])):=(po _ (by omega)).trans jq.d;have k5:W5.heap[kb]?=some (.cells #[.int .i64 kind] 3 (0,0)):=(po _ (by omega)).trans jq.k;have z5:L1+1+1 < W5.heap.size:=by rw[<-hW5,World.putObj_size];exact jq.z
    rw[hW5];dsimp only[Exit.inBlock,Exit.then];have nr5:NdR W5 (.mk k s kids) (.int .i64 k) (.string s) (.slice a kids.length cap):=ht.later (by rw[HH.out];exact j5.b);have hsz5:=q8s fr tn kind [] false (.mk k s kids);have hsm5:=q8t fr tn h64 kind [] false _ hsm
    have RBD:=qh (q37 64 #[.pointer (some ⟨h+1,0,none⟩),.pointer (some ⟨kb,0,none⟩),.pointer (some ⟨h+1+1,0,none⟩)] W5 (qkt (h+1) kb (h+1+1) fr tn kind) (fun _ _ _ _=>True) (q7g fr tn kind) (fun _ _=>rfl)
     (fun A B hC hb=>⟨(hb.block _ (by omega)).trans hC.1,(hb.block _ (by omega)).trans hC.2.1,(hb.block _ (by omega)).trans hC.2.2⟩)
     (fun n₁ H A vp vi v0 v1 v2 ps ins wd t _ _ h3 h4 h5 h6 h7 _ h9 _=>qb2 (h+1) kb (h+1+1) fr tn kind hts n₁ H A vp vi v0 v1 v2 ps ins wd t h3 h4 h5 h6 h7 h9) _ _ (q6c hk56 _ (.mk k s kids) (q9 _) [] [] false) _ _ _ ⟨j5.f,k5,j5.t⟩ nr5 (by omega) hsm5)
    obtain⟨⟨n0,n1,n2⟩,_⟩:=j5.n.cells;have J5:=qh j5;have D5:=qh d5;clear hsz5 hsm5 nr5 k5 hpt hp4 po hW5;refine zm (n:=6) ?_;refine wpIn_wide.2 ?_
    go_wp2_with fail
    refine RBD.out.mono ?_;rintro e w6⟨u0,u1,u2,rfl,t6,b6⟩;have j6:=J5.out.below b6 (by have:=J5.out.z;omega);have d6:w6.heap[L1+1]?=some (.deferred (some [])):=(b6.block _ (by omega)).trans D5.out;have CK:=qh (q6v _ _ _ _ _ w6 t6 er tr HCK.out HAS.out);obtain⟨_,_,_,a6,c6,e6,rfl,rfl,rfl,_,_⟩:=t6.form;have z6:L1+1+1 < w6.heap.size:=by have:=b6.size;omega
    clear RBD n0 n1 n2 b6 J5 D5 j5 d5
    go_wp2_with fail
    refine CK.out.mono ?_;rintro e w7⟨y0,y1,y2,rfl,t7,b7⟩;have j7:=j6.below b7 (by have:=j6.z;omega);have d7:w7.heap[L1+1]?=some (.deferred (some [])):=(b7.block _ (by omega)).trans d6;have T7:=qh t7;obtain⟨k7,s7,l7,a7,c7,e7,rfl,rfl,rfl,_,_⟩:=t7.form;obtain⟨⟨r0,r1,r2⟩,rf0,rf1,rf2⟩:=j7.r.cells;have er0:=qm _ _ 0 _ _ _ j7.e;have ef0:=frozen_of_row _ _ 0 _ _ j7.e;have J7:=qh j7;have D7:=qh d7;have B67:=qh b7;have hzz:h+1+1+1+1 < W5.heap.size:=by omega
    clear CK t6 t7 b7 j6 d6 j7 d7;go_wp2;obtain⟨V7,hV7⟩:∃ V7,(((w7.setCell ⟨h+1+1+1,0,none⟩ (.int .i64 k7)).setCell ⟨h+1+1+1,1,none⟩ (.string s7)).setCell ⟨h+1+1+1,2,none⟩ (.slice a7 l7.length c7)).setCell ⟨h+1+1+1+1,0,none⟩ (.int .i64 er)=V7:=⟨_,rfl⟩
    have far7:∀ b,b≠h+1+1+1->b≠h+1+1+1+1->V7.heap[b]?=w7.heap[b]?:=fun b h1 h2=>by
     rw[<-hV7];exact(Below.heap_setCell _ _ _ _ (by simp only;exact h2)).trans ((Below.heap_setCell _ _ _ _ (by simp only;exact h1)).trans ((Below.heap_setCell _ _ _ _ (by simp only;exact h1)).trans (Below.heap_setCell _ _ _ _ (by simp only;exact h1))))
    have rV7:Row3 V7 (h+1+1+1) (.int .i64 k7) (.string s7) (.slice a7 l7.length c7):=by
     rw[<-hV7];exact(J7.out.r.put _ _ _).other (p:=⟨h+1+1+1+1,0,none⟩) _ (by simp)
    have eV7:V7.heap[h+1+1+1+1]?=some (.cells #[.int .i64 er] 26 (0,0)):=by
     rw[<-hV7];exact heap_setCell_same _ _ 0 _ _ _ ((Below.heap_setCell _ _ _ _ (by simp)).trans ((Below.heap_setCell _ _ _ _ (by simp)).trans ((Below.heap_setCell _ _ _ _ (by simp)).trans J7.out.e)))
    have bV7:Below h w V7:=by
     rw[<-hV7];exact(((J7.out.b.setCell (p:=⟨h+1+1+1,0,none⟩) (by simp only;omega) _).setCell (p:=⟨h+1+1+1,1,none⟩) (by simp only;omega) _).setCell (p:=⟨h+1+1+1,2,none⟩) (by simp only;omega) _).setCell (p:=⟨h+1+1+1+1,0,none⟩) (by simp only;omega) _
    rw[hV7];clear hV7;have dV7:V7.heap[L1+1]?=some (.deferred (some [])):=(far7 _ (by omega) (by omega)).trans D7.out;refine⟨by simp,.inl ⟨_,_,rfl,run_takeDeferred dV7,?_⟩⟩;have po:∀ b,b≠L1+1->(V7.putObj (L1+1) (.deferred none)).heap[b]?=V7.heap[b]?:=fun b hb=>World.putObj_heap_other hb
    have r8:Row3 (V7.putObj (L1+1) (.deferred none)) (h+1+1+1) (.int .i64 k7) (.string s7) (.slice a7 l7.length c7):=(po _ (by omega)).trans rV7;obtain⟨⟨g0,g1,g2⟩,_⟩:=r8.cells;have ge0:(V7.putObj (L1+1) (.deferred none)).cell? ⟨h+1+1+1+1,0,none⟩=some (.int .i64 er):=qm _ _ _ _ _ _ ((po _ (by omega)).trans eV7);refine⟨.tuple #[.agg #[.int .i64 k7,.string s7,.slice a7 l7.length c7],.int .i64 er],by simp[results,Tryz.results26,go_sem,g0,g1,g2,ge0],?_⟩;exact .inr ⟨hT,_,_,_,rfl,(T7.out.keep (S':=fun _=>True) (fun b (h1:W5.heap.size<=b) _=>⟨(po b (by omega)).trans (far7 b (by omega) (by omega)),trivial⟩)).toR,by rw[HH.out];exact zw bV7 _ _ (by omega)⟩
  ·have hT:TK=true:=by
    rw[<-hTK];unfold q0z;rw[List.any_eq_true]at hqt ⊢;obtain⟨x,hx1,hx2⟩:=hqt;exact⟨x,hq.subset hx1,hx2⟩
   refine⟨some .ret,w'.putObj (L1+1+1) (.loop { ({ r with state:=.done,pending:=some .ret }:Loop)with state:=.exhausted }),?_,?_⟩
   ·exact run_endLoop (P:=Tryz.prog) jq.l (by simp)
   ·obtain⟨W5,hW5⟩:∃ W5,w'.putObj (L1+1+1) (.loop { ({ r with state:=.done,pending:=some .ret }:Loop)with state:=.exhausted })=W5:=⟨_,rfl⟩
    have po:∀ b,b≠L1+1+1->W5.heap[b]?=w'.heap[b]?:=fun b hb=>by rw[<-hW5];exact World.putObj_heap_other hb
    have j5:RB h w k s (.slice a kids.length cap) fr tn 22 W5:=jq.j.keep (by rw[<-hW5];exact zw jq.j.b _ _ (by omega)) (by rw[<-hW5,World.putObj_size];exact q9 _) fun b hb=>po b (by omega)
    have d5:W5.heap[L1+1]?=some (.deferred (some [])):=(po _ (by omega)).trans jq.d;rw[hW5];clear hW5 po jq hqt hq hr hr1 hr2 hr3
    gi_wp2
    refine⟨by simp,.inl ⟨_,_,rfl,run_takeDeferred d5,?_⟩⟩;have po:∀ b,b≠L1+1->(W5.putObj (L1+1) (.deferred none)).heap[b]?=W5.heap[b]?:=fun b hb=>World.putObj_heap_other hb
    have r5:Row3 (W5.putObj (L1+1) (.deferred none)) (h+1+1+1) (.int .i64 0) (.string ⟨#[]⟩) (.slice none 0 0):=(po _ (by omega)).trans j5.r;obtain⟨⟨r0,r1,r2⟩,_⟩:=r5.cells;have re0:(W5.putObj (L1+1) (.deferred none)).cell? ⟨h+1+1+1+1,0,none⟩=some (.int .i64 22):=qm _ _ _ _ _ _ ((po _ (by omega)).trans j5.e);refine⟨.tuple #[.agg #[.int .i64 0,.string ⟨#[]⟩,.slice none 0 0],.int .i64 22],by simp[results,Tryz.results26,go_sem,r0,r1,r2,re0],?_⟩;exact⟨_,_,_,rfl,wm _,by rw[HH.out];exact zw j5.b _ _ (by omega)⟩
attribute [local go_sem] Oper.semAt_some
theorem q75{h:Nat}{w w1:World}{a:Act}{er x:Int}(hq:Row3 w1 (h+1+1+1) (.int .i64 0) (.string ⟨#[]⟩) (.slice none 0 0))(he:w1.heap[h+1+1+1+1]?=some (.cells #[.int .i64 x] 26 (0,0)))(hb:Below h w w1)(hh:w.heap.size=h)(hd:a.defers=[])
  (h6:(a.tmps[6]?).getD undef = .pointer (some ⟨h+1+1+1,0,none⟩)) (h7:(a.tmps[7]?).getD undef = .pointer (some ⟨h+1+1+1+1,0,none⟩)) :
  bodyPost Tryz.prog Tryz.f26 (PR er jt w) .ret a ((((w1.setCell ⟨h+1+1+1,0,none⟩ (.int .i64 0)).setCell ⟨h+1+1+1,1,none⟩ (.string ⟨#[]⟩)).setCell ⟨h+1+1+1,2,none⟩ (.slice none 0 0)).setCell ⟨h+1+1+1+1,0,none⟩ (.int .i64 er)):=by
 obtain⟨V7,hV7⟩:∃ V7,(((w1.setCell ⟨h+1+1+1,0,none⟩ (.int .i64 0)).setCell ⟨h+1+1+1,1,none⟩ (.string ⟨#[]⟩)).setCell ⟨h+1+1+1,2,none⟩ (.slice none 0 0)).setCell ⟨h+1+1+1+1,0,none⟩ (.int .i64 er)=V7:=⟨_,rfl⟩
 have rV7:Row3 V7 (h+1+1+1) (.int .i64 0) (.string ⟨#[]⟩) (.slice none 0 0):=by
  rw[<-hV7];exact(hq.put _ _ _).other (p:=⟨h+1+1+1+1,0,none⟩) _ (by simp)
 have eV7:V7.heap[h+1+1+1+1]?=some (.cells #[.int .i64 er] 26 (0,0)):=by
  rw[<-hV7];exact heap_setCell_same _ _ 0 _ _ _ ((Below.heap_setCell _ _ _ _ (by simp)).trans ((Below.heap_setCell _ _ _ _ (by simp)).trans ((Below.heap_setCell _ _ _ _ (by simp)).trans he)))
 have bV7:Below h w V7:=by
  rw[<-hV7];exact(((hb.setCell (p:=⟨h+1+1+1,0,none⟩) (by simp only;omega) _).setCell (p:=⟨h+1+1+1,1,none⟩) (by simp only;omega) _).setCell (p:=⟨h+1+1+1,2,none⟩) (by simp only;omega) _).setCell (p:=⟨h+1+1+1+1,0,none⟩) (by simp only;omega) _
 rw[hV7];obtain⟨⟨g0,g1,g2⟩,_⟩:=rV7.cells;have ge0:=qm _ _ 0 _ _ _ eV7;have hr:Tryz.f26.results=#[ResultVar.cell 6 25,ResultVar.cell 7 26]:=rfl;exact bodyPost_ret (v:=.tuple #[.agg #[.int .i64 0,.string ⟨#[]⟩,.slice none 0 0],.int .i64 er]) (by simp[results,go_sem,h6,h7,g0,g1,g2,ge0]) hd ⟨_,_,_,rfl,wm _,by rw[hh];exact bV7⟩
theorem qeu(t:Nd)(fr tn:ByteArray)(w:World)(v0 v1 v2:Value)(ht:NdR w t v0 v1 v2)(er:Int)(hv:zx t=er)(h0:er≠0) :
  Calls Tryz.prog 26 #[.agg #[v0,v1,v2],.string fr,.string tn] w (PR er jt w):=by
 obtain⟨k,s,kids,a,cap,rfl,rfl,rfl,rfl,hs,hl⟩:=ht.form;obtain⟨W0,hW0⟩:∃ W0,((((w.alloc (.cells #[.int .i64 k,.string s,.slice a kids.length cap] 25)).alloc (.cells #[.string fr] 9)).alloc (.cells #[.string tn] 9)).alloc (.cells #[.int .i64 0,.string ⟨#[]⟩,.slice none 0 0] 25)).alloc (.cells #[.int .i64 0] 26)=W0:=⟨_,rfl⟩;obtain⟨h,hh⟩:∃ h,w.heap.size=h:=⟨_,rfl⟩;have b0:Below h w W0:=by rw[<-hW0,<-hh];exact(((((Below.refl _ w).alloc (q9 _) _).alloc (by simp) _).alloc (by simp only[q6];omega) _).alloc (by simp only[q6];omega) _).alloc (by simp only[q6];omega) _
 have z0:W0.heap.size=h+1+1+1+1+1:=by rw[<-hW0];simp[hh]
 have r0:Row3 W0 h (.int .i64 k) (.string s) (.slice a kids.length cap):=by
  rw[<-hW0,<-hh];exact(Below.heap_alloc _ _ _ (by simp only[q6];omega)).trans ((Below.heap_alloc _ _ _ (by simp only[q6];omega)).trans ((Below.heap_alloc _ _ _ (by simp only[q6];omega)).trans ((Below.heap_alloc _ _ _ (by simp only[q6];omega)).trans (qk _ _))))
 have q0:Row3 W0 (h+1+1+1) (.int .i64 0) (.string ⟨#[]⟩) (.slice none 0 0):=by
  rw[<-hW0,<-hh];exact(Below.heap_alloc _ _ _ (by simp only[q6];omega)).trans (za (by simp))
 have e0:W0.heap[h+1+1+1+1]?=some (.cells #[.int .i64 0] 26 (0,0)):=by rw[<-hW0,<-hh];exact za (by simp)
 have CC:=qh (vk _ W0 _ _ _ (ht.later (by rw[hh];exact b0)));rw[hv]at CC;have hne:((er:Int) != 0)=true:=by rw[bne_iff_ne];exact h0
 obtain⟨⟨n0,n1,n2⟩,_⟩:=r0.cells;have B0:=qh b0;have Q0:=qh q0;have E0:=qh e0;have HH:=qh hh;clear ht hv b0 r0 q0 e0;go_enter Tryz.func26,Tryz.ntmps26
 go_upto_region 1 with fail
 (try rw[hW0])
 (try rw[hh])
 clear hW0 hh
 go_wp2_with fail
 refine CC.out.mono ?_;rintro e w1⟨rfl,hb1⟩;have B1:=qh (B0.out.trans (hb1.mono (by omega)));have q1:Row3 w1 (h+1+1+1) (.int .i64 0) (.string ⟨#[]⟩) (.slice none 0 0):=(hb1.block _ (by omega)).trans Q0.out;have e1:w1.heap[h+1+1+1+1]?=some (.cells #[.int .i64 0] 26 (0,0)):=(hb1.block _ (by omega)).trans E0.out;obtain⟨⟨r0,r1,r2⟩,rf0,rf1,rf2⟩:=q1.cells;have er0:=qm _ _ 0 _ _ _ e1;have ef0:=frozen_of_row _ _ 0 _ _ e1;have Q1:=qh q1;have E1:=qh e1;clear hb1 CC n0 n1 n2 q1 e1 Q0 E0 B0;go_wp2;exact q75 Q1.out E1.out B1.out HH.out rfl rfl rfl
theorem qev(t:Nd)(fr tn:ByteArray)(w:World)(v0 v1 v2:Value)(ht:NdR w t v0 v1 v2)(hfs:fr.size<=maxLen)(hts:tn.size<=maxLen)(hv:zx t=0)(X Y:Bool)(hX:(zf fr||xy fr)=X)(hY:(zf tn||xy tn)=Y)(hN:(X && Y)=false) :
  Calls Tryz.prog 26 #[.agg #[v0,v1,v2],.string fr,.string tn] w (PR 1 jt w):=by
 obtain⟨k,s,kids,a,cap,rfl,rfl,rfl,rfl,hs,hl⟩:=ht.form;obtain⟨W0,hW0⟩:∃ W0,((((w.alloc (.cells #[.int .i64 k,.string s,.slice a kids.length cap] 25)).alloc (.cells #[.string fr] 9)).alloc (.cells #[.string tn] 9)).alloc (.cells #[.int .i64 0,.string ⟨#[]⟩,.slice none 0 0] 25)).alloc (.cells #[.int .i64 0] 26)=W0:=⟨_,rfl⟩;obtain⟨h,hh⟩:∃ h,w.heap.size=h:=⟨_,rfl⟩;have b0:Below h w W0:=by rw[<-hW0,<-hh];exact(((((Below.refl _ w).alloc (q9 _) _).alloc (by simp) _).alloc (by simp only[q6];omega) _).alloc (by simp only[q6];omega) _).alloc (by simp only[q6];omega) _
 have z0:W0.heap.size=h+1+1+1+1+1:=by rw[<-hW0];simp[hh]
 have r0:Row3 W0 h (.int .i64 k) (.string s) (.slice a kids.length cap):=by
  rw[<-hW0,<-hh];exact(Below.heap_alloc _ _ _ (by simp only[q6];omega)).trans ((Below.heap_alloc _ _ _ (by simp only[q6];omega)).trans ((Below.heap_alloc _ _ _ (by simp only[q6];omega)).trans ((Below.heap_alloc _ _ _ (by simp only[q6];omega)).trans (qk _ _))))
 have f0:W0.heap[h+1]?=some (.cells #[.string fr] 9 (0,0)):=by
  rw[<-hW0,<-hh];exact(Below.heap_alloc _ _ _ (by simp only[q6];omega)).trans ((Below.heap_alloc _ _ _ (by simp only[q6];omega)).trans ((Below.heap_alloc _ _ _ (by simp only[q6];omega)).trans (za (by simp))))
 have t0:W0.heap[h+1+1]?=some (.cells #[.string tn] 9 (0,0)):=by
  rw[<-hW0,<-hh];exact(Below.heap_alloc _ _ _ (by simp only[q6];omega)).trans ((Below.heap_alloc _ _ _ (by simp only[q6];omega)).trans (za (by simp)))
 have q0:Row3 W0 (h+1+1+1) (.int .i64 0) (.string ⟨#[]⟩) (.slice none 0 0):=by
  rw[<-hW0,<-hh];exact(Below.heap_alloc _ _ _ (by simp only[q6];omega)).trans (za (by simp))
 have e0:W0.heap[h+1+1+1+1]?=some (.cells #[.int .i64 0] 26 (0,0)):=by rw[<-hW0,<-hh];exact za (by simp)
 have CC:=qh (vk _ W0 _ _ _ (ht.later (by rw[hh];exact b0)));rw[hv]at CC;have CF:=qh (q1y fr hfs);have CT:=qh (q1y tn hts);unfold q34 at CF CT;simp only[hX]at CF;simp only[hY]at CT;have j0:=qh (⟨b0,by omega,r0,f0,t0,q0,e0⟩:RB h w k s (.slice a kids.length cap) fr tn 0 W0);obtain⟨⟨n0,n1,n2⟩,_⟩:=r0.cells;have HH:=qh hh;clear ht hv b0 r0 f0 t0 q0 e0 hX hY;go_enter Tryz.func26,Tryz.ntmps26
 go_upto_region 1 with fail
 (try rw[hW0])
 (try rw[hh])
 clear hW0 hh
 go_wp2_with fail
 refine CC.out.mono ?_;rintro e w1⟨rfl,hb1⟩;have j1:=qh (j0.out.below hb1 j0.out.z);have cf:w1.cell? ⟨h+1,0,none⟩=some (.string fr):=qm _ _ _ _ _ _ j1.out.f;clear hb1 CC n0 n1 n2 j0
 go_wp2_with fail
 refine(CF.out _).mono ?_;rintro e w2⟨rfl,hb2⟩;have j2:=qh (j1.out.below hb2 j1.out.z);have ct:w2.cell? ⟨h+1+1,0,none⟩=some (.string tn):=qm _ _ _ _ _ _ j2.out.t;clear hb2 CF cf j1
 cases X with
 |false =>
  obtain⟨⟨r0,r1,r2⟩,rf0,rf1,rf2⟩:=j2.out.r.cells;have er0:=qm _ _ 0 _ _ _ j2.out.e;have ef0:=frozen_of_row _ _ 0 _ _ j2.out.e;go_wp2;exact q75 j2.out.r j2.out.e j2.out.b HH.out rfl rfl rfl
 |true =>
  have hYf:Y=false:=by simpa using hN
  subst hYf
  go_wp2_with fail
  refine(CT.out _).mono ?_;rintro e w3⟨rfl,hb3⟩;have j3:=qh (j2.out.below hb3 j2.out.z);obtain⟨⟨r0,r1,r2⟩,rf0,rf1,rf2⟩:=j3.out.r.cells;have er0:=qm _ _ 0 _ _ _ j3.out.e;have ef0:=frozen_of_row _ _ 0 _ _ j3.out.e;clear hb3 CT ct j2;go_wp2;exact q75 j3.out.r j3.out.e j3.out.b HH.out rfl rfl rfl
def vu(tn:ByteArray):Int:=if xy tn=true then 16 else 15
def q1e(fr tn:ByteArray)(t:Nd):Int :=
 if zx t≠0 then zx t else if((zf fr||xy fr) && (zf tn||xy tn))=false then 1 else if q0z fr tn t=true then 22 else zx (kf fr tn (vu tn) [] false t)
def qb0(fr tn:ByteArray)(t:Nd):Nd:=if q1e fr tn t=0 then kf fr tn (vu tn) [] false t else jt
theorem qj1{s:ByteArray}(h:(zf s||xy s)=true):s.size<=64:=by
 rcases(Bool.or_eq_true _ _).mp h with h|h
 ·exact yu h
 ·exact q3q h
theorem qew(t:Nd)(fr tn:ByteArray)(w:World)(v0 v1 v2:Value)(ht:NdR w t v0 v1 v2)(hfs:fr.size<=maxLen)(hts:tn.size<=maxLen) :
  Calls Tryz.prog 26 #[.agg #[v0,v1,v2],.string fr,.string tn] w (PR (q1e fr tn t) (qb0 fr tn t) w):=by
 unfold qb0
 by_cases h0:zx t=0
 ·by_cases h1:((zf fr||xy fr) && (zf tn||xy tn))=false
  ·have e:q1e fr tn t=1:=by unfold q1e;rw[qd (by simp[h0]),qj h1]
   rw[e,qd (by decide)];exact qev t fr tn w v0 v1 v2 ht hfs hts h0 _ _ rfl rfl h1
  ·have h1':(zf fr||xy fr)=true/\(zf tn||xy tn)=true:=by
    rw[Bool.not_eq_false,ql]at h1;exact h1
   have hf:=q0f h0
   have main:=qcm t fr tn w v0 v1 v2 ht hfs hts h0 hf.1 (q3j h0) h1'.1 h1'.2 (q0z fr tn t) rfl (vu tn) rfl (qj1 h1'.2) (zx (kf fr tn (vu tn) [] false t)) (if zx (kf fr tn (vu tn) [] false t)=0 then kf fr tn (vu tn) [] false t else jt) rfl (by
    by_cases h:zx (kf fr tn (vu tn) [] false t)=0
    ·exact .inr ⟨h,by rw[qj h]⟩
    ·exact .inl ⟨h,by rw[qd h]⟩)
   refine main.mono ?_;rintro e w' (⟨hT,h⟩|⟨hT,h⟩)
   ·have e:q1e fr tn t=22:=by unfold q1e;rw[qd (by simp[h0]),qd h1,qj hT]
    rw[e,qd (by decide)];exact h
   ·have e:q1e fr tn t=zx (kf fr tn (vu tn) [] false t):=by unfold q1e;rw[qd (by simp[h0]),qd h1,qd (by rw[hT];decide)]
    rw[e];exact h
 ·have e:q1e fr tn t=zx t:=by unfold q1e;rw[qj h0]
  rw[e,qd h0];exact qeu t fr tn w v0 v1 v2 ht _ rfl h0
attribute [local go_sem] Oper.semAt_some
def q5u:Nd->Nd
 | .mk k s (a :: b :: l)=>if k=27 then .mk 25 ⟨#[]⟩ [b,a] else if k=28 then .mk 26 ⟨#[]⟩ [b,a] else .mk k s (a :: b :: l)
 |t=>t
def PPl:Nd->Prop
 | .mk k _ l=>k=27\/k=28->∃ a b l',l=a :: b :: l'
theorem q8h{k:Int}(s:ByteArray)(l:List Nd)(h1:k≠27)(h2:k≠28):q5u (.mk k s l) = .mk k s l:=by
 match l with
 |[]=>rfl
 |[_]=>rfl
 |a :: b :: l=>simp only[q5u,qd h1,qd h2]
abbrev Sp2(X b o n c:Nat)(x0 x1 x2 y0 y1 y2:Value)(w:World):Prop:=w.cell? ⟨X,2,none⟩=some (.slice (some ⟨b,o,none⟩) n c)/\w.cell? ⟨b,o,none⟩=some x0/\w.cell? ⟨b,o+1,none⟩=some x1/\w.cell? ⟨b,o+2,none⟩=some x2/\w.cell? ⟨b,o+3,none⟩=some y0/\w.cell? ⟨b,o+3+1,none⟩=some y1/\w.cell? ⟨b,o+3+2,none⟩=some y2
theorem qal{X b o n c:Nat}{x0 x1 x2 y0 y1 y2:Value}{w w':World}(S:Sp2 X b o n c x0 x1 x2 y0 y1 y2 w)(hX:w'.heap[X]?=w.heap[X]?)(hb:w'.heap[b]?=w.heap[b]?):Sp2 X b o n c x0 x1 x2 y0 y1 y2 w':=by
 obtain⟨c0,c1,c2,c3,c4,c5,c6⟩:=S;exact⟨(World.cell?_of_block (w:=w) hX).trans c0,(World.cell?_of_block (w:=w) hb).trans c1,(World.cell?_of_block (w:=w) hb).trans c2,(World.cell?_of_block (w:=w) hb).trans c3,(World.cell?_of_block (w:=w) hb).trans c4,(World.cell?_of_block (w:=w) hb).trans c5,(World.cell?_of_block (w:=w) hb).trans c6⟩
theorem qf7(n₁ H:Nat)(A:World)(vp vi v0 v1 v2:Value)(ps:List Value)(ins:List ByteArray)(wd:Bool)(t:Nd)(_hH:H<=A.heap.size)(hp:xa n₁ A vp ps)(hi:ze n₁ A vi ins)(hpn:∀ g,vp.ownBlock=some g->g < A.heap.size)(hin:∀ g,vi.ownBlock=some g->g < A.heap.size)(ht:NdO (fun b=>b < H) vp vi A t v0 v1 v2)(hP:PPl t) :
  Calls Tryz.prog 69 (#[.agg #[vp,vi,.bool wd],.agg #[v0,v1,v2]]++#[]) A fun e W'=>∃ u0 u1 u2,e = .returned (.agg #[u0,u1,u2])/\NdO (fun b=>b < H\/A.heap.size<=b) vp vi W' (q5u t) u0 u1 u2/\Below A.heap.size A W':=by
 obtain⟨k,s,l,a,c,rfl,rfl,rfl,rfl,_,_⟩:=ht.form;obtain⟨ap,cp,rfl⟩:=zr hp;obtain⟨ai,ci,hvi⟩:=zr hi
 (try rw[qx]at hvi)
 (try rw[qx]at hvi)
 subst hvi;obtain⟨h,hh⟩:∃ h,A.heap.size=h:=⟨_,rfl⟩;obtain⟨W3,hW3⟩:∃ W3,((A.alloc (.cells #[.slice ap ps.length cp,.slice ai ins.length ci,.bool wd] 85)).alloc (.cells #[.int .i64 k,.string s,.slice a l.length c] 25)).alloc (.cells #[.int .i64 0,.string ⟨#[]⟩,.slice none 0 0] 25)=W3:=⟨_,rfl⟩;have z3:W3.heap.size=h+1+1+1:=by rw[<-hW3];simp[hh]
 have B3:Below h A W3:=by rw[<-hW3,<-hh];exact(((Below.refl _ A).alloc (q9 _) _).alloc (by simp) _).alloc (by simp only[q6];omega) _
 have N3:Row3 W3 (h+1) (.int .i64 k) (.string s) (.slice a l.length c):=by
  rw[<-hW3,<-hh];exact(Below.heap_alloc _ _ _ (by simp only[q6];omega)).trans (za (by simp))
 have R3:Row3 W3 (h+1+1) (.int .i64 0) (.string ⟨#[]⟩) (.slice none 0 0):=by rw[<-hW3,<-hh];exact za (by simp)
 obtain⟨⟨n0,n1,n2⟩,_⟩:=N3.cells;obtain⟨⟨r0,r1,r2⟩,q0,q1,q2⟩:=R3.cells;have HB3:=qh B3;have HN3:=qh N3;have HR3:=qh R3;have HT:=qh ht;have HZ3:=qh z3;have HH:=qh hh;have HP:=qh hP;have HPN:=qh hpn;have HIN:=qh hin;clear hp hi ht hP hpn hin B3 N3 R3 z3;rw[hh]
 show Calls Tryz.prog 69 #[.agg #[.slice ap ps.length cp,.slice ai ins.length ci,.bool wd],.agg #[.int .i64 k,.string s,.slice a l.length c]] A _
 go_enter Tryz.func69,Tryz.ntmps69
 go_upto_region 1 with fail
 (try rw[hW3])
 (try rw[hh])
 clear hW3
 by_cases h27:k=27
 ·subst h27
  obtain⟨ta,tb,tl,rfl⟩:=HP.out (Or.inl rfl);obtain⟨n,hn⟩:∃ n,(ta :: tb :: tl).length=n:=⟨_,rfl⟩;have hn1:(1:Int) < (n:Int):=by rw[<-hn];simp;omega
  have hn0:(0:Int) < (n:Int):=by omega
  have hn00:0 < n:=by omega
  obtain⟨b,o,k0,s0,l0,a0,c0,rfl,e0,g0,g1,g2,t0⟩:=NdS.kid HT.out 0 (by simp);obtain⟨b',o',k1,s1,l1,a1,c1,ha',e1,f0,f1,f2,t1⟩:=NdS.kid HT.out 1 (by simp)
  cases ha';simp only[zk,zi]at e0 e1;subst e0 e1;simp only[Nat.zero_mul,Nat.add_zero,Nat.one_mul]at g0 g1 g2 f0 f1 f2;rw[hn]at n2 ⊢;have hbl:b < h:=by rw[<-HH.out];exact qi g0
  have SD:Sp2 (h+1) b o n c (.int .i64 k0) (.string s0) (.slice a0 l0.length c0) (.int .i64 k1) (.string s1) (.slice a1 l1.length c1) W3.drew :=
   ⟨n2,(HB3.out.cell (p:=⟨b,o,none⟩) hbl).trans g0,(HB3.out.cell (p:=⟨b,o+1,none⟩) hbl).trans g1,(HB3.out.cell (p:=⟨b,o+2,none⟩) hbl).trans g2,(HB3.out.cell (p:=⟨b,o+3,none⟩) hbl).trans f0,(HB3.out.cell (p:=⟨b,o+3+1,none⟩) hbl).trans f1,(HB3.out.cell (p:=⟨b,o+3+2,none⟩) hbl).trans f2⟩
  have HT0:=qh t0;have HT1:=qh t1;have CP:=qh (fun w=>q48 25 k1 k0 s1 s0 a1 a0 l1.length l0.length c1 c0 w);have zz:=HZ3.out;clear g0 g1 g2 f0 f1 f2 t0 t1
  go_upto_region 3 with fail
  go_region_held3 (fun w'=>w'.cell? ⟨h+1,2,none⟩=some (.slice (some ⟨b,o,none⟩) n c)/\w'.cell? ⟨b,o,none⟩=some (.int .i64 k0)/\w'.cell? ⟨b,o+1,none⟩=some (.string s0)/\w'.cell? ⟨b,o+2,none⟩=some (.slice a0 l0.length c0)/\w'.cell? ⟨b,o+3,none⟩=some (.int .i64 k1)/\w'.cell? ⟨b,o+3+1,none⟩=some (.string s1)/\w'.cell? ⟨b,o+3+2,none⟩=some (.slice a1 l1.length c1))
   (first|with_reducible exact SD|with_reducible exact S7|exact qal S7 (far7 (h+1) (by omega) _ _ _) (far7 b (by omega) _ _ _))
   (first
    |(go_at_call 70;refine(CP.out _).mono ?_;rintro e w7 ⟨g,rfl,hg,tw,b7⟩;have S7:=qal SD (b7.block (h+1) (show h+1 < W3.heap.size by omega)) (b7.block b (show b < W3.heap.size by omega));have HB7:=qh (HB3.out.trans ((((Below.refl W3.heap.size W3).drew).trans b7).mono (show h<=W3.heap.size by omega)));have R7:Row3 w7 (h+1+1) (.int .i64 0) (.string ⟨#[]⟩) (.slice none 0 0):=(b7.block _ (show h+1+1 < W3.heap.size by omega)).trans HR3.out;have HR7:=qh R7;obtain⟨⟨x0,x1,x2⟩,y0,y1,y2⟩:=R7.cells;have far7:=(fun b' (hb':b'≠h+1+1) u0 u1 u2=>(show(((w7.setCell ⟨h+1+1,0,none⟩ u0).setCell ⟨h+1+1,1,none⟩ u1).setCell ⟨h+1+1,2,none⟩ u2).heap[b']?=w7.heap[b']? from(Below.heap_setCell _ _ _ _ (by simp only;exact hb')).trans ((Below.heap_setCell _ _ _ _ (by simp only;exact hb')).trans (Below.heap_setCell _ _ _ _ (by simp only;exact hb')))));have HTW:=qh tw;have hg7:h+1+1+1<=g:=qo (show h+1+1+1<=W3.heap.size by omega) hg;clear tw b7 R7)
    |fail)
  all_goals (try go_wp2)
  refine zh (HR7.out.put _ _ _) rfl rfl rfl ?_;refine⟨_,_,_,rfl,?_,?_⟩
  ·have hh7:=HH.out
   obtain⟨ty,htw⟩:=HTW.out;have kp:∀ (t:Nd) (u0 u1 u2:Value),NdS (fun b=>((Value.slice ap ps.length cp).ownBlock≠some b/\(Value.slice ai ins.length ci).ownBlock≠some b)/\b < H) A t u0 u1 u2->∀ z0 z1 z2,NdS (fun b=>((Value.slice ap ps.length cp).ownBlock≠some b/\(Value.slice ai ins.length ci).ownBlock≠some b)/\(b < H\/h<=b)) (((w7.setCell ⟨h+1+1,0,none⟩ z0).setCell ⟨h+1+1,1,none⟩ z1).setCell ⟨h+1+1,2,none⟩ z2) t u0 u1 u2:=fun t u0 u1 u2 hn z0 z1 z2=>hn.keep fun b h1 h2=>⟨(zu HB7.out (show h<=h+1+1 by omega) _ _ _).block b (by omega),h1.1,Or.inl h1.2⟩
   exact NdS.two ⟨ty,(far7 g (by omega) _ _ _).trans htw⟩ ⟨⟨fun e=>by have:=HPN.out g e;omega,fun e=>by have:=HIN.out g e;omega⟩,Or.inr (by omega)⟩ (kp _ _ _ _ HT1.out _ _ _) (kp _ _ _ _ HT0.out _ _ _) 25 2 (q9 _)
  ·exact zu HB7.out (by omega) _ _ _
 ·by_cases h28:k=28
  ·subst h28
   obtain⟨ta,tb,tl,rfl⟩:=HP.out (Or.inr rfl);obtain⟨n,hn⟩:∃ n,(ta :: tb :: tl).length=n:=⟨_,rfl⟩;have hn1:(1:Int) < (n:Int):=by rw[<-hn];simp;omega
   have hn0:(0:Int) < (n:Int):=by omega
   have hn00:0 < n:=by omega
   obtain⟨b,o,k0,s0,l0,a0,c0,rfl,e0,g0,g1,g2,t0⟩:=NdS.kid HT.out 0 (by simp);obtain⟨b',o',k1,s1,l1,a1,c1,ha',e1,f0,f1,f2,t1⟩:=NdS.kid HT.out 1 (by simp)
   cases ha';simp only[zk,zi]at e0 e1;subst e0 e1;simp only[Nat.zero_mul,Nat.add_zero,Nat.one_mul]at g0 g1 g2 f0 f1 f2;rw[hn]at n2 ⊢;have hbl:b < h:=by rw[<-HH.out];exact qi g0
   have SD:Sp2 (h+1) b o n c (.int .i64 k0) (.string s0) (.slice a0 l0.length c0) (.int .i64 k1) (.string s1) (.slice a1 l1.length c1) W3.drew :=
    ⟨n2,(HB3.out.cell (p:=⟨b,o,none⟩) hbl).trans g0,(HB3.out.cell (p:=⟨b,o+1,none⟩) hbl).trans g1,(HB3.out.cell (p:=⟨b,o+2,none⟩) hbl).trans g2,(HB3.out.cell (p:=⟨b,o+3,none⟩) hbl).trans f0,(HB3.out.cell (p:=⟨b,o+3+1,none⟩) hbl).trans f1,(HB3.out.cell (p:=⟨b,o+3+2,none⟩) hbl).trans f2⟩
   have HT0:=qh t0;have HT1:=qh t1;have CP:=qh (fun w=>q48 26 k1 k0 s1 s0 a1 a0 l1.length l0.length c1 c0 w);have zz:=HZ3.out;clear g0 g1 g2 f0 f1 f2 t0 t1
   go_upto_region 5 with fail
   go_region_held3 (fun w'=>w'.cell? ⟨h+1,2,none⟩=some (.slice (some ⟨b,o,none⟩) n c)/\w'.cell? ⟨b,o,none⟩=some (.int .i64 k0)/\w'.cell? ⟨b,o+1,none⟩=some (.string s0)/\w'.cell? ⟨b,o+2,none⟩=some (.slice a0 l0.length c0)/\w'.cell? ⟨b,o+3,none⟩=some (.int .i64 k1)/\w'.cell? ⟨b,o+3+1,none⟩=some (.string s1)/\w'.cell? ⟨b,o+3+2,none⟩=some (.slice a1 l1.length c1))
    (first|with_reducible exact SD|with_reducible exact S7|exact qal S7 (far7 (h+1) (by omega) _ _ _) (far7 b (by omega) _ _ _))
    (first
     |(go_at_call 70;refine(CP.out _).mono ?_;rintro e w7 ⟨g,rfl,hg,tw,b7⟩;have S7:=qal SD (b7.block (h+1) (show h+1 < W3.heap.size by omega)) (b7.block b (show b < W3.heap.size by omega));have HB7:=qh (HB3.out.trans ((((Below.refl W3.heap.size W3).drew).trans b7).mono (show h<=W3.heap.size by omega)));have R7:Row3 w7 (h+1+1) (.int .i64 0) (.string ⟨#[]⟩) (.slice none 0 0):=(b7.block _ (show h+1+1 < W3.heap.size by omega)).trans HR3.out;have HR7:=qh R7;obtain⟨⟨x0,x1,x2⟩,y0,y1,y2⟩:=R7.cells;have far7:=(fun b' (hb':b'≠h+1+1) u0 u1 u2=>(show(((w7.setCell ⟨h+1+1,0,none⟩ u0).setCell ⟨h+1+1,1,none⟩ u1).setCell ⟨h+1+1,2,none⟩ u2).heap[b']?=w7.heap[b']? from(Below.heap_setCell _ _ _ _ (by simp only;exact hb')).trans ((Below.heap_setCell _ _ _ _ (by simp only;exact hb')).trans (Below.heap_setCell _ _ _ _ (by simp only;exact hb')))));have HTW:=qh tw;have hg7:h+1+1+1<=g:=qo (show h+1+1+1<=W3.heap.size by omega) hg;clear tw b7 R7)
     |fail)
   all_goals (try go_wp2)
   refine zh (HR7.out.put _ _ _) rfl rfl rfl ?_;refine⟨_,_,_,rfl,?_,?_⟩
   ·have hh7:=HH.out
    obtain⟨ty,htw⟩:=HTW.out;have kp:∀ (t:Nd) (u0 u1 u2:Value),NdS (fun b=>((Value.slice ap ps.length cp).ownBlock≠some b/\(Value.slice ai ins.length ci).ownBlock≠some b)/\b < H) A t u0 u1 u2->∀ z0 z1 z2,NdS (fun b=>((Value.slice ap ps.length cp).ownBlock≠some b/\(Value.slice ai ins.length ci).ownBlock≠some b)/\(b < H\/h<=b)) (((w7.setCell ⟨h+1+1,0,none⟩ z0).setCell ⟨h+1+1,1,none⟩ z1).setCell ⟨h+1+1,2,none⟩ z2) t u0 u1 u2:=fun t u0 u1 u2 hn z0 z1 z2=>hn.keep fun b h1 h2=>⟨(zu HB7.out (show h<=h+1+1 by omega) _ _ _).block b (by omega),h1.1,Or.inl h1.2⟩
    exact NdS.two ⟨ty,(far7 g (by omega) _ _ _).trans htw⟩ ⟨⟨fun e=>by have:=HPN.out g e;omega,fun e=>by have:=HIN.out g e;omega⟩,Or.inr (by omega)⟩ (kp _ _ _ _ HT1.out _ _ _) (kp _ _ _ _ HT0.out _ _ _) 26 2 (q9 _)
   ·exact zu HB7.out (by omega) _ _ _
  ·have e1:(k==27)=false:=by simp[h27]
   have e2:(k==28)=false:=by simp[h28]
   go_wp2;refine zh (HR3.out.put _ _ _) rfl rfl rfl ?_;rw[q8h s l h27 h28];refine⟨_,_,_,rfl,HT.out.keep fun b h1 h2=>⟨(zu HB3.out (show h<=h+1+1 by omega) _ _ _).block b (by have:=HH.out;omega),h1.1,Or.inl h1.2⟩,?_⟩;exact zu HB3.out (by omega) _ _ _
end Go.Proofs.YtkckddojlignpaaGreatDoor
namespace Go.Proofs.YtkckddojlignpaaGreatDoor
def q00(k:Int)(s:ByteArray):List Nd->Nd
 |a :: b :: l=>if k=27 then .mk 25 ⟨#[]⟩ [b,a] else if k=28 then .mk 26 ⟨#[]⟩ [b,a] else .mk k s (a :: b :: l)
 |l=>.mk k s l
mutual
def xx:Nd->Nd
 | .mk k s l=>q00 k s (jd l)
def jd:List Nd->List Nd
 |[]=>[]
 |a :: l=>xx a :: jd l
end
mutual
def ws:Nd->Prop
 | .mk k _ l=>(k=27\/k=28->∃ a b l',l=a :: b :: l')/\q13 l
def q13:List Nd->Prop
 |[]=>True
 |a :: l=>ws a/\q13 l
end
theorem q0j:∀ l:List Nd,(jd l).length=l.length
 |[]=>by simp only[jd]
 |a :: l=>by simp only[jd,qr,q0j l]
theorem q47:∀ (l:List Nd) (i:Nat) (h:i < l.length),(jd l)[i]'(by rw[q0j];exact h)=xx l[i]
 |a :: l,0,_=>by simp only[jd,zk]
 |a :: l,i+1,h=>by
  simp only[jd,zi];exact q47 l i (by simpa using h)
theorem q5i:∀ (l:List Nd) (i:Nat) (h:i < l.length),q13 l->ws l[i]
 |a :: l,0,_,hl=>by simp only[q13]at hl;exact hl.1
 |a :: l,i+1,h,hl=>by
  simp only[q13]at hl;exact q5i l i (by simpa using h) hl.2
theorem qjz(t:Nd)(ht:ws t):∃ k s l,q5u t = .mk k s l/\xx t = .mk k s (jd l)/\(∀ i (h:i < l.length),ws l[i]/\l[i].sz < t.sz)/\PPl t:=by
 obtain⟨k,s,l⟩:=t;simp only[ws]at ht;have hk:∀ i (h:i < l.length),ws l[i]/\l[i].sz < (Nd.mk k s l).sz:=fun i h=>⟨q5i l i h ht.2,by have:=y5 l i h;simp only[Nd.sz];omega⟩
 by_cases h:k=27\/k=28
 ·obtain⟨a,b,l',rfl⟩:=ht.1 h
  have ha:=hk 0 (by simp);have hb:=hk 1 (by simp);simp only[zk,zi]at ha hb
  have hk2:∀ i (h:i < [b,a].length),ws [b,a][i]/\[b,a][i].sz < (Nd.mk k s (a :: b :: l')).sz:=fun i h=>by
   match i,h with
   |0,_=>exact hb
   |1,_=>exact ha
  by_cases h27:k=27
  ·exact⟨25,⟨#[]⟩,[b,a],by simp only[q5u,qj h27],by simp only[xx,jd,q00,qj h27],hk2,fun _=>⟨a,b,l',rfl⟩⟩
  ·have h28:k=28:=by omega
   exact⟨26,⟨#[]⟩,[b,a],by simp only[q5u,qd h27,qj h28],by simp only[xx,jd,q00,qd h27,qj h28],hk2,fun _=>⟨a,b,l',rfl⟩⟩
 ·have h27:k≠27:=fun e=>h (Or.inl e)
  have h28:k≠28:=fun e=>h (Or.inr e)
  refine⟨k,s,l,q8h s l h27 h28,?_,hk,fun e=>absurd e h⟩;simp only[xx];generalize jd l=l'
  match l' with
  |[]=>rfl
  |[_]=>rfl
  |a :: b :: l=>simp only[q00,qd h27,qd h28]
theorem qa8:∀ (n:Nat) (t:Nd),t.sz<=n->ws t->∀ ps ins wd,Bld (fun _ _ _ t=>PPl t) (fun _ _ _ t=>q5u t) ps ins wd t (xx t)
 |0,t,h,_=>by have:=q39 t;omega
 |n+1,t,h,ho=>fun ps ins wd=>by
  obtain⟨k,s,l,e1,e2,hk,hP⟩:=qjz t ho;rw[e2];refine .mk ps ins wd t k s l (jd l) hP e1 (q0j l) fun i hi=>?_
  rw[q47 l i hi];exact qa8 n l[i] (by have:=(hk i hi).2;omega) (hk i hi).1 _ _ _
theorem qh5{k:Int}{n:Nat}(hk:k=27\/k=28)(h:ji k n=true):2<=n:=by
 unfold ji at h;rcases hk with rfl|rfl <;> simp at h <;> omega
theorem qmm{l:List Nd}(h:2<=l.length):∃ a b l',l=a :: b :: l':=by
 match l,h with
 |a :: b :: l',_=>exact⟨a,b,l',rfl⟩
mutual
theorem q49:∀ t:Nd,t.okP=true->ws t
 | .mk k s l,h=>by
  simp only[Nd.okP,ql,qp]at h;simp only[ws];exact⟨fun hk=>qmm (qh5 hk h.1),q7a l h.2.2⟩
theorem q7a:∀ l:List Nd,Nd.okL l=true->q13 l
 |[],_=>by simp only[q13]
 |a :: l,h=>by
  simp only[Nd.okL,ql]at h;simp only[q13];exact⟨q49 a h.1,q7a l h.2⟩
end
theorem q9v{t:Nd}(h:itemB t=true):ws t:=by
 have ho:=q67 h;obtain⟨k,s,l⟩:=t;obtain⟨_,_,h3⟩:=ho;simp only[ws];refine⟨fun hk=>?_,q7a l h3⟩;rcases hk with rfl|rfl <;> simp[itemB]at h
theorem q9o:∀ l:List Nd,q13 l↔∀ x∈l,ws x
 |[]=>by simp[q13]
 |a :: l=>by simp[q13,q9o l]
theorem q7m{t:Nd}(h:zx t=0):ws t:=by
 unfold zx at h
 split at h
 ·cases h
 ·split at h
  ·cases h
  ·split at h
   ·rename_i hv
    simp only[Bool.or_eq_true]at hv;rcases hv with h|h|h|h|h
    ·exact q49 t (q2e _ _ (q9 _) h)
    ·exact q49 t (q61 _ _ (q9 _) h)
    ·exact q49 t (q6a _ _ (q9 _) h)
    ·exact q9v h
    ·obtain⟨k,s,l⟩:=t
     simp only[kj,ql,qp]at h;obtain⟨rfl,hs,hl⟩:=h;simp only[ws];refine⟨fun hk=>by omega,(q9o l).2 fun x hx=>?_⟩;obtain⟨i,hi,rfl⟩:=List.getElem_of_mem hx;exact q9v ((wu l).1 hl i hi)
   ·cases h
theorem ql7{k:Int}{s:ByteArray}{l:List Nd}(hs:s.size<=64)(hl:smL l):smN (q00 k s l)/\(q00 k s l).sz<=1+Nd.szL l:=by
 have h1:smN (.mk k s l)/\(Nd.mk k s l).sz<=1+Nd.szL l:=⟨by simp only[smN];exact⟨hs,hl⟩,by simp only[Nd.sz];omega⟩
 match l,hl with
 |[],_=>exact h1
 |[_],_=>exact h1
 |a :: b :: l',hl =>
  simp only[smL]at hl;have h2:∀ k':Int,smN (.mk k' ⟨#[]⟩ [b,a])/\(Nd.mk k' ⟨#[]⟩ [b,a]).sz<=1+Nd.szL (a :: b :: l'):=fun k'=>⟨by simp only[smN,smL];exact⟨by decide,hl.2.1,hl.1,trivial⟩,by simp only[Nd.sz,Nd.szL];omega⟩
  simp only[q00]
  split
  ·exact h2 25
  ·split
   ·exact h2 26
   ·exact h1
mutual
theorem qbc:∀ t:Nd,smN t->smN (xx t)/\(xx t).sz<=t.sz
 | .mk k s l,h=>by
  simp only[smN]at h;have h1:=q9l l h.2;have h2:=ql7 (k:=k) h.1 h1.1;simp only[xx,Nd.sz];exact⟨h2.1,by omega⟩
theorem q9l:∀ l:List Nd,smL l->smL (jd l)/\Nd.szL (jd l)<=Nd.szL l
 |[],_=>by simp only[jd,smL];exact⟨trivial,q9 _⟩
 |a :: l,h=>by
  simp only[smL]at h;have h1:=qbc a h.1;have h2:=q9l l h.2;simp only[jd,smL,Nd.szL];exact⟨⟨h1.1,h2.1⟩,by omega⟩
end
def rrH(fr:ByteArray)(k:Int)(s:ByteArray):Bool:=(k==15||k==16) && s.toList==fr.toList
mutual
def rrN(fr tn:ByteArray)(kd:Int):Nd->Nd
 | .mk k s l=>if k=7 then .mk k s l else .mk (if rrH fr k s then kd else k) (if rrH fr k s then tn else s) (rrL fr tn kd (zo k && s.toList==fr.toList) l)
def rrL(fr tn:ByteArray)(kd:Int)(st:Bool):List Nd->List Nd
 |[]=>[]
 |a :: l=>(if st && l.isEmpty then a else rrN fr tn kd a) :: rrL fr tn kd st l
end
mutual
def rbN(fr tn:ByteArray)(un:Bool):Nd->Bool
 | .mk k s l=>if k=7 then false else(rrH fr k s && un)||rbL fr tn un (zo k && s.toList==fr.toList) (un||(zo k && s.toList==tn.toList)) l
def rbL(fr tn:ByteArray)(un st ul:Bool):List Nd->Bool
 |[]=>false
 |a :: l=>(if st && l.isEmpty then false else rbN fr tn (if l.isEmpty then ul else un) a)||rbL fr tn un st ul l
end
theorem q19(ins:List ByteArray)(s x:ByteArray):Lib.containsS (ins++[s]) x=(Lib.containsS ins x||s.toList==x.toList):=by
 rw[Bool.eq_iff_iff,Bool.or_eq_true,Lib.containsS_iff,Lib.containsS_iff,beq_iff_eq,List.mem_append,List.mem_singleton]
 constructor
 ·rintro(h|h)
  ·exact .inl h
  ·exact .inr (by rw[h])
 ·rintro(h|h)
  ·exact .inl h
  ·exact .inr (ki h).symm
theorem qlb{fr:ByteArray}{ins:List ByteArray}(h:Lib.containsS ins fr=true)(wd:Bool)(k:Int)(s:ByteArray):q0m fr ins wd k s=false:=by
 unfold q0m
 by_cases e:s.toList=fr.toList
 ·rw[ki e,h];simp
 ·rw[show(s.toList==fr.toList)=false from by rw[qc];exact e,Bool.false_and]
theorem qjg{fr tn:ByteArray}{x:It}(h:Lib.containsS x.ins fr=true):xf fr tn x=false:=by
 unfold xf It.fr
 by_cases e:x.t.s'.toList=fr.toList
 ·rw[ki e,h];simp
 ·rw[show(x.t.s'.toList==fr.toList)=false from by rw[qc];exact e,Bool.false_and,Bool.false_and]
mutual
theorem q9j(fr tn:ByteArray)(kd:Int)(d:Nat)(ins:List ByteArray)(h:Lib.containsS ins fr=true)(wd:Bool):∀ t:Nd,kf fr tn kd ins wd t=t/\(zq d ins wd t).any (xf fr tn)=false
 | .mk k s l=>by
  have hil:Lib.containsS (if zo k then ins++[s] else ins) fr=true:=by
   split
   ·rw[q19,h];rfl
   ·exact h
  obtain⟨e1,e2⟩:=q7w fr tn kd (d+1) ins (if zo k then ins++[s] else ins) h hil (k==7) l;simp only[kf,qlb h,e1,zq,List.any_cons,e2,Bool.or_false];exact⟨by simp,qjg h⟩
theorem q7w(fr tn:ByteArray)(kd:Int)(d:Nat)(ins il:List ByteArray)(h:Lib.containsS ins fr=true)(hil:Lib.containsS il fr=true)(wd:Bool):∀ l:List Nd,vf fr tn kd ins il wd l=l/\(xq d ins il wd l).any (xf fr tn)=false
 |[]=>by
  simp only[vf,xq,List.any_nil]
  all_goals (first|exact⟨rfl,rfl⟩|trivial|simp)
 |a :: l=>by
  obtain⟨e1,e2⟩:=q9j fr tn kd d (if l.isEmpty then il else ins) (by split <;> assumption) wd a;obtain⟨e3,e4⟩:=q7w fr tn kd d ins il h hil wd l;simp only[vf,xq,List.any_append,e1,e2,e3,e4]
  all_goals (first|exact⟨rfl,rfl⟩|trivial|simp)
end
theorem q5o(fr tn:ByteArray)(kd:Int)(ins il:List ByteArray)(d:Nat):∀ l:List Nd,(∀ x∈l,∃ k s,x = .mk k s [])->vf fr tn kd ins il true l=l/\(xq d ins il true l).any (xf fr tn)=false
 |[],_=>by
  simp only[vf,xq,List.any_nil]
  all_goals (first|exact⟨rfl,rfl⟩|trivial|simp)
 |a :: l,h=>by
  obtain⟨k,s,rfl⟩:=h a (by simp);obtain⟨e3,e4⟩:=q5o fr tn kd ins il d l fun x hx=>h x (by simp[hx])
  simp only[vf,xq,List.any_append,e3,e4,kf,zq,List.any_cons,List.any_nil];refine⟨by simp[q0m],?_⟩;unfold xf It.fr;simp
theorem qb1{fr:ByteArray}{ins:List ByteArray}(h:Lib.containsS ins fr=false)(k:Int)(s:ByteArray):q0m fr ins false k s=rrH fr k s:=by
 unfold q0m rrH
 by_cases e:s.toList=fr.toList
 ·rw[ki e,h];simp
 ·rw[show(s.toList==fr.toList)=false from by rw[qc];exact e];simp
theorem q99{fr tn:ByteArray}{ins:List ByteArray}(h:Lib.containsS ins fr=false)(d:Nat)(k:Int)(s:ByteArray)(l:List Nd):xf fr tn ⟨d,ins,false,.mk k s l⟩=(rrH fr k s && Lib.containsS ins tn):=by
 unfold xf It.fr rrH Nd.s' Nd.k';simp only
 by_cases e:s.toList=fr.toList
 ·by_cases e2:fr.toList=tn.toList
  ·rw[<-ki e2,h];simp
  ·rw[ki e,h,show(fr.toList != tn.toList)=true from by rw[bne_iff_ne];exact e2];simp
 ·rw[show(s.toList==fr.toList)=false from by rw[qc];exact e];simp
mutual
theorem qay(fr tn:ByteArray)(kd:Int)(d:Nat)(ins:List ByteArray)(h:Lib.containsS ins fr=false):∀ t:Nd,q1h t->rrN fr tn kd t=kf fr tn kd ins false t/\rbN fr tn (Lib.containsS ins tn) t=(zq d ins false t).any (xf fr tn)
 | .mk k s l,hm=>by
  simp only[q1h]at hm;simp only[rrN,rbN,kf,zq,List.any_cons]
  by_cases h7:k=7
  ·subst h7
   rw[qj rfl]at hm;obtain⟨e1,e2⟩:=q5o fr tn kd ins (if zo 7 then ins++[s] else ins) (d+1) l hm;rw[qj rfl,qj rfl,show((7:Int)==7)=true from rfl,e1,e2,qb1 h,q99 h];have e:rrH fr 7 s=false:=by unfold rrH;rfl
   rw[e];exact⟨by simp,by simp⟩
  ·rw[qd h7]at hm
   rw[qd h7,qd h7,show(k==7)=false from by rw[qc];exact h7,qb1 h,q99 h]
   have hst:(zo k && s.toList==fr.toList)=true->Lib.containsS (if zo k then ins++[s] else ins) fr=true:=fun e=>by
    obtain⟨e1,e2⟩:=(ql _ _).mp e;rw[qj e1,q19,e2,Bool.or_true]
   have hno:(zo k && s.toList==fr.toList)=false->Lib.containsS (if zo k then ins++[s] else ins) fr=false:=fun e=>by
    by_cases hb:zo k=true
    ·rw[qj hb,q19,h,Bool.false_or]
     rwa [hb,Bool.true_and]at e
    ·rw[qd hb];exact h
   have hul:(Lib.containsS ins tn||(zo k && s.toList==tn.toList))=Lib.containsS (if zo k then ins++[s] else ins) tn:=by
    by_cases hb:zo k=true
    ·rw[qj hb,q19,hb,Bool.true_and]
    ·rw[qd hb,show zo k=false from by simpa using hb,Bool.false_and,Bool.or_false]
   rw[hul];obtain⟨e1,e2⟩:=qdu fr tn kd (d+1) ins (if zo k then ins++[s] else ins) (zo k && s.toList==fr.toList) h hst hno l hm;rw[e1,e2]
   all_goals (first|exact⟨rfl,rfl⟩|trivial|simp)
theorem qdu(fr tn:ByteArray)(kd:Int)(d:Nat)(ins il:List ByteArray)(st:Bool)(h:Lib.containsS ins fr=false)(hst:st=true->Lib.containsS il fr=true)(hno:st=false->Lib.containsS il fr=false):∀ l:List Nd,mdL l->rrL fr tn kd st l=vf fr tn kd ins il false l/\rbL fr tn (Lib.containsS ins tn) st (Lib.containsS il tn) l=(xq d ins il false l).any (xf fr tn)
 |[],_=>by
  simp only[rrL,vf,rbL,xq,List.any_nil]
  all_goals (first|exact⟨rfl,rfl⟩|trivial|simp)
 |a :: l,hm=>by
  simp only[mdL]at hm;obtain⟨e3,e4⟩:=qdu fr tn kd d ins il st h hst hno l hm.2;simp only[rrL,vf,rbL,xq,List.any_append,e3,e4]
  cases hl:l.isEmpty with
  |false =>
   obtain⟨e1,e2⟩:=qay fr tn kd d ins h a hm.1;simp only[Bool.and_false,Bool.false_eq_true,if_false,e1,e2]
   all_goals (first|exact⟨rfl,rfl⟩|trivial|simp)
  |true =>
   cases hs:st with
   |true =>
    obtain⟨e1,e2⟩:=q9j fr tn kd d il (hst hs) false a;simp only[Bool.and_true,if_true,e1,e2]
    all_goals (first|exact⟨rfl,rfl⟩|trivial|simp)
   |false =>
    obtain⟨e1,e2⟩:=qay fr tn kd d il (hno hs) a hm.1;simp only[Bool.false_and,Bool.false_eq_true,if_false,if_true,e1,e2]
    all_goals (first|exact⟨rfl,rfl⟩|trivial|simp)
end
end Go.Proofs.YtkckddojlignpaaGreatDoor
namespace Go.Proofs.YtkckddojlignpaaGreatDoor
open Go.RowKit Go.Shelf
attribute [local go_sem] Oper.semAt_some
def Row4(W:World)(b:Nat)(v0 v1 v2 v3:Value):Prop:=W.heap[b]?=some (.cells #[v0,v1,v2,v3] 51 (0,0))
section
variable {W W':World} {b:Nat} {v0 v1 v2 v3:Value}
theorem Row4.lt(h:Row4 W b v0 v1 v2 v3):b < W.heap.size:=zg h
theorem Row4.below{n:Nat}(h:Row4 W b v0 v1 v2 v3)(hb:Below n W W')(hn:b < n):Row4 W' b v0 v1 v2 v3:=(hb.block b hn).trans h
theorem Row4.cells(h:Row4 W b v0 v1 v2 v3):(W.cell? ⟨b,0,none⟩=some v0/\W.cell? ⟨b,1,none⟩=some v1/\W.cell? ⟨b,2,none⟩=some v2/\W.cell? ⟨b,3,none⟩=some v3)/\W.frozen? ⟨b,0,none⟩=false/\W.frozen? ⟨b,1,none⟩=false/\W.frozen? ⟨b,2,none⟩=false/\W.frozen? ⟨b,3,none⟩=false :=
 ⟨⟨qm _ _ _ _ _ _ h,qm _ _ _ _ _ _ h,qm _ _ _ _ _ _ h,qm _ _ _ _ _ _ h⟩,frozen_of_row _ _ _ _ _ h,frozen_of_row _ _ _ _ _ h,frozen_of_row _ _ _ _ _ h,frozen_of_row _ _ _ _ _ h⟩
abbrev qjx(W:World)(b:Nat)(u0 u1 u2 u3:Value):World:=(((W.setCell ⟨b,0,none⟩ u0).setCell ⟨b,1,none⟩ u1).setCell ⟨b,2,none⟩ u2).setCell ⟨b,3,none⟩ u3
theorem Row4.put(h:Row4 W b v0 v1 v2 v3)(u0 u1 u2 u3:Value):Row4 (qjx W b u0 u1 u2 u3) b u0 u1 u2 u3:=by
 have h0:W.heap[b]?=some (.cells #[v0,v1,v2,v3] 51 (0,0)):=h;exact(zp (zp (zp (zp h0)))).trans rfl
theorem qnk{H:Nat}(u0 u1 u2 u3:Value)(hb:b≠H):(qjx W H u0 u1 u2 u3).heap[b]?=W.heap[b]? :=
 (Below.heap_setCell _ _ _ _ (by simp only;exact hb)).trans ((Below.heap_setCell _ _ _ _ (by simp only;exact hb)).trans ((Below.heap_setCell _ _ _ _ (by simp only;exact hb)).trans (Below.heap_setCell _ _ _ _ (by simp only;exact hb))))
theorem vm{h H:Nat}{w:World}(hb:Below h w W)(hH:h<=H)(u0 u1 u2 u3:Value):Below h w (qjx W H u0 u1 u2 u3):=(zu hb hH u0 u1 u2).setCell (p:=⟨H,3,none⟩) hH _
theorem wo{fn:Func}{t:Nat}{a:Act}{R:Ending->World->Prop}(h:Row4 W b v0 v1 v2 v3)(hr:fn.results=#[ResultVar.cell t 51])(hd:a.defers=[])(ha:(a.tmps[t]?).getD undef = .pointer (some ⟨b,0,none⟩))
  (hR:R (.returned (.agg #[v0,v1,v2,v3])) W):bodyPost Tryz.prog fn R .ret a W:=by
 obtain⟨⟨c0,c1,c2,c3⟩,_⟩:=h.cells;exact bodyPost_ret (v:=.agg #[v0,v1,v2,v3]) (by simp[results,hr,go_sem,ha,c0,c1,c2,c3]) hd hR
end
def MR(er:Int)(tr:Nd)(W:World)(e:Ending)(W':World):Prop :=
 ∃ u0 u1 u2,e = .returned (.agg #[u0,u1,u2,.int .i64 er])/\NdR W' tr u0 u1 u2/\Below W.heap.size W W'
attribute [local go_sem] Oper.semAt_some
def MRS(S:Nat->Prop)(er:Int)(tr:Nd)(W:World)(e:Ending)(W':World):Prop :=
 ∃ u0 u1 u2,e = .returned (.agg #[u0,u1,u2,.int .i64 er])/\NdS S W' tr u0 u1 u2/\Below W.heap.size W W'
theorem qb7(S:Nat->Prop)(t:Nd)(v0 v1 v2:Value)(w:World)(ht:NdS S w t v0 v1 v2)(er:Int)(tr:Nd)(hc:zx t=er)(hA:(er≠0/\tr=jt)\/(er=0/\tr=t)) :
  Calls Tryz.prog 68 #[.agg #[v0,v1,v2]] w (MRS S er tr w):=by
 obtain⟨k0,s0,l0,a0,c0,rfl,rfl,rfl,rfl,_,_⟩:=ht.form;obtain⟨H,hH⟩:∃ H,w.heap.size=H:=⟨_,rfl⟩;obtain⟨W2,hW2⟩:∃ W2,(w.alloc (.cells #[.int .i64 k0,.string s0,.slice a0 l0.length c0] 25)).alloc (.cells #[.int .i64 0,.string ⟨#[]⟩,.slice none 0 0,.int .i64 0] 51)=W2:=⟨_,rfl⟩;have z2:W2.heap.size=H+1+1:=by rw[<-hW2];simp[hH]
 have B2:Below H w W2:=by rw[<-hW2,<-hH];exact((Below.refl _ w).alloc (q9 _) _).alloc (by simp) _
 have N2:Row3 W2 H (.int .i64 k0) (.string s0) (.slice a0 l0.length c0):=by
  rw[<-hW2,<-hH];exact(Below.heap_alloc _ _ _ (by simp)).trans (qk _ _)
 have R2:Row4 W2 (H+1) (.int .i64 0) (.string ⟨#[]⟩) (.slice none 0 0) (.int .i64 0):=by rw[<-hW2,<-hH];exact za (by simp)
 have CK:=qh (q63 _ W2 _ _ _ (ht.toR.later (by rw[hH];exact B2)));rw[hc]at CK;have HT:=qh (NdS.lts ht);have HH:=qh hH;have HZ:=qh z2;have HAS:=qh hA;have HB2:=qh B2;have HN2:=qh N2;have HR2:=qh R2;obtain⟨⟨n0,n1,n2⟩,_⟩:=N2.cells;clear ht hc hA B2 N2 R2;go_enter Tryz.func68,Tryz.ntmps68
 go_upto_region 1 with fail
 (try rw[hW2])
 (try rw[HH.out])
 clear hW2
 go_wp2_with fail
 refine CK.out.mono ?_;rintro e w3⟨rfl,b3⟩;have zz:=HZ.out;have N3:Row3 w3 H (.int .i64 k0) (.string s0) (.slice a0 l0.length c0):=HN2.out.below b3 HN2.out.lt;have R3:Row4 w3 (H+1) (.int .i64 0) (.string ⟨#[]⟩) (.slice none 0 0) (.int .i64 0):=HR2.out.below b3 HR2.out.lt;have HB3:=qh (HB2.out.trans (b3.mono (by omega)));obtain⟨⟨n0',n1',n2'⟩,_⟩:=N3.cells;obtain⟨⟨r0,r1,r2,r3⟩,q0,q1,q2,q3⟩:=R3.cells;have HR3:=qh R3;clear n0 n1 n2 N3 R3 CK HN2 HR2 HB2
 by_cases hc0:er=0
 ·subst hc0
  have hE:Hid (tr = .mk k0 s0 l0):=qh (by
   rcases HAS.out with h|h
   ·exact absurd rfl h.1
   ·exact h.2)
  go_wp2;refine wo (HR3.out.put _ _ _ _) rfl rfl rfl ?_;refine⟨_,_,_,rfl,?_,by rw[HH.out];exact vm HB3.out (by omega) _ _ _ _⟩;rw[hE.out];have hh:=HH.out;exact HT.out.keep (S':=S) (fun b (h1:S b/\b < w.heap.size) _=>⟨(vm HB3.out (show H<=H+1 by omega) _ _ _ _).block b (by omega),h1.1⟩)
 ·have hc1:(er==0)=false:=by simp[hc0]
  have hE:Hid (tr=jt):=qh (by
   rcases HAS.out with h|h
   ·exact h.2
   ·exact absurd h.1 hc0)
  clear n0' n1' n2';go_wp2;refine wo (HR3.out.put _ _ _ _) rfl rfl rfl ?_;rw[hE.out];exact⟨_,_,_,rfl,NdS.leaf _ _ _ _ (by decide) _ _,by rw[HH.out];exact vm HB3.out (by omega) _ _ _ _⟩
attribute [local go_sem] Oper.semAt_some
def RRC(fr tn:ByteArray):Prop:=∀ (T:Nat->Prop) (t:Nd) (un:Bool) (w:World) (v0 v1 v2:Value),(∀ b,T b->b < w.heap.size)->NdS T w t v0 v1 v2->t.sz<=90000 ->
 Calls Tryz.prog 67 #[.agg #[v0,v1,v2],.string fr,.string tn,.bool un] w fun e W'=>∃ u0 u1 u2,e = .returned (.tuple #[.agg #[u0,u1,u2],.bool (rbN fr tn un t)])/\NdS (fun b=>T b\/w.heap.size<=b) W' (rrN fr tn (vu tn) t) u0 u1 u2/\Below w.heap.size w W'
theorem qex(fr tn:ByteArray)(hren:RRC fr tn)(t:Nd)(w:World)(v0 v1 v2:Value)(ht:NdR w t v0 v1 v2) :
  Calls Tryz.prog 27 #[.agg #[v0,v1,v2],.string fr,.string tn] w (MR (q1e fr tn t) (qb0 fr tn t) w):=by
 obtain⟨k0,s0,l0,a0,c0,rfl,rfl,rfl,rfl,_,_⟩:=ht.form;obtain⟨E,hE⟩:∃ E,q1e fr tn (.mk k0 s0 l0)=E:=⟨_,rfl⟩;obtain⟨TR,hTR⟩:∃ TR,qb0 fr tn (.mk k0 s0 l0)=TR:=⟨_,rfl⟩;rw[hE,hTR];obtain⟨c,hc⟩:∃ c,zx (.mk k0 s0 l0)=c:=⟨_,rfl⟩;obtain⟨A,hA⟩:∃ A,zf fr=A:=⟨_,rfl⟩;obtain⟨B,hB⟩:∃ B,xy fr=B:=⟨_,rfl⟩;obtain⟨C,hC⟩:∃ C,zf tn=C:=⟨_,rfl⟩;obtain⟨D,hD⟩:∃ D,xy tn=D:=⟨_,rfl⟩
 have HE2:Hid ((if c≠0 then c else if((A||B) && (C||D))=false then 1 else if q0z fr tn (.mk k0 s0 l0)=true then 22 else zx (kf fr tn (vu tn) [] false (.mk k0 s0 l0)))=E):=qh (by
  rw[<-hE,<-hc,<-hA,<-hB,<-hC,<-hD];rfl)
 have HT2:Hid ((if E=0 then kf fr tn (vu tn) [] false (.mk k0 s0 l0) else jt)=TR):=qh (by rw[<-hTR,<-hE];rfl);have CA:=qh (fun W=>xg A fr W hA);have CB:=qh (fun W=>q2k B fr W hB);have CC:=qh (fun W=>xg C tn W hC);have CD:=qh (fun W=>q2k D tn W hD);obtain⟨H,hH⟩:∃ H,w.heap.size=H:=⟨_,rfl⟩;obtain⟨W2,hW2⟩:∃ W2,(w.alloc (.cells #[.int .i64 k0,.string s0,.slice a0 l0.length c0] 25)).alloc (.cells #[.int .i64 0,.string ⟨#[]⟩,.slice none 0 0,.int .i64 0] 51)=W2:=⟨_,rfl⟩;have z2:W2.heap.size=H+1+1:=by rw[<-hW2];simp[hH]
 have B2:Below H w W2:=by rw[<-hW2,<-hH];exact((Below.refl _ w).alloc (q9 _) _).alloc (by simp) _
 have N2:Row3 W2 H (.int .i64 k0) (.string s0) (.slice a0 l0.length c0):=by
  rw[<-hW2,<-hH];exact(Below.heap_alloc _ _ _ (by simp)).trans (qk _ _)
 have R2:Row4 W2 (H+1) (.int .i64 0) (.string ⟨#[]⟩) (.slice none 0 0) (.int .i64 0):=by rw[<-hW2,<-hH];exact za (by simp)
 have CK:=qh (q63 _ W2 _ _ _ (ht.later (by rw[hH];exact B2)));rw[hc]at CK;have HT:=qh ht;have HC:=qh hc;have HH:=qh hH;have HZ:=qh z2;have HB2:=qh B2;have HN2:=qh N2;have HR2:=qh R2;have HREN:=qh hren;obtain⟨⟨n0,n1,n2⟩,_⟩:=N2.cells;clear ht hc B2 N2 R2 hE hTR hA hB hC hD hren;go_enter Tryz.func27,Tryz.ntmps27
 go_upto_region 1 with fail
 (try rw[hW2])
 (try rw[HH.out])
 clear hW2
 go_wp2_with fail
 refine CK.out.mono ?_;rintro e w3⟨rfl,b3⟩;have zz:=HZ.out;have N3:Row3 w3 H (.int .i64 k0) (.string s0) (.slice a0 l0.length c0):=HN2.out.below b3 HN2.out.lt;have R3:Row4 w3 (H+1) (.int .i64 0) (.string ⟨#[]⟩) (.slice none 0 0) (.int .i64 0):=HR2.out.below b3 HR2.out.lt;have HB3:=qh (HB2.out.trans (b3.mono (by omega)));have HR3:=qh R3;have HN3:=qh N3;clear n0 n1 n2 N3 R3 CK HN2 HR2 HB2
 by_cases hc0:c=0
 ·subst hc0
  have e0:((0:Int) != 0)=false:=rfl
  go_upto_region 4 with fail
  go_cut [33] (fun v wx=>v = .bool (!((A||B) && (C||D)))/\Hid (Below w3.heap.size w3 wx))
  case first =>
   go_wp2_with fail
   refine(CA.out _).mono ?_;rintro e wa⟨rfl,b4⟩;have HX:=qh b4;clear b4 CA
   cases A with
   |true =>
    go_wp2_with fail
    refine(CC.out _).mono ?_;rintro e wc⟨rfl,b4⟩;have HX2:=qh (HX.out.trans (b4.mono HX.out.size));clear b4 CC;clear HX;have HX:=HX2;clear HX2
    cases C with
    |true =>
     go_wp2
     all_goals go_meet
     all_goals exact⟨by first|rfl|simp,HX⟩
    |false =>
     go_wp2_with fail
     refine(CD.out _).mono ?_;rintro e wd⟨rfl,b4⟩;have HX2:=qh (HX.out.trans (b4.mono HX.out.size));clear b4 CD;clear HX;have HX:=HX2;clear HX2
     cases D with
     |true =>
      go_wp2
      all_goals go_meet
      all_goals exact⟨by first|rfl|simp,HX⟩
     |false =>
      go_wp2
      all_goals go_meet
      all_goals exact⟨by first|rfl|simp,HX⟩
   |false =>
    go_wp2_with fail
    refine(CB.out _).mono ?_;rintro e wb⟨rfl,b4⟩;have HX2:=qh (HX.out.trans (b4.mono HX.out.size));clear b4 CB;clear HX;have HX:=HX2;clear HX2
    cases B with
    |true =>
     go_wp2_with fail
     refine(CC.out _).mono ?_;rintro e wc⟨rfl,b4⟩;have HX2:=qh (HX.out.trans (b4.mono HX.out.size));clear b4 CC;clear HX;have HX:=HX2;clear HX2
     cases C with
     |true =>
      go_wp2
      all_goals go_meet
      all_goals exact⟨by first|rfl|simp,HX⟩
     |false =>
      go_wp2_with fail
      refine(CD.out _).mono ?_;rintro e wd⟨rfl,b4⟩;have HX2:=qh (HX.out.trans (b4.mono HX.out.size));clear b4 CD;clear HX;have HX:=HX2;clear HX2
      cases D with
      |true =>
       go_wp2
       all_goals go_meet
       all_goals exact⟨by first|rfl|simp,HX⟩
      |false =>
       go_wp2
       all_goals go_meet
       all_goals exact⟨by first|rfl|simp,HX⟩
    |false =>
     go_wp2
     all_goals go_meet
     all_goals exact⟨by first|rfl|simp,HX⟩
  case rest =>
  rename World=>w4
  obtain⟨rfl,HB4⟩:=hcut;have hz4:=HB4.out.size;have R4:=HR3.out.below HB4.out HR3.out.lt;have N4:=HN3.out.below HB4.out HN3.out.lt;have hl3:=HR3.out.lt;have HR4:=qh R4;have HBB:=qh (HB3.out.trans (HB4.out.mono (by omega)));obtain⟨G,hG⟩:∃ G,((A||B) && (C||D))=G:=⟨_,rfl⟩;have HE3:Hid ((if G=false then 1 else if q0z fr tn (.mk k0 s0 l0)=true then 22 else zx (kf fr tn (vu tn) [] false (.mk k0 s0 l0)))=E):=qh (by have:=HE2.out;rw[qd (by simp),hG]at this;exact this);rw[hG];clear hG HE2 CA CB CC CD HN3 HR3 HB3 R4;obtain⟨⟨m0,m1,m2⟩,_⟩:=N4.cells
  cases G with
  |false =>
   obtain rfl:(1:Int)=E:=by simpa using HE3.out
   have hE:Hid (TR=jt):=qh (by have:=HT2.out;rw[qd (by decide)]at this;exact this.symm);obtain⟨⟨r0,r1,r2,r3⟩,q0,q1,q2,q3⟩:=HR4.out.cells;clear HREN m0 m1 m2;go_wp2;refine wo (HR4.out.put _ _ _ _) rfl rfl rfl ?_;rw[hE.out];exact⟨_,_,_,rfl,wm _,by rw[HH.out];exact vm HBB.out (by omega) _ _ _ _⟩
  |true =>
   obtain⟨e1,e2⟩:=qay fr tn (vu tn) 0 [] (by rfl) (.mk k0 s0 l0) (q0f HC.out).2;have hHH:=HH.out;have tr4:=HT.out.toS.keep (S':=fun b=>b < H) (w':=w4) fun b (h1:b < w.heap.size) _=>⟨HBB.out.block b (by omega),by omega⟩
   have CP:=qh (HREN.out (fun b=>b < H) (.mk k0 s0 l0) false w4 _ _ _ (fun b (h:b < H)=>by have:=HR4.out.lt;omega) tr4 (qo (q3j HC.out) (by decide)));rw[e1,show rbN fr tn false (.mk k0 s0 l0)=q0z fr tn (.mk k0 s0 l0) from e2]at CP;obtain⟨TK,hTK⟩:∃ TK,q0z fr tn (.mk k0 s0 l0)=TK:=⟨_,rfl⟩;obtain⟨RN,hRN⟩:∃ RN,kf fr tn (vu tn) [] false (.mk k0 s0 l0)=RN:=⟨_,rfl⟩;rw[hTK,hRN]at CP;have HE4:Hid ((if TK=true then 22 else zx RN)=E):=qh (by have:=HE3.out;rw[qd (by simp),hTK,hRN]at this;exact this);have HT4:Hid ((if E=0 then RN else jt)=TR):=qh (by have:=HT2.out;rwa [hRN]at this);clear e1 e2 hTK hRN HE3 HT2 HREN tr4
   go_wp2_with fail
   refine CP.out.mono ?_;rintro e w5⟨u0,u1,u2,rfl,tm,hb5⟩;obtain⟨k2,s2,l2,a2,c2,eM,rfl,rfl,rfl,_,_⟩:=tm.form;have hb5':=hb5.alloc hb5.size (.cells #[.int .i64 k2,.string s2,.slice a2 l2.length c2] 25);have tm':=tm.keep (S':=fun b=>b < H\/w4.heap.size<=b) (w':=w5.alloc (.cells #[.int .i64 k2,.string s2,.slice a2 l2.length c2] 25)) fun b h1 hl2=>⟨Below.heap_alloc _ _ _ hl2,h1⟩
   have Q5':=Row3.new w5 (.int .i64 k2) (.string s2) (.slice a2 l2.length c2);obtain⟨V5,hV5⟩:∃ V5,w5.alloc (.cells #[.int .i64 k2,.string s2,.slice a2 l2.length c2] 25)=V5:=⟨_,rfl⟩;obtain⟨h2,hh2⟩:∃ h2,w5.heap.size=h2:=⟨_,rfl⟩;rw[hV5]at hb5' tm' Q5';rw[hh2]at Q5';have zR:=HR4.out.lt;have HR5:=qh (HR4.out.below hb5' zR);have HB5:=qh (HBB.out.trans (hb5'.mono (by omega)));have TM:=qh tm';have Q5:=qh Q5';have HV5:=qh hV5;have HH2:=qh hh2;clear m0 m1 m2 N4 hb5 hb5' tm tm' Q5' hV5 hh2 CP eM
   go_upto_region 7 with fail
   rw[HV5.out,HH2.out];clear HV5 HH2
   cases TK with
   |true =>
    obtain rfl:(22:Int)=E:=by simpa using HE4.out
    have hE:Hid (TR=jt):=qh (by have:=HT4.out;rw[qd (by decide)]at this;exact this.symm);obtain⟨⟨r0,r1,r2,r3⟩,q0,q1,q2,q3⟩:=HR5.out.cells;go_wp2;refine wo (HR5.out.put _ _ _ _) rfl rfl rfl ?_;rw[hE.out];exact⟨_,_,_,rfl,wm _,by rw[HH.out];exact vm HB5.out (by omega) _ _ _ _⟩
   |false =>
    have hE:zx RN=E:=by simpa using HE4.out
    have CH:=qh (qb7 _ RN _ _ _ V5 TM.out E TR hE (by
     have:=HT4.out
     by_cases h:E=0
     ·rw[qj h]at this;exact .inr ⟨h,this.symm⟩
     ·rw[qd h]at this;exact .inl ⟨h,this.symm⟩))
    obtain⟨⟨d0,d1,d2⟩,_⟩:=Q5.out.cells
    go_wp2_with fail
    refine CH.out.mono ?_;rintro e w6⟨y0,y1,y2,rfl,ty,hb6⟩;have zR5:=HR5.out.lt;have HR6:=qh (HR5.out.below hb6 zR5);have HB6:=qh (HB5.out.trans (hb6.mono (by omega)));obtain⟨k6,s6,l6,a6,c6,e6,rfl,rfl,rfl,_,_⟩:=ty.form;have TY:=qh ty;obtain⟨⟨r0,r1,r2,r3⟩,q0,q1,q2,q3⟩:=HR6.out.cells;clear ty hb6 CH d0 d1 d2 e6;go_wp2;refine wo (HR6.out.put _ _ _ _) rfl rfl rfl ?_;refine⟨_,_,_,rfl,(TY.out.keep (S':=fun _=>True) fun b (h1:b < H\/w4.heap.size<=b) _=>⟨qnk _ _ _ _ (by omega),trivial⟩).toR,by rw[HH.out];exact vm HB6.out (by omega) _ _ _ _⟩
 ·have hc1:(c==0)=false:=by simp[hc0]
  obtain rfl:c=E:=by have:=HE2.out;rwa [qj hc0]at this
  have hE:Hid (TR=jt):=qh (by have:=HT2.out;rw[qd hc0]at this;exact this.symm);obtain⟨⟨r0,r1,r2,r3⟩,q0,q1,q2,q3⟩:=HR3.out.cells;clear CA CB CC CD HREN HN3;go_wp2;refine wo (HR3.out.put _ _ _ _) rfl rfl rfl ?_;rw[hE.out];exact⟨_,_,_,rfl,wm _,by rw[HH.out];exact vm HB3.out (by omega) _ _ _ _⟩
end Go.Proofs.YtkckddojlignpaaGreatDoor
namespace Go.Proofs.YtkckddojlignpaaGreatDoor
open Go.RowKit
theorem q56{P:Program}(w:World)(t ty e:TypeId)(i:TypeInfo)(ht:P.underlying t=some (.slice e))(hi:P.info? e=some i)(b:Option Addr)(n cap c:Nat)(hc:n<=cap)(_hn:n<=9223372036854775807) :
  (Builtin.append_ #[t,t] ty #[.slice b n cap,.slice none 0 c]).run P w = .ok (.slice b n cap) w:=by
 cases b with
 |none=>simp[Builtin.append_,run_underlying ht,sizeOf,typeInfo,hi,Builtin.lenOf,Builtin.firstCells,hc]
 |some a=>simp[Builtin.append_,run_underlying ht,sizeOf,typeInfo,hi,Builtin.lenOf,Builtin.firstCells,hc,storeCells]
def OwnS(W w:World)(v:Value)(l:List ByteArray):Prop:=Below W.heap.size W w/\ze W.heap.size w v l
theorem OwnS.start{W w:World}(hb:Below W.heap.size W w):OwnS W (w.alloc (.cells #[] 9)) (.slice (some ⟨w.heap.size,0,none⟩) 0 0) [] :=
 ⟨hb.alloc hb.size _,World.ownsRow_made w #[] 0 hb.size (qv _) rfl⟩
theorem OwnS.alloc{W w:World}{v:Value}{l:List ByteArray}(h:OwnS W w v l)(o:Obj):OwnS W (w.alloc o) v l:=by
 have h':w.ownsRow W.heap.size 9 1 v (l.map Value.string).length (l.map Value.string):=h.2;exact⟨h.1.alloc h.1.size _,qy h' fun g e=>Below.heap_alloc _ _ _ (h'.lt g e).2⟩
theorem OwnS.append{W w:World}{v:Value}{l m:List ByteArray}{a:Option Addr}{c:Nat}(hk:OwnS W w v l)(hv:v≠.slice none 0 0)(hm:StrSl w (.slice a m.length c) m)(hlen:l.length+m.length<=1000000)(ty:TypeId) :
  ∃ v' w',(Builtin.append_ #[42,42] ty #[v,.slice a m.length c]).run Tryz.prog w = .ok v' w'/\OwnS W w' v' (l++m)/\v'≠.slice none 0 0/\w.grownBy w' v.ownBlock:=by
 obtain⟨i0,hi0,hz0,hz1,hz2⟩:=info_parts q69;obtain⟨hb,hown0⟩:=hk
 have hown:w.ownsRow W.heap.size 9 1 v l.length (l.map Value.string):=by
  have h:=hown0;unfold ze at h
  rwa [qx]at h
 obtain⟨a',c',he,ha⟩:=hm
 cases he
 by_cases hn:a=none
 ·subst hn
  have hmn:m=[]:=by
   apply Classical.byContradiction;intro h;obtain⟨b,o,e,_⟩:=ha h
   cases e
  subst hmn
  obtain⟨bv,n,cv,rfl,hn,hcv⟩:∃ bv n cv,v = .slice bv n cv/\n=l.length/\n<=cv:=by
   rcases hown.2 with ⟨rfl,h⟩|⟨g,cap',cur,rfl,_,_,h,_⟩
   ·exact⟨none,0,0,rfl,h.symm,q9 _⟩
   ·exact⟨_,_,_,rfl,rfl,h⟩
  refine⟨_,w,q56 w 42 ty 9 i0 Tryz.underlying42 hi0 bv n cv _ hcv (by omega),?_,hv,World.grownBy.refl _ _⟩;rw[List.append_nil];exact⟨hb,hown0⟩
 ·obtain⟨ad,rfl⟩:∃ ad,a=some ad:=by
   cases a with
   |none=>exact absurd rfl hn
   |some ad=>exact⟨ad,rfl⟩
  have n2:∀ j u,(m.map Value.string)[j]?=some u->w.cell? (ad.add j)=some u:=by
   intro j u hj
   by_cases hmn:m=[]
   ·subst hmn;simp at hj
   ·obtain⟨b,o,e,hc⟩:=ha hmn
    obtain rfl:=zn e;rw[List.getElem?_map]at hj;obtain⟨s,hs,rfl⟩:=Option.map_eq_some_iff.1 hj;obtain⟨hlt,rfl⟩:=List.getElem?_eq_some_iff.1 hs;have hadd:(⟨b,o,none⟩:Addr).add j=⟨b,o+j,none⟩:=by unfold Addr.add;split <;> simp_all
    rw[hadd];exact hc j hlt
  obtain⟨v',w',hrun,hown',hgr,hnil,hat⟩:=run_append_own_at (P:=Tryz.prog) w W.heap.size 42 ty 9 i0 _ 1 16 Tryz.underlying42 hi0 hz0 hz1 hz2 rfl (by decide) v l.length (l.map Value.string) hown ad m.length c (m.map Value.string) (by simp) n2 (fun u hu=>by obtain⟨s,_,rfl⟩:=List.mem_map.1 hu;rfl) (by unfold maxLen;omega) (by omega) hb.size;refine⟨v',w',hrun,⟨hb.grown hgr hb.size fun g hg=>(hown.lt g hg).1,?_⟩,fun h=>hv (hnil.1 h).1,hgr⟩;unfold ze;rw[qx,qg,List.map_append];exact hown'
section
variable {ops:Array Oper} {o:Oper} {a:Act} {K:Act->World->Prop} {Q:Exit->Act->World->Prop} {Ex:Prop} {w:World}
theorem yo{W:World}{l m:List ByteArray}{b:Option Addr}{c:Nat}(hgd:o.guard=none)(p x:Operand)
  (ho:o.op = .call { callee:=.builtin .append,args:=#[p,x],argTypes:=#[42,42] })
  (v:Value) (hp:a.eval p=v) (hx:a.eval x = .slice b m.length c) (hk:OwnS W w v l) (hv:v≠.slice none 0 0) (hm:StrSl w (.slice b m.length c) m) (hlen:l.length+m.length<=1000000)
  (h:∀ v' w',OwnS W w' v' (l++m)->v'≠.slice none 0 0->w.grownBy w' v.ownBlock->K (a.put o.dst v') w') :
  if Region.wanted o (yielded ops a.tmps)=true then Oper.wp Tryz.prog o a w K Q else Ex:=by
 have hw:Region.wanted o (yielded ops a.tmps)=true:=by simp[Region.wanted,hgd]
 rw[qj hw];obtain⟨v',w',hr,h1,h2,h3⟩:=hk.append hv hm hlen o.type;unfold Oper.wp execOp;simp only[ho,resolve,invoke,builtin,Sem.run_bind,Sem.run_pure,Result.andThen_ok,List.map_toArray,List.map_cons,List.map_nil,hp,hx,hr];exact h v' w' h1 h2 h3
end
theorem q1u{n₁:Nat}{w:World}{v:Value}{ss:List ByteArray}(h:ze n₁ w v ss):StrSl w v ss:=by
 obtain⟨a,c,e⟩:=zr (show w.ownsRow n₁ 9 1 v (ss.map Value.string).length (ss.map Value.string) from h);rw[qx]at e;subst e;obtain⟨_,h0⟩:=q26 h;refine⟨a,c,rfl,fun hne=>?_⟩;rcases h0 with rfl|⟨g,rfl,hc⟩
 ·exact absurd rfl hne
 ·refine⟨g,0,rfl,fun i hi=>?_⟩
  rw[hc i hi,List.getD_eq_getElem?_getD,qq hi];rfl
end Go.Proofs.YtkckddojlignpaaGreatDoor
namespace Go.Proofs.YtkckddojlignpaaGreatDoor
namespace Lx
end Lx
end Go.Proofs.YtkckddojlignpaaGreatDoor
namespace Go.Proofs.YtkckddojlignpaaGreatDoor
open Go.RowKit
end Go.Proofs.YtkckddojlignpaaGreatDoor
namespace Go.Proofs.YtkckddojlignpaaGreatDoor
end Go.Proofs.YtkckddojlignpaaGreatDoor
namespace Go.Proofs.YtkckddojlignpaaGreatDoor
open Go.RowKit
theorem q6q(k:Int)(s:ByteArray)(a:Option Addr)(n cap:Nat)(w:World) :
  Calls Tryz.prog 116 #[.agg #[.int .i64 k,.string s,.slice a n cap]] w fun e w'=>e = .returned (.bool (zo k))/\Below w.heap.size w w':=by
 obtain⟨X,hX⟩:∃ X,zo k=X:=⟨_,rfl⟩;rw[hX];unfold zo at hX
 cases h17:(k==17)with
 |true =>
  have HX:Hid (X=true):=qh (by rw[<-hX,h17];rfl);clear hX;go_enter Tryz.func116,Tryz.ntmps116;go_wp2;go_ret;exact⟨by rw[HX.out];rfl,(Below.refl _ w).alloc (q9 _) _⟩
 |false =>
  cases h18:(k==18)with
  |true =>
   have HX:Hid (X=true):=qh (by rw[<-hX,h17,h18];rfl);clear hX;go_enter Tryz.func116,Tryz.ntmps116;go_wp2;go_ret;exact⟨by rw[HX.out];rfl,(Below.refl _ w).alloc (q9 _) _⟩
  |false =>
   have HX:Hid (X=(k==19)):=qh (by rw[<-hX,h17,h18];rfl);clear hX;go_enter Tryz.func116,Tryz.ntmps116;go_wp2;go_ret;exact⟨by rw[HX.out];rfl,(Below.refl _ w).alloc (q9 _) _⟩
end Go.Proofs.YtkckddojlignpaaGreatDoor
namespace Go.Proofs.YtkckddojlignpaaGreatDoor
open Go.RowKit Go.Shelf
attribute [local go_sem] Oper.semAt_some
theorem q3l(L:List ByteArray)(s:ByteArray):q1s L s=Lib.containsS L s:=by
 rw[Bool.eq_iff_iff,Lib.containsS_iff];unfold q1s;rw[List.any_eq_true]
 constructor
 ·rintro⟨x,hx,e⟩
  rw[beq_iff_eq]at e;exact ki e▸hx
 ·intro h
  exact⟨s,h,by rw[beq_iff_eq]⟩
def BdS(S:Nat->Prop)(w:World)(v:Value)(L:List ByteArray):Prop :=
 ∃ a cap,v = .slice a L.length cap/\(L≠[]->∃ b o,a=some ⟨b,o,none⟩/\S b/\∀ i,(h:i < L.length)->w.cell? ⟨b,o+i,none⟩=some (.string L[i]))
theorem BdS.str{S:Nat->Prop}{w:World}{v:Value}{L:List ByteArray}(h:BdS S w v L):StrSl w v L:=by
 obtain⟨a,c,rfl,ha⟩:=h;exact⟨a,c,rfl,fun hne=>by obtain⟨b,o,e,_,hc⟩:=ha hne;exact⟨b,o,e,hc⟩⟩
theorem BdS.keep{S S':Nat->Prop}{w w':World}{v:Value}{L:List ByteArray}(h:BdS S w v L)(hk:∀ b,S b->b < w.heap.size->w'.heap[b]?=w.heap[b]?/\S' b):BdS S' w' v L:=by
 obtain⟨a,c,rfl,ha⟩:=h;refine⟨a,c,rfl,fun hne=>?_⟩;obtain⟨b,o,e,hs,hc⟩:=ha hne;have hlt:b < w.heap.size:=qi (hc 0 (List.length_pos_iff.2 hne));exact⟨b,o,e,(hk b hs hlt).2,fun i hi=>(World.cell?_of_block (hk b hs hlt).1).trans (hc i hi)⟩
theorem BdS.of_row{n:Nat}{w:World}{v:Value}{L:List ByteArray}(h:ze n w v L):BdS (fun b=>n<=b) w v L:=by
 have h':w.ownsRow n 9 1 v (L.map Value.string).length (L.map Value.string):=h;obtain⟨a,c,e⟩:=zr h';subst e;obtain⟨_,h0⟩:=q26 h;refine⟨a,c,by rw[qx],fun hne=>?_⟩;rcases h0 with rfl|⟨g,rfl,hc⟩
 ·exact absurd rfl hne
 ·refine⟨g,0,rfl,(h'.lt g rfl).1,fun i hi=>?_⟩
  rw[hc i hi,List.getD_eq_getElem?_getD,qq hi,Option.getD_some]
def Ap(n₁:Nat)(w:World)(vo v':Value)(W:World):Prop :=
 Below n₁ w W/\(∀ b,b < w.heap.size->vo.ownBlock≠some b->W.heap[b]?=w.heap[b]?)/\(∀ g,v'.ownBlock=some g->vo.ownBlock=some g\/w.heap.size<=g)
section
variable {n₁:Nat} {w W W1 W2:World} {vo v1 v2:Value}
theorem Ap.refl(h:Below w.heap.size w W)(hn:n₁<=w.heap.size):Ap n₁ w vo vo W:=⟨h.mono hn,fun b hb _=>h.block b hb,fun _ h=>.inl h⟩
theorem Ap.trans(h:Ap n₁ w vo v1 W1)(h2:Ap n₁ W1 v1 v2 W2):Ap n₁ w vo v2 W2:=by
 have hz:=h.1.size;refine⟨h.1.trans h2.1,fun b hb hne=>?_,fun g hg=>?_⟩
 ·refine(h2.2.1 b (qu hb hz) (fun e=>?_)).trans (h.2.1 b hb hne)
  rcases h.2.2 b e with e|e
  ·exact hne e
  ·omega
 ·rcases h2.2.2 g hg with e|e
  ·exact h.2.2 g e
  ·exact .inr (qo hz e)
theorem Ap.behind(h:Ap n₁ w vo v1 W1)(hb:Below W1.heap.size W1 W2)(hn:n₁<=w.heap.size):Ap n₁ w vo v1 W2:=h.trans (Ap.refl hb (qo hn h.1.size))
theorem Ap.ahead(hb:Below w.heap.size w W1)(h:Ap n₁ W1 vo v1 W2)(hn:n₁<=w.heap.size):Ap n₁ w vo v1 W2:=(Ap.refl hb hn).trans h
end
mutual
theorem q9z(kind:Int)(bound out:List ByteArray):∀ t:Nd,(q0k kind bound out t).length<=out.length+t.sz
 | .mk k s l=>by
  simp only[q0k,Nd.sz]
  split
  ·omega
  ·have:=qa0 kind bound (if zo k then bound++[s] else bound) (if(k==kind && !Lib.containsS bound s) && !Lib.containsS out s then out++[s] else out) l
   refine qo this ?_
   split
   ·simp only[qg,List.length_singleton];omega
   ·omega
theorem qa0(kind:Int)(ins il out:List ByteArray):∀ l:List Nd,(wh kind ins il out l).length<=out.length+Nd.szL l
 |[]=>by simp only[wh,Nd.szL];omega
 |a :: l=>by
  simp only[wh,Nd.szL];have h1:=q9z kind (if l.isEmpty then il else ins) out a;have h2:=qa0 kind ins il (q0k kind (if l.isEmpty then il else ins) out a) l;omega
end
theorem qld(k kind:Int)(s:ByteArray)(a:Option Addr)(n cap:Nat)(vb:Value)(bound:List ByteArray)(w:World)(hb:StrSl w vb bound)(hm:bound.length<=1000000)(V:Bool)(hV:(k==kind && !Lib.containsS bound s)=V) :
  Calls Tryz.prog 114 #[.agg #[.int .i64 k,.string s,.slice a n cap],.int .i64 kind,vb] w fun e w'=>e = .returned (.bool V)/\Below w.heap.size w w':=by
 obtain⟨h,hh⟩:∃ h,w.heap.size=h:=⟨_,rfl⟩;obtain⟨W0,hW0⟩:∃ W0,w.alloc (.cells #[.int .i64 k,.string s,.slice a n cap] 25)=W0:=⟨_,rfl⟩;have b0:Below h w W0:=by rw[<-hW0,<-hh];exact(Below.refl _ w).alloc (q9 _) _
 have r0:Row3 W0 h (.int .i64 k) (.string s) (.slice a n cap):=by rw[<-hW0,<-hh];exact qk _ _
 have CI:=qh (qb6 vb bound s W0 (hb.below (by rw[hh];exact b0)) hm);rw[q3l]at CI;obtain⟨X,hX⟩:∃ X,Lib.containsS bound s=X:=⟨_,rfl⟩;rw[hX]at CI hV;have HB:=qh b0;obtain⟨⟨n0,n1,n2⟩,_⟩:=r0.cells;clear hb hm hX b0 r0;rw[hh];go_enter Tryz.func114,Tryz.ntmps114
 go_upto_region 1 with fail
 (try rw[hW0])
 (try rw[hh])
 clear hW0
 by_cases hk:k=kind
 ·subst hk
  have e1:(k==k)=true:=by simp
  rw[e1,Bool.true_and]at hV
  go_wp2_with fail
  refine CI.out.mono ?_;rintro e w1⟨⟨m,rfl,hm⟩,hw⟩;subst hw;clear CI
  cases X with
  |true =>
   have h0:¬ m < 0:=by have:=of_decide_eq_true hm;omega
   have h1:decide (m < 0)=false:=decide_eq_false h0;obtain rfl:V=false:=hV.symm;go_wp2
   all_goals (try go_ret)
   all_goals exact⟨rfl,HB.out⟩
  |false =>
   have h0:m < 0:=by have:=of_decide_eq_false hm;omega
   have h1:decide (m < 0)=true:=decide_eq_true h0;obtain rfl:V=true:=hV.symm;go_wp2
   all_goals (try go_ret)
   all_goals exact⟨rfl,HB.out⟩
 ·have e1:(k==kind)=false:=by rw[qc];exact hk
  rw[e1,Bool.false_and]at hV;subst hV;clear CI;go_wp2
  all_goals (try go_ret)
  all_goals exact⟨rfl,HB.out⟩
attribute [local go_sem] Oper.semAt_some
theorem q6j{w w':World}{g:Nat}{n c:Nat}{row:Option Nat}{L:List ByteArray}(h:StrSl w (.slice (some ⟨g,0,none⟩) n c) L)(hg:w.grownBy w' row)(hr:row≠some g):StrSl w' (.slice (some ⟨g,0,none⟩) n c) L:=by
 obtain⟨a,c',e,ha⟩:=h
 cases e;refine⟨_,_,rfl,fun hne=>?_⟩;obtain⟨b,o,e,hc⟩:=ha hne
 cases e;refine⟨_,_,rfl,fun i hi=>?_⟩;have h1:=hc i hi;exact(World.cell?_of_block (hg.block g (qi h1) (fun e=>hr e.symm))).trans h1
theorem qg3(kind:Int)(ins il o:List ByteArray)(l:List Nd)(i:Nat)(h:i < l.length):wh kind ins il o (l.drop i)=wh kind ins il (q0k kind (if i+1=l.length then il else ins) o l[i]) (l.drop (i+1)):=by
 rw[List.drop_eq_getElem_cons h];simp only[wh]
 by_cases e:i+1=l.length
 ·rw[qj e,qj (by rw[List.isEmpty_iff,List.drop_eq_nil_iff];omega)]
 ·rw[qd e,qd (by rw[List.isEmpty_iff,List.drop_eq_nil_iff];omega)]
theorem qjh(l:List Nd)(i:Nat)(h:i < l.length):Nd.szL (l.drop i)=l[i].sz+Nd.szL (l.drop (i+1)):=by
 rw[List.drop_eq_getElem_cons h];simp only[Nd.szL]
theorem qhl(kind:Int)(n₁:Nat)(N:Nat):∀ (t:Nd) (bound out:List ByteArray) (w:World) (v0 v1 v2 vb vo:Value) (_:t.sz<=N) (_:n₁<=w.heap.size) (_:NdS (fun b=>b < n₁) w t v0 v1 v2) (_:BdS (fun b=>vo.ownBlock≠some b) w vb bound) (_:ze n₁ w vo out) (_:out.length+t.sz<=900000) (_:bound.length+t.sz<=900000),
  Calls Tryz.prog 56 #[.agg #[v0,v1,v2],.int .i64 kind,vb,vo] w fun e W'=>∃ v',e = .returned v'/\ze n₁ W' v' (q0k kind bound out t)/\Ap n₁ w vo v' W':=by
 induction N with
 |zero=>intro t _ _ _ _ _ _ _ _ hz;have:=q39 t;omega
 |succ N ih =>
 intro t bound out w v0 v1 v2 vb vo hN hn ht hb ho hol hbl;obtain⟨k,s,l,a,c,rfl,rfl,rfl,rfl,hs,hl⟩:=ht.form;unfold maxLen at hl;obtain⟨R,hR⟩:∃ R,q0k kind bound out (.mk k s l)=R:=⟨_,rfl⟩;rw[hR];simp only[q0k]at hR;simp only[Nd.sz]at hN hol hbl;obtain⟨h,hh⟩:∃ h,w.heap.size=h:=⟨_,rfl⟩;obtain⟨W0,hW0⟩:∃ W0,w.alloc (.cells #[.int .i64 k,.string s,.slice a l.length c] 25)=W0:=⟨_,rfl⟩;have b0:Below h w W0:=by rw[<-hW0,<-hh];exact(Below.refl _ w).alloc (q9 _) _
 have z0:W0.heap.size=h+1:=by rw[<-hW0];simp[hh]
 have r0:Row3 W0 h (.int .i64 k) (.string s) (.slice a l.length c):=by rw[<-hW0,<-hh];exact qk _ _
 have hoz:∀ g,vo.ownBlock=some g->n₁<=g/\g < h:=fun g e=>by
  have h':w.ownsRow n₁ 9 1 vo (out.map Value.string).length (out.map Value.string):=ho;rw[<-hh];exact h'.lt g e
 have AP0:=qh (fun(v':Value) W' (h':Ap n₁ W0 vo v' W')=>Ap.ahead (by rw[hh];exact b0) h' hn);have T0:=qh (ht.keep (S':=fun b=>b < n₁) (w':=W0) fun b h1 h2=>⟨b0.block b (by omega),h1⟩);have BD0:=qh (hb.keep (S':=fun b=>vo.ownBlock≠some b/\b < h) (w':=W0) fun b h1 h2=>⟨b0.block b (by omega),h1,by omega⟩);have RO0:=qh (show ze n₁ W0 vo out from qy ho fun g e=>b0.block g (hoz g e).2);have HN:Hid (n₁<=W0.heap.size):=qh (by omega);have hN1:=qh (show n₁<=h by omega);obtain⟨F,hF⟩:∃ F,(k==kind && !Lib.containsS bound s)=F:=⟨_,rfl⟩;obtain⟨O,hO⟩:∃ O,Lib.containsS out s=O:=⟨_,rfl⟩;obtain⟨out1,ho1⟩:∃ out1,(if F && !O then out++[s] else out)=out1:=⟨_,rfl⟩;obtain⟨il,hil⟩:∃ il,(if zo k then bound++[s] else bound)=il:=⟨_,rfl⟩;rw[hF,hO,ho1,hil]at hR;have HIL:=qh hil;have ho1l:out1.length<=out.length+1:=by rw[<-ho1];split <;> simp
 have CF:=qh (fun W (hb':StrSl W vb bound)=>qld k kind s a l.length c vb bound W hb' (by omega) F hF);have CX:=qh (fun W (ho':StrSl W vo out)=>qb6 vo out s W ho' (by omega));rw[q3l,hO]at CX;have HR:=qh hR;have HO1:=qh ho1;have HH:=qh hh;have HB0:=qh b0;have HR0:=qh r0;have HOZ:=qh hoz;have IH:=qh ih;obtain⟨⟨n0,n1,n2⟩,_⟩:=r0.cells;clear hR ho1 hF hO ht hb ho hn b0 r0 hoz ih hil hs;go_enter Tryz.func56,Tryz.ntmps56
 go_upto_region 1 with fail
 (try rw[hW0])
 (try rw[hh])
 clear hW0
 by_cases h7:k=7
 ·have e7:(k==7)=true:=by rw[h7];rfl
  clear h7;go_wp2
  all_goals (try go_ret)
  all_goals exact⟨_,rfl,by rw[<-(show out=R by have:=HR.out;rwa [qj (by simpa using e7)]at this)];exact RO0.out,AP0.out _ _ (Ap.refl (Below.refl _ _) HN.out)⟩
 ·have e7:(k==7)=false:=by rw[qc];exact h7
  have hRR:Hid (wh kind bound il out1 l=R):=qh (by have:=HR.out;rwa [qd h7]at this);clear HR
  go_upto_region 3 with fail
  go_cut [25] (fun v wx=>v = .bool (F && !O)/\Hid (ze n₁ wx vo out)/\Hid (Below W0.heap.size W0 wx))
  case first =>
   go_wp2_with fail
   refine(CF.out W0 BD0.out.str).mono ?_;rintro e w1⟨rfl,hb1⟩;have RO1:=qh (show ze n₁ w1 vo out from qy RO0.out fun g e=>hb1.block g (by have:=HOZ.out g e;omega));have R1:=qh (HR0.out.below hb1 (by omega));have HB1:=qh hb1;obtain⟨⟨m0,m1,m2⟩,_⟩:=R1.out.cells;clear hb1 n0 n1 n2 CF
   cases F with
   |false =>
    clear CX;go_wp2
    all_goals go_meet
    all_goals exact⟨rfl,RO1,HB1⟩
   |true =>
    go_wp2_with fail
    refine(CX.out _ (q1u RO1.out)).mono ?_;rintro e w2⟨⟨m,rfl,hm⟩,hw⟩;subst hw;clear CX
    have hd:decide (m < 0) = !O:=by
     cases O with
     |true=>exact decide_eq_false (by have:=of_decide_eq_true hm;omega)
     |false=>exact decide_eq_true (by have:=of_decide_eq_false hm;omega)
    go_wp2
    all_goals go_meet
    all_goals exact⟨by first|rfl|(rw[hd];rfl),RO1,HB1⟩
  case rest =>
  rename World=>w1
  obtain⟨rfl,RO1,HB1⟩:=hcut;have z1:=HB1.out.size;have AP1:=qh (Ap.refl (vo:=vo) HB1.out HN.out);have R1:=qh (HR0.out.below HB1.out (by omega));obtain⟨⟨m0,m1,m2⟩,_⟩:=R1.out.cells;obtain⟨G,hG⟩:∃ G,(F && !O)=G:=⟨_,rfl⟩;have HO2:Hid ((if G then out++[s] else out)=out1):=qh (by have:=HO1.out;rwa [hG]at this);clear CF CX n0 n1 n2;rw[hG];clear HO1 hG
  go_upto_if 25 with fail
  go_cut [3] (fun v wx=>Hid (ze n₁ wx v out1)/\Hid (Ap n₁ W0 vo v wx))
  case first =>
   cases G with
   |false =>
    have e1:out1=out:=by rw[<-HO2.out];rfl
    subst e1;go_wp2
    all_goals go_meet
    all_goals exact⟨RO1,AP1⟩
   |true =>
    have e1:out1=out++[s]:=by rw[<-HO2.out];rfl
    subst e1;obtain⟨iS,hS,hSz,hSs,hSb⟩:=info_parts q69;have r7:ze n₁ (w1.alloc (.cells #[.string s] 9)) vo out:=qy RO1.out (fun g e=>Below.heap_alloc _ _ _ (by have:=HOZ.out g e;omega));have HCL:=qh (q1b w1 (.string s) 9 _ rfl)
    have HX8:Hid (∀ (g8 cap8:Nat) (w8:World),w8.ownsRow n₁ 9 1 (.slice (some ⟨g8,0,none⟩) (out.length+1) cap8) (out.length+1) (out.map Value.string++[.string s])->(w1.alloc (.cells #[.string s] 9)).grownBy w8 vo.ownBlock->(vo.ownBlock=some g8\/g8=w1.heap.size+1) ->
      Hid (ze n₁ w8 (.slice (some ⟨g8,0,none⟩) (out.length+1) cap8) (out++[s]))/\Hid (Ap n₁ W0 vo (.slice (some ⟨g8,0,none⟩) (out.length+1) cap8) w8)):=qh (fun g8 cap8 w8 q8 gr8 hg8=>by
     have hz8:w1.heap.size+1<=w8.heap.size:=by have:=gr8.size;rwa [q6]at this
     have e2:out.length+1=(out++[s]).length:=by simp
     refine⟨qh ?_,qh (Ap.trans AP1.out ⟨(((Below.refl n₁ w1).alloc (by have:=HN.out;omega) _).grown gr8 (by rw[q6];have:=HN.out;omega) (fun g e=>(HOZ.out g e).1)),fun b hb1 hne=>(gr8.block b (by rw[q6];omega) (fun e=>hne e.symm)).trans (Below.heap_alloc _ _ _ hb1),q11 (z:=w1.heap.size) (hg8.imp id (fun e=>by omega)) (q9 _)⟩)⟩;rw[e2]
     exact q0r (by rw[qx];exact q8))
    have hbase:n₁<=(w1.alloc (.cells #[.string s] 9)).heap.size:=by rw[q6];have:=HN.out;omega
    have HBS:=qh hbase;have HR7:=qh r7;clear r7 hbase
    go_wp2_with (at_builtin;refine wpList_append_lies (w1.alloc _) rfl _ _ 42 rfl n₁ 9 iS _ 1 16 Tryz.underlying42 hS hSz hSs hSb rfl (by decide) vo out.length (out.map Value.string) (by rfl) (by have:=HR7.out;unfold ze at this;rwa [qx]at this) ⟨w1.heap.size,0,none⟩ 1 1 [.string s] (by rfl) rfl HCL.out (by simp[Value.oneCell']) (by decide) (by unfold maxLen;omega) (by omega) HBS.out (w1.heap.size+1) (q6 _ _) ?_;intro g8 cap8 w8 q8 gr8 hg8 hlt8)
    obtain⟨RO8,AP8⟩:=HX8.out g8 cap8 w8 q8 gr8 hg8;clear q8 gr8 hg8 HX8;go_wp2
    all_goals go_meet
    all_goals first
     |exact⟨RO8,AP8⟩
  case rest =>
  rename World=>wx
  obtain⟨hcR,hcA⟩:=hcut;clear m0 m1 m2 RO1 AP1 HB1 R1 HO2 z1
  go_wp2_with fail
  go_loopw [3,9,10] (fun v3 v9 v10 wr=>∃ (i:Nat) (o:List ByteArray) (vv:Value),i<=l.length/\vv=v3/\v9 = .int .i64 i/\Hid (wh kind bound il o (l.drop i)=R)/\Hid (o.length+Nd.szL (l.drop i)<=900000)/\Hid (ze n₁ wr vv o)/\Hid (Ap n₁ W0 vo vv wr)) (fun _ v9 _ _=>l.length - (intOf v9).toNat)
  case atStart=>exact⟨0,out1,_,qv _,rfl,rfl,hRR,qh (by rw[List.drop_zero];omega),hcR,hcA⟩
  case round =>
   obtain⟨i,o,vv,hi,rfl,rfl,HS,HL,HRo,HAp⟩:=hrel;clear hcR hcA hRR;have hzr:=HAp.out.1.size;have hzr2:W0.heap.size<=wr.heap.size:=hzr;have JR:=qh (show Row3 wr h (.int .i64 k) (.string s) (.slice a l.length c) from(HAp.out.2.1 h (by omega) (fun e=>by have:=HOZ.out h e;omega)).trans HR0.out);obtain⟨⟨g0,g1,g2⟩,_⟩:=JR.out.cells
   by_cases hlt:i < l.length
   ·have hlt':(i:Int) < (l.length:Int):=by omega
    have hi0:(0:Int)<=(i:Int):=by omega
    have CB:=qh (q6q k s a l.length c wr);obtain⟨BK,hBK⟩:∃ BK,zo k=BK:=⟨_,rfl⟩;have HIL2:Hid ((if BK=true then bound++[s] else bound)=il):=qh (by have:=HIL.out;rwa [hBK]at this);rw[hBK]at CB;clear hBK
    have e1:((i:Int)==(l.length:Int) - 1)=decide (i+1=l.length):=by
     rw[Bool.eq_iff_iff,beq_iff_eq,decide_eq_true_iff];omega
    have HIN:=qh (show ∀ g,vv.ownBlock=some g->g < wr.heap.size from fun g e=>by
     have h':wr.ownsRow n₁ 9 1 vv (o.map Value.string).length (o.map Value.string):=HRo.out
     exact(h'.lt g e).2)
    go_upto_region 9 with fail
    go_cut [48] (fun v wx=>v = .bool (BK && decide (i+1=l.length))/\Hid (Below wr.heap.size wr wx))
    case first =>
     go_wp2_with fail
     refine CB.out.mono ?_;rintro e w4⟨rfl,hb4⟩;have J4:=qh (JR.out.below hb4 JR.out.lt);have HB4:=qh hb4;obtain⟨⟨q0,q1,q2⟩,_⟩:=J4.out.cells;clear hb4 g0 g1 g2 CB
     cases BK with
     |false =>
      go_wp2
      all_goals go_meet
      all_goals exact⟨rfl,HB4⟩
     |true =>
      go_wp2
      all_goals go_meet
      all_goals exact⟨by first|rfl|(rw[e1];rfl),HB4⟩
    case rest =>
    rename World=>w4
    obtain⟨rfl,HB4⟩:=hcut;have hz4:=HB4.out.size;have J4:=qh (JR.out.below HB4.out JR.out.lt);have AP4:=qh (HAp.out.behind HB4.out HN.out);have RO4:=qh (show ze n₁ w4 vv o from qy HRo.out fun g e=>HB4.out.block g (HIN.out g e));have BD4:=qh (BD0.out.keep (S':=fun b=>vv.ownBlock≠some b) (w':=w4) fun b h1 h2=>⟨AP4.out.2.1 b h2 h1.1,fun e=>by rcases AP4.out.2.2 b e with e|e;exact h1.1 e;omega⟩);obtain⟨⟨q0,q1,q2⟩,_⟩:=J4.out.cells;clear g0 g1 g2 CB JR;obtain⟨G,hG⟩:∃ G,(BK && decide (i+1=l.length))=G:=⟨_,rfl⟩
    have HGB:Hid ((if i+1=l.length then il else bound)=(if G=true then bound++[s] else bound)):=qh (by
     rw[<-hG,<-HIL2.out]
     cases BK with
     |false=>simp
     |true=>simp)
    rw[hG];clear hG HIL2 e1;obtain⟨bd,hbd⟩:∃ bd,(if G=true then bound++[s] else bound)=bd:=⟨_,rfl⟩;rw[hbd]at HGB;have hbdl:bd.length<=bound.length+1:=by rw[<-hbd];split <;> simp
    have HBD:=qh hbd;clear hbd
    go_upto_if 48 with fail
    go_cut [10] (fun v wx=>Hid (BdS (fun b=>vv.ownBlock≠some b) wx v bd)/\Hid (Below w4.heap.size w4 wx))
    case first =>
     cases G with
     |false =>
      obtain rfl:bound=bd:=by have:=HBD.out;simpa using this
      go_wp2
      all_goals go_meet
      all_goals exact⟨BD4,qh (Below.refl _ _)⟩
     |true =>
      obtain rfl:bound++[s]=bd:=by have:=HBD.out;simpa using this
      obtain⟨ab,cb,hvb,_⟩:=BD4.out;subst hvb;have ST:=qh (fun w' (hb':Below w4.heap.size w4 w')=>StrSl.below BD4.out.str hb');have SK:=qh (fun w' (hb':Below w4.heap.size w4 w')=>show w'.cell? ⟨h,1,none⟩=some (.string s)/\Hid (Below w4.heap.size w4 w') from⟨(hb'.cell (p:=⟨h,1,none⟩) J4.out.lt).trans q1,qh hb'⟩);have B0:=qh (Below.refl w4.heap.size w4).drew;have B1:=qh (B0.out.alloc (q9 _) (.cells #[.string s] 9));have KA1:OwnS w4 (w4.drew.alloc (.cells #[] 9)) (.slice (some ⟨w4.heap.size,0,none⟩) 0 0) []:=OwnS.start B0.out;have KA2:=KA1.alloc (.cells #[.string s] 9)
      have KA3:OwnS w4 ((w4.drew.alloc (.cells #[.string s] 9)).alloc (.cells #[] 9)) (.slice (some ⟨w4.heap.size+1,0,none⟩) 0 0) []:=by
       have:=OwnS.start B1.out
       rwa [show(w4.drew.alloc (.cells #[.string s] 9)).heap.size=w4.heap.size+1 from by rw[q6];rfl]at this
      have SS2:StrSl ((w4.drew.alloc (.cells #[] 9)).alloc (.cells #[.string s] 9)) (.slice (some ⟨w4.heap.size+1,0,none⟩) 1 1) [s]:=by
       have:=q1v (w4.drew.alloc (.cells #[] 9)) [s] 9
       rwa [show(w4.drew.alloc (.cells #[] 9)).heap.size=w4.heap.size+1 from by rw[q6];rfl]at this
      have SS3:StrSl ((w4.drew.alloc (.cells #[.string s] 9)).alloc (.cells #[] 9)) (.slice (some ⟨w4.heap.size,0,none⟩) 1 1) [s]:=by
       have:=q1v w4.drew [s] 9;exact this.below ((Below.refl _ _).alloc (q9 _) _)
      have HQ1:bound.length+[s].length<=1000000:=by rw[List.length_singleton];omega
      have HQ0:([]:List ByteArray).length+bound.length<=1000000:=by rw[qz];omega
      have n1:∀ g,(Value.slice (some ⟨g,0,none⟩) 0 0)≠.slice none 0 0:=fun g=>by simp
      go_upto_region 10 with fail
      go_region_held3 (fun w'=>w'.cell? ⟨h,1,none⟩=some (.string s)/\Hid (Below w4.heap.size w4 w'))
       (first|exact SK.out _ B0.out|exact SK.out _ KA1.1|exact SK.out _ B1.out|exact SK.out _ KA2.1|exact SK.out _ KA3.1|exact SK.out _ k6.1|exact SK.out _ kk6.1|exact SK.out _ k7.1)
       (first
        |(refine yo (W:=w4) rfl (.tmp 49) (.tmp 50) rfl _ (by rfl) (by rfl) KA1 (n1 _) (ST.out _ KA1.1) HQ0 ?_;intro v6 w6 k6 n6 gr6;rw[List.nil_append]at k6;have kk6:=k6.alloc (.cells #[.string s] 9);have ss6:=q1v w6 [s] 9)
        |(refine yo (W:=w4) rfl (.tmp 49) (.tmp 50) rfl _ (by rfl) (by rfl) KA2 (n1 _) (ST.out _ KA2.1) HQ0 ?_;intro v6 w6 k6 n6 gr6;rw[List.nil_append]at k6;have kk6:=k6;have ss6:=q6j SS2 gr6 (by simp[Value.ownBlock]))
        |(refine yo (W:=w4) rfl (.tmp 49) (.tmp 50) rfl _ (by rfl) (by rfl) KA3 (n1 _) (ST.out _ KA3.1) HQ0 ?_;intro v6 w6 k6 n6 gr6;rw[List.nil_append]at k6;have kk6:=k6;have ss6:=q6j SS3 gr6 (by simp[Value.ownBlock]))
        |(refine yo (W:=w4) rfl (.tmp 51) (.tmp 54) rfl v6 (by rfl) (by rfl) kk6 n6 ss6 HQ1 ?_;intro v7 w7 k7 n7 gr7))
      all_goals (try go_wp2)
      all_goals go_meet
      all_goals exact⟨(BdS.of_row k7.2).keep (fun b h1 _=>⟨rfl,fun e=>by have:=HIN.out b e;omega⟩),qh k7.1⟩
    case rest =>
    rename World=>w5
    obtain⟨BD5,HB5⟩:=hcut;have hz5:=HB5.out.size;have J5:=qh (J4.out.below HB5.out J4.out.lt);have AP5:=qh (AP4.out.behind HB5.out HN.out);have RO5:=qh (show ze n₁ w5 vv o from qy RO4.out fun g e=>HB5.out.block g (by have:=HIN.out g e;omega));have T5:=qh (T0.out.keep (S':=fun b=>b < n₁) (w':=w5) fun b h1 h2=>⟨AP5.out.1.block b h1,h1⟩);obtain⟨⟨d0,d1,d2⟩,_⟩:=J5.out.cells;obtain⟨b1,o1,k1,s1,l1,a1,c1,rfl,e2,x0,x1,x2,r1⟩:=T5.out.kid i hlt;have hsz1:=y5 l i hlt;have hstep:=qg3 kind bound il o l i hlt;have hszd:=qjh l i hlt;rw[HGB.out]at hstep;rw[e2]at hsz1 hstep hszd;have hLL:=HL.out;have C5:=qh (IH.out (.mk k1 s1 l1) bd o w5 _ _ _ u10 vv (by omega) (by have:=HN.out;omega) r1 BD5.out RO5.out (by omega) (by omega));have hln:=q9z kind bd o (.mk k1 s1 l1);obtain⟨o',ho'⟩:∃ o',q0k kind bd o (.mk k1 s1 l1)=o':=⟨_,rfl⟩;rw[ho']at hstep C5 hln;have HS2:=qh (hstep.symm.trans HS.out);have HL2:Hid (o'.length+Nd.szL (l.drop (i+1))<=900000):=qh (by omega);clear hstep hln ho' r1 e2 q0 q1 q2 BD5 BD4 HS HL hsz1 hszd
    go_wp2_with fail
    refine C5.out.mono ?_;rintro e w6⟨v',rfl,hr6,hap6⟩;have RO6:=qh hr6;have AP6:=qh (AP5.out.trans hap6);clear hr6 hap6 C5 d0 d1 d2 x0 x1 x2;go_wp2;go_roundw
    case rel=>exact⟨i+1,o',v',hlt,rfl,by push_cast;rfl,HS2,HL2,RO6,AP6⟩
    case measure=>simp[intOf];omega
   ·have hlt':¬ ((i:Int) < (l.length:Int)):=by omega
    have hfin:o=R:=by
     have:=HS.out;rw[List.drop_of_length_le (by omega)]at this;simpa only[wh]using this
    subst hfin;go_wp2
    all_goals (try go_ret)
    all_goals exact⟨_,rfl,HRo.out,AP0.out _ _ HAp.out⟩
theorem qae(t:Nd)(kind:Int)(w:World)(v0 v1 v2:Value)(ht:NdR w t v0 v1 v2)(c:Int)(hv:zx t=c)(hc:c≠0) :
  Calls Tryz.prog 55 #[.agg #[v0,v1,v2],.int .i64 kind] w fun e w'=>e = .returned (.tuple #[.slice none 0 0,.int .i64 c])/\Below w.heap.size w w':=by
 obtain⟨k,s,kids,a,cap,rfl,rfl,rfl,rfl,hs,hl⟩:=ht.form;obtain⟨W0,hW0⟩:∃ W0,(w.alloc (.cells #[.int .i64 k,.string s,.slice a kids.length cap] 25)).alloc (.cells #[.int .i64 kind] 3)=W0:=⟨_,rfl⟩;have b0:Below w.heap.size w W0:=by rw[<-hW0];exact((Below.refl _ w).alloc (q9 _) _).alloc (by simp) _
 have r0:Row3 W0 w.heap.size (.int .i64 k) (.string s) (.slice a kids.length cap):=by rw[<-hW0];exact(Below.heap_alloc _ _ _ (by simp only[q6];omega)).trans (qk _ _)
 have t0:NdR W0 (.mk k s kids) (.int .i64 k) (.string s) (.slice a kids.length cap):=ht.later b0;have CC:=qh (vk _ W0 _ _ _ t0);rw[hv]at CC;have hcb:((c:Int) != 0)=true:=by rw[bne_iff_ne];exact hc
 obtain⟨⟨n0,n1,n2⟩,_⟩:=r0.cells;have HB:=qh b0;clear b0 r0 t0 ht hv hc;go_enter Tryz.func55,Tryz.ntmps55
 go_upto_region 1 with fail
 (try rw[hW0])
 clear hW0
 go_wp2_with fail
 refine CC.out.mono ?_;rintro e w1⟨rfl,hb⟩;have HB1:=qh hb;clear hb CC n0 n1 n2;go_wp2;go_ret2;exact⟨rfl,HB.out.trans (HB1.out.mono HB.out.size)⟩
def q95(kind:Int)(t:Nd)(w:World)(e:Ending)(w':World):Prop :=
 ∃ v,e = .returned (.tuple #[v,.int .i64 (zx t)])/\ze w.heap.size w' v (if zx t=0 then ye kind (zq 0 [] false t) else [])/\Below w.heap.size w w'
theorem qaf(t:Nd)(kind:Int)(w:World)(v0 v1 v2:Value)(ht:NdR w t v0 v1 v2) :
  Calls Tryz.prog 55 #[.agg #[v0,v1,v2],.int .i64 kind] w (q95 kind t w):=by
 by_cases h:zx t=0
 ·refine(qbi t kind w v0 v1 v2 ht h (q0f h).1 (q6x h).2).mono ?_
  rintro e w'⟨v,rfl,hr,hb⟩;refine⟨v,by rw[h],?_,hb⟩;rw[qj h];exact hr
 ·refine(qae t kind w v0 v1 v2 ht _ rfl h).mono ?_
  rintro e w'⟨rfl,hb⟩;refine⟨_,rfl,?_,hb⟩;rw[qd h];exact World.ownsRow_nil _ _ _ _
theorem q5k(g:Nat)(kind:Int)(hg:(g=22/\kind=15)\/(g=24/\kind=16))(t:Nd)(w:World)(v0 v1 v2:Value)(ht:NdR w t v0 v1 v2) :
  Calls Tryz.prog g #[.agg #[v0,v1,v2]] w (q95 kind t w):=by
 obtain⟨k,s,kids,a,cap,rfl,rfl,rfl,rfl,hs,hl⟩:=ht.form;obtain⟨W0,hW0⟩:∃ W0,w.alloc (.cells #[.int .i64 k,.string s,.slice a kids.length cap] 25)=W0:=⟨_,rfl⟩;have b0:Below w.heap.size w W0:=by rw[<-hW0];exact(Below.refl _ w).alloc (q9 _) _
 have z0:W0.heap.size=w.heap.size+1:=by rw[<-hW0];simp
 have r0:Row3 W0 w.heap.size (.int .i64 k) (.string s) (.slice a kids.length cap):=by rw[<-hW0];exact qk _ _
 have C0:=qaf _ kind W0 _ _ _ (ht.later b0);unfold q95 at C0 ⊢;obtain⟨L,hL⟩:∃ L,(if zx (.mk k s kids)=0 then ye kind (zq 0 [] false (.mk k s kids)) else [])=L:=⟨_,rfl⟩;obtain⟨c,hc⟩:∃ c,zx (.mk k s kids)=c:=⟨_,rfl⟩;rw[hL,hc]at C0;rw[hL,hc];have CC:=qh C0;obtain⟨⟨n0,n1,n2⟩,_⟩:=r0.cells;have HB:=qh b0;have HZ:=qh z0;clear b0 r0 ht hL hc C0 z0;rcases hg with ⟨rfl,rfl⟩|⟨rfl,rfl⟩
 ·go_enter Tryz.func22,Tryz.ntmps22
  go_upto_region 1 with fail
  (try rw[hW0])
  clear hW0
  go_wp2_with fail
  refine CC.out.mono ?_;rintro e w1⟨v,rfl,hr,hb⟩;have HB1:=qh hb;have HR:=qh hr;clear hb hr CC n0 n1 n2;go_wp2;go_ret2;exact⟨v,rfl,ju HR.out (by have:=HZ.out;omega),HB.out.trans (HB1.out.mono HB.out.size)⟩
 ·go_enter Tryz.func24,Tryz.ntmps24
  go_upto_region 1 with fail
  (try rw[hW0])
  clear hW0
  go_wp2_with fail
  refine CC.out.mono ?_;rintro e w1⟨v,rfl,hr,hb⟩;have HB1:=qh hb;have HR:=qh hr;clear hb hr CC n0 n1 n2;go_wp2;go_ret2;exact⟨v,rfl,ju HR.out (by have:=HZ.out;omega),HB.out.trans (HB1.out.mono HB.out.size)⟩
end Go.Proofs.YtkckddojlignpaaGreatDoor
