/- A part of the proof, packed: see the last text of this claim. -/
import Derived.Test.YtkckddojlignpaaGreatDoorPkNa
import Derived.Test.YtkckddojlignpaaGreatDoorPkNc
import Derived.Test.YtkckddojlignpaaGreatDoorPkNd
import Derived.Lib.BufferRead
import Derived.Maps.AppendAt
import Derived.Lib.AppendStr
import Derived.Laws.Externs
import Derived.Lib.OthersKept
import Derived.Lib.FrozenHead
set_option maxHeartbeats 20000000
set_option maxRecDepth 100000
namespace Go.Proofs.YtkckddojlignpaaGreatDoor
open Go.RowKit
theorem q46{B:Nat}{s:ByteArray}{l:List Lx.Tok}{v:Value}{w:World}{pb mi mp:Nat}(hl:Lx.scan (bs s) = .toks l)(ht:Toks B v l w)(gl:GLw w)
  (hrow:w.heap[pb]?=some (.cells #[v,.int .i64 0,.int .i64 (s.size:Nat),.map (some mi),.map (some mp)] 103 (0,0))) (hmi:StrMap w mi jn) (hmp:StrMap w mp y9) (hni:mi≠pb) (hnp:mp≠pb) (hp:2<=pb) :
  ∃ E:PE,E.pb=pb/\E.ts=l/\E.en=s.size/\PS E 0 w:=by
 have h6:=qjm hl
 have hsz:s.size<=20000:=by
  have:=(q3y hl (fun _=>True) fun _ _ _ _ _ _ _=>trivial).1
  rwa [zd]at this
 have hsm:=q6o hl;have hsl:=ht.sl;rcases ht.2 with ⟨rfl,hn⟩|⟨g,cap,cur,rfl,hg,hh,hnc,_,_,_⟩
 ·obtain rfl:l=[]:=List.length_eq_zero_iff.1 hn
  exact⟨⟨pb,[],none,0,0,0,s.size,mi,mp⟩,rfl,rfl,rfl,⟨hrow,qv _,⟨by simp,by simp,hsz,fun h=>absurd rfl h,fun h=>absurd rfl h,q9 _,fun i hi=>absurd hi (Nat.not_lt_zero _),fun i hi=>absurd hi (Nat.not_lt_zero _),fun i hi=>absurd hi (Nat.not_lt_zero _),hp,gl,hni,hnp,hmi,hmp⟩⟩⟩
 ·obtain⟨a,cap',he,hcs⟩:=hsl
  have hts:∀ i (hi:i < l.length),ql2 w g (0+i*3) (q29 l[i]):=by
   intro i hi;have hne:l.map q29≠[]:=by intro e;rw[List.map_eq_nil_iff]at e;subst e;simp at hi
   obtain⟨b,o,ha,hc⟩:=hcs hne;rw[ha]at he
   injection he with he1 he2 he3
   injection he1 with he1
   injection he1 with hb ho
   subst hb;subst ho;have:=hc i (by rw[qx];exact hi)
   rwa [List.getElem_map]at this
  refine⟨⟨pb,l,some ⟨g,0,none⟩,g,0,cap,s.size,mi,mp⟩,rfl,rfl,rfl,⟨hrow,qv _,⟨h6,hsm,hsz,fun _=>rfl,fun hne hgp=>?_,hnc,fun i hi=>(hts i hi).1,fun i hi=>(hts i hi).2.1,fun i hi=>(hts i hi).2.2,hp,gl,hni,hnp,hmi,hmp⟩⟩⟩;simp only at hgp;have h0:0 < l.length:=List.length_pos_iff.2 hne;have c:=(hts 0 h0).2.1;rw[hgp,qm _ _ _ _ _ _ hrow]at c;simp at c
theorem qk1(s:ByteArray)(l:List Lx.Tok)(hl:Lx.scan (bs s) = .toks l)(w:World)(hw:2<=w.heap.size)(gl:GLw w)(hs:s.size<=maxLen)(g:Nat)(eg:∀ args w,(callFunc g args).run Tryz.prog w = .ok (.enter g args) w)(q:Nat)
  (CW:∀ (E:PE) w,E.ts=l->E.en=s.size->PS E 0 w->Calls Tryz.prog g #[.pointer (some ⟨E.pb,0,none⟩)] w (Gr E w (.bad q))) :
  Calls Tryz.prog 39 #[.string s,F_ g] w fun e w'=>(∀ E:PE,E.ts=l->E.en=s.size->e = .returned (.tuple #[.agg #[.int .i64 0,.string ⟨#[]⟩,.slice none 0 0],.int .i64 (E.pos q:Nat),.int .i64 20]))/\Below w.heap.size w w':=by
 have C:=qh (fun w=>q24 s l hl w hs);have CI:=qh q2b;have CP:=qh q28;have CW':=qh CW;have Hl:=qh hl;have GL:=qh gl;have hmf:∀ (fn:Fn) (first cap:Array Value) (w:World),(Instr.makeFunc fn first cap).run Tryz.prog w = .ok (.func fn first cap) w:=fun _ _ _ _=>rfl
 have eg2:∀ args w,(callFunc 78 args).run Tryz.prog w = .ok (.enter 78 args) w:=enters_of Tryz.func78 (by kernel_rfl) rfl;have hb0:=qh (((Below.refl w.heap.size w).alloc (q9 _) (.cells #[.int .i64 0,.string ⟨#[]⟩,.slice none 0 0] 25)).alloc (by simp) (.cells #[.int .i64 0] 3)|>.alloc (by simp;omega) (.cells #[.int .i64 0] 26));clear hl gl CW;unfold F_
 go_enter_defers Tryz.func39,Tryz.ntmps39
 go_wp2_with fail
 refine(C.out _).mono ?_;rintro e w1⟨v,rfl,ht,hb⟩;obtain⟨va,vcap,rfl⟩:=vg ht;have z1:=hb.size;simp only[q6]at z1 ht;have bx0:Row3 w1 w.heap.size (.int .i64 0) (.string ⟨#[]⟩) (.slice none 0 0):=(hb.block w.heap.size (by simp only[q6];omega)).trans (q0x w _ _ _);have bx1:Boxed w1 (w.heap.size+1) 3 (.int .i64 0):=(hb.block (w.heap.size+1) (by simp only[q6];omega)).trans (q0a w _ _ _);have bx2:Boxed w1 (w.heap.size+1+1) 26 (.int .i64 0):=(hb.block (w.heap.size+1+1) (by simp only[q6];omega)).trans (q09 w _ _ _);have B1:=qh (hb0.out.trans (hb.mono (by simp only[q6];omega)));have d1:=bx1.cell;have d2:=bx2.cell;have f1:=bx1.frozen;have f2:=bx2.frozen;have l0:=bx0.lt;have l1:=bx1.lt;have l2:=bx2.lt;have R0:=qh bx0;have X1:=qh bx1;have X2:=qh bx2;have HT:=qh ht;clear hb bx0 bx1 bx2 z1 hb0 ht
 go_wp2_with fail
 generalize hW2:World.setCell (World.setCell w1 _ _) _ _=W2;have S2:W2.heap.size=w1.heap.size:=by rw[<-hW2,qs,qs]
 have R2:=qh (show Row3 W2 w.heap.size (.int .i64 0) (.string ⟨#[]⟩) (.slice none 0 0)by
  rw[<-hW2]
  exact(R0.out.other (p:=⟨w.heap.size+1,0,none⟩) _ (by simp)).other (p:=⟨w.heap.size+1+1,0,none⟩) _ (by simp only;omega))
 have Y1:=qh (show Boxed W2 (w.heap.size+1) 3 (.int .i64 0)by
  rw[<-hW2]
  exact zt (Boxed.set _ X1.out) ⟨w.heap.size+1+1,0,none⟩ (by simp only;omega))
 have Y2:=qh (show Boxed W2 (w.heap.size+1+1) 26 (.int .i64 0)by
  rw[<-hW2]
  exact Boxed.set _ (zt X2.out ⟨w.heap.size+1,0,none⟩ (by simp only;omega)))
 have B2:=qh (show Below w.heap.size w W2 by
  rw[<-hW2]
  exact(B1.out.setCell (p:=⟨w.heap.size+1,0,none⟩) (by simp) _).setCell (p:=⟨w.heap.size+1+1,0,none⟩) (by simp only;omega) _)
 have T2:=qh (show Toks (w.heap.size+1+1+1) (.slice va l.length vcap) l W2 by
  rw[<-hW2]
  exact x6 HT.out fun k hk _ _=>(Below.heap_setCell _ _ _ _ (by simp only;omega)).trans (Below.heap_setCell _ _ _ _ (by simp only;omega)))
 clear hW2 d1 d2 f1 f2 R0 X1 X2 B1 HT C;refine(CI.out _).mono ?_;rintro e w3⟨rfl,m3,b3⟩;simp only[S2]at m3 b3;have M3:=qh m3;have b3':=qh b3;have z3:=m3.lt;clear m3 b3 CI
 go_wp2_with fail
 refine(CP.out _).mono ?_;rintro e w4⟨rfl,m4,b4⟩;have M4:=qh m4;have b4':=qh b4;have z4:=m4.lt;clear m4 b4 CP
 go_wp2_with fail
 generalize hW5:w4.alloc (.cells #[.slice va l.length vcap,.int .i64 0,.int .i64 (s.size:Nat),.map (some w1.heap.size),.map (some w3.heap.size)] 103)=W5;have z5:W5.heap.size=w4.heap.size+1:=by rw[<-hW5,q6]
 have row5:W5.heap[w4.heap.size]?=some (.cells #[.slice va l.length vcap,.int .i64 0,.int .i64 (s.size:Nat),.map (some w1.heap.size),.map (some w3.heap.size)] 103 (0,0)):=by
  rw[<-hW5];exact qk w4 _
 have b5:Below w4.heap.size w4 W5:=by rw[<-hW5];exact(Below.refl _ _).alloc (q9 _) _
 have HK:∀ k,k < w1.heap.size->W5.heap[k]?=W2.heap[k]?:=fun k hk=>(b5.block k (by omega)).trans ((b4'.out.block k (by omega)).trans (b3'.out.block k hk))
 have BB:=qh (B2.out.trans ((b3'.out.trans ((b4'.out.trans (b5.mono (by omega))).mono (by omega))).mono (by omega)));have GL5:=GL.out.keep fun b hb _=>BB.out.block b (by omega)
 have T5:=x8 (x8 (x8 T2.out (by rw[S2];exact b3'.out)) b4'.out) b5;obtain⟨E,e1,e2,e3,hPS⟩:=q46 Hl.out T5 GL5 row5 ((M3.out.keep (b4'.out.block _ (by omega))).keep (b5.block _ (by omega))) (M4.out.keep (b5.block _ (by omega))) (by omega) (by omega) (by omega);have K:=CW'.out E _ e2 e3 hPS;rw[e1]at K;clear hW5 row5 b5 GL5 T5 M3 M4 CW' GL hPS;refine K.mono ?_;rintro e w6⟨rfl,hm,hq⟩;have HK6:∀ k,k < w1.heap.size->w6.heap[k]?=W2.heap[k]?:=fun k hk=>(hm.blk k (by omega) (by omega)).trans (HK k hk)
 have B6:=qh ((BB.out.setCell (p:=⟨E.pb,1,none⟩) (by simp only;omega) (.int .i64 (q:Nat))).trans (Below.mono hm (by omega)));have R6:=qh (show Row3 w6 w.heap.size (.int .i64 0) (.string ⟨#[]⟩) (.slice none 0 0) from(HK6 _ (by omega)).trans R2.out);have U1:=qh (show Boxed w6 (w.heap.size+1) 3 (.int .i64 0) from(HK6 _ (by omega)).trans Y1.out);have U2:=qh (show Boxed w6 (w.heap.size+1+1) 26 (.int .i64 0) from(HK6 _ (by omega)).trans Y2.out);clear K hm hq HK HK6 BB R2 Y1 Y2 T2 b3' b4' B2
 go_wp2_with fail
 refine leaves_cons (f:=78) (args:=#[.pointer (some ⟨w.heap.size,0,none⟩),.pointer (some ⟨w.heap.size+1,0,none⟩),.pointer (some ⟨w.heap.size+1+1,0,none⟩)]) (by simp) (by simp[invoke,go_sem,eg2]) ?_;unfold je;refine(q5f w.heap.size (E.pos q) [] _ _ _ 0 0 w6 R6.out U1.out.cell U2.out.cell U1.out.frozen U2.out.frozen).mono ?_;rintro e u' w7⟨rfl,rfl,b7,r7,x7,y7⟩;obtain⟨⟨c0,c1,c2⟩,_⟩:=r7.cells;refine⟨.tuple #[.agg #[.int .i64 0,.string ⟨#[]⟩,.slice none 0 0],.int .i64 (E.pos q:Nat),.int .i64 20],by simp[results,Tryz.results39,go_sem,c0,c1,c2,x7,y7],fun E' h1 h2=>?_,B6.out.trans b7⟩;have hE:E'.pos q=E.pos q:=by unfold PE.pos;rw[h1,h2,e2,e3]
 rw[hE]
theorem PS.aside{E:PE}{q:Nat}{w w':World}{b:Nat}{v0 v1:Value}{a:Option Addr}{n c:Nat}(h:PS E q w)(hR:Row3 w b v0 v1 (.slice a n c))(h2:2<=b)(he:∀ j,j≠b->w'.heap[j]?=w.heap[j]?):PS E q w':=by
 have hpb:E.pb≠b:=by
  intro e;have h1:=h.row;rw[e]at h1;have:=h1.symm.trans hR;simp[PE.row]at this
 have hmi:E.mi≠b:=by
  intro e;obtain⟨es,k,h1,_⟩:=h.g.mi;rw[e]at h1;have:=h1.symm.trans hR;simp at this
 have hmp:E.mp≠b:=by
  intro e;obtain⟨es,k,h1,_⟩:=h.g.mp;rw[e]at h1;have:=h1.symm.trans hR;simp at this
 have htb:∀ i,i < E.ts.length->E.tb≠b:=by
  intro i hi e;have c2:=h.g.c2 i hi;rw[e,qm _ _ _ _ _ _ hR]at c2;rcases Nat.lt_or_ge (E.off+i*3+2) 3 with hl|hl
  ·have h0:E.off+i*3+2=2:=by omega
   rw[h0]at c2;simp at c2
  ·rw[Array.getElem?_eq_none (by simpa using hl)]at c2
   cases c2
 have hc:∀ i,i < E.ts.length->∀ p,w'.cell? ⟨E.tb,p,none⟩=w.cell? ⟨E.tb,p,none⟩:=fun i hi p=>World.cell?_of_block (w:=w) (he E.tb (htb i hi))
 exact⟨(he _ hpb).trans h.row,h.le,⟨h.g.few,h.g.small,h.g.endS,h.g.ha,h.g.hb,h.g.hc,fun i hi=>(hc i hi _).trans (h.g.c0 i hi),fun i hi=>(hc i hi _).trans (h.g.c1 i hi),fun i hi=>(hc i hi _).trans (h.g.c2 i hi),h.g.hp,h.g.gl.keep (fun j hj _=>he j (by omega)),h.g.hmi,h.g.hmp,h.g.mi.keep (he _ hmi),h.g.mp.keep (he _ hmp)⟩⟩
theorem qf9(s:ByteArray)(l:List Lx.Tok)(hl:Lx.scan (bs s) = .toks l)(w:World)(hw:2<=w.heap.size)(gl:GLw w)(hs:s.size<=maxLen)(g:Nat)(eg:∀ args w,(callFunc g args).run Tryz.prog w = .ok (.enter g args) w)(q:Nat)(k:Int)(sx:ByteArray)(kids:List Nd)(hql:q < l.length)
  (CW:∀ (E:PE) w,E.ts=l->E.en=s.size->PS E 0 w->Calls Tryz.prog g #[.pointer (some ⟨E.pb,0,none⟩)] w (Gr E w (.ok (.mk k sx kids) q))) :
  Calls Tryz.prog 39 #[.string s,F_ g] w fun e w'=>(∀ E:PE,E.ts=l->E.en=s.size->e = .returned (.tuple #[.agg #[.int .i64 0,.string ⟨#[]⟩,.slice none 0 0],.int .i64 (E.pos q:Nat),.int .i64 20]))/\Below w.heap.size w w':=by
 have C:=qh (fun w=>q24 s l hl w hs);have CI:=qh q2b;have CP:=qh q28;have CW':=qh CW;have Hl:=qh hl;have GL:=qh gl;have hmf:∀ (fn:Fn) (first cap:Array Value) (w:World),(Instr.makeFunc fn first cap).run Tryz.prog w = .ok (.func fn first cap) w:=fun _ _ _ _=>rfl
 have eg2:∀ args w,(callFunc 78 args).run Tryz.prog w = .ok (.enter 78 args) w:=enters_of Tryz.func78 (by kernel_rfl) rfl;have hb0:=qh (((Below.refl w.heap.size w).alloc (q9 _) (.cells #[.int .i64 0,.string ⟨#[]⟩,.slice none 0 0] 25)).alloc (by simp) (.cells #[.int .i64 0] 3)|>.alloc (by simp;omega) (.cells #[.int .i64 0] 26));clear hl gl CW;unfold F_
 go_enter_defers Tryz.func39,Tryz.ntmps39
 go_wp2_with fail
 refine(C.out _).mono ?_;rintro e w1⟨v,rfl,ht,hb⟩;obtain⟨va,vcap,rfl⟩:=vg ht;have z1:=hb.size;simp only[q6]at z1 ht;have bx0:Row3 w1 w.heap.size (.int .i64 0) (.string ⟨#[]⟩) (.slice none 0 0):=(hb.block w.heap.size (by simp only[q6];omega)).trans (q0x w _ _ _);have bx1:Boxed w1 (w.heap.size+1) 3 (.int .i64 0):=(hb.block (w.heap.size+1) (by simp only[q6];omega)).trans (q0a w _ _ _);have bx2:Boxed w1 (w.heap.size+1+1) 26 (.int .i64 0):=(hb.block (w.heap.size+1+1) (by simp only[q6];omega)).trans (q09 w _ _ _);have B1:=qh (hb0.out.trans (hb.mono (by simp only[q6];omega)));have d1:=bx1.cell;have d2:=bx2.cell;have f1:=bx1.frozen;have f2:=bx2.frozen;have l0:=bx0.lt;have l1:=bx1.lt;have l2:=bx2.lt;have R0:=qh bx0;have X1:=qh bx1;have X2:=qh bx2;have HT:=qh ht;clear hb bx0 bx1 bx2 z1 hb0 ht
 go_wp2_with fail
 generalize hW2:World.setCell (World.setCell w1 _ _) _ _=W2;have S2:W2.heap.size=w1.heap.size:=by rw[<-hW2,qs,qs]
 have R2:=qh (show Row3 W2 w.heap.size (.int .i64 0) (.string ⟨#[]⟩) (.slice none 0 0)by
  rw[<-hW2]
  exact(R0.out.other (p:=⟨w.heap.size+1,0,none⟩) _ (by simp)).other (p:=⟨w.heap.size+1+1,0,none⟩) _ (by simp only;omega))
 have Y1:=qh (show Boxed W2 (w.heap.size+1) 3 (.int .i64 0)by
  rw[<-hW2]
  exact zt (Boxed.set _ X1.out) ⟨w.heap.size+1+1,0,none⟩ (by simp only;omega))
 have Y2:=qh (show Boxed W2 (w.heap.size+1+1) 26 (.int .i64 0)by
  rw[<-hW2]
  exact Boxed.set _ (zt X2.out ⟨w.heap.size+1,0,none⟩ (by simp only;omega)))
 have B2:=qh (show Below w.heap.size w W2 by
  rw[<-hW2]
  exact(B1.out.setCell (p:=⟨w.heap.size+1,0,none⟩) (by simp) _).setCell (p:=⟨w.heap.size+1+1,0,none⟩) (by simp only;omega) _)
 have T2:=qh (show Toks (w.heap.size+1+1+1) (.slice va l.length vcap) l W2 by
  rw[<-hW2]
  exact x6 HT.out fun k hk _ _=>(Below.heap_setCell _ _ _ _ (by simp only;omega)).trans (Below.heap_setCell _ _ _ _ (by simp only;omega)))
 clear hW2 d1 d2 f1 f2 R0 X1 X2 B1 HT C;refine(CI.out _).mono ?_;rintro e w3⟨rfl,m3,b3⟩;simp only[S2]at m3 b3;have M3:=qh m3;have b3':=qh b3;have z3:=m3.lt;clear m3 b3 CI
 go_wp2_with fail
 refine(CP.out _).mono ?_;rintro e w4⟨rfl,m4,b4⟩;have M4:=qh m4;have b4':=qh b4;have z4:=m4.lt;clear m4 b4 CP
 go_wp2_with fail
 generalize hW5:w4.alloc (.cells #[.slice va l.length vcap,.int .i64 0,.int .i64 (s.size:Nat),.map (some w1.heap.size),.map (some w3.heap.size)] 103)=W5;have z5:W5.heap.size=w4.heap.size+1:=by rw[<-hW5,q6]
 have row5:W5.heap[w4.heap.size]?=some (.cells #[.slice va l.length vcap,.int .i64 0,.int .i64 (s.size:Nat),.map (some w1.heap.size),.map (some w3.heap.size)] 103 (0,0)):=by
  rw[<-hW5];exact qk w4 _
 have b5:Below w4.heap.size w4 W5:=by rw[<-hW5];exact(Below.refl _ _).alloc (q9 _) _
 have HK:∀ k,k < w1.heap.size->W5.heap[k]?=W2.heap[k]?:=fun k hk=>(b5.block k (by omega)).trans ((b4'.out.block k (by omega)).trans (b3'.out.block k hk))
 have BB:=qh (B2.out.trans ((b3'.out.trans ((b4'.out.trans (b5.mono (by omega))).mono (by omega))).mono (by omega)));have GL5:=GL.out.keep fun b hb _=>BB.out.block b (by omega)
 have T5:=x8 (x8 (x8 T2.out (by rw[S2];exact b3'.out)) b4'.out) b5;obtain⟨E,e1,e2,e3,hPS⟩:=q46 Hl.out T5 GL5 row5 ((M3.out.keep (b4'.out.block _ (by omega))).keep (b5.block _ (by omega))) (M4.out.keep (b5.block _ (by omega))) (by omega) (by omega) (by omega);have K:=CW'.out E _ e2 e3 hPS;rw[e1]at K;clear hW5 row5 b5 GL5 T5 M3 M4 CW' GL;refine K.mono ?_;rintro e w6⟨⟨va6,vc6,rfl,_⟩,hm,hq⟩;have HK6:∀ k,k < w1.heap.size->w6.heap[k]?=W2.heap[k]?:=fun k hk=>(hm.blk k (by omega) (by omega)).trans (HK k hk)
 have B6:=qh ((BB.out.setCell (p:=⟨E.pb,1,none⟩) (by simp only;omega) (.int .i64 (q:Nat))).trans (Below.mono hm (by omega)));have R6:=qh (show Row3 w6 w.heap.size (.int .i64 0) (.string ⟨#[]⟩) (.slice none 0 0) from(HK6 _ (by omega)).trans R2.out);have U1:=qh (show Boxed w6 (w.heap.size+1) 3 (.int .i64 0) from(HK6 _ (by omega)).trans Y1.out);have U2:=qh (show Boxed w6 (w.heap.size+1+1) 26 (.int .i64 0) from(HK6 _ (by omega)).trans Y2.out);have P6:=qh (hm.ps hPS hq);have hpz:w.heap.size < E.pb:=by omega
 have l6:=hm.size;obtain⟨⟨c0,c1,c2⟩,g0,g1,g2⟩:=R6.out.cells;clear K hm hq HK HK6 BB R2 Y1 Y2 T2 b3' b4' B2 hPS;have h6a:=R6.out.lt;have D:=qh (fun w h=>q03 E q w h)
 go_wp2_with fail
 generalize hW7:World.setCell (World.setCell (World.setCell w6 _ _) _ _) _ _=W7
 have HE:∀ j,j≠w.heap.size->W7.heap[j]?=w6.heap[j]?:=fun j hj=>by
  rw[<-hW7];exact(Below.heap_setCell _ _ _ _ hj).trans ((Below.heap_setCell _ _ _ _ hj).trans (Below.heap_setCell _ _ _ _ hj))
 have R7:=qh (show Row3 W7 w.heap.size (.int .i64 k) (.string sx) (.slice va6 kids.length vc6)by rw[<-hW7];exact R6.out.put _ _ _);have P7:=qh (P6.out.aside R6.out hw HE);have N1:=qh (show Boxed W7 (w.heap.size+1) 3 (.int .i64 0) from(HE _ (by omega)).trans U1.out);have N2:=qh (show Boxed W7 (w.heap.size+1+1) 26 (.int .i64 0) from(HE _ (by omega)).trans U2.out);have B7:=qh (show Below w.heap.size w W7 by rw[<-hW7];exact ya B6.out (q9 _) _ _ _);obtain⟨p0,p1,p2,p3,p4⟩:=P7.out.cells;have pz:=P7.out.lt;rw[e1]at p0 p1;rw[e2]at p0;have hlt:(q:Int) < (l.length:Int):=by omega
 clear hW7 HE R6 P6 U1 U2 B6 c0 c1 c2 g0 g1 g2 p2 p3 p4
 go_quiet (fail)
 generalize hW8:W7.drewN _=W8;have b8:Below W7.heap.size W7 W8:=by rw[<-hW8];exact below_drewN (Below.refl _ _) _
 have K8:=D.out _ (P7.out.later b8);rw[e1]at K8;have h7:=R7.out.lt;have h71:=N1.out.lt;have h72:=N2.out.lt;have z8:=b8.size;have HB8:=qh b8;clear hW8 b8 p0 p1 D
 go_wp2_with fail
 refine K8.mono ?_;rintro e w9⟨rfl,b9⟩;have b89:=HB8.out.trans (b9.mono z8);have R6:=qh (show Row3 w9 w.heap.size (.int .i64 k) (.string sx) (.slice va6 kids.length vc6) from(b89.block _ h7).trans R7.out);have U1:=qh (show Boxed w9 (w.heap.size+1) 3 (.int .i64 0) from(b89.block _ h71).trans N1.out);have U2:=qh (show Boxed w9 (w.heap.size+1+1) 26 (.int .i64 0) from(b89.block _ h72).trans N2.out);have B6:=qh (B7.out.trans (b89.mono (by omega)));clear b89 b9 HB8 K8 P7 N1 N2 B7 R7
 go_wp2_with fail
 refine leaves_cons (f:=78) (args:=#[.pointer (some ⟨w.heap.size,0,none⟩),.pointer (some ⟨w.heap.size+1,0,none⟩),.pointer (some ⟨w.heap.size+1+1,0,none⟩)]) (by simp) (by simp[invoke,go_sem,eg2]) ?_;unfold je;refine(q5f w.heap.size (E.pos q) [] _ _ _ 0 0 w9 R6.out U1.out.cell U2.out.cell U1.out.frozen U2.out.frozen).mono ?_;rintro e u' w10⟨rfl,rfl,b7,r7,x7,y7⟩;obtain⟨⟨c0,c1,c2⟩,_⟩:=r7.cells;refine⟨.tuple #[.agg #[.int .i64 0,.string ⟨#[]⟩,.slice none 0 0],.int .i64 (E.pos q:Nat),.int .i64 20],by simp[results,Tryz.results39,go_sem,c0,c1,c2,x7,y7],fun E' h1 h2=>?_,B6.out.trans b7⟩;have hE:E'.pos q=E.pos q:=by unfold PE.pos;rw[h1,h2,e2,e3]
 rw[hE]
theorem qhr(s:ByteArray)(l:List Lx.Tok)(hl:Lx.scan (bs s) = .toks l)(w:World)(hw:2<=w.heap.size)(gl:GLw w)(hs:s.size<=maxLen)(g:Nat)(eg:∀ args w,(callFunc g args).run Tryz.prog w = .ok (.enter g args) w)(q:Nat)(k:Int)(sx:ByteArray)(kids:List Nd)(hql:q=l.length)(er:Nat)(he:((er:Int)==0)=true)
  (CK:∀ va vc w,NdR w (.mk k sx kids) (.int .i64 k) (.string sx) (.slice va kids.length vc)->Calls Tryz.prog 45 #[.agg #[.int .i64 k,.string sx,.slice va kids.length vc]] w fun e w'=>e = .returned (.int .i64 er)/\Below w.heap.size w w')
  (CW:∀ (E:PE) w,E.ts=l->E.en=s.size->PS E 0 w->Calls Tryz.prog g #[.pointer (some ⟨E.pb,0,none⟩)] w (Gr E w (.ok (.mk k sx kids) q))) :
  Calls Tryz.prog 39 #[.string s,F_ g] w fun e w'=>(∃ va vc,e = .returned (.tuple #[.agg #[.int .i64 k,.string sx,.slice va kids.length vc],.int .i64 0,.int .i64 0])/\NdS (fun b=>w.heap.size<=b) w' (.mk k sx kids) (.int .i64 k) (.string sx) (.slice va kids.length vc))/\Below w.heap.size w w':=by
 have C:=qh (fun w=>q24 s l hl w hs);have CI:=qh q2b;have CP:=qh q28;have CW':=qh CW;have Hl:=qh hl;have GL:=qh gl;have hmf:∀ (fn:Fn) (first cap:Array Value) (w:World),(Instr.makeFunc fn first cap).run Tryz.prog w = .ok (.func fn first cap) w:=fun _ _ _ _=>rfl
 have eg2:∀ args w,(callFunc 78 args).run Tryz.prog w = .ok (.enter 78 args) w:=enters_of Tryz.func78 (by kernel_rfl) rfl;have hb0:=qh (((Below.refl w.heap.size w).alloc (q9 _) (.cells #[.int .i64 0,.string ⟨#[]⟩,.slice none 0 0] 25)).alloc (by simp) (.cells #[.int .i64 0] 3)|>.alloc (by simp;omega) (.cells #[.int .i64 0] 26));clear hl gl CW;unfold F_
 go_enter_defers Tryz.func39,Tryz.ntmps39
 go_wp2_with fail
 refine(C.out _).mono ?_;rintro e w1⟨v,rfl,ht,hb⟩;obtain⟨va,vcap,rfl⟩:=vg ht;have z1:=hb.size;simp only[q6]at z1 ht;have bx0:Row3 w1 w.heap.size (.int .i64 0) (.string ⟨#[]⟩) (.slice none 0 0):=(hb.block w.heap.size (by simp only[q6];omega)).trans (q0x w _ _ _);have bx1:Boxed w1 (w.heap.size+1) 3 (.int .i64 0):=(hb.block (w.heap.size+1) (by simp only[q6];omega)).trans (q0a w _ _ _);have bx2:Boxed w1 (w.heap.size+1+1) 26 (.int .i64 0):=(hb.block (w.heap.size+1+1) (by simp only[q6];omega)).trans (q09 w _ _ _);have B1:=qh (hb0.out.trans (hb.mono (by simp only[q6];omega)));have d1:=bx1.cell;have d2:=bx2.cell;have f1:=bx1.frozen;have f2:=bx2.frozen;have l0:=bx0.lt;have l1:=bx1.lt;have l2:=bx2.lt;have R0:=qh bx0;have X1:=qh bx1;have X2:=qh bx2;have HT:=qh ht;clear hb bx0 bx1 bx2 z1 hb0 ht
 go_wp2_with fail
 generalize hW2:World.setCell (World.setCell w1 _ _) _ _=W2;have S2:W2.heap.size=w1.heap.size:=by rw[<-hW2,qs,qs]
 have R2:=qh (show Row3 W2 w.heap.size (.int .i64 0) (.string ⟨#[]⟩) (.slice none 0 0)by
  rw[<-hW2]
  exact(R0.out.other (p:=⟨w.heap.size+1,0,none⟩) _ (by simp)).other (p:=⟨w.heap.size+1+1,0,none⟩) _ (by simp only;omega))
 have Y1:=qh (show Boxed W2 (w.heap.size+1) 3 (.int .i64 0)by
  rw[<-hW2]
  exact zt (Boxed.set _ X1.out) ⟨w.heap.size+1+1,0,none⟩ (by simp only;omega))
 have Y2:=qh (show Boxed W2 (w.heap.size+1+1) 26 (.int .i64 0)by
  rw[<-hW2]
  exact Boxed.set _ (zt X2.out ⟨w.heap.size+1,0,none⟩ (by simp only;omega)))
 have B2:=qh (show Below w.heap.size w W2 by
  rw[<-hW2]
  exact(B1.out.setCell (p:=⟨w.heap.size+1,0,none⟩) (by simp) _).setCell (p:=⟨w.heap.size+1+1,0,none⟩) (by simp only;omega) _)
 have T2:=qh (show Toks (w.heap.size+1+1+1) (.slice va l.length vcap) l W2 by
  rw[<-hW2]
  exact x6 HT.out fun k hk _ _=>(Below.heap_setCell _ _ _ _ (by simp only;omega)).trans (Below.heap_setCell _ _ _ _ (by simp only;omega)))
 clear hW2 d1 d2 f1 f2 R0 X1 X2 B1 HT C;refine(CI.out _).mono ?_;rintro e w3⟨rfl,m3,b3⟩;simp only[S2]at m3 b3;have M3:=qh m3;have b3':=qh b3;have z3:=m3.lt;clear m3 b3 CI
 go_wp2_with fail
 refine(CP.out _).mono ?_;rintro e w4⟨rfl,m4,b4⟩;have M4:=qh m4;have b4':=qh b4;have z4:=m4.lt;clear m4 b4 CP
 go_wp2_with fail
 generalize hW5:w4.alloc (.cells #[.slice va l.length vcap,.int .i64 0,.int .i64 (s.size:Nat),.map (some w1.heap.size),.map (some w3.heap.size)] 103)=W5;have z5:W5.heap.size=w4.heap.size+1:=by rw[<-hW5,q6]
 have row5:W5.heap[w4.heap.size]?=some (.cells #[.slice va l.length vcap,.int .i64 0,.int .i64 (s.size:Nat),.map (some w1.heap.size),.map (some w3.heap.size)] 103 (0,0)):=by
  rw[<-hW5];exact qk w4 _
 have b5:Below w4.heap.size w4 W5:=by rw[<-hW5];exact(Below.refl _ _).alloc (q9 _) _
 have HK:∀ k,k < w1.heap.size->W5.heap[k]?=W2.heap[k]?:=fun k hk=>(b5.block k (by omega)).trans ((b4'.out.block k (by omega)).trans (b3'.out.block k hk))
 have BB:=qh (B2.out.trans ((b3'.out.trans ((b4'.out.trans (b5.mono (by omega))).mono (by omega))).mono (by omega)));have GL5:=GL.out.keep fun b hb _=>BB.out.block b (by omega)
 have T5:=x8 (x8 (x8 T2.out (by rw[S2];exact b3'.out)) b4'.out) b5;obtain⟨E,e1,e2,e3,hPS⟩:=q46 Hl.out T5 GL5 row5 ((M3.out.keep (b4'.out.block _ (by omega))).keep (b5.block _ (by omega))) (M4.out.keep (b5.block _ (by omega))) (by omega) (by omega) (by omega);have K:=CW'.out E _ e2 e3 hPS;rw[e1]at K;clear hW5 row5 b5 GL5 T5 M3 M4 CW' GL;refine K.mono ?_;rintro e w6⟨⟨va6,vc6,rfl,hn⟩,hm,hq⟩;have HK6:∀ k,k < w1.heap.size->w6.heap[k]?=W2.heap[k]?:=fun k hk=>(hm.blk k (by omega) (by omega)).trans (HK k hk)
 have B6:=qh ((BB.out.setCell (p:=⟨E.pb,1,none⟩) (by simp only;omega) (.int .i64 (q:Nat))).trans (Below.mono hm (by omega)));have R6:=qh (show Row3 w6 w.heap.size (.int .i64 0) (.string ⟨#[]⟩) (.slice none 0 0) from(HK6 _ (by omega)).trans R2.out);have U1:=qh (show Boxed w6 (w.heap.size+1) 3 (.int .i64 0) from(HK6 _ (by omega)).trans Y1.out);have U2:=qh (show Boxed w6 (w.heap.size+1+1) 26 (.int .i64 0) from(HK6 _ (by omega)).trans Y2.out);have P6:=qh (hm.ps hPS hq);have S6:=qh hn;have CK':=qh CK;clear hn CK;have hpz:w.heap.size < E.pb:=by omega
 have l6:=hm.size;obtain⟨⟨c0,c1,c2⟩,g0,g1,g2⟩:=R6.out.cells;clear K hm hq HK HK6 BB R2 Y1 Y2 T2 b3' b4' B2 hPS;have h6a:=R6.out.lt
 go_wp2_with fail
 generalize hW7:World.setCell (World.setCell (World.setCell w6 _ _) _ _) _ _=W7
 have HE:∀ j,j≠w.heap.size->W7.heap[j]?=w6.heap[j]?:=fun j hj=>by
  rw[<-hW7];exact(Below.heap_setCell _ _ _ _ hj).trans ((Below.heap_setCell _ _ _ _ hj).trans (Below.heap_setCell _ _ _ _ hj))
 have R7:=qh (show Row3 W7 w.heap.size (.int .i64 k) (.string sx) (.slice va6 kids.length vc6)by rw[<-hW7];exact R6.out.put _ _ _);have S7:=qh (S6.out.keep (w':=W7) (S':=fun b=>w.heap.size+1+1 < b) fun b h1 h2=>⟨HE b (by omega),by omega⟩);have P7:=qh (P6.out.aside R6.out hw HE);have N1:=qh (show Boxed W7 (w.heap.size+1) 3 (.int .i64 0) from(HE _ (by omega)).trans U1.out);have N2:=qh (show Boxed W7 (w.heap.size+1+1) 26 (.int .i64 0) from(HE _ (by omega)).trans U2.out);have B7:=qh (show Below w.heap.size w W7 by rw[<-hW7];exact ya B6.out (q9 _) _ _ _);obtain⟨p0,p1,p2,p3,p4⟩:=P7.out.cells;have pz:=P7.out.lt;rw[e1]at p0 p1;rw[e2]at p0;have hlt:decide ((q:Int) < (l.length:Int))=false:=decide_eq_false (by omega);clear hW7 HE R6 S6 P6 U1 U2 B6 c0 c1 c2 g0 g1 g2 p2 p3 p4
 go_quiet (fail)
 generalize hW8:W7.drewN _=W8;have b8:Below W7.heap.size W7 W8:=by rw[<-hW8];exact below_drewN (Below.refl _ _) _
 have h7:=R7.out.lt;have h71:=N1.out.lt;have h72:=N2.out.lt;have z8:=b8.size;have R8:=qh (show Row3 W8 w.heap.size (.int .i64 k) (.string sx) (.slice va6 kids.length vc6) from(b8.block _ h7).trans R7.out);have S8:=qh (S7.out.keep (w':=W8) (S':=fun b=>w.heap.size+1+1 < b) fun b h1 h2=>⟨b8.block b h2,h1⟩);have K8:=CK'.out va6 vc6 W8 S8.out.toR;have HB8:=qh b8;obtain⟨⟨c0,c1,c2⟩,g0,g1,g2⟩:=R8.out.cells;have h8:=R8.out.lt;clear hW8 b8 p0 p1 CK'
 go_wp2_with fail
 refine K8.mono ?_;rintro e w9⟨rfl,b9⟩;have b89:=HB8.out.trans (b9.mono z8);have R9:=qh (show Row3 w9 w.heap.size (.int .i64 k) (.string sx) (.slice va6 kids.length vc6) from(b9.block _ h8).trans R8.out);have U1:=qh (show Boxed w9 (w.heap.size+1) 3 (.int .i64 0) from(b89.block _ h71).trans N1.out);have U2:=qh (show Boxed w9 (w.heap.size+1+1) 26 (.int .i64 0) from(b89.block _ h72).trans N2.out);have S9:=qh (S8.out.keep (w':=w9) (S':=fun b=>w.heap.size+1+1 < b) fun b h1 h2=>⟨b9.block b h2,h1⟩);have B9:=qh (B7.out.trans (b89.mono (by omega)));clear b89 b9 HB8 K8 P7 N1 N2 B7 R7 c0 c1 c2 g0 g1 g2 S7 S8 R8;obtain⟨⟨c0,c1,c2⟩,g0,g1,g2⟩:=R9.out.cells;have u1:=U1.out.cell;have u2:=U2.out.cell;have v1:=U1.out.frozen;have v2:=U2.out.frozen;have h9:=R9.out.lt;have h91:=U1.out.lt;have h92:=U2.out.lt
 go_wp2_with fail
 generalize hWA:World.setCell (World.setCell (World.setCell (World.setCell (World.setCell w9 _ _) _ _) _ _) _ _) _ _=WA
 have RA:=qh (show Row3 WA w.heap.size (.int .i64 k) (.string sx) (.slice va6 kids.length vc6)by
  rw[<-hWA]
  exact((R9.out.put _ _ _).other (p:=⟨w.heap.size+1,0,none⟩) _ (by simp)).other (p:=⟨w.heap.size+1+1,0,none⟩) _ (by simp only;omega))
 have A1:=qh (show Boxed WA (w.heap.size+1) 3 (.int .i64 0)by
  rw[<-hWA]
  exact zt (Boxed.set _ (q0e U1.out (by omega))) ⟨w.heap.size+1+1,0,none⟩ (by simp only;omega))
 have A2:=qh (show Boxed WA (w.heap.size+1+1) 26 (.int .i64 0)by
  rw[<-hWA]
  exact Boxed.set _ (zt (q0e U2.out (by omega)) ⟨w.heap.size+1,0,none⟩ (by simp only;omega)))
 have BA:=qh (show Below w.heap.size w WA by
  rw[<-hWA]
  exact((ya B9.out (q9 _) _ _ _).setCell (p:=⟨w.heap.size+1,0,none⟩) (by simp) _).setCell (p:=⟨w.heap.size+1+1,0,none⟩) (by simp only;omega) _)
 have HA:∀ b,w.heap.size+1+1 < b->WA.heap[b]?=w9.heap[b]?:=fun b hb=>by
  rw[<-hWA];exact(Below.heap_setCell _ _ _ _ (by simp only;omega)).trans ((Below.heap_setCell _ _ _ _ (by simp only;omega)).trans ((Below.heap_setCell _ _ _ _ (by simp only;omega)).trans ((Below.heap_setCell _ _ _ _ (by simp only;omega)).trans (Below.heap_setCell _ _ _ _ (by simp only;omega)))))
 have zA:w9.heap.size=WA.heap.size:=by rw[<-hWA];simp only[qs]
 clear hWA c0 c1 c2 g0 g1 g2 u1 u2 v1 v2;refine leaves_cons (f:=78) (args:=#[.pointer (some ⟨w.heap.size,0,none⟩),.pointer (some ⟨w.heap.size+1,0,none⟩),.pointer (some ⟨w.heap.size+1+1,0,none⟩)]) (by simp) (by simp[invoke,go_sem,eg2]) ?_;refine(q6r w.heap.size WA).mono ?_;rintro e u' wz⟨rfl,rfl,rfl⟩;obtain⟨⟨c0,c1,c2⟩,_⟩:=(RA.out.alloc (.cells #[.int .i64 0] 98)).cells;have x1:=(vn A1.out (.cells #[.int .i64 0] 98)).cell;have x2:=(vn A2.out (.cells #[.int .i64 0] 98)).cell;refine⟨.tuple #[.agg #[.int .i64 k,.string sx,.slice va6 kids.length vc6],.int .i64 0,.int .i64 0],by simp[results,Tryz.results39,go_sem,c0,c1,c2,x1,x2],⟨va6,vc6,rfl,S9.out.keep fun b h1 h2=>⟨(Below.heap_alloc _ _ _ (by rw[<-zA];exact h2)).trans (HA b h1),by omega⟩⟩,BA.out.alloc (by rw[<-zA];omega) _⟩
theorem qcp(s:ByteArray)(l:List Lx.Tok)(hl:Lx.scan (bs s) = .toks l)(w:World)(hw:2<=w.heap.size)(gl:GLw w)(hs:s.size<=maxLen)(g:Nat)(eg:∀ args w,(callFunc g args).run Tryz.prog w = .ok (.enter g args) w)(q:Nat)(k:Int)(sx:ByteArray)(kids:List Nd)(hql:q=l.length)(er:Nat)(he:((er:Int)==0)=false)
  (CK:∀ va vc w,NdR w (.mk k sx kids) (.int .i64 k) (.string sx) (.slice va kids.length vc)->Calls Tryz.prog 45 #[.agg #[.int .i64 k,.string sx,.slice va kids.length vc]] w fun e w'=>e = .returned (.int .i64 er)/\Below w.heap.size w w')
  (CW:∀ (E:PE) w,E.ts=l->E.en=s.size->PS E 0 w->Calls Tryz.prog g #[.pointer (some ⟨E.pb,0,none⟩)] w (Gr E w (.ok (.mk k sx kids) q))) :
  Calls Tryz.prog 39 #[.string s,F_ g] w fun e w'=>(e = .returned (.tuple #[.agg #[.int .i64 0,.string ⟨#[]⟩,.slice none 0 0],.int .i64 0,.int .i64 er]))/\Below w.heap.size w w':=by
 have C:=qh (fun w=>q24 s l hl w hs);have CI:=qh q2b;have CP:=qh q28;have CW':=qh CW;have Hl:=qh hl;have GL:=qh gl;have hmf:∀ (fn:Fn) (first cap:Array Value) (w:World),(Instr.makeFunc fn first cap).run Tryz.prog w = .ok (.func fn first cap) w:=fun _ _ _ _=>rfl
 have eg2:∀ args w,(callFunc 78 args).run Tryz.prog w = .ok (.enter 78 args) w:=enters_of Tryz.func78 (by kernel_rfl) rfl;have hb0:=qh (((Below.refl w.heap.size w).alloc (q9 _) (.cells #[.int .i64 0,.string ⟨#[]⟩,.slice none 0 0] 25)).alloc (by simp) (.cells #[.int .i64 0] 3)|>.alloc (by simp;omega) (.cells #[.int .i64 0] 26));clear hl gl CW;unfold F_
 go_enter_defers Tryz.func39,Tryz.ntmps39
 go_wp2_with fail
 refine(C.out _).mono ?_;rintro e w1⟨v,rfl,ht,hb⟩;obtain⟨va,vcap,rfl⟩:=vg ht;have z1:=hb.size;simp only[q6]at z1 ht;have bx0:Row3 w1 w.heap.size (.int .i64 0) (.string ⟨#[]⟩) (.slice none 0 0):=(hb.block w.heap.size (by simp only[q6];omega)).trans (q0x w _ _ _);have bx1:Boxed w1 (w.heap.size+1) 3 (.int .i64 0):=(hb.block (w.heap.size+1) (by simp only[q6];omega)).trans (q0a w _ _ _);have bx2:Boxed w1 (w.heap.size+1+1) 26 (.int .i64 0):=(hb.block (w.heap.size+1+1) (by simp only[q6];omega)).trans (q09 w _ _ _);have B1:=qh (hb0.out.trans (hb.mono (by simp only[q6];omega)));have d1:=bx1.cell;have d2:=bx2.cell;have f1:=bx1.frozen;have f2:=bx2.frozen;have l0:=bx0.lt;have l1:=bx1.lt;have l2:=bx2.lt;have R0:=qh bx0;have X1:=qh bx1;have X2:=qh bx2;have HT:=qh ht;clear hb bx0 bx1 bx2 z1 hb0 ht
 go_wp2_with fail
 generalize hW2:World.setCell (World.setCell w1 _ _) _ _=W2;have S2:W2.heap.size=w1.heap.size:=by rw[<-hW2,qs,qs]
 have R2:=qh (show Row3 W2 w.heap.size (.int .i64 0) (.string ⟨#[]⟩) (.slice none 0 0)by
  rw[<-hW2]
  exact(R0.out.other (p:=⟨w.heap.size+1,0,none⟩) _ (by simp)).other (p:=⟨w.heap.size+1+1,0,none⟩) _ (by simp only;omega))
 have Y1:=qh (show Boxed W2 (w.heap.size+1) 3 (.int .i64 0)by
  rw[<-hW2]
  exact zt (Boxed.set _ X1.out) ⟨w.heap.size+1+1,0,none⟩ (by simp only;omega))
 have Y2:=qh (show Boxed W2 (w.heap.size+1+1) 26 (.int .i64 0)by
  rw[<-hW2]
  exact Boxed.set _ (zt X2.out ⟨w.heap.size+1,0,none⟩ (by simp only;omega)))
 have B2:=qh (show Below w.heap.size w W2 by
  rw[<-hW2]
  exact(B1.out.setCell (p:=⟨w.heap.size+1,0,none⟩) (by simp) _).setCell (p:=⟨w.heap.size+1+1,0,none⟩) (by simp only;omega) _)
 have T2:=qh (show Toks (w.heap.size+1+1+1) (.slice va l.length vcap) l W2 by
  rw[<-hW2]
  exact x6 HT.out fun k hk _ _=>(Below.heap_setCell _ _ _ _ (by simp only;omega)).trans (Below.heap_setCell _ _ _ _ (by simp only;omega)))
 clear hW2 d1 d2 f1 f2 R0 X1 X2 B1 HT C;refine(CI.out _).mono ?_;rintro e w3⟨rfl,m3,b3⟩;simp only[S2]at m3 b3;have M3:=qh m3;have b3':=qh b3;have z3:=m3.lt;clear m3 b3 CI
 go_wp2_with fail
 refine(CP.out _).mono ?_;rintro e w4⟨rfl,m4,b4⟩;have M4:=qh m4;have b4':=qh b4;have z4:=m4.lt;clear m4 b4 CP
 go_wp2_with fail
 generalize hW5:w4.alloc (.cells #[.slice va l.length vcap,.int .i64 0,.int .i64 (s.size:Nat),.map (some w1.heap.size),.map (some w3.heap.size)] 103)=W5;have z5:W5.heap.size=w4.heap.size+1:=by rw[<-hW5,q6]
 have row5:W5.heap[w4.heap.size]?=some (.cells #[.slice va l.length vcap,.int .i64 0,.int .i64 (s.size:Nat),.map (some w1.heap.size),.map (some w3.heap.size)] 103 (0,0)):=by
  rw[<-hW5];exact qk w4 _
 have b5:Below w4.heap.size w4 W5:=by rw[<-hW5];exact(Below.refl _ _).alloc (q9 _) _
 have HK:∀ k,k < w1.heap.size->W5.heap[k]?=W2.heap[k]?:=fun k hk=>(b5.block k (by omega)).trans ((b4'.out.block k (by omega)).trans (b3'.out.block k hk))
 have BB:=qh (B2.out.trans ((b3'.out.trans ((b4'.out.trans (b5.mono (by omega))).mono (by omega))).mono (by omega)));have GL5:=GL.out.keep fun b hb _=>BB.out.block b (by omega)
 have T5:=x8 (x8 (x8 T2.out (by rw[S2];exact b3'.out)) b4'.out) b5;obtain⟨E,e1,e2,e3,hPS⟩:=q46 Hl.out T5 GL5 row5 ((M3.out.keep (b4'.out.block _ (by omega))).keep (b5.block _ (by omega))) (M4.out.keep (b5.block _ (by omega))) (by omega) (by omega) (by omega);have K:=CW'.out E _ e2 e3 hPS;rw[e1]at K;clear hW5 row5 b5 GL5 T5 M3 M4 CW' GL;refine K.mono ?_;rintro e w6⟨⟨va6,vc6,rfl,hn⟩,hm,hq⟩;have HK6:∀ k,k < w1.heap.size->w6.heap[k]?=W2.heap[k]?:=fun k hk=>(hm.blk k (by omega) (by omega)).trans (HK k hk)
 have B6:=qh ((BB.out.setCell (p:=⟨E.pb,1,none⟩) (by simp only;omega) (.int .i64 (q:Nat))).trans (Below.mono hm (by omega)));have R6:=qh (show Row3 w6 w.heap.size (.int .i64 0) (.string ⟨#[]⟩) (.slice none 0 0) from(HK6 _ (by omega)).trans R2.out);have U1:=qh (show Boxed w6 (w.heap.size+1) 3 (.int .i64 0) from(HK6 _ (by omega)).trans Y1.out);have U2:=qh (show Boxed w6 (w.heap.size+1+1) 26 (.int .i64 0) from(HK6 _ (by omega)).trans Y2.out);have P6:=qh (hm.ps hPS hq);have S6:=qh hn;have CK':=qh CK;clear hn CK;have hpz:w.heap.size < E.pb:=by omega
 have l6:=hm.size;obtain⟨⟨c0,c1,c2⟩,g0,g1,g2⟩:=R6.out.cells;clear K hm hq HK HK6 BB R2 Y1 Y2 T2 b3' b4' B2 hPS;have h6a:=R6.out.lt
 go_wp2_with fail
 generalize hW7:World.setCell (World.setCell (World.setCell w6 _ _) _ _) _ _=W7
 have HE:∀ j,j≠w.heap.size->W7.heap[j]?=w6.heap[j]?:=fun j hj=>by
  rw[<-hW7];exact(Below.heap_setCell _ _ _ _ hj).trans ((Below.heap_setCell _ _ _ _ hj).trans (Below.heap_setCell _ _ _ _ hj))
 have R7:=qh (show Row3 W7 w.heap.size (.int .i64 k) (.string sx) (.slice va6 kids.length vc6)by rw[<-hW7];exact R6.out.put _ _ _);have S7:=qh (S6.out.keep (w':=W7) (S':=fun b=>w.heap.size+1+1 < b) fun b h1 h2=>⟨HE b (by omega),by omega⟩);have P7:=qh (P6.out.aside R6.out hw HE);have N1:=qh (show Boxed W7 (w.heap.size+1) 3 (.int .i64 0) from(HE _ (by omega)).trans U1.out);have N2:=qh (show Boxed W7 (w.heap.size+1+1) 26 (.int .i64 0) from(HE _ (by omega)).trans U2.out);have B7:=qh (show Below w.heap.size w W7 by rw[<-hW7];exact ya B6.out (q9 _) _ _ _);obtain⟨p0,p1,p2,p3,p4⟩:=P7.out.cells;have pz:=P7.out.lt;rw[e1]at p0 p1;rw[e2]at p0;have hlt:decide ((q:Int) < (l.length:Int))=false:=decide_eq_false (by omega);clear hW7 HE R6 S6 P6 U1 U2 B6 c0 c1 c2 g0 g1 g2 p2 p3 p4
 go_quiet (fail)
 generalize hW8:W7.drewN _=W8;have b8:Below W7.heap.size W7 W8:=by rw[<-hW8];exact below_drewN (Below.refl _ _) _
 have h7:=R7.out.lt;have h71:=N1.out.lt;have h72:=N2.out.lt;have z8:=b8.size;have R8:=qh (show Row3 W8 w.heap.size (.int .i64 k) (.string sx) (.slice va6 kids.length vc6) from(b8.block _ h7).trans R7.out);have S8:=qh (S7.out.keep (w':=W8) (S':=fun b=>w.heap.size+1+1 < b) fun b h1 h2=>⟨b8.block b h2,h1⟩);have K8:=CK'.out va6 vc6 W8 S8.out.toR;have HB8:=qh b8;obtain⟨⟨c0,c1,c2⟩,g0,g1,g2⟩:=R8.out.cells;have h8:=R8.out.lt;clear hW8 b8 p0 p1 CK'
 go_wp2_with fail
 refine K8.mono ?_;rintro e w9⟨rfl,b9⟩;have b89:=HB8.out.trans (b9.mono z8);have R9:=qh (show Row3 w9 w.heap.size (.int .i64 k) (.string sx) (.slice va6 kids.length vc6) from(b9.block _ h8).trans R8.out);have U1:=qh (show Boxed w9 (w.heap.size+1) 3 (.int .i64 0) from(b89.block _ h71).trans N1.out);have U2:=qh (show Boxed w9 (w.heap.size+1+1) 26 (.int .i64 0) from(b89.block _ h72).trans N2.out);have S9:=qh (S8.out.keep (w':=w9) (S':=fun b=>w.heap.size+1+1 < b) fun b h1 h2=>⟨b9.block b h2,h1⟩);have B9:=qh (B7.out.trans (b89.mono (by omega)));clear b89 b9 HB8 K8 P7 N1 N2 B7 R7 c0 c1 c2 g0 g1 g2 S7 S8 R8;obtain⟨⟨c0,c1,c2⟩,g0,g1,g2⟩:=R9.out.cells;have u1:=U1.out.cell;have u2:=U2.out.cell;have v1:=U1.out.frozen;have v2:=U2.out.frozen;have h9:=R9.out.lt;have h91:=U1.out.lt;have h92:=U2.out.lt
 go_wp2_with fail
 generalize hWA:World.setCell (World.setCell (World.setCell (World.setCell (World.setCell w9 _ _) _ _) _ _) _ _) _ _=WA
 have RA:=qh (show Row3 WA w.heap.size (.int .i64 0) (.string ⟨#[]⟩) (.slice none 0 0)by
  rw[<-hWA]
  exact((R9.out.put _ _ _).other (p:=⟨w.heap.size+1,0,none⟩) _ (by simp)).other (p:=⟨w.heap.size+1+1,0,none⟩) _ (by simp only;omega))
 have A1:=qh (show Boxed WA (w.heap.size+1) 3 (.int .i64 0)by
  rw[<-hWA]
  exact zt (Boxed.set _ (q0e U1.out (by omega))) ⟨w.heap.size+1+1,0,none⟩ (by simp only;omega))
 have A2:=qh (show Boxed WA (w.heap.size+1+1) 26 (.int .i64 er)by
  rw[<-hWA]
  exact Boxed.set _ (zt (q0e U2.out (by omega)) ⟨w.heap.size+1,0,none⟩ (by simp only;omega)))
 have BA:=qh (show Below w.heap.size w WA by
  rw[<-hWA]
  exact((ya B9.out (q9 _) _ _ _).setCell (p:=⟨w.heap.size+1,0,none⟩) (by simp) _).setCell (p:=⟨w.heap.size+1+1,0,none⟩) (by simp only;omega) _)
 have HA:∀ b,w.heap.size+1+1 < b->WA.heap[b]?=w9.heap[b]?:=fun b hb=>by
  rw[<-hWA];exact(Below.heap_setCell _ _ _ _ (by simp only;omega)).trans ((Below.heap_setCell _ _ _ _ (by simp only;omega)).trans ((Below.heap_setCell _ _ _ _ (by simp only;omega)).trans ((Below.heap_setCell _ _ _ _ (by simp only;omega)).trans (Below.heap_setCell _ _ _ _ (by simp only;omega)))))
 have zA:w9.heap.size=WA.heap.size:=by rw[<-hWA];simp only[qs]
 clear hWA c0 c1 c2 g0 g1 g2 u1 u2 v1 v2;refine leaves_cons (f:=78) (args:=#[.pointer (some ⟨w.heap.size,0,none⟩),.pointer (some ⟨w.heap.size+1,0,none⟩),.pointer (some ⟨w.heap.size+1+1,0,none⟩)]) (by simp) (by simp[invoke,go_sem,eg2]) ?_;refine(q6r w.heap.size WA).mono ?_;rintro e u' wz⟨rfl,rfl,rfl⟩;obtain⟨⟨c0,c1,c2⟩,_⟩:=(RA.out.alloc (.cells #[.int .i64 0] 98)).cells;have x1:=(vn A1.out (.cells #[.int .i64 0] 98)).cell;have x2:=(vn A2.out (.cells #[.int .i64 0] 98)).cell;refine⟨.tuple #[.agg #[.int .i64 0,.string ⟨#[]⟩,.slice none 0 0],.int .i64 0,.int .i64 er],by simp[results,Tryz.results39,go_sem,c0,c1,c2,x1,x2],rfl,BA.out.alloc (by rw[<-zA];omega) _⟩
def q77(l:List Lx.Tok)(en q:Nat):Nat:=match l[q]? with|some t=>t.pos|none=>en
def qfe:Value:=.agg #[.int .i64 0,.string ⟨#[]⟩,.slice none 0 0]
def qku(l:List Lx.Tok)(en:Nat)(chk:Nd->Nat)(r:Sx.PR Nd)(w:World)(e:Ending)(w':World):Prop :=
 Below w.heap.size w w' /\
 match r with
 | .bad q=>e = .returned (.tuple #[qfe,.int .i64 (q77 l en q:Nat),.int .i64 20])
 | .ok (.mk k s kids) q =>
  if q < l.length then e = .returned (.tuple #[qfe,.int .i64 (q77 l en q:Nat),.int .i64 20])
  else if chk (.mk k s kids)=0 then ∃ va vc,e = .returned (.tuple #[.agg #[.int .i64 k,.string s,.slice va kids.length vc],.int .i64 0,.int .i64 0])/\NdS (fun b=>w.heap.size<=b) w' (.mk k s kids) (.int .i64 k) (.string s) (.slice va kids.length vc)
  else e = .returned (.tuple #[qfe,.int .i64 0,.int .i64 (chk (.mk k s kids):Nat)])
theorem qe1(l:List Lx.Tok)(en q:Nat):∃ E:PE,E.ts=l/\E.en=en/\E.pos q=q77 l en q:=⟨⟨0,l,none,0,0,0,en,0,0⟩,rfl,rfl,rfl⟩
theorem qht(s:ByteArray)(l:List Lx.Tok)(hl:Lx.scan (bs s) = .toks l)(w:World)(hw:2<=w.heap.size)(gl:GLw w)(hs:s.size<=maxLen)(g:Nat)(eg:∀ args w,(callFunc g args).run Tryz.prog w = .ok (.enter g args) w)(r:Sx.PR Nd)(hr:∀ n q,r = .ok n q->q<=l.length)(chk:Nd->Nat)
  (CW:∀ (E:PE) w,E.ts=l->E.en=s.size->PS E 0 w->Calls Tryz.prog g #[.pointer (some ⟨E.pb,0,none⟩)] w (Gr E w r))
  (CK:∀ k sx kids va vc w,NdR w (.mk k sx kids) (.int .i64 k) (.string sx) (.slice va kids.length vc)->Calls Tryz.prog 45 #[.agg #[.int .i64 k,.string sx,.slice va kids.length vc]] w fun e w'=>e = .returned (.int .i64 (chk (.mk k sx kids):Nat))/\Below w.heap.size w w') :
  Calls Tryz.prog 39 #[.string s,F_ g] w (qku l s.size chk r w):=by
 cases r with
 |bad q =>
  refine(qk1 s l hl w hw gl hs g eg q CW).mono ?_;rintro e w'⟨h,hb⟩;obtain⟨E,h1,h2,h3⟩:=qe1 l s.size q;exact⟨hb,by rw[h E h1 h2,h3];rfl⟩
 |ok n q =>
  obtain⟨k,sx,kids⟩:=n
  by_cases hq:q < l.length
  ·refine(qf9 s l hl w hw gl hs g eg q k sx kids hq CW).mono ?_
   rintro e w'⟨h,hb⟩;obtain⟨E,h1,h2,h3⟩:=qe1 l s.size q;refine⟨hb,?_⟩;simp only[qj hq];rw[h E h1 h2,h3];rfl
  ·have hql:q=l.length:=by have:=hr _ _ rfl;omega
   by_cases h0:chk (.mk k sx kids)=0
   ·refine(qhr s l hl w hw gl hs g eg q k sx kids hql (chk (.mk k sx kids)) (by rw[h0];rfl) (fun va vc w h=>CK k sx kids va vc w h) CW).mono ?_
    rintro e w'⟨h,hb⟩;refine⟨hb,?_⟩;simp only[qd hq,qj h0];exact h
   ·refine(qcp s l hl w hw gl hs g eg q k sx kids hql (chk (.mk k sx kids)) (by rw[qc];omega) (fun va vc w h=>CK k sx kids va vc w h) CW).mono ?_
    rintro e w'⟨h,hb⟩;refine⟨hb,?_⟩;simp only[qd hq,qd h0];exact h
end Go.Proofs.YtkckddojlignpaaGreatDoor
namespace Go.Proofs.YtkckddojlignpaaGreatDoor
open Go.RowKit Go.Shelf
theorem qlu{ts:List Lx.Tok}{f p:Nat}{a:Nd}{q:Nat}(h:Sx.item ts f p = .ok a q):q<=ts.length:=by
 unfold Sx.item at h
 split at h
 ·cases h
 ·split at h
  ·cases h
  ·split at h
   ·rename_i ht
    cases h;have:=Sx.txt_lt (ts:=ts) (p:=_) (by rw[ht];simp);omega
   ·cases h
theorem qbp(ts:List Lx.Tok):∀ (f:Nat) (acc:List Nd) (p:Nat) (l:List Nd) (q:Nat),p<=ts.length->Sx.items ts f acc p = .ok l q->q<=ts.length
 |0,_,_,_,_,_,h=>by simp only[Sx.items]at h;cases h
 |f+1,acc,p,l,q,hp,h=>by
  simp only[Sx.items]at h
  split at h
  ·split at h
   ·cases h
   ·rename_i a q1 hi
    exact qbp ts f _ q1 l q (qlu hi) h
  ·cases h;exact hp
theorem qj8{ts:List Lx.Tok}{f:Nat}{what:Int}{n:Nd}{q:Nat}(h:Sx.whole ts f what = .ok n q):q<=ts.length:=by
 unfold Sx.whole at h
 split at h
 ·exact((Sx.form_goes ts f).2.2.1 0 _ _ h).2
 ·split at h
  ·exact((Sx.term_goes ts f).1 0 _ _ h).2
  ·split at h
   ·exact((Sx.typed_goes ts f).1 0 _ _ h).2
   ·split at h
    ·cases h
    ·rename_i l q1 hi
     cases h;exact qbp ts f _ _ _ _ (qv _) hi
def q5t(t:Nd):Nat:=(zx t).toNat
theorem qiu(t:Nd):((q5t t:Nat):Int)=zx t:=by
 unfold q5t
 have h:0<=zx t:=by
  unfold zx
  split
  ·decide
  ·split
   ·decide
   ·split <;> decide
 exact Int.toNat_of_nonneg h
def kt(l:Lx.Bs)(what:Int):Option Nd×Nat×Nat:=match Lx.scan l with
 | .bad p er=>(none,p,er)
 | .toks ts=>match Sx.whole ts (Sx.fuel ts) what with
  | .bad q=>(none,q77 ts l.length q,20)
  | .ok nd q=>if q < ts.length then(none,q77 ts l.length q,20) else if q5t nd=0 then(some nd,0,0) else(none,0,q5t nd)
def qnq(B:Nat)(w:World)(k:Int)(s:ByteArray)(a:Option Addr)(n c:Nat):Option Nd->Prop
 |none=>k=0/\s=⟨#[]⟩/\a=none/\n=0/\c=0
 |some t=>NdS (fun b=>B<=b) w t (.int .i64 k) (.string s) (.slice a n c)
def q8n(r:Option Nd×Nat×Nat)(w:World)(e:Ending)(w':World):Prop :=
 ∃ k s a n c,e = .returned (.tuple #[.agg #[.int .i64 k,.string s,.slice a n c],.int .i64 (r.2.1:Nat),.int .i64 (r.2.2:Nat)])/\Below w.heap.size w w'/\qnq w.heap.size w' k s a n c r.1
theorem q9m(s:ByteArray)(what:Int)(w:World)(hw:2<=w.heap.size)(gl:GLw w)(hs:s.size<=maxLen)(g:Nat)(eg:∀ args w,(callFunc g args).run Tryz.prog w = .ok (.enter g args) w)
  (CW:∀ (E:PE) w,yc E.ts->PS E 0 w->Calls Tryz.prog g #[.pointer (some ⟨E.pb,0,none⟩)] w (Gr E w (Sx.whole E.ts (Sx.fuel E.ts) what))) :
  Calls Tryz.prog 39 #[.string s,F_ g] w (q8n (kt (bs s) what) w):=by
 have hlen:(bs s).length=s.size:=zd s
 cases hsc:Lx.scan (bs s)with
 |bad p er =>
  refine(qhs s p er hsc (by rcases qax hsc with h|h|h <;> omega) w hs (F_ g)).mono ?_;rintro e w'⟨rfl,hb⟩;have hp:kt (bs s) what=(none,p,er):=by unfold kt;rw[hsc]
  rw[hp];exact⟨0,⟨#[]⟩,none,0,0,rfl,hb,rfl,rfl,rfl,rfl,rfl⟩
 |toks l =>
  refine(qht s l hsc w hw gl hs g eg (Sx.whole l (Sx.fuel l) what) (fun n q h=>qj8 h) q5t (fun E w h1 h2 h3=>by
   have:=CW E w (by rw[h1];exact qes hsc) h3;rw[h1]at this
   exact this) (fun k sx kids va vc w h=>(vk _ w _ _ _ h).mono fun e w' hq=>⟨by rw[hq.1,qiu],hq.2⟩)).mono ?_
  rintro e w'⟨hb,ho⟩
  have hp:kt (bs s) what=match Sx.whole l (Sx.fuel l) what with
   | .bad q=>(none,q77 l s.size q,20)
   | .ok nd q=>if q < l.length then(none,q77 l s.size q,20) else if q5t nd=0 then(some nd,0,0) else(none,0,q5t nd):=by
   unfold kt;rw[hsc,hlen]
  rw[hp]
  cases hr:Sx.whole l (Sx.fuel l) what with
  |bad q =>
   rw[hr]at ho;exact⟨0,⟨#[]⟩,none,0,0,ho,hb,rfl,rfl,rfl,rfl,rfl⟩
  |ok nd q =>
   obtain⟨k,sx,kids⟩:=nd;rw[hr]at ho;simp only at ho ⊢
   by_cases hq:q < l.length
   ·rw[qj hq]at ho ⊢
    exact⟨0,⟨#[]⟩,none,0,0,ho,hb,rfl,rfl,rfl,rfl,rfl⟩
   ·rw[qd hq]at ho ⊢
    by_cases h0:q5t (.mk k sx kids)=0
    ·rw[qj h0]at ho ⊢
     obtain⟨va,vc,he,hn⟩:=ho;exact⟨k,sx,va,kids.length,vc,he,hb,hn⟩
    ·rw[qd h0]at ho ⊢
     exact⟨0,⟨#[]⟩,none,0,0,ho,hb,rfl,rfl,rfl,rfl,rfl⟩
theorem qm0(E:PE)(w:World)(hs:yc E.ts)(h:PS E 0 w):Calls Tryz.prog 40 #[.pointer (some ⟨E.pb,0,none⟩)] w (Gr E w (Sx.whole E.ts (Sx.fuel E.ts) 1)):=by
 have:=qgv E hs 0 w h (Sx.fuel E.ts) (by unfold Sx.fuel;omega)
 have e:Sx.whole E.ts (Sx.fuel E.ts) 1=wy 1 Sx.noS (Sx.items E.ts (Sx.fuel E.ts) [] 0):=by
  unfold Sx.whole;rw[qd (by decide),qd (by decide),qd (by decide)]
  all_goals (cases Sx.items E.ts (Sx.fuel E.ts) [] 0 <;> rfl)
 rw[e];exact this
theorem qm1(E:PE)(w:World)(hs:yc E.ts)(h:PS E 0 w):Calls Tryz.prog 42 #[.pointer (some ⟨E.pb,0,none⟩)] w (Gr E w (Sx.whole E.ts (Sx.fuel E.ts) 18)):=by
 have:=qbw E hs (Sx.fuel E.ts) 0 w h (by unfold Sx.fuel;omega);unfold Sx.whole;rw[qj rfl];exact this
theorem q9i{W:World}{b:Nat}{v0 v1 v2:Value}{fn:Func}{t u u':Nat}{a:Act}{R:Ending->World->Prop}{v v':Value}(h:Row3 W b v0 v1 v2)(hr:fn.results=#[ResultVar.cell t 25,ResultVar.tmp u,ResultVar.tmp u'])(hv:(a.tmps[u]?).getD undef=v)(hv':(a.tmps[u']?).getD undef=v')(hd:a.defers=[])(ha:(a.tmps[t]?).getD undef = .pointer (some ⟨b,0,none⟩))
  (hR:R (.returned (.tuple #[.agg #[v0,v1,v2],v,v'])) W):bodyPost Tryz.prog fn R .ret a W:=by
 obtain⟨⟨c0,c1,c2⟩,_⟩:=h.cells;exact bodyPost_ret (v:=.tuple #[.agg #[v0,v1,v2],v,v']) (by simp[results,hr,go_sem,ha,hv,hv',c0,c1,c2]) hd hR
theorem qj6(s:ByteArray)(w:World)(hw:2<=w.heap.size)(gl:GLw w)(hs:s.size<=maxLen) :
  Calls Tryz.prog 9 #[.string s] w (q8n (kt (bs s) 1) w):=by
 have eg:∀ args w,(callFunc 40 args).run Tryz.prog w = .ok (.enter 40 args) w:=enters_of Tryz.func40 (by kernel_rfl) rfl;have hb0:=(Below.refl w.heap.size w).alloc (q9 _) (.cells #[.int .i64 0,.string ⟨#[]⟩,.slice none 0 0] 25);have C:=qh (q9m s 1 (w.alloc (.cells #[.int .i64 0,.string ⟨#[]⟩,.slice none 0 0] 25)) (by simp;omega) (gl.keep fun b hb1 hb2=>hb0.block b hb2) hs _ eg (fun E w hs h=>qm0 E w hs h));obtain⟨r,hr⟩:∃ r,kt (bs s) 1=r:=⟨_,rfl⟩;rw[hr]at C ⊢;obtain⟨r0,at0,er⟩:=r;have HB:=qh hb0;have R1:=qh (Row3.new w (.int .i64 0) (.string ⟨#[]⟩) (.slice none 0 0));unfold F_ at C;clear hr hb0 eg gl hw;go_enter Tryz.func9,Tryz.ntmps9
 go_wp2_with fail
 refine C.out.mono ?_;rintro e w1⟨k,sx,a,n,c,rfl,hb,hn⟩;have R2:=qh (R1.out.below hb R1.out.lt);have HB1:=qh hb;have HN:=qh hn;clear hb hn C;obtain⟨⟨n0,n1,n2⟩,m0,m1,m2⟩:=R2.out.cells;go_wp2;refine q9i (Row3.put R2.out _ _ _) rfl rfl rfl rfl rfl ⟨k,sx,a,n,c,rfl,?_,?_⟩
 ·exact(((HB.out.trans (HB1.out.mono (by simp))).setCell (p:=⟨w.heap.size,0,none⟩) (q9 _) _).setCell (p:=⟨w.heap.size,1,none⟩) (q9 _) _).setCell (p:=⟨w.heap.size,2,none⟩) (q9 _) _
 ·have h:=HN.out
  cases r0 with
  |none=>exact h
  |some t=>exact NdS.keep (fun b hb1 hb2=>⟨(Below.heap_setCell _ _ _ _ (by simp at hb1;simp only;omega)).trans ((Below.heap_setCell _ _ _ _ (by simp at hb1;simp only;omega)).trans (Below.heap_setCell _ _ _ _ (by simp at hb1;simp only;omega))),by simp at hb1;omega⟩) h
theorem q4v(s:ByteArray)(w:World)(hw:2<=w.heap.size)(gl:GLw w)(hs:s.size<=maxLen) :
  Calls Tryz.prog 11 #[.string s] w (q8n (kt (bs s) 18) w):=by
 have eg:∀ args w,(callFunc 42 args).run Tryz.prog w = .ok (.enter 42 args) w:=enters_of Tryz.func42 (by kernel_rfl) rfl;have hb0:=(Below.refl w.heap.size w).alloc (q9 _) (.cells #[.int .i64 0,.string ⟨#[]⟩,.slice none 0 0] 25);have C:=qh (q9m s 18 (w.alloc (.cells #[.int .i64 0,.string ⟨#[]⟩,.slice none 0 0] 25)) (by simp;omega) (gl.keep fun b hb1 hb2=>hb0.block b hb2) hs _ eg (fun E w hs h=>qm1 E w hs h));obtain⟨r,hr⟩:∃ r,kt (bs s) 18=r:=⟨_,rfl⟩;rw[hr]at C ⊢;obtain⟨r0,at0,er⟩:=r;have HB:=qh hb0;have R1:=qh (Row3.new w (.int .i64 0) (.string ⟨#[]⟩) (.slice none 0 0));unfold F_ at C;clear hr hb0 eg gl hw;go_enter Tryz.func11,Tryz.ntmps11
 go_wp2_with fail
 refine C.out.mono ?_;rintro e w1⟨k,sx,a,n,c,rfl,hb,hn⟩;have R2:=qh (R1.out.below hb R1.out.lt);have HB1:=qh hb;have HN:=qh hn;clear hb hn C;obtain⟨⟨n0,n1,n2⟩,m0,m1,m2⟩:=R2.out.cells;go_wp2;refine q9i (Row3.put R2.out _ _ _) rfl rfl rfl rfl rfl ⟨k,sx,a,n,c,rfl,?_,?_⟩
 ·exact(((HB.out.trans (HB1.out.mono (by simp))).setCell (p:=⟨w.heap.size,0,none⟩) (q9 _) _).setCell (p:=⟨w.heap.size,1,none⟩) (q9 _) _).setCell (p:=⟨w.heap.size,2,none⟩) (q9 _) _
 ·have h:=HN.out
  cases r0 with
  |none=>exact h
  |some t=>exact NdS.keep (fun b hb1 hb2=>⟨(Below.heap_setCell _ _ _ _ (by simp at hb1;simp only;omega)).trans ((Below.heap_setCell _ _ _ _ (by simp at hb1;simp only;omega)).trans (Below.heap_setCell _ _ _ _ (by simp at hb1;simp only;omega))),by simp at hb1;omega⟩) h
end Go.Proofs.YtkckddojlignpaaGreatDoor
namespace Go.Proofs.YtkckddojlignpaaGreatDoor
open Go.RowKit
theorem qkf:(Tryz.prog.info? 5).map (fun i=>(i.zero,i.size,i.bytes))=some (some (.int .u8 0),1,1):=by kernel_rfl
end Go.Proofs.YtkckddojlignpaaGreatDoor
namespace Go.Proofs.YtkckddojlignpaaGreatDoor
open Go.RowKit Go.Shelf
theorem qbf{w:World}{base e size n:Nat}{v:Value}{xs:List Value}(h:w.ownsRow base e size v n xs):∀ g,v.ownBlock=some g->∃ c fz,w.heap[g]?=some (.cells c e fz):=by
 intro g hg;rcases h.2 with ⟨rfl,_⟩|⟨g',cap,cur,rfl,hb,hh,_⟩
 ·simp[Value.ownBlock]at hg
 ·obtain rfl:g'=g:=by simpa[Value.ownBlock]using hg
  exact⟨_,_,hh⟩
theorem q6m:(Tryz.prog.info? 122).map (·.size)=some 2:=by kernel_rfl
theorem qd5:liesAt Tryz.prog Tryz.prog.depth 124 (2 / Tryz.prog.cellsOf 124) 0 122 1=true:=by kernel_rfl
theorem q80(b:Nat)(w:World)(h0:w.cell? ⟨b,0,none⟩=some (.pointer (some ⟨b,0,none⟩))) :
  Calls Tryz.prog 177 #[.pointer (some ⟨b,0,none⟩)] w fun e w'=>e = .returned (.tuple #[])/\w'=w:=by
 obtain⟨j,hj,_⟩:=Option.map_eq_some_iff.1 q6m;go_enter Tryz.func177,Tryz.ntmps177;go_wp2;rw[Lib.run_neq_ptr_same w _ Tryz.underlying119 hj];go_wp2;go_end0;exact⟨rfl,rfl⟩
theorem q79(b:Nat)(w:World)(h0:w.cell? ⟨b,0,none⟩=some (.pointer none))(hsh:w.shape? b=some (124,2))(hfz:w.frozen? ⟨b,0,none⟩=false) :
  Calls Tryz.prog 177 #[.pointer (some ⟨b,0,none⟩)] w fun e w'=>e = .returned (.tuple #[])/\w'=w.setCell ⟨b,0,none⟩ (.pointer (some ⟨b,0,none⟩)):=by
 obtain⟨j,hj,hjs⟩:=Option.map_eq_some_iff.1 q6m;go_enter Tryz.func177,Tryz.ntmps177;go_wp2;rw[Lib.run_to_unsafe w ⟨b,0,none⟩ Tryz.underlying119 Tryz.underlying196 hj (by rw[hjs];decide) hsh (Nat.zero_lt_succ 1)];simp only[Result.andThen];rw[Oper.upon_value];go_wp2;rw[run_callFunc_extern Tryz.func211 (by kernel_rfl) (by kernel_rfl) (by kernel_rfl) (e:=Extern.AbiNoEscape.same) (by kernel_rfl)];rw[Lib.run_noEscape];simp only[Result.andThen];rw[Oper.upon_value];go_wp2;rw[Lib.run_from_unsafe w ⟨b,0,none⟩ Tryz.underlying196 Tryz.underlying119 hj hsh qd5];simp only[Result.andThen];rw[Oper.upon_value];go_wp2;go_end0;exact⟨rfl,rfl⟩
theorem q8x(B b:Nat)(bs:List Value)(w:World)(h:Lib.IsBuilder 124 5 B b bs w) :
  Calls Tryz.prog 177 #[.pointer (some ⟨b,0,none⟩)] w fun e w'=>e = .returned (.tuple #[])/\(Lib.BuilderAt 124 5 B b (.pointer (some ⟨b,0,none⟩)) bs w'/\Below B w w'/\Lib.OthersKept 5 (some b) w w'):=by
 rcases h with h|h
 ·refine(q79 b w h.cell0 h.shape h.frozen0).mono ?_
  rintro e w'⟨rfl,rfl⟩;exact⟨rfl,h.used _,(Below.refl B w).setCell (p:=⟨b,0,none⟩) h.1 _,(Lib.OthersKept.refl _ _ w).setCell ⟨b,0,none⟩ rfl _⟩
 ·refine(q80 b w h.cell0).mono ?_
  rintro e w'⟨rfl,rfl⟩;exact⟨rfl,h,Below.refl B _,Lib.OthersKept.refl _ _ _⟩
theorem q78(B b:Nat)(bs:List Value)(s:ByteArray)(w:World)(h:Lib.IsBuilder 124 5 B b bs w)(hlen:bs.length+s.size<=140737488355328)(hBw:B<=w.heap.size) :
  Calls Tryz.prog 111 #[.pointer (some ⟨b,0,none⟩),.string s] w fun e w'=>e = .returned (.tuple #[.int .i64 s.size,.nilIface])/\(Lib.BuilderAt 124 5 B b (.pointer (some ⟨b,0,none⟩)) (bs++Lib.strCells s) w'/\Below B w w'/\Lib.OthersKept 5 (some b) w w'):=by
 obtain⟨i0,hi,hz0,hz1,hz2⟩:=info_parts qkf;go_enter Tryz.func111,Tryz.ntmps111
 go_wp2_with fail
 refine(q8x B b bs _ h).mono ?_;rintro e w1⟨rfl,h1,hb1,hk1⟩;obtain⟨hB,v,hbk,hown,hne⟩:=h1;have c0:w1.cell? ⟨b,0,none⟩=some (.pointer (some ⟨b,0,none⟩)):=by rw[xw hbk];rfl
 have c1:w1.cell? ⟨b,1,none⟩=some v:=by rw[xw hbk];rfl
 go_wp2_with (at_builtin;refine Lib.wpList_append_own_string _ rfl _ _ 120 9 rfl B 5 i0 Tryz.underlying120 Tryz.underlying9 hi hz0 hz1 hz2 _ _ _ rfl hown s rfl ?c3 ?c4 ?c5 ?_)
 case c3=>unfold maxLen;omega
 case c4=>omega
 case c5=>have:=hb1.size;omega
 intro v' w2 hown' hgrow _
 have hlt:b < w1.heap.size:=by
  rcases Nat.lt_or_ge b w1.heap.size with h'|h'
  ·exact h'
  ·simp[Array.getElem?_eq_none h']at hbk
 have hb2:w2.heap[b]?=some (.cells #[.pointer (some ⟨b,0,none⟩),v] 124 (0,0)):=by
  rw[hgrow.block b hlt (fun e=>hne e.symm)];exact hbk
 have d0:w2.cell? ⟨b,0,none⟩=some (.pointer (some ⟨b,0,none⟩)):=by rw[xw hb2];rfl
 have d1:w2.cell? ⟨b,1,none⟩=some v:=by rw[xw hb2];rfl
 have f1:w2.frozen? ⟨b,1,none⟩=false:=Lib.frozen_of_heap hb2 1
 obtain⟨ao,n',cap,rfl⟩:∃ ao n' cap,v' = .slice ao n' cap:=by
  rcases hown'.2 with ⟨hv,_⟩|⟨g,cap,cur,hv,_⟩
  ·exact⟨_,_,_,hv⟩
  ·exact⟨_,_,_,hv⟩
 go_wp2;go_ret2;refine⟨rfl,?_,?_,(hk1.grown hgrow (qbf hown)).setCell ⟨b,1,none⟩ rfl _⟩
 ·exact Lib.BuilderAt.put (T:=124) (e:=5) hB hb2 (bs':=bs++Lib.strCells s) (by simpa[Lib.strCells_length]using hown') (by decide)
 ·exact(hb1.grown hgrow (by have:=hb1.size;omega) (fun k hk=>(hown.lt k hk).1)).setCell (p:=⟨b,1,none⟩) hB _
structure Wr(B b:Nat)(w w':World):Prop where
 bl:Below B w w'
 kp:Lib.OthersKept 5 (some b) w w'
theorem Wr.refl(B b:Nat)(w:World):Wr B b w w:=⟨Below.refl _ _,Lib.OthersKept.refl _ _ _⟩
theorem Wr.trans{B b:Nat}{w w1 w2:World}(h:Wr B b w w1)(h2:Wr B b w1 w2):Wr B b w w2:=⟨h.bl.trans h2.bl,fun k o e1 e2 e3=>h2.kp k o (h.kp k o e1 e2 e3) e2 e3⟩
theorem Wr.alloc{B b:Nat}{w w1:World}(h:Wr B b w w1)(hB:B<=w1.heap.size)(o:Obj):Wr B b w (w1.alloc o):=⟨h.bl.alloc hB o,h.kp.alloc o⟩
def PrW(B b:Nat)(l:List UInt8)(w:World):Prop:=Lib.IsBuilder 124 5 B b (Lib.byteCells l) w
theorem PrW.alloc{B b:Nat}{l:List UInt8}{w:World}(h:PrW B b l w)(o:Obj):PrW B b l (w.alloc o):=by
 rcases h with ⟨h1,v,h2,h3,h4⟩|⟨h1,v,h2,h3,h4⟩
 ·exact .inl ⟨h1,v,(Below.heap_alloc _ _ _ (zg h2)).trans h2,x6 h3 fun k _ hk _=>Below.heap_alloc _ _ _ hk,h4⟩
 ·exact .inr ⟨h1,v,(Below.heap_alloc _ _ _ (zg h2)).trans h2,x6 h3 fun k _ hk _=>Below.heap_alloc _ _ _ hk,h4⟩
theorem PrW.lt{B b:Nat}{l:List UInt8}{w:World}(h:PrW B b l w):b < w.heap.size:=by
 rcases h with ⟨h1,v,h2,h3,h4⟩|⟨h1,v,h2,h3,h4⟩ <;> exact zg h2
theorem Wr.row3{B b:Nat}{w w':World}(h:Wr B b w w'){X:Nat}{v0 v1 v2:Value}(r:Row3 w X v0 v1 v2)(hX:X≠b):Row3 w' X v0 v1 v2 :=
 h.kp X _ r (fun e=>hX (zn e)) (fun c fz e=>absurd (Obj.cells.inj e).2.1 (by decide))
theorem q6h(a b:List UInt8):Lib.byteCells (a++b)=Lib.byteCells a++Lib.byteCells b:=by simp[Lib.byteCells]
theorem q94(a:List UInt8):(Lib.byteCells a).length=a.length:=by simp[Lib.byteCells]
theorem qn9(B b:Nat)(l:List UInt8)(s:ByteArray)(w:World)(h:PrW B b l w)(hlen:l.length+s.size<=140737488355328)(hBw:B<=w.heap.size) :
  Calls Tryz.prog 111 #[.pointer (some ⟨b,0,none⟩),.string s] w fun e w'=>e = .returned (.tuple #[.int .i64 s.size,.nilIface])/\PrW B b (l++bs s) w'/\Wr B b w w':=by
 refine(q78 B b _ s w h (by rw[q94];exact hlen) hBw).mono ?_;rintro e w'⟨rfl,h1,h2,h3⟩;refine⟨rfl,?_,⟨h2,h3⟩⟩;unfold PrW;rw[q6h];exact .inr h1
def xv(L:List ByteArray):List UInt8:=L.flatMap bs
theorem q4z{L:List ByteArray}{i:Nat}(h:i < L.length):xv (L.take (i+1))=xv (L.take i)++bs L[i]:=by
 unfold xv;rw[zc h,zj];simp
theorem qle(B b c:Nat)(l:List UInt8)(L:List ByteArray)(n cap:Nat)(w:World)(h:PrW B b l w)(hBw:B<=w.heap.size)(hn:n=L.length)(hL:L.length<=1000)(hlen:l.length+(xv L).length<=100000000)(hcb:c≠b)
  (hc:w.heap[c]?=some (.cells (L.map Value.string).toArray 9 (0,0))) :
  Calls Tryz.prog 157 #[.pointer (some ⟨b,0,none⟩),.slice (some ⟨c,0,none⟩) n cap] w fun e w'=>e = .returned (.tuple #[])/\PrW B b (l++xv L) w'/\Wr B b w w':=by
 subst hn;have HC:=qh hc;have HLN:=qh hlen;clear hc hlen;go_enter Tryz.func157,Tryz.ntmps157;go_wp2
 go_loopw [8] (fun v wr=>∃ i:Nat,i<=L.length/\v = .int .i64 i/\Hid (PrW B b (l++xv (L.take i)) wr)/\Hid (Wr B b w wr)) (fun v _=>L.length - (intOf v).toNat)
 case atStart=>exact⟨0,qv _,rfl,qh (by rw[List.take_zero];simpa[xv]using h),Wr.refl _ _ _⟩
 case round =>
  obtain⟨i,hi,rfl,hP,hW⟩:=hrel
  by_cases hlt:i < L.length
  ·have hlt':(i:Int) < (L.length:Int):=by omega
   have hi0:(0:Int)<=(i:Int):=by omega
   have hrow:wr.heap[c]?=some (.cells (L.map Value.string).toArray 9 (0,0)):=hW.out.kp c _ HC.out (fun e=>hcb (zn e)) (fun _ _ e=>absurd (Obj.cells.inj e).2.1 (by decide))
   have x0:wr.cell? ⟨c,i,none⟩=some (.string L[i]):=by
    rw[qm _ _ _ _ _ _ hrow];simp[hlt]
   have hsz:(l++xv (L.take i)).length+(L[i]).size<=140737488355328:=by
    have h1:=HLN.out
    have h2:(xv (L.take (i+1))).length<=(xv L).length:=by
     conv=>rhs;rw[<-List.take_append_drop (i+1) L]
     unfold xv;rw[zj,qg];omega
    rw[q4z hlt,qg,zd]at h2;rw[qg];omega
   have C:=qh (qn9 B b _ L[i] wr hP.out hsz (qo hBw hW.out.bl.size));have HT:=qh (q4z hlt);clear hsz hrow
   go_wp2_with fail
   refine C.out.mono ?_;rintro e w5⟨rfl,hp5,hw5⟩;have P5:Hid (PrW B b (l++xv (L.take (i+1))) w5):=qh (by rw[HT.out,<-qn];exact hp5);have W5:=qh (hW.out.trans hw5);clear hp5 hw5 C x0;go_wp2;go_roundw
   case rel=>exact⟨i+1,hlt,by push_cast;rfl,P5,W5⟩
   case measure=>simp[intOf];omega
  ·have hlt':¬ ((i:Int) < (L.length:Int)):=by omega
   go_wp2;go_end0;refine⟨rfl,?_,hW.out⟩;have:=hP.out
   rwa [qw (by omega)]at this
end Go.Proofs.YtkckddojlignpaaGreatDoor
namespace Go.Proofs.YtkckddojlignpaaGreatDoor
open Go.RowKit
theorem ql9{w:World}(h:GLw w):(loadVar 164 ⟨1,0,none⟩).run Tryz.prog w = .ok (.agg opsArr) w:=by
 obtain⟨t,fr,h1⟩:=h.g1;exact run_loadVar_row w 1 t _ opsArr fr _ h1 Tryz.underlying164 rfl (by kernel_rfl)
def q32(k:Int):List (List UInt8×Int)->List UInt8
 |[]=>[]
 |o :: l=>if o.2=k then o.1 else q32 k l
theorem qg9{k:Int}{i:Nat}{s:List UInt8}{c:Int}(h:openL[i]?=some (s,c)):q32 k (openL.drop i)=if c=k then s else q32 k (openL.drop (i+1)):=by
 have hi:i < openL.length:=(List.getElem?_eq_some_iff.1 h).1;rw[List.drop_eq_getElem_cons hi,(List.getElem?_eq_some_iff.1 h).2];rfl
def wq(k:Int):List UInt8:=q32 k openL
def q4k(k:Int):List (List UInt8×Int×Nat)->Option (List UInt8×Nat)
 |[]=>none
 |o :: l=>if o.2.1=k then some (o.1,o.2.2) else q4k k l
theorem qg8{k:Int}{i:Nat}{s:List UInt8}{c:Int}{b:Nat}(h:opsL[i]?=some (s,c,b)):q4k k (opsL.drop i)=if c=k then some (s,b) else q4k k (opsL.drop (i+1)):=by
 have hi:i < opsL.length:=(List.getElem?_eq_some_iff.1 h).1;rw[List.drop_eq_getElem_cons hi,(List.getElem?_eq_some_iff.1 h).2];rfl
def q2m(k:Int):Option (List UInt8×Nat):=q4k k opsL
def qan(k:Int):Option (List UInt8×Nat)->Value
 |some (s,b)=>.tuple #[.agg #[S_ s,.int .i64 k,.int .i64 (b:Nat)],.bool true]
 |none=>.tuple #[.agg #[.string ⟨#[]⟩,.int .i64 0,.int .i64 0],.bool false]
theorem q9n(k:Int)(s:ByteArray)(a:Option Addr)(n cap:Nat)(w:World)(h:GLw w)(_h2:2<=w.heap.size) :
  Calls Tryz.prog 203 #[.agg #[.int .i64 k,.string s,.slice a n cap]] w fun e w'=>e = .returned (S_ (wq k))/\Below w.heap.size w w':=by
 have hb0:=(Below.refl w.heap.size w).alloc (q9 _) (.cells #[.int .i64 k,.string s,.slice a n cap] 25);have hl:=qdt (h.keep fun b hb hl=>hb0.block b hl);have R0:=qh (Row3.new w (.int .i64 k) (.string s) (.slice a n cap));obtain⟨V,hV⟩:∃ V,wq k=V:=⟨_,rfl⟩;rw[hV];have HV:=qh hV;have HB:=qh hb0;have Hl:=qh hl;clear h hl hV hb0;go_enter Tryz.func203,Tryz.ntmps203
 go_wp2_with (refine ym rfl _ _ rfl Hl.out ?_)
 obtain⟨W,hW⟩:∃ W,w.alloc (.cells #[.int .i64 k,.string s,.slice a n cap] 25)=W:=⟨_,rfl⟩;rw[hW]at R0 HB;rw[hW];clear hW Hl
 go_loopw [6] (fun v6 wr=>∃ i:Nat,i<=20/\v6 = .int .i64 i/\Hid (q32 k (openL.drop i)=V)/\Hid (Below W.heap.size W wr)) (fun v6 _=>20 - (intOf v6).toNat)
 case atStart=>exact⟨0,qv _,rfl,HV,Below.refl _ _⟩
 case round =>
  obtain⟨i,hi,rfl,hrun,hbl⟩:=hrel
  by_cases hlt:i < 20
  ·have hlt':(i:Int) < 20:=by omega
   obtain⟨t,c,hget,hidx⟩:=q9x i hlt wr;have Hidx:=qh hidx;have Hst:=qh (qg9 (k:=k) hget);have hm1:(i:Int)+1<=20:=by omega
   have R1:=qh (R0.out.below hbl.out R0.out.lt);have R2:=qh (R1.out.alloc (.cells #[S_ t,.int .i64 c] 160));obtain⟨⟨n0,n1,n2⟩,_⟩:=R2.out.cells;clear hidx hget
   by_cases hs:c=k
   ·have HF:=qh (hrun.out.symm.trans (Hst.out.trans (qj hs)))
    have hs':((c:Int)==k)=true:=by rw[beq_iff_eq];exact hs
    clear hs;unfold S_ at Hidx n0 n1 n2
    go_wp2_with (refine xm rfl _ _ _ rfl rfl rfl Hidx.out ?_)
    go_ret;exact⟨by rw[HF.out];rfl,HB.out.trans ((hbl.out.alloc hbl.out.size _).mono (by have:=R0.out.lt;omega))⟩
   ·have HF:=qh ((Hst.out.trans (qd hs)).symm.trans hrun.out)
    have hs':((c:Int)==k)=false:=by rw[qc];exact hs
    clear hs;unfold S_ at Hidx n0 n1 n2
    go_wp2_with (refine xm rfl _ _ _ rfl rfl rfl Hidx.out ?_)
    go_roundw
    case rel=>exact⟨i+1,hlt,by push_cast;rfl,HF,hbl.out.alloc hbl.out.size _⟩
    case measure=>simp[intOf];omega
  ·have hlt':¬ ((i:Int) < 20):=by omega
   obtain rfl:i=20:=by omega
   have HF:Hid ([]=V):=qh hrun.out;go_wp2;go_ret;exact⟨by rw[<-HF.out];rfl,HB.out.trans (hbl.out.mono (by have:=R0.out.lt;omega))⟩
def RowO(W:World)(b:Nat)(v0 v1 v2:Value):Prop:=W.heap[b]?=some (.cells #[v0,v1,v2] 163 (0,0))
section
variable {W:World} {b:Nat} {v0 v1 v2:Value}
theorem RowO.cells(h:RowO W b v0 v1 v2):(W.cell? ⟨b,0,none⟩=some v0/\W.cell? ⟨b,1,none⟩=some v1/\W.cell? ⟨b,2,none⟩=some v2)/\W.frozen? ⟨b,0,none⟩=false/\W.frozen? ⟨b,1,none⟩=false/\W.frozen? ⟨b,2,none⟩=false:=by
 have h0:W.heap[b]?=some (.cells #[v0,v1,v2] 163 (0,0)):=h;exact⟨⟨qm _ _ _ _ _ _ h0,qm _ _ _ _ _ _ h0,qm _ _ _ _ _ _ h0⟩,by simp[World.frozen?,h0],by simp[World.frozen?,h0],by simp[World.frozen?,h0]⟩
theorem RowO.lt(h:RowO W b v0 v1 v2):b < W.heap.size:=zg h
theorem RowO.alloc(h:RowO W b v0 v1 v2)(o:Obj):RowO (W.alloc o) b v0 v1 v2:=(Below.heap_alloc _ _ _ h.lt).trans h
theorem RowO.below{W':World}{n:Nat}(h:RowO W b v0 v1 v2)(hb:Below n W W')(hn:b < n):RowO W' b v0 v1 v2:=(hb.block b hn).trans h
theorem RowO.put(h:RowO W b v0 v1 v2)(u0 u1 u2:Value):RowO (((W.setCell ⟨b,0,none⟩ u0).setCell ⟨b,1,none⟩ u1).setCell ⟨b,2,none⟩ u2) b u0 u1 u2:=by
 have h0:W.heap[b]?=some (.cells #[v0,v1,v2] 163 (0,0)):=h;exact(zp (zp (zp h0))).trans rfl
theorem qdv{fn:Func}{t u:Nat}{a:Act}{R:Ending->World->Prop}{v:Value}(h:RowO W b v0 v1 v2)(hr:fn.results=#[ResultVar.cell t 163,ResultVar.tmp u])(hv:(a.tmps[u]?).getD undef=v)(hd:a.defers=[])(ha:(a.tmps[t]?).getD undef = .pointer (some ⟨b,0,none⟩))
  (hR:R (.returned (.tuple #[.agg #[v0,v1,v2],v])) W):bodyPost Tryz.prog fn R .ret a W:=by
 obtain⟨⟨c0,c1,c2⟩,_⟩:=h.cells;exact bodyPost_ret (v:=.tuple #[.agg #[v0,v1,v2],v]) (by simp[results,hr,go_sem,ha,hv,c0,c1,c2]) hd hR
end
theorem q3i(k:Int)(s:ByteArray)(a:Option Addr)(n cap:Nat)(w:World)(h:GLw w)(_h2:2<=w.heap.size) :
  Calls Tryz.prog 205 #[.agg #[.int .i64 k,.string s,.slice a n cap]] w fun e w'=>e = .returned (qan k (q2m k))/\Below w.heap.size w w':=by
 obtain⟨W,hW⟩:∃ W,(w.alloc (.cells #[.int .i64 k,.string s,.slice a n cap] 25)).alloc (.cells #[.string ⟨#[]⟩,.int .i64 0,.int .i64 0] 163)=W:=⟨_,rfl⟩;have hb0:=((Below.refl w.heap.size w).alloc (q9 _) (.cells #[.int .i64 k,.string s,.slice a n cap] 25)).alloc (by simp) (.cells #[.string ⟨#[]⟩,.int .i64 0,.int .i64 0] 163);have hl:=ql9 (h.keep fun b hb hl=>hb0.block b hl);have R0:=qh ((Row3.new w (.int .i64 k) (.string s) (.slice a n cap)).alloc (.cells #[.string ⟨#[]⟩,.int .i64 0,.int .i64 0] 163));have O0:Hid (RowO W (w.heap.size+1) (.string ⟨#[]⟩) (.int .i64 0) (.int .i64 0)):=qh (by rw[<-hW];exact za (by simp));obtain⟨V,hV⟩:∃ V,q2m k=V:=⟨_,rfl⟩;rw[hV];have HV:=qh hV;have HB:=qh hb0;have Hl:=qh hl;have HW:=qh hW;clear h hl hV hb0 hW;go_enter Tryz.func205,Tryz.ntmps205
 go_wp2_with (refine ym rfl _ _ rfl Hl.out ?_)
 rw[HW.out]at R0 HB;rw[HW.out];clear HW Hl
 go_loopw [7] (fun v6 wr=>∃ i:Nat,i<=8/\v6 = .int .i64 i/\Hid (q4k k (opsL.drop i)=V)/\Hid (Below W.heap.size W wr)) (fun v6 _=>8 - (intOf v6).toNat)
 case atStart=>exact⟨0,qv _,rfl,HV,Below.refl _ _⟩
 case round =>
  obtain⟨i,hi,rfl,hrun,hbl⟩:=hrel;have O1:=qh (O0.out.below hbl.out O0.out.lt)
  by_cases hlt:i < 8
  ·have hlt':(i:Int) < 8:=by omega
   obtain⟨t,c,b,hget,hne,hidx⟩:=qbt i hlt wr;have Hidx:=qh hidx;have Hst:=qh (qg8 (k:=k) hget);have hm1:(i:Int)+1<=8:=by omega
   have R1:=qh (R0.out.below hbl.out R0.out.lt);have R2:=qh (R1.out.alloc (.cells #[S_ t,.int .i64 c,.int .i64 (b:Nat)] 163));have O2:=qh (O1.out.alloc (.cells #[S_ t,.int .i64 c,.int .i64 (b:Nat)] 163));obtain⟨⟨n0,n1,n2⟩,_⟩:=R2.out.cells;obtain⟨⟨o0,o1,o2⟩,p0,p1,p2⟩:=O2.out.cells;clear hidx hget hne
   by_cases hs:c=k
   ·have HF:=qh (hrun.out.symm.trans (Hst.out.trans (qj hs)))
    have hs':((c:Int)==k)=true:=by rw[beq_iff_eq];exact hs
    have Hs:=qh hs;clear hs;unfold S_ at Hidx n0 n1 n2 O2 o0 o1 o2 p0 p1 p2
    go_wp2_with (refine xm rfl _ _ _ rfl rfl rfl Hidx.out ?_)
    refine qdv (O2.out.put _ _ _) Tryz.results205 rfl rfl rfl ?_;exact⟨by rw[HF.out,<-Hs.out];rfl,ya (HB.out.trans ((hbl.out.alloc hbl.out.size _).mono (by have:=R0.out.lt;omega))) (by omega) _ _ _⟩
   ·have HF:=qh ((Hst.out.trans (qd hs)).symm.trans hrun.out)
    have hs':((c:Int)==k)=false:=by rw[qc];exact hs
    clear hs;unfold S_ at Hidx n0 n1 n2 O2 o0 o1 o2 p0 p1 p2
    go_wp2_with (refine xm rfl _ _ _ rfl rfl rfl Hidx.out ?_)
    go_roundw
    case rel=>exact⟨i+1,hlt,by push_cast;rfl,HF,hbl.out.alloc hbl.out.size _⟩
    case measure=>simp[intOf];omega
  ·have hlt':¬ ((i:Int) < 8):=by omega
   obtain rfl:i=8:=by omega
   have HF:Hid (none=V):=qh hrun.out;obtain⟨⟨o0,o1,o2⟩,p0,p1,p2⟩:=O1.out.cells;go_wp2;refine qdv (O1.out.put _ _ _) Tryz.results205 rfl rfl rfl ?_;exact⟨by rw[<-HF.out];rfl,ya (HB.out.trans (hbl.out.mono (by have:=R0.out.lt;omega))) (by omega) _ _ _⟩
abbrev Tx:=List UInt8
theorem x9(l:Tx):bs ⟨l.toArray⟩=l:=rfl
def qk2(k:Int)(bind:Nat)(more:Bool):Bool:=(match q2m k with|some (_,b)=>decide (b < bind)|none=>false)||((decide (k=18)||decide (k=19)) && more)
def qeg(k:Int)(f:Bool->Tx)(bind:Nat)(more:Bool):Tx:=if qk2 k bind more then 40 :: (f false++[41]) else f more
def q2o(l:List Nd)(ks:List (Bool->Tx))(i bind:Nat)(more:Bool):Tx:=match l[i]?,ks[i]? with
 |some (.mk k _ _),some f=>qeg k f bind more
 |_,_=>[]
def qgo(x:Nd)(f:Bool->Tx):Tx:=match x with| .mk k s l=>if k=17\/0 < l.length then 40 :: (f false++[41]) else bs s
def y8(s:ByteArray)(l:List Nd)(ks:List (Bool->Tx)):Tx:=bs s++((if 1 < l.length then [58,32]++q2o l ks 0 6 false else [])++([46,32]++q2o l ks (l.length - 1) 0 false))
def q82(k:Int):Tx:=match q2m k with|some (s,_)=>s|none=>[]
def q5h(k:Int):Nat:=match q2m k with|some (_,b)=>b|none=>0
def q64(b:Nat):Nat:=if b=0 then 0 else b+1
def q3d(b:Nat):Nat:=if b=0 then 1 else b
def qao(k:Int)(s:ByteArray)(l:List Nd)(ks:List (Bool->Tx))(more:Bool):Tx :=
 if k=15\/k=16 then bs s++(l.zip ks).flatMap fun p=>32 :: qgo p.1 p.2
 else if k=17 then wq k++y8 s l ks
 else if k=18\/k=19 then(wq k++[32])++y8 s l ks
 else if k=20\/k=21 then wq k
 else if k=29 then wq k++q2o l ks 0 5 more
 else if k=30 then wq k++(q2o l ks 0 0 false++[125])
 else q2o l ks 0 (q64 (q5h k)) true++(([32]++(q82 k++[32]))++q2o l ks 1 (q3d (q5h k)) more)
mutual
def Nd.bare:Nd->Bool->Tx
 | .mk k s l=>fun more=>qao k s l (Nd.bareL l) more
def Nd.bareL:List Nd->List (Bool->Tx)
 |[]=>[]
 |a :: l=>Nd.bare a :: Nd.bareL l
end
theorem q5z:∀ l:List Nd,Nd.bareL l=l.map Nd.bare
 |[]=>by simp only[Nd.bareL,List.map_nil]
 |a :: l=>by simp only[Nd.bareL,List.map_cons];rw[q5z l]
def Nd.kd:Nd->Int| .mk k _ _=>k
def Nd.txt(t:Nd)(bind:Nat)(more:Bool):Tx:=qeg t.kd t.bare bind more
def Nd.arg(t:Nd):Tx:=qgo t t.bare
theorem q0w{l:List Nd}{i:Nat}(h:i < l.length)(bind:Nat)(more:Bool):q2o l (Nd.bareL l) i bind more=(l[i]).txt bind more:=by
 unfold q2o;rw[q5z,qq h,List.getElem?_map,qq h];generalize l[i]=x
 cases x;rfl
theorem q4x:∀ l:List Nd,(l.zip (l.map Nd.bare)).flatMap (fun p=>32 :: qgo p.1 p.2)=l.flatMap fun x=>32 :: x.arg
 |[]=>rfl
 |a :: l=>by simp only[List.map_cons,List.zip_cons_cons,List.flatMap_cons];rw[q4x l];rfl
theorem q5y{k:Int}(h:k=15\/k=16)(s:ByteArray)(l:List Nd)(more:Bool):(Nd.mk k s l).bare more=bs s++l.flatMap fun x=>32 :: x.arg:=by
 simp only[Nd.bare,qao];rw[qj h,q5z,q4x]
def ji(k:Int)(n:Nat):Bool:=decide (k=15)||(decide (k=16)||((decide (17<=k) && decide (k<=19) && (decide (n=1)||decide (n=2)))||(decide (k=20)||(decide (k=21)||(((decide (k=29)||decide (k=30)) && decide (1<=n))||((decide (22<=k) && decide (k<=28)||decide (k=31)) && decide (2<=n)))))))
mutual
def Nd.okP:Nd->Bool
 | .mk k s l=>ji k l.length && (decide (s.size<=64) && Nd.okL l)
def Nd.okL:List Nd->Bool
 |[]=>true
 |a :: l=>a.okP && Nd.okL l
end
theorem q91:∀ {l:List Nd} (_:Nd.okL l=true) (i:Nat) (h:i < l.length),(l[i]).okP=true
 |a :: l,ho,0,_=>by simp only[Nd.okL,ql]at ho;exact ho.1
 |a :: l,ho,i+1,h=>by
  simp only[Nd.okL,ql]at ho;simpa using q91 ho.2 i (by simpa using h)
theorem PrW.later{B b:Nat}{l:List UInt8}{w w':World}(h:PrW B b l w)(hb:Below w.heap.size w w'):PrW B b l w':=by
 rcases h with ⟨h1,v,h2,h3,h4⟩|⟨h1,v,h2,h3,h4⟩
 ·exact .inl ⟨h1,v,(hb.block _ (zg h2)).trans h2,x6 h3 fun k _ hk _=>hb.block _ hk,h4⟩
 ·exact .inr ⟨h1,v,(hb.block _ (zg h2)).trans h2,x6 h3 fun k _ hk _=>hb.block _ hk,h4⟩
theorem Wr.of{B b:Nat}{w w':World}(hb:Below w.heap.size w w')(hB:B<=w.heap.size):Wr B b w w':=⟨hb.mono hB,fun k _ e1 _ _=>(hb.block k (zg e1)).trans e1⟩
theorem Wr.later{B b:Nat}{w w1 w':World}(h:Wr B b w w1)(hb:Below w1.heap.size w1 w')(hB:B<=w1.heap.size):Wr B b w w':=h.trans (Wr.of hb hB)
theorem Wr.rowO{B b:Nat}{w w':World}(h:Wr B b w w'){X:Nat}{v0 v1 v2:Value}(r:RowO w X v0 v1 v2)(hX:X≠b):RowO w' X v0 v1 v2 :=
 h.kp X _ r (fun e=>hX (zn e)) (fun c fz e=>absurd (Obj.cells.inj e).2.1 (by decide))
structure PrI(w0:World)(b:Nat)(l:Tx)(w:World):Prop where
 p:PrW w0.heap.size b l w
 bl:Below w0.heap.size w0 w
 gl:GLw w0
 two:2<=w0.heap.size
theorem PrI.size{w0:World}{b:Nat}{l:Tx}{w:World}(h:PrI w0 b l w):w0.heap.size<=w.heap.size:=h.bl.size
theorem PrI.alloc{w0:World}{b:Nat}{l:Tx}{w:World}(h:PrI w0 b l w)(o:Obj):PrI w0 b l (w.alloc o):=⟨h.p.alloc o,h.bl.alloc h.size o,h.gl,h.two⟩
theorem PrI.later{w0:World}{b:Nat}{l:Tx}{w w':World}(h:PrI w0 b l w)(hb:Below w.heap.size w w'):PrI w0 b l w':=⟨h.p.later hb,h.bl.trans (hb.mono h.size),h.gl,h.two⟩
theorem PrI.next{w0:World}{b:Nat}{l l':Tx}{w w':World}(h:PrI w0 b l w)(hp:PrW w0.heap.size b l' w')(hw:Wr w0.heap.size b w w'):PrI w0 b l' w':=⟨hp,h.bl.trans hw.bl,h.gl,h.two⟩
theorem PrI.glw{w0:World}{b:Nat}{l:Tx}{w:World}(h:PrI w0 b l w):GLw w:=h.gl.keep fun k _ hl=>h.bl.block k hl
theorem PrI.two'{w0:World}{b:Nat}{l:Tx}{w:World}(h:PrI w0 b l w):2<=w.heap.size:=qo h.two h.size
theorem PrI.tree{w0:World}{b:Nat}{l:Tx}{w:World}(h:PrI w0 b l w){t:Nd}{v0 v1 v2:Value}(ht:NdR w0 t v0 v1 v2):NdR w t v0 v1 v2:=ht.later h.bl
theorem PrI.cell{w0:World}{b:Nat}{l:Tx}{w:World}(h:PrI w0 b l w){p:Addr}{v:Value}(hc:w0.cell? p=some v):w.cell? p=some v:=(h.bl.cell (World.block_lt_of_cell? w0 p hc)).trans hc
def PrO(w0:World)(b:Nat)(l:Tx)(w:World)(T:Tx)(e:Ending)(w':World):Prop:=e = .returned (.tuple #[])/\PrI w0 b (l++T) w'/\Wr w0.heap.size b w w'
theorem qjw{w0:World}{b:Nat}{l:Tx}{w:World}(h:PrI w0 b l w)(L:List ByteArray)(hL:L.length<=1000)(hlen:l.length+(xv L).length<=100000000) :
  Calls Tryz.prog 157 #[.pointer (some ⟨b,0,none⟩),.slice (some ⟨w.heap.size,0,none⟩) L.length L.length] (w.alloc (.cells (L.map Value.string).toArray 9)) (PrO w0 b l w (xv L)):=by
 refine(qle w0.heap.size b w.heap.size l L L.length L.length _ (h.alloc _).p (h.alloc _).size rfl hL hlen (by have:=h.p.lt;omega) (qk w _)).mono ?_;rintro e w'⟨rfl,h1,h2⟩;have hw:=((Wr.refl w0.heap.size b w).alloc h.size _).trans h2;exact⟨rfl,h.next h1 hw,hw⟩
theorem put1{w0:World}{b:Nat}{l:Tx}{w:World}(h:PrI w0 b l w)(n:Nat)(hn:n=w.heap.size)(s:ByteArray)(hlen:l.length+(bs s).length<=100000000) :
  Calls Tryz.prog 157 #[.pointer (some ⟨b,0,none⟩),.slice (some ⟨n,0,none⟩) 1 1] (w.alloc (.cells #[.string s] 9)) (PrO w0 b l w (bs s)):=by
 subst hn;have:=qjw h [s] (by simp) (by simpa[xv]using hlen);simpa[xv]using this
theorem put2{w0:World}{b:Nat}{l:Tx}{w:World}(h:PrI w0 b l w)(n:Nat)(hn:n=w.heap.size)(s t:ByteArray)(hlen:l.length+(bs s++bs t).length<=100000000) :
  Calls Tryz.prog 157 #[.pointer (some ⟨b,0,none⟩),.slice (some ⟨n,0,none⟩) 2 2] (w.alloc (.cells #[.string s,.string t] 9)) (PrO w0 b l w (bs s++bs t)):=by
 subst hn;have:=qjw h [s,t] (by simp) (by simpa[xv]using hlen);simpa[xv]using this
theorem put3{w0:World}{b:Nat}{l:Tx}{w:World}(h:PrI w0 b l w)(n:Nat)(hn:n=w.heap.size)(s t u:ByteArray)(hlen:l.length+(bs s++(bs t++bs u)).length<=100000000) :
  Calls Tryz.prog 157 #[.pointer (some ⟨b,0,none⟩),.slice (some ⟨n,0,none⟩) 3 3] (w.alloc (.cells #[.string s,.string t,.string u] 9)) (PrO w0 b l w (bs s++(bs t++bs u))):=by
 subst hn;have:=qjw h [s,t,u] (by simp) (by simpa[xv]using hlen);simpa[xv]using this
def q8m(w0:World)(b:Nat)(t:Nd):Prop:=∀ (v0 v1 v2:Value) (more:Bool) (l:Tx) (w:World),NdR w0 t v0 v1 v2->PrI w0 b l w->l.length+(t.bare more).length<=100000000 ->
 Calls Tryz.prog 206 #[.pointer (some ⟨b,0,none⟩),.agg #[v0,v1,v2],.bool more] w (PrO w0 b l w (t.bare more))
def q6e(w0:World)(b:Nat)(t:Nd):Prop:=∀ (v0 v1 v2:Value) (bind:Nat) (more:Bool) (l:Tx) (w:World),bind<=8->NdR w0 t v0 v1 v2->PrI w0 b l w->l.length+(t.txt bind more).length<=100000000 ->
 Calls Tryz.prog 158 #[.pointer (some ⟨b,0,none⟩),.agg #[v0,v1,v2],.int .i64 bind,.bool more] w (PrO w0 b l w (t.txt bind more))
def ql3(w0:World)(b:Nat)(t:Nd):Prop:=∀ (v0 v1 v2:Value) (l:Tx) (w:World),NdR w0 t v0 v1 v2->PrI w0 b l w->l.length+t.arg.length<=100000000 ->
 Calls Tryz.prog 226 #[.pointer (some ⟨b,0,none⟩),.agg #[v0,v1,v2]] w (PrO w0 b l w t.arg)
theorem qdh{w0:World}{b:Nat}{t:Nd}(hb:q8m w0 b t):ql3 w0 b t:=by
 intro v0 v1 v2 l w ht hp hlen;obtain⟨k,s,kl,a,cap,rfl,rfl,rfl,rfl,hs,hl⟩:=ht.form;obtain⟨W,hW⟩:∃ W,w.alloc (.cells #[.int .i64 k,.string s,.slice a kl.length cap] 25)=W:=⟨_,rfl⟩;have R0':Row3 W w.heap.size (.int .i64 k) (.string s) (.slice a kl.length cap):=by rw[<-hW];exact Row3.new _ _ _ _
 have P0:=qh (hW▸hp.alloc (.cells #[.int .i64 k,.string s,.slice a kl.length cap] 25));have K0:=qh (hW▸(Wr.refl w0.heap.size b w).alloc hp.size (.cells #[.int .i64 k,.string s,.slice a kl.length cap] 25));have hne:w.heap.size≠b:=by have:=hp.p.lt;omega
 have HW:=qh hW;have R0:=qh R0';obtain⟨⟨n0,n1,n2⟩,_⟩:=R0'.cells;have HN:=qh ht;have HL:=qh hlen;unfold maxLen at hl;obtain⟨T,hT⟩:∃ T,(Nd.mk k s kl).arg=T:=⟨_,rfl⟩;rw[hT]at HL;rw[hT];have HT:=qh hT;clear ht hlen hT hW R0' hp
 by_cases hc:k=17\/0 < kl.length
 ·have HE:Hid (T=40 :: ((Nd.mk k s kl).bare false++[41])):=qh (HT.out.symm.trans (qj hc))
  have hlen1:l.length+((Nd.mk k s kl).bare false).length+2<=100000000:=by
   have:=HL.out;rw[HE.out]at this;simp only[qr,qg,qz]at this;omega
  have C1:=qh (fun w' (h:PrI w0 b l w') n (hn:n=w'.heap.size)=>put1 h n hn ⟨#[40]⟩ (by simp[bs];omega));have C2:=qh (fun w' (h:PrI w0 b (l++bs ⟨#[40]⟩) w')=>hb _ _ _ false _ w' HN.out h (by simp[bs];omega));have C3:=qh (fun w' (h:PrI w0 b ((l++bs ⟨#[40]⟩)++(Nd.mk k s kl).bare false) w') n (hn:n=w'.heap.size)=>put1 h n hn ⟨#[41]⟩ (by simp[bs];omega));have HE2:Hid (T=bs ⟨#[40]⟩++((Nd.mk k s kl).bare false++bs ⟨#[41]⟩)):=HE;clear hlen1 HE;obtain⟨A,hA⟩:∃ A,(k==17)=A:=⟨_,rfl⟩
  have hAl:Hid (A=false->0 < kl.length):=qh (fun e=>by
   rcases hc with h|h
   ·rw[h]at hA;subst e;exact absurd hA (by decide)
   ·exact h)
  clear hc
  cases A with
  |true =>
   go_enter Tryz.func226,Tryz.ntmps226
   go_upto_region 1 with fail
   rw[HW.out]
   go_wp2_with fail
   refine(C1.out _ P0.out _ (by first|rfl|simp only[q6])).mono ?_;rintro e w1⟨rfl,pp,kk⟩;have P1:=qh pp;have K1:=qh (K0.out.trans kk);have R1:=qh (kk.row3 R0.out hne);clear pp kk C1 n0 n1 n2;obtain⟨⟨n0,n1,n2⟩,_⟩:=R1.out.cells
   go_wp2_with fail
   refine(C2.out _ P1.out).mono ?_;rintro e w2⟨rfl,pp,kk⟩;have P2:=qh pp;have K2:=qh (K1.out.trans kk);have R2:=qh (kk.row3 R1.out hne);clear pp kk C2 n0 n1 n2;obtain⟨⟨n0,n1,n2⟩,_⟩:=R2.out.cells
   go_wp2_with fail
   refine(C3.out _ P2.out _ (by first|rfl|simp only[q6])).mono ?_;rintro e w3⟨rfl,pp,kk⟩;have P3:=qh pp;have K3:=qh (K2.out.trans kk);have R3:=qh (kk.row3 R2.out hne);clear pp kk C3 n0 n1 n2;go_wp2;go_end0;exact⟨rfl,by rw[HE2.out];simpa only[qn,x9]using P3.out,K3.out⟩
  |false =>
   have j0:=hAl.out rfl;have i0:(0:Int) < (kl.length:Int):=by omega
   go_enter Tryz.func226,Tryz.ntmps226
   go_upto_region 1 with fail
   rw[HW.out]
   go_wp2_with fail
   refine(C1.out _ P0.out _ (by first|rfl|simp only[q6])).mono ?_;rintro e w1⟨rfl,pp,kk⟩;have P1:=qh pp;have K1:=qh (K0.out.trans kk);have R1:=qh (kk.row3 R0.out hne);clear pp kk C1 n0 n1 n2;obtain⟨⟨n0,n1,n2⟩,_⟩:=R1.out.cells
   go_wp2_with fail
   refine(C2.out _ P1.out).mono ?_;rintro e w2⟨rfl,pp,kk⟩;have P2:=qh pp;have K2:=qh (K1.out.trans kk);have R2:=qh (kk.row3 R1.out hne);clear pp kk C2 n0 n1 n2;obtain⟨⟨n0,n1,n2⟩,_⟩:=R2.out.cells
   go_wp2_with fail
   refine(C3.out _ P2.out _ (by first|rfl|simp only[q6])).mono ?_;rintro e w3⟨rfl,pp,kk⟩;have P3:=qh pp;have K3:=qh (K2.out.trans kk);have R3:=qh (kk.row3 R2.out hne);clear pp kk C3 n0 n1 n2;go_wp2;go_end0;exact⟨rfl,by rw[HE2.out];simpa only[qn,x9]using P3.out,K3.out⟩
 ·have HE:Hid (T=bs s):=qh (HT.out.symm.trans (qd hc))
  have hlen1:l.length+(bs s).length<=100000000:=by
   have:=HL.out
   rwa [HE.out]at this
  have C1:=qh (fun w' (h:PrI w0 b l w') n (hn:n=w'.heap.size)=>put1 h n hn s hlen1);have hA:(k==17)=false:=by rw[qc];exact fun e=>hc (.inl e)
  have j0:¬ (0 < kl.length):=fun e=>hc (.inr e)
  have j0':decide (0 < kl.length)=false:=by simpa using j0
  have i0:¬ ((0:Int) < (kl.length:Int)):=by omega
  clear hlen1 hc;go_enter Tryz.func226,Tryz.ntmps226
  go_upto_region 1 with fail
  rw[HW.out]
  go_wp2_with fail
  refine(C1.out _ P0.out _ (by first|rfl|simp only[q6])).mono ?_;rintro e w1⟨rfl,pp,kk⟩;have P1:=qh pp;have K1:=qh (K0.out.trans kk);have R1:=qh (kk.row3 R0.out hne);clear pp kk C1 n0 n1 n2;go_wp2;go_end0;exact⟨rfl,by rw[HE.out];simpa only[qn,x9]using P1.out,K1.out⟩
theorem qe2{w0:World}{b:Nat}{t:Nd}(hb:q8m w0 b t):q6e w0 b t:=by
 intro v0 v1 v2 bind more l w hbd ht hp hlen;obtain⟨k,s,kl,a,cap,rfl,rfl,rfl,rfl,hs,hl⟩:=ht.form;obtain⟨W,hW⟩:∃ W,w.alloc (.cells #[.int .i64 k,.string s,.slice a kl.length cap] 25)=W:=⟨_,rfl⟩;have R0':Row3 W w.heap.size (.int .i64 k) (.string s) (.slice a kl.length cap):=by rw[<-hW];exact Row3.new _ _ _ _
 have P0:=qh (hW▸hp.alloc (.cells #[.int .i64 k,.string s,.slice a kl.length cap] 25));have K0:=qh (hW▸(Wr.refl w0.heap.size b w).alloc hp.size (.cells #[.int .i64 k,.string s,.slice a kl.length cap] 25));have hne:w.heap.size≠b:=by have:=hp.p.lt;omega
 have HW:=qh hW;have R0:=qh R0';obtain⟨⟨n0,n1,n2⟩,_⟩:=R0'.cells;have HN:=qh ht;have HL:=qh hlen;unfold maxLen at hl;obtain⟨T,hT⟩:∃ T,(Nd.mk k s kl).txt bind more=T:=⟨_,rfl⟩;rw[hT]at HL;rw[hT];have HT:=qh hT;have CO:=qh (fun w' (h:PrI w0 b l w')=>q3i k s a kl.length cap w' h.glw h.two');clear ht hlen hT hW R0' hp;obtain⟨pr,hpr⟩:∃ pr,qk2 k bind more=pr:=⟨_,rfl⟩;have HPR:=qh hpr;clear hpr;have HE1:Hid (pr=true->T=bs ⟨#[40]⟩++((Nd.mk k s kl).bare false++bs ⟨#[41]⟩)):=qh (fun e=>HT.out.symm.trans (qj (HPR.out.trans e)));have HE0:Hid (pr=false->T=(Nd.mk k s kl).bare more):=qh (fun e=>HT.out.symm.trans (qd (by rw[Nd.kd,HPR.out,e];decide)));have C1:=qh (fun(e:pr=true) w' (h:PrI w0 b l w') n (hn:n=w'.heap.size)=>put1 h n hn ⟨#[40]⟩ (by have:=HL.out;rw[HE1.out e]at this;simp[bs]at this ⊢;omega));have C2:=qh (fun(e:pr=true) w' (h:PrI w0 b (l++bs ⟨#[40]⟩) w')=>hb _ _ _ false _ w' HN.out h (by have:=HL.out;rw[HE1.out e]at this;simp[bs]at this ⊢;omega));have C3:=qh (fun(e:pr=true) w' (h:PrI w0 b ((l++bs ⟨#[40]⟩)++(Nd.mk k s kl).bare false) w') n (hn:n=w'.heap.size)=>put1 h n hn ⟨#[41]⟩ (by have:=HL.out;rw[HE1.out e]at this;simp[bs]at this ⊢;omega));have C4:=qh (fun(e:pr=false) w' (h:PrI w0 b l w')=>hb _ _ _ more _ w' HN.out h (by have:=HL.out;rwa [HE0.out e]at this));clear HT HL;unfold qk2 at HPR;obtain⟨A,hA⟩:∃ A,(k==18)=A:=⟨_,rfl⟩;obtain⟨B,hB⟩:∃ B,(k==19)=B:=⟨_,rfl⟩;have hA':decide (k=18)=A:=hA;have hB':decide (k=19)=B:=hB;rw[hA',hB']at HPR;clear hA' hB';obtain⟨op,hop⟩:∃ op,q2m k=op:=⟨_,rfl⟩;rw[hop]at HPR CO;clear hop;rcases op with _|⟨sg,bd⟩
 ·unfold qan at CO
  cases A with
  |true =>
   cases more with
   |true =>
    have hq:pr=true:=by rw[<-HPR.out];simp
    go_enter Tryz.func158,Tryz.ntmps158
    go_upto_region 1 with fail
    rw[HW.out]
    go_wp2_with fail
    refine(CO.out _ P0.out).mono ?_;rintro e w1⟨rfl,bb⟩;have P1:=qh (P0.out.later bb);have K1:=qh (K0.out.later bb P0.out.size);have R1:=qh (R0.out.below bb R0.out.lt);clear bb CO n0 n1 n2;obtain⟨⟨n0,n1,n2⟩,_⟩:=R1.out.cells;have D1:=qh (C1.out hq);have D2:=qh (C2.out hq);have D3:=qh (C3.out hq);clear C1 C2 C3;have P1o:=qh (P1.out.alloc (.cells #[.string ⟨#[]⟩,.int .i64 0,.int .i64 0] 163));have K1o:=qh (K1.out.alloc P1.out.size (.cells #[.string ⟨#[]⟩,.int .i64 0,.int .i64 0] 163));have R1o:=qh (R1.out.alloc (.cells #[.string ⟨#[]⟩,.int .i64 0,.int .i64 0] 163));clear n0 n1 n2 P1 K1 R1;obtain⟨⟨n0,n1,n2⟩,_⟩:=R1o.out.cells;have P1:=P1o;have K1:=K1o;have R1:=R1o;clear P1o K1o R1o
    go_wp2_with fail
    refine(D1.out _ P1.out _ (by first|rfl|simp only[q6])).mono ?_;rintro e w2⟨rfl,pp,kk⟩;have P2:=qh pp;have K2:=qh (K1.out.trans kk);have R2:=qh (kk.row3 R1.out hne);clear pp kk D1 n0 n1 n2;obtain⟨⟨n0,n1,n2⟩,_⟩:=R2.out.cells
    go_wp2_with fail
    refine(D2.out _ P2.out).mono ?_;rintro e w3⟨rfl,pp,kk⟩;have P3:=qh pp;have K3:=qh (K2.out.trans kk);have R3:=qh (kk.row3 R2.out hne);clear pp kk D2 n0 n1 n2;obtain⟨⟨n0,n1,n2⟩,_⟩:=R3.out.cells
    go_wp2_with fail
    refine(D3.out _ P3.out _ (by first|rfl|simp only[q6])).mono ?_;rintro e w4⟨rfl,pp,kk⟩;have P4:=qh pp;have K4:=qh (K3.out.trans kk);have R4:=qh (kk.row3 R3.out hne);clear pp kk D3 n0 n1 n2;go_wp2;go_end0;exact⟨rfl,by rw[HE1.out hq];simpa only[qn,x9]using P4.out,K4.out⟩
   |false =>
    have hq:pr=false:=by rw[<-HPR.out];simp
    go_enter Tryz.func158,Tryz.ntmps158
    go_upto_region 1 with fail
    rw[HW.out]
    go_wp2_with fail
    refine(CO.out _ P0.out).mono ?_;rintro e w1⟨rfl,bb⟩;have P1:=qh (P0.out.later bb);have K1:=qh (K0.out.later bb P0.out.size);have R1:=qh (R0.out.below bb R0.out.lt);clear bb CO n0 n1 n2;obtain⟨⟨n0,n1,n2⟩,_⟩:=R1.out.cells;have D4:=qh (C4.out hq);clear C1 C2 C3 C4;have P1o:=qh (P1.out.alloc (.cells #[.string ⟨#[]⟩,.int .i64 0,.int .i64 0] 163));have K1o:=qh (K1.out.alloc P1.out.size (.cells #[.string ⟨#[]⟩,.int .i64 0,.int .i64 0] 163));have R1o:=qh (R1.out.alloc (.cells #[.string ⟨#[]⟩,.int .i64 0,.int .i64 0] 163));clear n0 n1 n2 P1 K1 R1;obtain⟨⟨n0,n1,n2⟩,_⟩:=R1o.out.cells;have P1:=P1o;have K1:=K1o;have R1:=R1o;clear P1o K1o R1o
    go_wp2_with fail
    refine(D4.out _ P1.out).mono ?_;rintro e w2⟨rfl,pp,kk⟩;have P2:=qh pp;have K2:=qh (K1.out.trans kk);have R2:=qh (kk.row3 R1.out hne);clear pp kk D4 n0 n1 n2;go_wp2;go_end0;exact⟨rfl,by rw[HE0.out hq];simpa only[qn,x9]using P2.out,K2.out⟩
  |false =>
   cases B with
   |true =>
    cases more with
    |true =>
     have hq:pr=true:=by rw[<-HPR.out];simp
     go_enter Tryz.func158,Tryz.ntmps158
     go_upto_region 1 with fail
     rw[HW.out]
     go_wp2_with fail
     refine(CO.out _ P0.out).mono ?_;rintro e w1⟨rfl,bb⟩;have P1:=qh (P0.out.later bb);have K1:=qh (K0.out.later bb P0.out.size);have R1:=qh (R0.out.below bb R0.out.lt);clear bb CO n0 n1 n2;obtain⟨⟨n0,n1,n2⟩,_⟩:=R1.out.cells;have D1:=qh (C1.out hq);have D2:=qh (C2.out hq);have D3:=qh (C3.out hq);clear C1 C2 C3;have P1o:=qh (P1.out.alloc (.cells #[.string ⟨#[]⟩,.int .i64 0,.int .i64 0] 163));have K1o:=qh (K1.out.alloc P1.out.size (.cells #[.string ⟨#[]⟩,.int .i64 0,.int .i64 0] 163));have R1o:=qh (R1.out.alloc (.cells #[.string ⟨#[]⟩,.int .i64 0,.int .i64 0] 163));clear n0 n1 n2 P1 K1 R1;obtain⟨⟨n0,n1,n2⟩,_⟩:=R1o.out.cells;have P1:=P1o;have K1:=K1o;have R1:=R1o;clear P1o K1o R1o
     go_wp2_with fail
     refine(D1.out _ P1.out _ (by first|rfl|simp only[q6])).mono ?_;rintro e w2⟨rfl,pp,kk⟩;have P2:=qh pp;have K2:=qh (K1.out.trans kk);have R2:=qh (kk.row3 R1.out hne);clear pp kk D1 n0 n1 n2;obtain⟨⟨n0,n1,n2⟩,_⟩:=R2.out.cells
     go_wp2_with fail
     refine(D2.out _ P2.out).mono ?_;rintro e w3⟨rfl,pp,kk⟩;have P3:=qh pp;have K3:=qh (K2.out.trans kk);have R3:=qh (kk.row3 R2.out hne);clear pp kk D2 n0 n1 n2;obtain⟨⟨n0,n1,n2⟩,_⟩:=R3.out.cells
     go_wp2_with fail
     refine(D3.out _ P3.out _ (by first|rfl|simp only[q6])).mono ?_;rintro e w4⟨rfl,pp,kk⟩;have P4:=qh pp;have K4:=qh (K3.out.trans kk);have R4:=qh (kk.row3 R3.out hne);clear pp kk D3 n0 n1 n2;go_wp2;go_end0;exact⟨rfl,by rw[HE1.out hq];simpa only[qn,x9]using P4.out,K4.out⟩
    |false =>
     have hq:pr=false:=by rw[<-HPR.out];simp
     go_enter Tryz.func158,Tryz.ntmps158
     go_upto_region 1 with fail
     rw[HW.out]
     go_wp2_with fail
     refine(CO.out _ P0.out).mono ?_;rintro e w1⟨rfl,bb⟩;have P1:=qh (P0.out.later bb);have K1:=qh (K0.out.later bb P0.out.size);have R1:=qh (R0.out.below bb R0.out.lt);clear bb CO n0 n1 n2;obtain⟨⟨n0,n1,n2⟩,_⟩:=R1.out.cells;have D4:=qh (C4.out hq);clear C1 C2 C3 C4;have P1o:=qh (P1.out.alloc (.cells #[.string ⟨#[]⟩,.int .i64 0,.int .i64 0] 163));have K1o:=qh (K1.out.alloc P1.out.size (.cells #[.string ⟨#[]⟩,.int .i64 0,.int .i64 0] 163));have R1o:=qh (R1.out.alloc (.cells #[.string ⟨#[]⟩,.int .i64 0,.int .i64 0] 163));clear n0 n1 n2 P1 K1 R1;obtain⟨⟨n0,n1,n2⟩,_⟩:=R1o.out.cells;have P1:=P1o;have K1:=K1o;have R1:=R1o;clear P1o K1o R1o
     go_wp2_with fail
     refine(D4.out _ P1.out).mono ?_;rintro e w2⟨rfl,pp,kk⟩;have P2:=qh pp;have K2:=qh (K1.out.trans kk);have R2:=qh (kk.row3 R1.out hne);clear pp kk D4 n0 n1 n2;go_wp2;go_end0;exact⟨rfl,by rw[HE0.out hq];simpa only[qn,x9]using P2.out,K2.out⟩
   |false =>
    have hq:pr=false:=by rw[<-HPR.out];simp
    go_enter Tryz.func158,Tryz.ntmps158
    go_upto_region 1 with fail
    rw[HW.out]
    go_wp2_with fail
    refine(CO.out _ P0.out).mono ?_;rintro e w1⟨rfl,bb⟩;have P1:=qh (P0.out.later bb);have K1:=qh (K0.out.later bb P0.out.size);have R1:=qh (R0.out.below bb R0.out.lt);clear bb CO n0 n1 n2;obtain⟨⟨n0,n1,n2⟩,_⟩:=R1.out.cells;have D4:=qh (C4.out hq);clear C1 C2 C3 C4;have P1o:=qh (P1.out.alloc (.cells #[.string ⟨#[]⟩,.int .i64 0,.int .i64 0] 163));have K1o:=qh (K1.out.alloc P1.out.size (.cells #[.string ⟨#[]⟩,.int .i64 0,.int .i64 0] 163));have R1o:=qh (R1.out.alloc (.cells #[.string ⟨#[]⟩,.int .i64 0,.int .i64 0] 163));clear n0 n1 n2 P1 K1 R1;obtain⟨⟨n0,n1,n2⟩,_⟩:=R1o.out.cells;have P1:=P1o;have K1:=K1o;have R1:=R1o;clear P1o K1o R1o
    go_wp2_with fail
    refine(D4.out _ P1.out).mono ?_;rintro e w2⟨rfl,pp,kk⟩;have P2:=qh pp;have K2:=qh (K1.out.trans kk);have R2:=qh (kk.row3 R1.out hne);clear pp kk D4 n0 n1 n2;go_wp2;go_end0;exact⟨rfl,by rw[HE0.out hq];simpa only[qn,x9]using P2.out,K2.out⟩
 ·unfold qan S_ at CO
  have hno:w.heap.size+0=w.heap.size:=rfl
  by_cases hbl:bd < bind
  ·have ibl:(bd:Int) < (bind:Int):=by omega
   have hq:pr=true:=by rw[<-HPR.out];simp[hbl]
   clear HPR hno C4
   cases A with
   |true =>
    go_enter Tryz.func158,Tryz.ntmps158
    go_upto_region 1 with fail
    rw[HW.out]
    go_wp2_with fail
    refine(CO.out _ P0.out).mono ?_;rintro e w1⟨rfl,bb⟩;have P1:=qh (P0.out.later bb);have K1:=qh (K0.out.later bb P0.out.size);have R1:=qh (R0.out.below bb R0.out.lt);clear bb CO n0 n1 n2;obtain⟨⟨n0,n1,n2⟩,_⟩:=R1.out.cells;have D1:=qh (C1.out hq);have D2:=qh (C2.out hq);have D3:=qh (C3.out hq);clear C1 C2 C3;have P1o:=qh (P1.out.alloc (.cells #[.string ⟨sg.toArray⟩,.int .i64 k,.int .i64 (bd:Nat)] 163));have K1o:=qh (K1.out.alloc P1.out.size (.cells #[.string ⟨sg.toArray⟩,.int .i64 k,.int .i64 (bd:Nat)] 163));have R1o:=qh (R1.out.alloc (.cells #[.string ⟨sg.toArray⟩,.int .i64 k,.int .i64 (bd:Nat)] 163));clear n0 n1 n2 P1 K1 R1;obtain⟨⟨n0,n1,n2⟩,_⟩:=R1o.out.cells;have P1:=P1o;have K1:=K1o;have R1:=R1o;clear P1o K1o R1o
    go_wp2_with fail
    refine(D1.out _ P1.out _ (by first|rfl|simp only[q6])).mono ?_;rintro e w2⟨rfl,pp,kk⟩;have P2:=qh pp;have K2:=qh (K1.out.trans kk);have R2:=qh (kk.row3 R1.out hne);clear pp kk D1 n0 n1 n2;obtain⟨⟨n0,n1,n2⟩,_⟩:=R2.out.cells
    go_wp2_with fail
    refine(D2.out _ P2.out).mono ?_;rintro e w3⟨rfl,pp,kk⟩;have P3:=qh pp;have K3:=qh (K2.out.trans kk);have R3:=qh (kk.row3 R2.out hne);clear pp kk D2 n0 n1 n2;obtain⟨⟨n0,n1,n2⟩,_⟩:=R3.out.cells
    go_wp2_with fail
    refine(D3.out _ P3.out _ (by first|rfl|simp only[q6])).mono ?_;rintro e w4⟨rfl,pp,kk⟩;have P4:=qh pp;have K4:=qh (K3.out.trans kk);have R4:=qh (kk.row3 R3.out hne);clear pp kk D3 n0 n1 n2;go_wp2;go_end0;exact⟨rfl,by rw[HE1.out hq];simpa only[qn,x9]using P4.out,K4.out⟩
   |false =>
    cases B with
    |true =>
     go_enter Tryz.func158,Tryz.ntmps158
     go_upto_region 1 with fail
     rw[HW.out]
     go_wp2_with fail
     refine(CO.out _ P0.out).mono ?_;rintro e w1⟨rfl,bb⟩;have P1:=qh (P0.out.later bb);have K1:=qh (K0.out.later bb P0.out.size);have R1:=qh (R0.out.below bb R0.out.lt);clear bb CO n0 n1 n2;obtain⟨⟨n0,n1,n2⟩,_⟩:=R1.out.cells;have D1:=qh (C1.out hq);have D2:=qh (C2.out hq);have D3:=qh (C3.out hq);clear C1 C2 C3;have P1o:=qh (P1.out.alloc (.cells #[.string ⟨sg.toArray⟩,.int .i64 k,.int .i64 (bd:Nat)] 163));have K1o:=qh (K1.out.alloc P1.out.size (.cells #[.string ⟨sg.toArray⟩,.int .i64 k,.int .i64 (bd:Nat)] 163));have R1o:=qh (R1.out.alloc (.cells #[.string ⟨sg.toArray⟩,.int .i64 k,.int .i64 (bd:Nat)] 163));clear n0 n1 n2 P1 K1 R1;obtain⟨⟨n0,n1,n2⟩,_⟩:=R1o.out.cells;have P1:=P1o;have K1:=K1o;have R1:=R1o;clear P1o K1o R1o
     go_wp2_with fail
     refine(D1.out _ P1.out _ (by first|rfl|simp only[q6])).mono ?_;rintro e w2⟨rfl,pp,kk⟩;have P2:=qh pp;have K2:=qh (K1.out.trans kk);have R2:=qh (kk.row3 R1.out hne);clear pp kk D1 n0 n1 n2;obtain⟨⟨n0,n1,n2⟩,_⟩:=R2.out.cells
     go_wp2_with fail
     refine(D2.out _ P2.out).mono ?_;rintro e w3⟨rfl,pp,kk⟩;have P3:=qh pp;have K3:=qh (K2.out.trans kk);have R3:=qh (kk.row3 R2.out hne);clear pp kk D2 n0 n1 n2;obtain⟨⟨n0,n1,n2⟩,_⟩:=R3.out.cells
     go_wp2_with fail
     refine(D3.out _ P3.out _ (by first|rfl|simp only[q6])).mono ?_;rintro e w4⟨rfl,pp,kk⟩;have P4:=qh pp;have K4:=qh (K3.out.trans kk);have R4:=qh (kk.row3 R3.out hne);clear pp kk D3 n0 n1 n2;go_wp2;go_end0;exact⟨rfl,by rw[HE1.out hq];simpa only[qn,x9]using P4.out,K4.out⟩
    |false =>
     go_enter Tryz.func158,Tryz.ntmps158
     go_upto_region 1 with fail
     rw[HW.out]
     go_wp2_with fail
     refine(CO.out _ P0.out).mono ?_;rintro e w1⟨rfl,bb⟩;have P1:=qh (P0.out.later bb);have K1:=qh (K0.out.later bb P0.out.size);have R1:=qh (R0.out.below bb R0.out.lt);clear bb CO n0 n1 n2;obtain⟨⟨n0,n1,n2⟩,_⟩:=R1.out.cells;have D1:=qh (C1.out hq);have D2:=qh (C2.out hq);have D3:=qh (C3.out hq);clear C1 C2 C3;have P1o:=qh (P1.out.alloc (.cells #[.string ⟨sg.toArray⟩,.int .i64 k,.int .i64 (bd:Nat)] 163));have K1o:=qh (K1.out.alloc P1.out.size (.cells #[.string ⟨sg.toArray⟩,.int .i64 k,.int .i64 (bd:Nat)] 163));have R1o:=qh (R1.out.alloc (.cells #[.string ⟨sg.toArray⟩,.int .i64 k,.int .i64 (bd:Nat)] 163));clear n0 n1 n2 P1 K1 R1;obtain⟨⟨n0,n1,n2⟩,_⟩:=R1o.out.cells;have P1:=P1o;have K1:=K1o;have R1:=R1o;clear P1o K1o R1o
     go_wp2_with fail
     refine(D1.out _ P1.out _ (by first|rfl|simp only[q6])).mono ?_;rintro e w2⟨rfl,pp,kk⟩;have P2:=qh pp;have K2:=qh (K1.out.trans kk);have R2:=qh (kk.row3 R1.out hne);clear pp kk D1 n0 n1 n2;obtain⟨⟨n0,n1,n2⟩,_⟩:=R2.out.cells
     go_wp2_with fail
     refine(D2.out _ P2.out).mono ?_;rintro e w3⟨rfl,pp,kk⟩;have P3:=qh pp;have K3:=qh (K2.out.trans kk);have R3:=qh (kk.row3 R2.out hne);clear pp kk D2 n0 n1 n2;obtain⟨⟨n0,n1,n2⟩,_⟩:=R3.out.cells
     go_wp2_with fail
     refine(D3.out _ P3.out _ (by first|rfl|simp only[q6])).mono ?_;rintro e w4⟨rfl,pp,kk⟩;have P4:=qh pp;have K4:=qh (K3.out.trans kk);have R4:=qh (kk.row3 R3.out hne);clear pp kk D3 n0 n1 n2;go_wp2;go_end0;exact⟨rfl,by rw[HE1.out hq];simpa only[qn,x9]using P4.out,K4.out⟩
  ·have ibl:¬ (bd:Int) < (bind:Int):=by omega
   cases A with
   |true =>
    cases more with
    |true =>
     have hq:pr=true:=by rw[<-HPR.out];simp
     go_enter Tryz.func158,Tryz.ntmps158
     go_upto_region 1 with fail
     rw[HW.out]
     go_wp2_with fail
     refine(CO.out _ P0.out).mono ?_;rintro e w1⟨rfl,bb⟩;have P1:=qh (P0.out.later bb);have K1:=qh (K0.out.later bb P0.out.size);have R1:=qh (R0.out.below bb R0.out.lt);clear bb CO n0 n1 n2;obtain⟨⟨n0,n1,n2⟩,_⟩:=R1.out.cells;have D1:=qh (C1.out hq);have D2:=qh (C2.out hq);have D3:=qh (C3.out hq);clear C1 C2 C3;have P1o:=qh (P1.out.alloc (.cells #[.string ⟨sg.toArray⟩,.int .i64 k,.int .i64 (bd:Nat)] 163));have K1o:=qh (K1.out.alloc P1.out.size (.cells #[.string ⟨sg.toArray⟩,.int .i64 k,.int .i64 (bd:Nat)] 163));have R1o:=qh (R1.out.alloc (.cells #[.string ⟨sg.toArray⟩,.int .i64 k,.int .i64 (bd:Nat)] 163));clear n0 n1 n2 P1 K1 R1;obtain⟨⟨n0,n1,n2⟩,_⟩:=R1o.out.cells;have P1:=P1o;have K1:=K1o;have R1:=R1o;clear P1o K1o R1o
     go_wp2_with fail
     refine(D1.out _ P1.out _ (by first|rfl|simp only[q6])).mono ?_;rintro e w2⟨rfl,pp,kk⟩;have P2:=qh pp;have K2:=qh (K1.out.trans kk);have R2:=qh (kk.row3 R1.out hne);clear pp kk D1 n0 n1 n2;obtain⟨⟨n0,n1,n2⟩,_⟩:=R2.out.cells
     go_wp2_with fail
     refine(D2.out _ P2.out).mono ?_;rintro e w3⟨rfl,pp,kk⟩;have P3:=qh pp;have K3:=qh (K2.out.trans kk);have R3:=qh (kk.row3 R2.out hne);clear pp kk D2 n0 n1 n2;obtain⟨⟨n0,n1,n2⟩,_⟩:=R3.out.cells
     go_wp2_with fail
     refine(D3.out _ P3.out _ (by first|rfl|simp only[q6])).mono ?_;rintro e w4⟨rfl,pp,kk⟩;have P4:=qh pp;have K4:=qh (K3.out.trans kk);have R4:=qh (kk.row3 R3.out hne);clear pp kk D3 n0 n1 n2;go_wp2;go_end0;exact⟨rfl,by rw[HE1.out hq];simpa only[qn,x9]using P4.out,K4.out⟩
    |false =>
     have hq:pr=false:=by rw[<-HPR.out];simp[hbl]
     go_enter Tryz.func158,Tryz.ntmps158
     go_upto_region 1 with fail
     rw[HW.out]
     go_wp2_with fail
     refine(CO.out _ P0.out).mono ?_;rintro e w1⟨rfl,bb⟩;have P1:=qh (P0.out.later bb);have K1:=qh (K0.out.later bb P0.out.size);have R1:=qh (R0.out.below bb R0.out.lt);clear bb CO n0 n1 n2;obtain⟨⟨n0,n1,n2⟩,_⟩:=R1.out.cells;have D4:=qh (C4.out hq);clear C1 C2 C3 C4;have P1o:=qh (P1.out.alloc (.cells #[.string ⟨sg.toArray⟩,.int .i64 k,.int .i64 (bd:Nat)] 163));have K1o:=qh (K1.out.alloc P1.out.size (.cells #[.string ⟨sg.toArray⟩,.int .i64 k,.int .i64 (bd:Nat)] 163));have R1o:=qh (R1.out.alloc (.cells #[.string ⟨sg.toArray⟩,.int .i64 k,.int .i64 (bd:Nat)] 163));clear n0 n1 n2 P1 K1 R1;obtain⟨⟨n0,n1,n2⟩,_⟩:=R1o.out.cells;have P1:=P1o;have K1:=K1o;have R1:=R1o;clear P1o K1o R1o
     go_wp2_with fail
     refine(D4.out _ P1.out).mono ?_;rintro e w2⟨rfl,pp,kk⟩;have P2:=qh pp;have K2:=qh (K1.out.trans kk);have R2:=qh (kk.row3 R1.out hne);clear pp kk D4 n0 n1 n2;go_wp2;go_end0;exact⟨rfl,by rw[HE0.out hq];simpa only[qn,x9]using P2.out,K2.out⟩
   |false =>
    cases B with
    |true =>
     cases more with
     |true =>
      have hq:pr=true:=by rw[<-HPR.out];simp
      go_enter Tryz.func158,Tryz.ntmps158
      go_upto_region 1 with fail
      rw[HW.out]
      go_wp2_with fail
      refine(CO.out _ P0.out).mono ?_;rintro e w1⟨rfl,bb⟩;have P1:=qh (P0.out.later bb);have K1:=qh (K0.out.later bb P0.out.size);have R1:=qh (R0.out.below bb R0.out.lt);clear bb CO n0 n1 n2;obtain⟨⟨n0,n1,n2⟩,_⟩:=R1.out.cells;have D1:=qh (C1.out hq);have D2:=qh (C2.out hq);have D3:=qh (C3.out hq);clear C1 C2 C3;have P1o:=qh (P1.out.alloc (.cells #[.string ⟨sg.toArray⟩,.int .i64 k,.int .i64 (bd:Nat)] 163));have K1o:=qh (K1.out.alloc P1.out.size (.cells #[.string ⟨sg.toArray⟩,.int .i64 k,.int .i64 (bd:Nat)] 163));have R1o:=qh (R1.out.alloc (.cells #[.string ⟨sg.toArray⟩,.int .i64 k,.int .i64 (bd:Nat)] 163));clear n0 n1 n2 P1 K1 R1;obtain⟨⟨n0,n1,n2⟩,_⟩:=R1o.out.cells;have P1:=P1o;have K1:=K1o;have R1:=R1o;clear P1o K1o R1o
      go_wp2_with fail
      refine(D1.out _ P1.out _ (by first|rfl|simp only[q6])).mono ?_;rintro e w2⟨rfl,pp,kk⟩;have P2:=qh pp;have K2:=qh (K1.out.trans kk);have R2:=qh (kk.row3 R1.out hne);clear pp kk D1 n0 n1 n2;obtain⟨⟨n0,n1,n2⟩,_⟩:=R2.out.cells
      go_wp2_with fail
      refine(D2.out _ P2.out).mono ?_;rintro e w3⟨rfl,pp,kk⟩;have P3:=qh pp;have K3:=qh (K2.out.trans kk);have R3:=qh (kk.row3 R2.out hne);clear pp kk D2 n0 n1 n2;obtain⟨⟨n0,n1,n2⟩,_⟩:=R3.out.cells
      go_wp2_with fail
      refine(D3.out _ P3.out _ (by first|rfl|simp only[q6])).mono ?_;rintro e w4⟨rfl,pp,kk⟩;have P4:=qh pp;have K4:=qh (K3.out.trans kk);have R4:=qh (kk.row3 R3.out hne);clear pp kk D3 n0 n1 n2;go_wp2;go_end0;exact⟨rfl,by rw[HE1.out hq];simpa only[qn,x9]using P4.out,K4.out⟩
     |false =>
      have hq:pr=false:=by rw[<-HPR.out];simp[hbl]
      go_enter Tryz.func158,Tryz.ntmps158
      go_upto_region 1 with fail
      rw[HW.out]
      go_wp2_with fail
      refine(CO.out _ P0.out).mono ?_;rintro e w1⟨rfl,bb⟩;have P1:=qh (P0.out.later bb);have K1:=qh (K0.out.later bb P0.out.size);have R1:=qh (R0.out.below bb R0.out.lt);clear bb CO n0 n1 n2;obtain⟨⟨n0,n1,n2⟩,_⟩:=R1.out.cells;have D4:=qh (C4.out hq);clear C1 C2 C3 C4;have P1o:=qh (P1.out.alloc (.cells #[.string ⟨sg.toArray⟩,.int .i64 k,.int .i64 (bd:Nat)] 163));have K1o:=qh (K1.out.alloc P1.out.size (.cells #[.string ⟨sg.toArray⟩,.int .i64 k,.int .i64 (bd:Nat)] 163));have R1o:=qh (R1.out.alloc (.cells #[.string ⟨sg.toArray⟩,.int .i64 k,.int .i64 (bd:Nat)] 163));clear n0 n1 n2 P1 K1 R1;obtain⟨⟨n0,n1,n2⟩,_⟩:=R1o.out.cells;have P1:=P1o;have K1:=K1o;have R1:=R1o;clear P1o K1o R1o
      go_wp2_with fail
      refine(D4.out _ P1.out).mono ?_;rintro e w2⟨rfl,pp,kk⟩;have P2:=qh pp;have K2:=qh (K1.out.trans kk);have R2:=qh (kk.row3 R1.out hne);clear pp kk D4 n0 n1 n2;go_wp2;go_end0;exact⟨rfl,by rw[HE0.out hq];simpa only[qn,x9]using P2.out,K2.out⟩
    |false =>
     have hq:pr=false:=by rw[<-HPR.out];simp[hbl]
     go_enter Tryz.func158,Tryz.ntmps158
     go_upto_region 1 with fail
     rw[HW.out]
     go_wp2_with fail
     refine(CO.out _ P0.out).mono ?_;rintro e w1⟨rfl,bb⟩;have P1:=qh (P0.out.later bb);have K1:=qh (K0.out.later bb P0.out.size);have R1:=qh (R0.out.below bb R0.out.lt);clear bb CO n0 n1 n2;obtain⟨⟨n0,n1,n2⟩,_⟩:=R1.out.cells;have D4:=qh (C4.out hq);clear C1 C2 C3 C4;have P1o:=qh (P1.out.alloc (.cells #[.string ⟨sg.toArray⟩,.int .i64 k,.int .i64 (bd:Nat)] 163));have K1o:=qh (K1.out.alloc P1.out.size (.cells #[.string ⟨sg.toArray⟩,.int .i64 k,.int .i64 (bd:Nat)] 163));have R1o:=qh (R1.out.alloc (.cells #[.string ⟨sg.toArray⟩,.int .i64 k,.int .i64 (bd:Nat)] 163));clear n0 n1 n2 P1 K1 R1;obtain⟨⟨n0,n1,n2⟩,_⟩:=R1o.out.cells;have P1:=P1o;have K1:=K1o;have R1:=R1o;clear P1o K1o R1o
     go_wp2_with fail
     refine(D4.out _ P1.out).mono ?_;rintro e w2⟨rfl,pp,kk⟩;have P2:=qh pp;have K2:=qh (K1.out.trans kk);have R2:=qh (kk.row3 R1.out hne);clear pp kk D4 n0 n1 n2;go_wp2;go_end0;exact⟨rfl,by rw[HE0.out hq];simpa only[qn,x9]using P2.out,K2.out⟩
theorem q5w{w0:World}{b:Nat}(k:Int)(s:ByteArray)(kl:List Nd)(h12:kl.length=1\/kl.length=2)(hk:∀ i (h:i < kl.length),q6e w0 b kl[i])(v0 v1 v2:Value)(l:Tx)(w:World)(ht:NdR w0 (.mk k s kl) v0 v1 v2)(hp:PrI w0 b l w)
  (hlen:l.length+(y8 s kl (Nd.bareL kl)).length<=100000000):Calls Tryz.prog 227 #[.pointer (some ⟨b,0,none⟩),.agg #[v0,v1,v2]] w (PrO w0 b l w (y8 s kl (Nd.bareL kl))):=by
 obtain⟨_,_,_,a,cap,hform,rfl,rfl,rfl,hs,hl⟩:=ht.form
 cases hform;obtain⟨L,hL⟩:∃ L,kl.length=L:=⟨_,rfl⟩;rw[hL]at ht hl;rw[hL];obtain⟨W,hW⟩:∃ W,w.alloc (.cells #[.int .i64 k,.string s,.slice a L cap] 25)=W:=⟨_,rfl⟩;have R0':Row3 W w.heap.size (.int .i64 k) (.string s) (.slice a L cap):=by rw[<-hW];exact Row3.new _ _ _ _
 have P0:=qh (hW▸hp.alloc (.cells #[.int .i64 k,.string s,.slice a L cap] 25));have K0:=qh (hW▸(Wr.refl w0.heap.size b w).alloc hp.size (.cells #[.int .i64 k,.string s,.slice a L cap] 25));have hne:w.heap.size≠b:=by have:=hp.p.lt;omega
 have HN:=qh ht;have HL:=qh hlen;unfold maxLen at hl;obtain⟨T,hT⟩:∃ T,y8 s kl (Nd.bareL kl)=T:=⟨_,rfl⟩;rw[hT]at HL;rw[hT];rw[hL]at h12;rcases h12 with rfl|rfl
 ·obtain⟨bb,o,k0',s0',l0',a0',c0',rfl,e0,x00,x01,x02,r0⟩:=ht.kid 0 (by omega)
  simp only[Nat.zero_mul,Nat.add_zero]at x00 x01 x02;have X0:=qh (And.intro x00 (And.intro x01 x02));obtain⟨Y0,hY0⟩:∃ Y,(kl[0]'(by omega)).txt 0 false=Y:=⟨_,rfl⟩
  have hE:T=bs s++(bs ⟨#[46,32]⟩++Y0):=by
   rw[<-hT,y8,qd (by omega),<-hY0];have h1:kl.length - 1=0:=by omega
   rw[h1,q0w (by omega)];rfl
  have hlen2:l.length+(bs s).length+2+Y0.length<=100000000:=by
   have:=HL.out;rw[hE]at this;simp[bs]at this ⊢;omega
  have C1:=qh (fun w' (h:PrI w0 b l w') n (hn:n=w'.heap.size)=>put1 h n hn s (by simp[bs]at hlen2 ⊢;omega));have C3:=qh (fun w' (h:PrI w0 b (l++bs s) w') n (hn:n=w'.heap.size)=>put1 h n hn ⟨#[46,32]⟩ (by simp[bs]at hlen2 ⊢;omega))
  have C4:Hid (∀ (z:Int),z=((0:Nat):Int)->∀ w',PrI w0 b ((l++bs s)++bs ⟨#[46,32]⟩) w'->Calls Tryz.prog 158 #[.pointer (some ⟨b,0,none⟩),.agg #[.int .i64 k0',.string s0',.slice a0' l0'.length c0'],.int .i64 z,.bool false] w' (PrO w0 b ((l++bs s)++bs ⟨#[46,32]⟩) w' Y0)):=qh (fun z hz w' h=>by
   subst hz;have hl9:List.length ((l++bs s)++bs ⟨#[46,32]⟩)+Y0.length<=100000000:=by(try simp[bs]at hlen2 ⊢);omega
   rw[<-hY0]at hl9 ⊢
   exact hk 0 (by omega) _ _ _ (0) false _ w' (by omega) (e0▸r0) h hl9)
  have HE:=qh hE;have HW:=qh hW;have R0:=qh R0';obtain⟨⟨n0,n1,n2⟩,_⟩:=R0'.cells;clear hT hlen hlen2 hE hW R0' hp hk ht HN HL hY0 x00 x01 x02 r0 e0 hL;go_enter Tryz.func227,Tryz.ntmps227
  go_upto_region 1 with fail
  rw[HW.out];have y00:=P0.out.cell X0.out.1;have y01:=P0.out.cell X0.out.2.1;have y02:=P0.out.cell X0.out.2.2;have yb0:=qi y00
  go_wp2_with fail
  refine(C1.out _ P0.out _ (by first|rfl|simp only[q6])).mono ?_;rintro e w1⟨rfl,pp,kk⟩;have P1:=qh pp;have K1:=qh (K0.out.trans kk);have R1:=qh (kk.row3 R0.out hne);clear pp kk C1 n0 n1 n2 y00 y01 y02 yb0;obtain⟨⟨n0,n1,n2⟩,_⟩:=R1.out.cells;have y00:=P1.out.cell X0.out.1;have y01:=P1.out.cell X0.out.2.1;have y02:=P1.out.cell X0.out.2.2;have yb0:=qi y00
  go_wp2_with fail
  refine(C3.out _ P1.out _ (by first|rfl|simp only[q6])).mono ?_;rintro e w2⟨rfl,pp,kk⟩;have P2:=qh pp;have K2:=qh (K1.out.trans kk);have R2:=qh (kk.row3 R1.out hne);clear pp kk C3 n0 n1 n2 y00 y01 y02 yb0;obtain⟨⟨n0,n1,n2⟩,_⟩:=R2.out.cells;have y00:=P2.out.cell X0.out.1;have y01:=P2.out.cell X0.out.2.1;have y02:=P2.out.cell X0.out.2.2;have yb0:=qi y00
  go_wp2_with fail
  refine(C4.out _ (by first|rfl|(push_cast;rfl)) _ P2.out).mono ?_;rintro e w3⟨rfl,pp,kk⟩;have P3:=qh pp;have K3:=qh (K2.out.trans kk);have R3:=qh (kk.row3 R2.out hne);clear pp kk C4 n0 n1 n2 y00 y01 y02 yb0;go_wp2;go_end0;exact⟨rfl,by rw[HE.out];simpa only[qn,x9]using P3.out,K3.out⟩
 ·obtain⟨bb,o,k0',s0',l0',a0',c0',rfl,e0,x00,x01,x02,r0⟩:=ht.kid 0 (by omega)
  simp only[Nat.zero_mul,Nat.add_zero]at x00 x01 x02;have X0:=qh (And.intro x00 (And.intro x01 x02));obtain⟨bb1,o1',k1',s1',l1',a1',c1',hbo1,e1,x10,x11,x12,r1⟩:=ht.kid 1 (by omega);obtain⟨rfl,rfl⟩:bb=bb1/\o=o1':=by simpa using hbo1
  simp only[Nat.one_mul]at x10 x11 x12;have X1:=qh (And.intro x10 (And.intro x11 x12));obtain⟨Y0,hY0⟩:∃ Y,(kl[0]'(by omega)).txt 6 false=Y:=⟨_,rfl⟩;obtain⟨Y1,hY1⟩:∃ Y,(kl[1]'(by omega)).txt 0 false=Y:=⟨_,rfl⟩
  have hE:T=bs s++((bs ⟨#[58,32]⟩++Y0)++(bs ⟨#[46,32]⟩++Y1)):=by
   rw[<-hT,y8,qj (by omega),<-hY0,<-hY1];have h1:kl.length - 1=1:=by omega
   rw[h1,q0w (by omega),q0w (by omega)];rfl
  have hlen2:l.length+(bs s).length+2+Y0.length+2+Y1.length<=100000000:=by
   have:=HL.out;rw[hE]at this;simp[bs]at this ⊢;omega
  have C1:=qh (fun w' (h:PrI w0 b l w') n (hn:n=w'.heap.size)=>put1 h n hn s (by simp[bs]at hlen2 ⊢;omega));have C3:=qh (fun w' (h:PrI w0 b (l++bs s) w') n (hn:n=w'.heap.size)=>put1 h n hn ⟨#[58,32]⟩ (by simp[bs]at hlen2 ⊢;omega))
  have C4:Hid (∀ (z:Int),z=((6:Nat):Int)->∀ w',PrI w0 b ((l++bs s)++bs ⟨#[58,32]⟩) w'->Calls Tryz.prog 158 #[.pointer (some ⟨b,0,none⟩),.agg #[.int .i64 k0',.string s0',.slice a0' l0'.length c0'],.int .i64 z,.bool false] w' (PrO w0 b ((l++bs s)++bs ⟨#[58,32]⟩) w' Y0)):=qh (fun z hz w' h=>by
   subst hz;have hl9:List.length ((l++bs s)++bs ⟨#[58,32]⟩)+Y0.length<=100000000:=by(try simp[bs]at hlen2 ⊢);omega
   rw[<-hY0]at hl9 ⊢
   exact hk 0 (by omega) _ _ _ (6) false _ w' (by omega) (e0▸r0) h hl9)
  have C5:=qh (fun w' (h:PrI w0 b (((l++bs s)++bs ⟨#[58,32]⟩)++Y0) w') n (hn:n=w'.heap.size)=>put1 h n hn ⟨#[46,32]⟩ (by simp[bs]at hlen2 ⊢;omega))
  have C6:Hid (∀ (z:Int),z=((0:Nat):Int)->∀ w',PrI w0 b ((((l++bs s)++bs ⟨#[58,32]⟩)++Y0)++bs ⟨#[46,32]⟩) w'->Calls Tryz.prog 158 #[.pointer (some ⟨b,0,none⟩),.agg #[.int .i64 k1',.string s1',.slice a1' l1'.length c1'],.int .i64 z,.bool false] w' (PrO w0 b ((((l++bs s)++bs ⟨#[58,32]⟩)++Y0)++bs ⟨#[46,32]⟩) w' Y1)):=qh (fun z hz w' h=>by
   subst hz;have hl9:List.length ((((l++bs s)++bs ⟨#[58,32]⟩)++Y0)++bs ⟨#[46,32]⟩)+Y1.length<=100000000:=by(try simp[bs]at hlen2 ⊢);omega
   rw[<-hY1]at hl9 ⊢
   exact hk 1 (by omega) _ _ _ (0) false _ w' (by omega) (e1▸r1) h hl9)
  have HE:=qh hE;have HW:=qh hW;have R0:=qh R0';obtain⟨⟨n0,n1,n2⟩,_⟩:=R0'.cells;clear hT hlen hlen2 hE hW R0' hp hk ht HN HL hY0 hY1 x00 x01 x02 x10 x11 x12 r0 r1 e0 e1 hL hbo1;go_enter Tryz.func227,Tryz.ntmps227
  go_upto_region 1 with fail
  rw[HW.out];have y00:=P0.out.cell X0.out.1;have y01:=P0.out.cell X0.out.2.1;have y02:=P0.out.cell X0.out.2.2;have yb0:=qi y00;have y10:=P0.out.cell X1.out.1;have y11:=P0.out.cell X1.out.2.1;have y12:=P0.out.cell X1.out.2.2;have yb1:=qi y10
  go_wp2_with fail
  refine(C1.out _ P0.out _ (by first|rfl|simp only[q6])).mono ?_;rintro e w1⟨rfl,pp,kk⟩;have P1:=qh pp;have K1:=qh (K0.out.trans kk);have R1:=qh (kk.row3 R0.out hne);clear pp kk C1 n0 n1 n2 y00 y01 y02 yb0 y10 y11 y12 yb1;obtain⟨⟨n0,n1,n2⟩,_⟩:=R1.out.cells;have y00:=P1.out.cell X0.out.1;have y01:=P1.out.cell X0.out.2.1;have y02:=P1.out.cell X0.out.2.2;have yb0:=qi y00;have y10:=P1.out.cell X1.out.1;have y11:=P1.out.cell X1.out.2.1;have y12:=P1.out.cell X1.out.2.2;have yb1:=qi y10
  go_wp2_with fail
  refine(C3.out _ P1.out _ (by first|rfl|simp only[q6])).mono ?_;rintro e w2⟨rfl,pp,kk⟩;have P2:=qh pp;have K2:=qh (K1.out.trans kk);have R2:=qh (kk.row3 R1.out hne);clear pp kk C3 n0 n1 n2 y00 y01 y02 yb0 y10 y11 y12 yb1;obtain⟨⟨n0,n1,n2⟩,_⟩:=R2.out.cells;have y00:=P2.out.cell X0.out.1;have y01:=P2.out.cell X0.out.2.1;have y02:=P2.out.cell X0.out.2.2;have yb0:=qi y00;have y10:=P2.out.cell X1.out.1;have y11:=P2.out.cell X1.out.2.1;have y12:=P2.out.cell X1.out.2.2;have yb1:=qi y10
  go_wp2_with fail
  refine(C4.out _ (by first|rfl|(push_cast;rfl)) _ P2.out).mono ?_;rintro e w3⟨rfl,pp,kk⟩;have P3:=qh pp;have K3:=qh (K2.out.trans kk);have R3:=qh (kk.row3 R2.out hne);clear pp kk C4 n0 n1 n2 y00 y01 y02 yb0 y10 y11 y12 yb1;obtain⟨⟨n0,n1,n2⟩,_⟩:=R3.out.cells;have y00:=P3.out.cell X0.out.1;have y01:=P3.out.cell X0.out.2.1;have y02:=P3.out.cell X0.out.2.2;have yb0:=qi y00;have y10:=P3.out.cell X1.out.1;have y11:=P3.out.cell X1.out.2.1;have y12:=P3.out.cell X1.out.2.2;have yb1:=qi y10
  go_wp2_with fail
  refine(C5.out _ P3.out _ (by first|rfl|simp only[q6])).mono ?_;rintro e w4⟨rfl,pp,kk⟩;have P4:=qh pp;have K4:=qh (K3.out.trans kk);have R4:=qh (kk.row3 R3.out hne);clear pp kk C5 n0 n1 n2 y00 y01 y02 yb0 y10 y11 y12 yb1;obtain⟨⟨n0,n1,n2⟩,_⟩:=R4.out.cells;have y00:=P4.out.cell X0.out.1;have y01:=P4.out.cell X0.out.2.1;have y02:=P4.out.cell X0.out.2.2;have yb0:=qi y00;have y10:=P4.out.cell X1.out.1;have y11:=P4.out.cell X1.out.2.1;have y12:=P4.out.cell X1.out.2.2;have yb1:=qi y10
  go_wp2_with fail
  refine(C6.out _ (by first|rfl|(push_cast;rfl)) _ P4.out).mono ?_;rintro e w5⟨rfl,pp,kk⟩;have P5:=qh pp;have K5:=qh (K4.out.trans kk);have R5:=qh (kk.row3 R4.out hne);clear pp kk C6 n0 n1 n2 y00 y01 y02 yb0 y10 y11 y12 yb1;go_wp2;go_end0;exact⟨rfl,by rw[HE.out];simpa only[qn,x9]using P5.out,K5.out⟩
theorem qli{k:Int}{sg:List UInt8}{bd:Nat}(h:q2m k=some (sg,bd)):bd<=6:=by
 unfold q2m opsL at h;simp only[q4k]at h
 repeat' split at h
 all_goals first|(cases h;decide)|cases h
theorem qhw{k:Int}(h:(22<=k/\k<=28)\/k=31):∃ sg bd,q2m k=some (sg,bd):=by
 have:k=22\/k=23\/k=24\/k=25\/k=26\/k=27\/k=28\/k=31:=by omega
 rcases this with rfl|rfl|rfl|rfl|rfl|rfl|rfl|rfl <;> exact⟨_,_,rfl⟩
theorem qix{w0:World}{b:Nat}(k:Int)(s:ByteArray)(kl:List Nd)(h2:2<=kl.length)(sg:List UInt8)(bd:Nat)(hop:q2m k=some (sg,bd))(hk:∀ i (h:i < kl.length),q6e w0 b kl[i])(v0 v1 v2:Value)(more:Bool)(l:Tx)(w:World)(ht:NdR w0 (.mk k s kl) v0 v1 v2)(hp:PrI w0 b l w)(T:Tx)
  (hT:q2o kl (Nd.bareL kl) 0 (q64 bd) true++(([32]++(sg++[32]))++q2o kl (Nd.bareL kl) 1 (q3d bd) more)=T) (hlen:l.length+T.length<=100000000):Calls Tryz.prog 228 #[.pointer (some ⟨b,0,none⟩),.agg #[v0,v1,v2],.bool more] w (PrO w0 b l w T):=by
 have hbd:=qli hop;obtain⟨_,_,_,a,cap,hform,rfl,rfl,rfl,hs,hl⟩:=ht.form
 cases hform;obtain⟨L,hL⟩:∃ L,kl.length=L:=⟨_,rfl⟩;rw[hL]at ht hl;rw[hL];obtain⟨W,hW⟩:∃ W,w.alloc (.cells #[.int .i64 k,.string s,.slice a L cap] 25)=W:=⟨_,rfl⟩;have R0':Row3 W w.heap.size (.int .i64 k) (.string s) (.slice a L cap):=by rw[<-hW];exact Row3.new _ _ _ _
 have P0:=qh (hW▸hp.alloc (.cells #[.int .i64 k,.string s,.slice a L cap] 25));have K0:=qh (hW▸(Wr.refl w0.heap.size b w).alloc hp.size (.cells #[.int .i64 k,.string s,.slice a L cap] 25));have hne:w.heap.size≠b:=by have:=hp.p.lt;omega
 have HN:=qh ht;unfold maxLen at hl;have i0:(0:Int) < (L:Int):=by omega
 have i1:(1:Int) < (L:Int):=by omega
 have j0:0 < L:=by omega
 have j1:1 < L:=by omega
 obtain⟨bb,o,k0',s0',l0',a0',c0',rfl,eK0,x00,x01,x02,r0⟩:=ht.kid 0 (by omega);simp only[Nat.zero_mul,Nat.add_zero]at x00 x01 x02;have X0:=qh (And.intro x00 (And.intro x01 x02));obtain⟨bb1,o1',k1',s1',l1',a1',c1',hbo1,eK1,x10,x11,x12,r1⟩:=ht.kid 1 (by omega);obtain⟨rfl,rfl⟩:bb=bb1/\o=o1':=by simpa using hbo1
 simp only[Nat.one_mul]at x10 x11 x12;have X1:=qh (And.intro x10 (And.intro x11 x12));obtain⟨Y0,hY0⟩:∃ Y,(kl[0]'(by omega)).txt (q64 bd) true=Y:=⟨_,rfl⟩;obtain⟨Y1,hY1⟩:∃ Y,(kl[1]'(by omega)).txt (q3d bd) more=Y:=⟨_,rfl⟩
 have hE:T=Y0++((bs ⟨#[32]⟩++(bs ⟨sg.toArray⟩++bs ⟨#[32]⟩))++Y1):=by
  rw[<-hT,<-hY0,<-hY1,q0w (by omega),q0w (by omega)];rfl
 have hlen2:l.length+Y0.length+sg.length+2+Y1.length<=100000000:=by
  have:=hlen;rw[hE]at this;simp[bs]at this ⊢;omega
 have CO:Hid (∀ w',PrI w0 b l w'->_):=qh (fun w' (h:PrI w0 b l w')=>q3i k s (some ⟨bb,o,none⟩) L cap w' h.glw h.two');rw[hop]at CO;unfold qan S_ at CO;have C3:=qh (fun w' (h:PrI w0 b (l++Y0) w') n (hn:n=w'.heap.size)=>put3 h n hn ⟨#[32]⟩ ⟨sg.toArray⟩ ⟨#[32]⟩ (by simp[bs]at hlen2 ⊢;omega));have HE:=qh hE;have HW:=qh hW;have R0:=qh R0'
 by_cases hb0:bd=0
 ·have e0:((bd:Int)==0)=true:=by rw[hb0];rfl
  have hlb:q64 bd=bd:=by rw[hb0];rfl
  have hrb:q3d bd=bd+1:=by rw[hb0];rfl
  rw[hlb]at hY0;rw[hrb]at hY1
  have C4:Hid (∀ (z:Int),z=((bd:Nat):Int)->∀ w',PrI w0 b l w'->Calls Tryz.prog 158 #[.pointer (some ⟨b,0,none⟩),.agg #[.int .i64 k0',.string s0',.slice a0' l0'.length c0'],.int .i64 z,.bool true] w' (PrO w0 b l w' Y0)):=qh (fun z hz w' h=>by
   subst hz;have hl9:List.length l+Y0.length<=100000000:=by(try simp[bs]at hlen2 ⊢);omega
   rw[<-hY0]at hl9 ⊢
   exact hk 0 (by omega) _ _ _ (bd) true _ w' (by omega) (eK0▸r0) h hl9)
  have C5:Hid (∀ (z:Int),z=((bd+1:Nat):Int)->∀ w',PrI w0 b ((l++Y0)++(bs ⟨#[32]⟩++(bs ⟨sg.toArray⟩++bs ⟨#[32]⟩))) w'->Calls Tryz.prog 158 #[.pointer (some ⟨b,0,none⟩),.agg #[.int .i64 k1',.string s1',.slice a1' l1'.length c1'],.int .i64 z,.bool more] w' (PrO w0 b ((l++Y0)++(bs ⟨#[32]⟩++(bs ⟨sg.toArray⟩++bs ⟨#[32]⟩))) w' Y1)):=qh (fun z hz w' h=>by
   subst hz;have hl9:List.length ((l++Y0)++(bs ⟨#[32]⟩++(bs ⟨sg.toArray⟩++bs ⟨#[32]⟩)))+Y1.length<=100000000:=by(try simp[bs]at hlen2 ⊢);omega
   rw[<-hY1]at hl9 ⊢
   exact hk 1 (by omega) _ _ _ (bd+1) more _ w' (by omega) (eK1▸r1) h hl9)
  obtain⟨⟨n0,n1,n2⟩,_⟩:=R0'.cells;clear hT hlen hlen2 hE hW R0' hp hk ht HN hY0 hY1 x00 x01 x02 x10 x11 x12 r0 r1 eK0 eK1 hL hbo1 hlb hrb hb0 h2 hop;go_enter Tryz.func228,Tryz.ntmps228
  go_upto_region 1 with fail
  rw[HW.out];have y00:=P0.out.cell X0.out.1;have y01:=P0.out.cell X0.out.2.1;have y02:=P0.out.cell X0.out.2.2;have yb0:=qi y00;have y10:=P0.out.cell X1.out.1;have y11:=P0.out.cell X1.out.2.1;have y12:=P0.out.cell X1.out.2.2;have yb1:=qi y10
  go_wp2_with fail
  refine(CO.out _ P0.out).mono ?_;rintro e w1⟨rfl,bb⟩;have P1:=qh (P0.out.later bb);have K1:=qh (K0.out.later bb P0.out.size);have R1:=qh (R0.out.below bb R0.out.lt);clear bb CO n0 n1 n2 y00 y01 y02 yb0 y10 y11 y12 yb1;obtain⟨⟨n0,n1,n2⟩,_⟩:=R1.out.cells;have y00:=P1.out.cell X0.out.1;have y01:=P1.out.cell X0.out.2.1;have y02:=P1.out.cell X0.out.2.2;have yb0:=qi y00;have y10:=P1.out.cell X1.out.1;have y11:=P1.out.cell X1.out.2.1;have y12:=P1.out.cell X1.out.2.2;have yb1:=qi y10;have P1o:=qh (P1.out.alloc (.cells #[.string ⟨sg.toArray⟩,.int .i64 k,.int .i64 (bd:Nat)] 163));have K1o:=qh (K1.out.alloc P1.out.size (.cells #[.string ⟨sg.toArray⟩,.int .i64 k,.int .i64 (bd:Nat)] 163));have R1o:=qh (R1.out.alloc (.cells #[.string ⟨sg.toArray⟩,.int .i64 k,.int .i64 (bd:Nat)] 163));have O1:Hid (RowO (w1.alloc (.cells #[.string ⟨sg.toArray⟩,.int .i64 k,.int .i64 (bd:Nat)] 163)) w1.heap.size _ _ _):=qh (qk w1 _);have hno:w1.heap.size≠b:=by have:=P1.out.p.lt;omega
  clear n0 n1 n2 y00 y01 y02 yb0 y10 y11 y12 yb1 P1 K1 R1;have P1:=P1o;have K1:=K1o;have R1:=R1o;clear P1o K1o R1o;obtain⟨⟨n0,n1,n2⟩,_⟩:=R1.out.cells;have y00:=P1.out.cell X0.out.1;have y01:=P1.out.cell X0.out.2.1;have y02:=P1.out.cell X0.out.2.2;have yb0:=qi y00;have y10:=P1.out.cell X1.out.1;have y11:=P1.out.cell X1.out.2.1;have y12:=P1.out.cell X1.out.2.2;have yb1:=qi y10;obtain⟨⟨o0,o1,o2⟩,p0,p1,p2⟩:=O1.out.cells
  go_wp2_with fail
  go_quiet (fail)
  generalize hQ:World.drewN _ _=w2;have P2:Hid (PrI w0 b _ w2):=qh (by rw[<-hQ];exact P1.out.later (below_drewN (Below.refl _ _) _));have K2:Hid (Wr w0.heap.size b w w2):=qh (by rw[<-hQ];exact K1.out.later (below_drewN (Below.refl _ _) _) P1.out.size);have R2:Hid (Row3 w2 w.heap.size _ _ _):=qh (by rw[<-hQ];exact R1.out);have O2:Hid (RowO w2 _ _ _ _):=qh (by rw[<-hQ];exact O1.out);clear hQ n0 n1 n2 y00 y01 y02 yb0 y10 y11 y12 yb1 o0 o1 o2 p0 p1 p2;obtain⟨⟨n0,n1,n2⟩,_⟩:=R2.out.cells;have y00:=P2.out.cell X0.out.1;have y01:=P2.out.cell X0.out.2.1;have y02:=P2.out.cell X0.out.2.2;have yb0:=qi y00;have y10:=P2.out.cell X1.out.1;have y11:=P2.out.cell X1.out.2.1;have y12:=P2.out.cell X1.out.2.2;have yb1:=qi y10;obtain⟨⟨o0,o1,o2⟩,p0,p1,p2⟩:=O2.out.cells
  go_wp2_with fail
  go_quiet (fail)
  generalize hQ:World.drewN _ _=w3;have P3:Hid (PrI w0 b _ w3):=qh (by rw[<-hQ];exact P2.out.later (below_drewN (Below.refl _ _) _));have K3:Hid (Wr w0.heap.size b w w3):=qh (by rw[<-hQ];exact K2.out.later (below_drewN (Below.refl _ _) _) P2.out.size);have R3:Hid (Row3 w3 w.heap.size _ _ _):=qh (by rw[<-hQ];exact R2.out);have O3:Hid (RowO w3 _ _ _ _):=qh (by rw[<-hQ];exact O2.out);clear hQ n0 n1 n2 y00 y01 y02 yb0 y10 y11 y12 yb1 o0 o1 o2 p0 p1 p2;obtain⟨⟨n0,n1,n2⟩,_⟩:=R3.out.cells;have y00:=P3.out.cell X0.out.1;have y01:=P3.out.cell X0.out.2.1;have y02:=P3.out.cell X0.out.2.2;have yb0:=qi y00;have y10:=P3.out.cell X1.out.1;have y11:=P3.out.cell X1.out.2.1;have y12:=P3.out.cell X1.out.2.2;have yb1:=qi y10;obtain⟨⟨o0,o1,o2⟩,p0,p1,p2⟩:=O3.out.cells
  go_wp2_with fail
  refine(C4.out _ (by first|rfl|(push_cast;rfl)) _ P3.out).mono ?_;rintro e w4⟨rfl,pp,kk⟩;have P4:=qh pp;have K4:=qh (K3.out.trans kk);have R4:=qh (kk.row3 R3.out hne);have O4:=qh (kk.rowO O3.out hno);clear pp kk C4 n0 n1 n2 y00 y01 y02 yb0 y10 y11 y12 yb1 o0 o1 o2 p0 p1 p2;obtain⟨⟨n0,n1,n2⟩,_⟩:=R4.out.cells;have y00:=P4.out.cell X0.out.1;have y01:=P4.out.cell X0.out.2.1;have y02:=P4.out.cell X0.out.2.2;have yb0:=qi y00;have y10:=P4.out.cell X1.out.1;have y11:=P4.out.cell X1.out.2.1;have y12:=P4.out.cell X1.out.2.2;have yb1:=qi y10;obtain⟨⟨o0,o1,o2⟩,p0,p1,p2⟩:=O4.out.cells
  go_wp2_with fail
  refine(C3.out _ P4.out _ (by first|rfl|simp only[q6])).mono ?_;rintro e w5⟨rfl,pp,kk⟩;have P5:=qh pp;have K5:=qh (K4.out.trans kk);have R5:=qh (kk.row3 R4.out hne);have O5:=qh (kk.rowO O4.out hno);clear pp kk C3 n0 n1 n2 y00 y01 y02 yb0 y10 y11 y12 yb1 o0 o1 o2 p0 p1 p2;obtain⟨⟨n0,n1,n2⟩,_⟩:=R5.out.cells;have y00:=P5.out.cell X0.out.1;have y01:=P5.out.cell X0.out.2.1;have y02:=P5.out.cell X0.out.2.2;have yb0:=qi y00;have y10:=P5.out.cell X1.out.1;have y11:=P5.out.cell X1.out.2.1;have y12:=P5.out.cell X1.out.2.2;have yb1:=qi y10;obtain⟨⟨o0,o1,o2⟩,p0,p1,p2⟩:=O5.out.cells
  go_wp2_with fail
  refine(C5.out _ (by first|rfl|(push_cast;rfl)) _ P5.out).mono ?_;rintro e w6⟨rfl,pp,kk⟩;have P6:=qh pp;have K6:=qh (K5.out.trans kk);have R6:=qh (kk.row3 R5.out hne);have O6:=qh (kk.rowO O5.out hno);clear pp kk C5 n0 n1 n2 y00 y01 y02 yb0 y10 y11 y12 yb1 o0 o1 o2 p0 p1 p2;go_wp2;go_end0;exact⟨rfl,by rw[HE.out];simpa only[qn,x9]using P6.out,K6.out⟩
 ·have e0:((bd:Int)==0)=false:=by rw[qc];omega
  have hlb:q64 bd=bd+1:=qd hb0;have hrb:q3d bd=bd:=qd hb0;rw[hlb]at hY0;rw[hrb]at hY1
  have C4:Hid (∀ (z:Int),z=((bd+1:Nat):Int)->∀ w',PrI w0 b l w'->Calls Tryz.prog 158 #[.pointer (some ⟨b,0,none⟩),.agg #[.int .i64 k0',.string s0',.slice a0' l0'.length c0'],.int .i64 z,.bool true] w' (PrO w0 b l w' Y0)):=qh (fun z hz w' h=>by
   subst hz;have hl9:List.length l+Y0.length<=100000000:=by(try simp[bs]at hlen2 ⊢);omega
   rw[<-hY0]at hl9 ⊢
   exact hk 0 (by omega) _ _ _ (bd+1) true _ w' (by omega) (eK0▸r0) h hl9)
  have C5:Hid (∀ (z:Int),z=((bd:Nat):Int)->∀ w',PrI w0 b ((l++Y0)++(bs ⟨#[32]⟩++(bs ⟨sg.toArray⟩++bs ⟨#[32]⟩))) w'->Calls Tryz.prog 158 #[.pointer (some ⟨b,0,none⟩),.agg #[.int .i64 k1',.string s1',.slice a1' l1'.length c1'],.int .i64 z,.bool more] w' (PrO w0 b ((l++Y0)++(bs ⟨#[32]⟩++(bs ⟨sg.toArray⟩++bs ⟨#[32]⟩))) w' Y1)):=qh (fun z hz w' h=>by
   subst hz;have hl9:List.length ((l++Y0)++(bs ⟨#[32]⟩++(bs ⟨sg.toArray⟩++bs ⟨#[32]⟩)))+Y1.length<=100000000:=by(try simp[bs]at hlen2 ⊢);omega
   rw[<-hY1]at hl9 ⊢
   exact hk 1 (by omega) _ _ _ (bd) more _ w' (by omega) (eK1▸r1) h hl9)
  obtain⟨⟨n0,n1,n2⟩,_⟩:=R0'.cells;clear hT hlen hlen2 hE hW R0' hp hk ht HN hY0 hY1 x00 x01 x02 x10 x11 x12 r0 r1 eK0 eK1 hL hbo1 hlb hrb hb0 h2 hop;go_enter Tryz.func228,Tryz.ntmps228
  go_upto_region 1 with fail
  rw[HW.out];have y00:=P0.out.cell X0.out.1;have y01:=P0.out.cell X0.out.2.1;have y02:=P0.out.cell X0.out.2.2;have yb0:=qi y00;have y10:=P0.out.cell X1.out.1;have y11:=P0.out.cell X1.out.2.1;have y12:=P0.out.cell X1.out.2.2;have yb1:=qi y10
  go_wp2_with fail
  refine(CO.out _ P0.out).mono ?_;rintro e w1⟨rfl,bb⟩;have P1:=qh (P0.out.later bb);have K1:=qh (K0.out.later bb P0.out.size);have R1:=qh (R0.out.below bb R0.out.lt);clear bb CO n0 n1 n2 y00 y01 y02 yb0 y10 y11 y12 yb1;obtain⟨⟨n0,n1,n2⟩,_⟩:=R1.out.cells;have y00:=P1.out.cell X0.out.1;have y01:=P1.out.cell X0.out.2.1;have y02:=P1.out.cell X0.out.2.2;have yb0:=qi y00;have y10:=P1.out.cell X1.out.1;have y11:=P1.out.cell X1.out.2.1;have y12:=P1.out.cell X1.out.2.2;have yb1:=qi y10;have P1o:=qh (P1.out.alloc (.cells #[.string ⟨sg.toArray⟩,.int .i64 k,.int .i64 (bd:Nat)] 163));have K1o:=qh (K1.out.alloc P1.out.size (.cells #[.string ⟨sg.toArray⟩,.int .i64 k,.int .i64 (bd:Nat)] 163));have R1o:=qh (R1.out.alloc (.cells #[.string ⟨sg.toArray⟩,.int .i64 k,.int .i64 (bd:Nat)] 163));have O1:Hid (RowO (w1.alloc (.cells #[.string ⟨sg.toArray⟩,.int .i64 k,.int .i64 (bd:Nat)] 163)) w1.heap.size _ _ _):=qh (qk w1 _);have hno:w1.heap.size≠b:=by have:=P1.out.p.lt;omega
  clear n0 n1 n2 y00 y01 y02 yb0 y10 y11 y12 yb1 P1 K1 R1;have P1:=P1o;have K1:=K1o;have R1:=R1o;clear P1o K1o R1o;obtain⟨⟨n0,n1,n2⟩,_⟩:=R1.out.cells;have y00:=P1.out.cell X0.out.1;have y01:=P1.out.cell X0.out.2.1;have y02:=P1.out.cell X0.out.2.2;have yb0:=qi y00;have y10:=P1.out.cell X1.out.1;have y11:=P1.out.cell X1.out.2.1;have y12:=P1.out.cell X1.out.2.2;have yb1:=qi y10;obtain⟨⟨o0,o1,o2⟩,p0,p1,p2⟩:=O1.out.cells
  go_wp2_with fail
  go_quiet (fail)
  generalize hQ:World.drewN _ _=w2;have P2:Hid (PrI w0 b _ w2):=qh (by rw[<-hQ];exact P1.out.later (below_drewN (Below.refl _ _) _));have K2:Hid (Wr w0.heap.size b w w2):=qh (by rw[<-hQ];exact K1.out.later (below_drewN (Below.refl _ _) _) P1.out.size);have R2:Hid (Row3 w2 w.heap.size _ _ _):=qh (by rw[<-hQ];exact R1.out);have O2:Hid (RowO w2 _ _ _ _):=qh (by rw[<-hQ];exact O1.out);clear hQ n0 n1 n2 y00 y01 y02 yb0 y10 y11 y12 yb1 o0 o1 o2 p0 p1 p2;obtain⟨⟨n0,n1,n2⟩,_⟩:=R2.out.cells;have y00:=P2.out.cell X0.out.1;have y01:=P2.out.cell X0.out.2.1;have y02:=P2.out.cell X0.out.2.2;have yb0:=qi y00;have y10:=P2.out.cell X1.out.1;have y11:=P2.out.cell X1.out.2.1;have y12:=P2.out.cell X1.out.2.2;have yb1:=qi y10;obtain⟨⟨o0,o1,o2⟩,p0,p1,p2⟩:=O2.out.cells
  go_wp2_with fail
  refine(C4.out _ (by first|rfl|(push_cast;rfl)) _ P2.out).mono ?_;rintro e w3⟨rfl,pp,kk⟩;have P3:=qh pp;have K3:=qh (K2.out.trans kk);have R3:=qh (kk.row3 R2.out hne);have O3:=qh (kk.rowO O2.out hno);clear pp kk C4 n0 n1 n2 y00 y01 y02 yb0 y10 y11 y12 yb1 o0 o1 o2 p0 p1 p2;obtain⟨⟨n0,n1,n2⟩,_⟩:=R3.out.cells;have y00:=P3.out.cell X0.out.1;have y01:=P3.out.cell X0.out.2.1;have y02:=P3.out.cell X0.out.2.2;have yb0:=qi y00;have y10:=P3.out.cell X1.out.1;have y11:=P3.out.cell X1.out.2.1;have y12:=P3.out.cell X1.out.2.2;have yb1:=qi y10;obtain⟨⟨o0,o1,o2⟩,p0,p1,p2⟩:=O3.out.cells
  go_wp2_with fail
  refine(C3.out _ P3.out _ (by first|rfl|simp only[q6])).mono ?_;rintro e w4⟨rfl,pp,kk⟩;have P4:=qh pp;have K4:=qh (K3.out.trans kk);have R4:=qh (kk.row3 R3.out hne);have O4:=qh (kk.rowO O3.out hno);clear pp kk C3 n0 n1 n2 y00 y01 y02 yb0 y10 y11 y12 yb1 o0 o1 o2 p0 p1 p2;obtain⟨⟨n0,n1,n2⟩,_⟩:=R4.out.cells;have y00:=P4.out.cell X0.out.1;have y01:=P4.out.cell X0.out.2.1;have y02:=P4.out.cell X0.out.2.2;have yb0:=qi y00;have y10:=P4.out.cell X1.out.1;have y11:=P4.out.cell X1.out.2.1;have y12:=P4.out.cell X1.out.2.2;have yb1:=qi y10;obtain⟨⟨o0,o1,o2⟩,p0,p1,p2⟩:=O4.out.cells
  go_wp2_with fail
  refine(C5.out _ (by first|rfl|(push_cast;rfl)) _ P4.out).mono ?_;rintro e w5⟨rfl,pp,kk⟩;have P5:=qh pp;have K5:=qh (K4.out.trans kk);have R5:=qh (kk.row3 R4.out hne);have O5:=qh (kk.rowO O4.out hno);clear pp kk C5 n0 n1 n2 y00 y01 y02 yb0 y10 y11 y12 yb1 o0 o1 o2 p0 p1 p2;go_wp2;go_end0;exact⟨rfl,by rw[HE.out];simpa only[qn,x9]using P5.out,K5.out⟩
theorem qme{w0:World}{b:Nat}(k:Int)(s:ByteArray)(kl:List Nd)(hsh:ji k kl.length=true)(hk:∀ i (h:i < kl.length),q6e w0 b kl[i])(hka:∀ i (h:i < kl.length),ql3 w0 b kl[i]):q8m w0 b (.mk k s kl):=by
 intro v0 v1 v2 more l w ht hp hlen;obtain⟨_,_,_,a,cap,hform,rfl,rfl,rfl,hs,hl⟩:=ht.form
 cases hform;obtain⟨L,hL⟩:∃ L,kl.length=L:=⟨_,rfl⟩;rw[hL]at ht hl;rw[hL];obtain⟨W,hW⟩:∃ W,w.alloc (.cells #[.int .i64 k,.string s,.slice a L cap] 25)=W:=⟨_,rfl⟩;have R0':Row3 W w.heap.size (.int .i64 k) (.string s) (.slice a L cap):=by rw[<-hW];exact Row3.new _ _ _ _
 have P0:=qh (hW▸hp.alloc (.cells #[.int .i64 k,.string s,.slice a L cap] 25));have K0:=qh (hW▸(Wr.refl w0.heap.size b w).alloc hp.size (.cells #[.int .i64 k,.string s,.slice a L cap] 25));have hne:w.heap.size≠b:=by have:=hp.p.lt;omega
 have HN:=qh ht;have HL:=qh hlen;unfold maxLen at hl;rw[hL]at hsh;obtain⟨T,hT⟩:∃ T,(Nd.mk k s kl).bare more=T:=⟨_,rfl⟩;rw[hT]at HL hlen;rw[hT];have HW:=qh hW;have R0:=qh R0';clear hW R0' hp;obtain⟨ow,how⟩:∃ ow,wq k=ow:=⟨_,rfl⟩;have CO:Hid (∀ w',PrI w0 b l w'->_):=qh (fun w' (h:PrI w0 b l w')=>q9n k s a L cap w' h.glw h.two');rw[how]at CO;unfold S_ at CO
 by_cases hc:k=15
 ·subst hc
  have hE:T=bs s++kl.flatMap fun x=>32 :: x.arg:=by rw[<-hT];exact q5y (by decide) s kl more
  have HE:=qh hE;have hlen2:=HL.out;rw[hE]at hlen2;simp only[qg]at hlen2;have C1:=qh (fun w' (h:PrI w0 b l w') n (hn:n=w'.heap.size)=>put1 h n hn s (by omega));have HA:=qh hka;have HLL:=qh hL;have HLen:=qh hlen2;clear CO how hT hE hlen hlen2 hk hka ht HL hsh hL;obtain⟨⟨n0,n1,n2⟩,_⟩:=R0.out.cells;go_enter Tryz.func206,Tryz.ntmps206
  go_upto_region 1 with fail
  rw[HW.out]
  go_wp2_with fail
  refine(C1.out _ P0.out _ (by first|rfl|simp only[q6])).mono ?_;rintro e w1⟨rfl,pp,kk⟩;have P1:=qh pp;have K1:=qh (K0.out.trans kk);have R1:=qh (kk.row3 R0.out hne);clear pp kk C1 n0 n1 n2;obtain⟨⟨n0,n1,n2⟩,_⟩:=R1.out.cells;go_wp2
  go_loopw [25] (fun v wr=>∃ i:Nat,i<=L/\v = .int .i64 i/\Hid (PrI w0 b ((l++bs s)++(kl.take i).flatMap fun x=>32 :: x.arg) wr)/\Hid (Wr w0.heap.size b w wr)) (fun v _=>L - (intOf v).toNat)
  case atStart=>exact⟨0,qv _,rfl,qh (by simpa using P1.out),K1⟩
  case round =>
   obtain⟨i,hi,rfl,PI,KI⟩:=hrel
   by_cases hlt:i < L
   ·have hlt':(i:Int) < (L:Int):=by omega
    have hi0:(0:Int)<=(i:Int):=by omega
    have hik:i < kl.length:=by rw[HLL.out];exact hlt
    have hm1:(i:Int)+1<=(L:Int):=by omega
    obtain⟨bb,o,k1,s1,l1,a1,c1,rfl,e1,x0,x1,x2,r1⟩:=HN.out.kid i hik;have y0:=PI.out.cell x0;have y1:=PI.out.cell x1;have y2:=PI.out.cell x2;have yb:=qi y0
    have hG:(kl.take (i+1)).flatMap (fun x=>(32:UInt8) :: x.arg)=(kl.take i).flatMap (fun x=>32 :: x.arg)++(32 :: (kl[i]).arg):=by
     rw[zc hik,zj];simp
    have hGl:((kl.take (i+1)).flatMap (fun x=>(32:UInt8) :: x.arg)).length<=(kl.flatMap (fun x=>(32:UInt8) :: x.arg)).length:=by
     conv=>rhs;rw[<-List.take_append_drop (i+1) kl]
     rw[zj,qg];omega
    have hlen3:=HLen.out;rw[hG]at hGl;simp only[qg,qr]at hGl;generalize hU:(kl.take i).flatMap (fun x=>(32:UInt8) :: x.arg)=U at *;obtain⟨A,hA⟩:∃ A,(kl[i]).arg=A:=⟨_,rfl⟩;rw[hA]at hG hGl;have HG:=qh hG;have CP:=qh (fun w' (h:PrI w0 b ((l++bs s)++U) w') n (hn:n=w'.heap.size)=>put1 h n hn ⟨#[32]⟩ (by have h1:(bs ⟨#[32]⟩).length=1:=rfl;simp only[qg];omega))
    have CA:Hid (∀ w',PrI w0 b (((l++bs s)++U)++bs ⟨#[32]⟩) w'->Calls Tryz.prog 226 #[.pointer (some ⟨b,0,none⟩),.agg #[.int .i64 k1,.string s1,.slice a1 l1.length c1]] w' (PrO w0 b (((l++bs s)++U)++bs ⟨#[32]⟩) w' A)):=qh (fun w' h=>by
     have hl9:List.length (((l++bs s)++U)++bs ⟨#[32]⟩)+A.length<=100000000:=by have h1:(bs ⟨#[32]⟩).length=1:=rfl;simp only[qg];omega
     rw[<-hA]at hl9 ⊢
     exact HA.out i hik _ _ _ _ w' (e1▸r1) h hl9)
    have RN:=qh (Row3.new wr (.int .i64 k1) (.string s1) (.slice a1 l1.length c1));have PN:=qh (PI.out.alloc (.cells #[.int .i64 k1,.string s1,.slice a1 l1.length c1] 25));have KN:=qh (KI.out.alloc PI.out.size (.cells #[.int .i64 k1,.string s1,.slice a1 l1.length c1] 25));have hnn:wr.heap.size≠b:=by have:=PI.out.p.lt;omega
    clear hU hA hG hGl hlen3 x0 x1 x2 r1 e1 hik n0 n1 n2
    go_wp2_with fail
    refine(CP.out _ PN.out _ (by first|rfl|simp only[q6])).mono ?_;rintro e w5⟨rfl,pp,kk⟩;have P5:=qh pp;have K5:=qh (KN.out.trans kk);have R5:=qh (kk.row3 RN.out hnn);obtain⟨⟨n0,n1,n2⟩,_⟩:=R5.out.cells;clear pp kk CP y0 y1 y2 yb
    go_wp2_with fail
    refine(CA.out _ P5.out).mono ?_;rintro e w6⟨rfl,pp,kk⟩;have P6:Hid (PrI w0 b ((l++bs s)++(kl.take (i+1)).flatMap fun x=>32 :: x.arg) w6):=qh (by rw[HG.out];simpa[bs]using pp);have K6:=qh (K5.out.trans kk);clear pp kk CA n0 n1 n2;go_wp2;go_roundw
    case rel=>exact⟨i+1,hlt,by push_cast;rfl,P6,K6⟩
    case measure=>simp[intOf];omega
   ·have hlt':¬ ((i:Int) < (L:Int)):=by omega
    have hG:kl.take i=kl:=qw (by rw[HLL.out];omega);have P6:=qh (show PrI w0 b (l++T) wr by rw[HE.out];have:=PI.out;rw[hG]at this;simpa[bs]using this);clear hG;go_wp2;go_end0;exact⟨rfl,P6.out,KI.out⟩
 ·have m15:¬ k=15:=hc
  have hk15:((k:Int)==15)=false:=by rw[qc];exact hc
  clear hc
  by_cases hc:k=16
  ·subst hc
   have hE:T=bs s++kl.flatMap fun x=>32 :: x.arg:=by rw[<-hT];exact q5y (by decide) s kl more
   have HE:=qh hE;have hlen2:=HL.out;rw[hE]at hlen2;simp only[qg]at hlen2;have C1:=qh (fun w' (h:PrI w0 b l w') n (hn:n=w'.heap.size)=>put1 h n hn s (by omega));have HA:=qh hka;have HLL:=qh hL;have HLen:=qh hlen2;clear CO how hT hE hlen hlen2 hk hka ht HL hsh hL;obtain⟨⟨n0,n1,n2⟩,_⟩:=R0.out.cells;go_enter Tryz.func206,Tryz.ntmps206
   go_upto_region 1 with fail
   rw[HW.out]
   go_wp2_with fail
   refine(C1.out _ P0.out _ (by first|rfl|simp only[q6])).mono ?_;rintro e w1⟨rfl,pp,kk⟩;have P1:=qh pp;have K1:=qh (K0.out.trans kk);have R1:=qh (kk.row3 R0.out hne);clear pp kk C1 n0 n1 n2;obtain⟨⟨n0,n1,n2⟩,_⟩:=R1.out.cells;go_wp2
   go_loopw [25] (fun v wr=>∃ i:Nat,i<=L/\v = .int .i64 i/\Hid (PrI w0 b ((l++bs s)++(kl.take i).flatMap fun x=>32 :: x.arg) wr)/\Hid (Wr w0.heap.size b w wr)) (fun v _=>L - (intOf v).toNat)
   case atStart=>exact⟨0,qv _,rfl,qh (by simpa using P1.out),K1⟩
   case round =>
    obtain⟨i,hi,rfl,PI,KI⟩:=hrel
    by_cases hlt:i < L
    ·have hlt':(i:Int) < (L:Int):=by omega
     have hi0:(0:Int)<=(i:Int):=by omega
     have hik:i < kl.length:=by rw[HLL.out];exact hlt
     have hm1:(i:Int)+1<=(L:Int):=by omega
     obtain⟨bb,o,k1,s1,l1,a1,c1,rfl,e1,x0,x1,x2,r1⟩:=HN.out.kid i hik;have y0:=PI.out.cell x0;have y1:=PI.out.cell x1;have y2:=PI.out.cell x2;have yb:=qi y0
     have hG:(kl.take (i+1)).flatMap (fun x=>(32:UInt8) :: x.arg)=(kl.take i).flatMap (fun x=>32 :: x.arg)++(32 :: (kl[i]).arg):=by
      rw[zc hik,zj];simp
     have hGl:((kl.take (i+1)).flatMap (fun x=>(32:UInt8) :: x.arg)).length<=(kl.flatMap (fun x=>(32:UInt8) :: x.arg)).length:=by
      conv=>rhs;rw[<-List.take_append_drop (i+1) kl]
      rw[zj,qg];omega
     have hlen3:=HLen.out;rw[hG]at hGl;simp only[qg,qr]at hGl;generalize hU:(kl.take i).flatMap (fun x=>(32:UInt8) :: x.arg)=U at *;obtain⟨A,hA⟩:∃ A,(kl[i]).arg=A:=⟨_,rfl⟩;rw[hA]at hG hGl;have HG:=qh hG;have CP:=qh (fun w' (h:PrI w0 b ((l++bs s)++U) w') n (hn:n=w'.heap.size)=>put1 h n hn ⟨#[32]⟩ (by have h1:(bs ⟨#[32]⟩).length=1:=rfl;simp only[qg];omega))
     have CA:Hid (∀ w',PrI w0 b (((l++bs s)++U)++bs ⟨#[32]⟩) w'->Calls Tryz.prog 226 #[.pointer (some ⟨b,0,none⟩),.agg #[.int .i64 k1,.string s1,.slice a1 l1.length c1]] w' (PrO w0 b (((l++bs s)++U)++bs ⟨#[32]⟩) w' A)):=qh (fun w' h=>by
      have hl9:List.length (((l++bs s)++U)++bs ⟨#[32]⟩)+A.length<=100000000:=by have h1:(bs ⟨#[32]⟩).length=1:=rfl;simp only[qg];omega
      rw[<-hA]at hl9 ⊢
      exact HA.out i hik _ _ _ _ w' (e1▸r1) h hl9)
     have RN:=qh (Row3.new wr (.int .i64 k1) (.string s1) (.slice a1 l1.length c1));have PN:=qh (PI.out.alloc (.cells #[.int .i64 k1,.string s1,.slice a1 l1.length c1] 25));have KN:=qh (KI.out.alloc PI.out.size (.cells #[.int .i64 k1,.string s1,.slice a1 l1.length c1] 25));have hnn:wr.heap.size≠b:=by have:=PI.out.p.lt;omega
     clear hU hA hG hGl hlen3 x0 x1 x2 r1 e1 hik n0 n1 n2
     go_wp2_with fail
     refine(CP.out _ PN.out _ (by first|rfl|simp only[q6])).mono ?_;rintro e w5⟨rfl,pp,kk⟩;have P5:=qh pp;have K5:=qh (KN.out.trans kk);have R5:=qh (kk.row3 RN.out hnn);obtain⟨⟨n0,n1,n2⟩,_⟩:=R5.out.cells;clear pp kk CP y0 y1 y2 yb
     go_wp2_with fail
     refine(CA.out _ P5.out).mono ?_;rintro e w6⟨rfl,pp,kk⟩;have P6:Hid (PrI w0 b ((l++bs s)++(kl.take (i+1)).flatMap fun x=>32 :: x.arg) w6):=qh (by rw[HG.out];simpa[bs]using pp);have K6:=qh (K5.out.trans kk);clear pp kk CA n0 n1 n2;go_wp2;go_roundw
     case rel=>exact⟨i+1,hlt,by push_cast;rfl,P6,K6⟩
     case measure=>simp[intOf];omega
    ·have hlt':¬ ((i:Int) < (L:Int)):=by omega
     have hG:kl.take i=kl:=qw (by rw[HLL.out];omega);have P6:=qh (show PrI w0 b (l++T) wr by rw[HE.out];have:=PI.out;rw[hG]at this;simpa[bs]using this);clear hG;go_wp2;go_end0;exact⟨rfl,P6.out,KI.out⟩
  ·have m16:¬ k=16:=hc
   have hk16:((k:Int)==16)=false:=by rw[qc];exact hc
   clear hc
   by_cases hc:k=17
   ·subst hc
    have h12:L=1\/L=2:=by simpa[ji]using hsh
    obtain⟨X,hX⟩:∃ X,y8 s kl (Nd.bareL kl)=X:=⟨_,rfl⟩;have hE:T=ow++X:=by rw[<-hT,<-how,<-hX];rfl
    have HE:=qh hE;have hlen2:=HL.out;rw[hE]at hlen2;simp only[qg]at hlen2;have C1:=qh (fun w' (h:PrI w0 b l w') n (hn:n=w'.heap.size)=>put1 h n hn ⟨ow.toArray⟩ (by simp[bs];omega))
    have C2:Hid (∀ w',PrI w0 b (l++ow) w'->Calls Tryz.prog 227 #[.pointer (some ⟨b,0,none⟩),.agg #[.int .i64 17,.string s,.slice a L cap]] w' (PrO w0 b (l++ow) w' X)):=qh (fun w' h=>by
     have hl9:List.length (l++ow)+X.length<=100000000:=by simp only[qg];omega
     rw[<-hX]at hl9 ⊢
     exact q5w 17 s kl (by rw[hL];exact h12) hk _ _ _ _ w' HN.out h hl9)
    clear how hX hT hE hlen hlen2 hk hka ht HL hsh hL h12;obtain⟨⟨n0,n1,n2⟩,_⟩:=R0.out.cells;go_enter Tryz.func206,Tryz.ntmps206
    go_upto_region 1 with fail
    rw[HW.out]
    go_wp2_with fail
    refine(CO.out _ P0.out).mono ?_;rintro e w1⟨rfl,bb⟩;have P1:=qh (P0.out.later bb);have K1:=qh (K0.out.later bb P0.out.size);have R1:=qh (R0.out.below bb R0.out.lt);clear bb CO n0 n1 n2;obtain⟨⟨n0,n1,n2⟩,_⟩:=R1.out.cells
    go_wp2_with fail
    refine(C1.out _ P1.out _ (by first|rfl|simp only[q6])).mono ?_;rintro e w2⟨rfl,pp,kk⟩;have P2:=qh pp;have K2:=qh (K1.out.trans kk);have R2:=qh (kk.row3 R1.out hne);clear pp kk C1 n0 n1 n2;obtain⟨⟨n0,n1,n2⟩,_⟩:=R2.out.cells
    go_wp2_with fail
    refine(C2.out _ P2.out).mono ?_;rintro e w3⟨rfl,pp,kk⟩;have P3:=qh pp;have K3:=qh (K2.out.trans kk);have R3:=qh (kk.row3 R2.out hne);clear pp kk C2 n0 n1 n2;go_wp2;go_end0;exact⟨rfl,by rw[HE.out];simpa only[qn,x9]using P3.out,K3.out⟩
   ·have m17:¬ k=17:=hc
    have hk17:((k:Int)==17)=false:=by rw[qc];exact hc
    clear hc
    by_cases hc:k=18
    ·subst hc
     have h12:L=1\/L=2:=by simpa[ji]using hsh
     obtain⟨X,hX⟩:∃ X,y8 s kl (Nd.bareL kl)=X:=⟨_,rfl⟩;have hE:T=(ow++[32])++X:=by rw[<-hT,<-how,<-hX];rfl
     have HE:=qh hE;have hlen2:=HL.out;rw[hE]at hlen2;simp only[qg]at hlen2;have C1:=qh (fun w' (h:PrI w0 b l w') n (hn:n=w'.heap.size)=>put2 h n hn ⟨ow.toArray⟩ ⟨#[32]⟩ (by simp[bs]at hlen2 ⊢;omega))
     have C2:Hid (∀ w',PrI w0 b (l++(ow++[32])) w'->Calls Tryz.prog 227 #[.pointer (some ⟨b,0,none⟩),.agg #[.int .i64 18,.string s,.slice a L cap]] w' (PrO w0 b (l++(ow++[32])) w' X)):=qh (fun w' h=>by
      have hl9:List.length (l++(ow++[32]))+X.length<=100000000:=by simp only[qg];omega
      rw[<-hX]at hl9 ⊢
      exact q5w 18 s kl (by rw[hL];exact h12) hk _ _ _ _ w' HN.out h hl9)
     clear how hX hT hE hlen hlen2 hk hka ht HL hsh hL h12;obtain⟨⟨n0,n1,n2⟩,_⟩:=R0.out.cells;go_enter Tryz.func206,Tryz.ntmps206
     go_upto_region 1 with fail
     rw[HW.out]
     go_wp2_with fail
     refine(CO.out _ P0.out).mono ?_;rintro e w1⟨rfl,bb⟩;have P1:=qh (P0.out.later bb);have K1:=qh (K0.out.later bb P0.out.size);have R1:=qh (R0.out.below bb R0.out.lt);clear bb CO n0 n1 n2;obtain⟨⟨n0,n1,n2⟩,_⟩:=R1.out.cells
     go_wp2_with fail
     refine(C1.out _ P1.out _ (by first|rfl|simp only[q6])).mono ?_;rintro e w2⟨rfl,pp,kk⟩;have P2:=qh pp;have K2:=qh (K1.out.trans kk);have R2:=qh (kk.row3 R1.out hne);clear pp kk C1 n0 n1 n2;obtain⟨⟨n0,n1,n2⟩,_⟩:=R2.out.cells
     go_wp2_with fail
     refine(C2.out _ P2.out).mono ?_;rintro e w3⟨rfl,pp,kk⟩;have P3:=qh pp;have K3:=qh (K2.out.trans kk);have R3:=qh (kk.row3 R2.out hne);clear pp kk C2 n0 n1 n2;go_wp2;go_end0;exact⟨rfl,by rw[HE.out];simpa only[qn,x9]using P3.out,K3.out⟩
    ·have m18:¬ k=18:=hc
     have hk18:((k:Int)==18)=false:=by rw[qc];exact hc
     clear hc
     by_cases hc:k=19
     ·subst hc
      have h12:L=1\/L=2:=by simpa[ji]using hsh
      obtain⟨X,hX⟩:∃ X,y8 s kl (Nd.bareL kl)=X:=⟨_,rfl⟩;have hE:T=(ow++[32])++X:=by rw[<-hT,<-how,<-hX];rfl
      have HE:=qh hE;have hlen2:=HL.out;rw[hE]at hlen2;simp only[qg]at hlen2;have C1:=qh (fun w' (h:PrI w0 b l w') n (hn:n=w'.heap.size)=>put2 h n hn ⟨ow.toArray⟩ ⟨#[32]⟩ (by simp[bs]at hlen2 ⊢;omega))
      have C2:Hid (∀ w',PrI w0 b (l++(ow++[32])) w'->Calls Tryz.prog 227 #[.pointer (some ⟨b,0,none⟩),.agg #[.int .i64 19,.string s,.slice a L cap]] w' (PrO w0 b (l++(ow++[32])) w' X)):=qh (fun w' h=>by
       have hl9:List.length (l++(ow++[32]))+X.length<=100000000:=by simp only[qg];omega
       rw[<-hX]at hl9 ⊢
       exact q5w 19 s kl (by rw[hL];exact h12) hk _ _ _ _ w' HN.out h hl9)
      clear how hX hT hE hlen hlen2 hk hka ht HL hsh hL h12;obtain⟨⟨n0,n1,n2⟩,_⟩:=R0.out.cells;go_enter Tryz.func206,Tryz.ntmps206
      go_upto_region 1 with fail
      rw[HW.out]
      go_wp2_with fail
      refine(CO.out _ P0.out).mono ?_;rintro e w1⟨rfl,bb⟩;have P1:=qh (P0.out.later bb);have K1:=qh (K0.out.later bb P0.out.size);have R1:=qh (R0.out.below bb R0.out.lt);clear bb CO n0 n1 n2;obtain⟨⟨n0,n1,n2⟩,_⟩:=R1.out.cells
      go_wp2_with fail
      refine(C1.out _ P1.out _ (by first|rfl|simp only[q6])).mono ?_;rintro e w2⟨rfl,pp,kk⟩;have P2:=qh pp;have K2:=qh (K1.out.trans kk);have R2:=qh (kk.row3 R1.out hne);clear pp kk C1 n0 n1 n2;obtain⟨⟨n0,n1,n2⟩,_⟩:=R2.out.cells
      go_wp2_with fail
      refine(C2.out _ P2.out).mono ?_;rintro e w3⟨rfl,pp,kk⟩;have P3:=qh pp;have K3:=qh (K2.out.trans kk);have R3:=qh (kk.row3 R2.out hne);clear pp kk C2 n0 n1 n2;go_wp2;go_end0;exact⟨rfl,by rw[HE.out];simpa only[qn,x9]using P3.out,K3.out⟩
     ·have m19:¬ k=19:=hc
      have hk19:((k:Int)==19)=false:=by rw[qc];exact hc
      clear hc
      by_cases hc:k=20
      ·subst hc
       have hE:T=ow:=by rw[<-hT,<-how];rfl
       have HE:=qh hE;have hlen2:=HL.out;rw[hE]at hlen2;have C1:=qh (fun w' (h:PrI w0 b l w') n (hn:n=w'.heap.size)=>put1 h n hn ⟨ow.toArray⟩ (by simp[bs];omega));clear how hT hE hlen hlen2 hk hka ht HL hsh hL;obtain⟨⟨n0,n1,n2⟩,_⟩:=R0.out.cells;go_enter Tryz.func206,Tryz.ntmps206
       go_upto_region 1 with fail
       rw[HW.out]
       go_wp2_with fail
       refine(CO.out _ P0.out).mono ?_;rintro e w1⟨rfl,bb⟩;have P1:=qh (P0.out.later bb);have K1:=qh (K0.out.later bb P0.out.size);have R1:=qh (R0.out.below bb R0.out.lt);clear bb CO n0 n1 n2;obtain⟨⟨n0,n1,n2⟩,_⟩:=R1.out.cells
       go_wp2_with fail
       refine(C1.out _ P1.out _ (by first|rfl|simp only[q6])).mono ?_;rintro e w2⟨rfl,pp,kk⟩;have P2:=qh pp;have K2:=qh (K1.out.trans kk);have R2:=qh (kk.row3 R1.out hne);clear pp kk C1 n0 n1 n2;go_wp2;go_end0;exact⟨rfl,by rw[HE.out];simpa only[qn,x9]using P2.out,K2.out⟩
      ·have m20:¬ k=20:=hc
       have hk20:((k:Int)==20)=false:=by rw[qc];exact hc
       clear hc
       by_cases hc:k=21
       ·subst hc
        have hE:T=ow:=by rw[<-hT,<-how];rfl
        have HE:=qh hE;have hlen2:=HL.out;rw[hE]at hlen2;have C1:=qh (fun w' (h:PrI w0 b l w') n (hn:n=w'.heap.size)=>put1 h n hn ⟨ow.toArray⟩ (by simp[bs];omega));clear how hT hE hlen hlen2 hk hka ht HL hsh hL;obtain⟨⟨n0,n1,n2⟩,_⟩:=R0.out.cells;go_enter Tryz.func206,Tryz.ntmps206
        go_upto_region 1 with fail
        rw[HW.out]
        go_wp2_with fail
        refine(CO.out _ P0.out).mono ?_;rintro e w1⟨rfl,bb⟩;have P1:=qh (P0.out.later bb);have K1:=qh (K0.out.later bb P0.out.size);have R1:=qh (R0.out.below bb R0.out.lt);clear bb CO n0 n1 n2;obtain⟨⟨n0,n1,n2⟩,_⟩:=R1.out.cells
        go_wp2_with fail
        refine(C1.out _ P1.out _ (by first|rfl|simp only[q6])).mono ?_;rintro e w2⟨rfl,pp,kk⟩;have P2:=qh pp;have K2:=qh (K1.out.trans kk);have R2:=qh (kk.row3 R1.out hne);clear pp kk C1 n0 n1 n2;go_wp2;go_end0;exact⟨rfl,by rw[HE.out];simpa only[qn,x9]using P2.out,K2.out⟩
       ·have m21:¬ k=21:=hc
        have hk21:((k:Int)==21)=false:=by rw[qc];exact hc
        clear hc
        by_cases hc:k=29
        ·subst hc
         have j0:1<=L:=by simpa[ji]using hsh
         have i0:(0:Int) < (L:Int):=by omega
         obtain⟨bb,o,k0',s0',l0',a0',c0',rfl,eK0,x00,x01,x02,r0⟩:=ht.kid 0 (by omega);simp only[Nat.zero_mul,Nat.add_zero]at x00 x01 x02;have X0:=qh (And.intro x00 (And.intro x01 x02));obtain⟨Y0,hY0⟩:∃ Y,(kl[0]'(by omega)).txt 5 more=Y:=⟨_,rfl⟩
         have hE:T=ow++Y0:=by
          rw[<-hT,<-how,<-hY0,<-q0w];rfl
         have HE:=qh hE;have hlen2:=HL.out;rw[hE]at hlen2;simp only[qg]at hlen2;have C1:=qh (fun w' (h:PrI w0 b l w') n (hn:n=w'.heap.size)=>put1 h n hn ⟨ow.toArray⟩ (by simp[bs];omega))
         have C2:Hid (∀ (z:Int),z=((5:Nat):Int)->∀ w',PrI w0 b (l++bs ⟨ow.toArray⟩) w'->Calls Tryz.prog 158 #[.pointer (some ⟨b,0,none⟩),.agg #[.int .i64 k0',.string s0',.slice a0' l0'.length c0'],.int .i64 z,.bool more] w' (PrO w0 b (l++bs ⟨ow.toArray⟩) w' Y0)):=qh (fun z hz w' h=>by
          subst hz;have hl9:List.length (l++bs ⟨ow.toArray⟩)+Y0.length<=100000000:=by(try simp[bs]at hlen2 ⊢);omega
          rw[<-hY0]at hl9 ⊢
          exact hk 0 (by omega) _ _ _ (5) more _ w' (by omega) (eK0▸r0) h hl9)
         clear how hY0 hT hE hlen hlen2 hk hka ht HL hsh hL eK0 r0 x00 x01 x02;obtain⟨⟨n0,n1,n2⟩,_⟩:=R0.out.cells;go_enter Tryz.func206,Tryz.ntmps206
         go_upto_region 1 with fail
         rw[HW.out];have y00:=P0.out.cell X0.out.1;have y01:=P0.out.cell X0.out.2.1;have y02:=P0.out.cell X0.out.2.2;have yb0:=qi y00
         go_wp2_with fail
         refine(CO.out _ P0.out).mono ?_;rintro e w1⟨rfl,bb⟩;have P1:=qh (P0.out.later bb);have K1:=qh (K0.out.later bb P0.out.size);have R1:=qh (R0.out.below bb R0.out.lt);clear bb CO n0 n1 n2 y00 y01 y02 yb0;obtain⟨⟨n0,n1,n2⟩,_⟩:=R1.out.cells;have y00:=P1.out.cell X0.out.1;have y01:=P1.out.cell X0.out.2.1;have y02:=P1.out.cell X0.out.2.2;have yb0:=qi y00
         go_wp2_with fail
         refine(C1.out _ P1.out _ (by first|rfl|simp only[q6])).mono ?_;rintro e w2⟨rfl,pp,kk⟩;have P2:=qh pp;have K2:=qh (K1.out.trans kk);have R2:=qh (kk.row3 R1.out hne);clear pp kk C1 n0 n1 n2 y00 y01 y02 yb0;obtain⟨⟨n0,n1,n2⟩,_⟩:=R2.out.cells;have y00:=P2.out.cell X0.out.1;have y01:=P2.out.cell X0.out.2.1;have y02:=P2.out.cell X0.out.2.2;have yb0:=qi y00
         go_wp2_with fail
         refine(C2.out _ (by first|rfl|(push_cast;rfl)) _ P2.out).mono ?_;rintro e w3⟨rfl,pp,kk⟩;have P3:=qh pp;have K3:=qh (K2.out.trans kk);have R3:=qh (kk.row3 R2.out hne);clear pp kk C2 n0 n1 n2 y00 y01 y02 yb0;go_wp2;go_end0;exact⟨rfl,by rw[HE.out];simpa only[qn,x9]using P3.out,K3.out⟩
        ·have m29:¬ k=29:=hc
         have hk29:((k:Int)==29)=false:=by rw[qc];exact hc
         clear hc
         by_cases hc:k=30
         ·subst hc
          have j0:1<=L:=by simpa[ji]using hsh
          have i0:(0:Int) < (L:Int):=by omega
          obtain⟨bb,o,k0',s0',l0',a0',c0',rfl,eK0,x00,x01,x02,r0⟩:=ht.kid 0 (by omega);simp only[Nat.zero_mul,Nat.add_zero]at x00 x01 x02;have X0:=qh (And.intro x00 (And.intro x01 x02));obtain⟨Y0,hY0⟩:∃ Y,(kl[0]'(by omega)).txt 0 false=Y:=⟨_,rfl⟩
          have hE:T=ow++(Y0++[125]):=by
           rw[<-hT,<-how,<-hY0,<-q0w];rfl
          have HE:=qh hE;have hlen2:=HL.out;rw[hE]at hlen2;simp only[qg]at hlen2;have C1:=qh (fun w' (h:PrI w0 b l w') n (hn:n=w'.heap.size)=>put1 h n hn ⟨ow.toArray⟩ (by simp[bs];omega))
          have C2:Hid (∀ (z:Int),z=((0:Nat):Int)->∀ w',PrI w0 b (l++bs ⟨ow.toArray⟩) w'->Calls Tryz.prog 158 #[.pointer (some ⟨b,0,none⟩),.agg #[.int .i64 k0',.string s0',.slice a0' l0'.length c0'],.int .i64 z,.bool false] w' (PrO w0 b (l++bs ⟨ow.toArray⟩) w' Y0)):=qh (fun z hz w' h=>by
           subst hz;have hl9:List.length (l++bs ⟨ow.toArray⟩)+Y0.length<=100000000:=by(try simp[bs]at hlen2 ⊢);omega
           rw[<-hY0]at hl9 ⊢
           exact hk 0 (by omega) _ _ _ (0) false _ w' (by omega) (eK0▸r0) h hl9)
          have C3:=qh (fun w' (h:PrI w0 b ((l++bs ⟨ow.toArray⟩)++Y0) w') n (hn:n=w'.heap.size)=>put1 h n hn ⟨#[125]⟩ (by simp[bs]at hlen2 ⊢;omega));clear how hY0 hT hE hlen hlen2 hk hka ht HL hsh hL eK0 r0 x00 x01 x02;obtain⟨⟨n0,n1,n2⟩,_⟩:=R0.out.cells;go_enter Tryz.func206,Tryz.ntmps206
          go_upto_region 1 with fail
          rw[HW.out];have y00:=P0.out.cell X0.out.1;have y01:=P0.out.cell X0.out.2.1;have y02:=P0.out.cell X0.out.2.2;have yb0:=qi y00
          go_wp2_with fail
          refine(CO.out _ P0.out).mono ?_;rintro e w1⟨rfl,bb⟩;have P1:=qh (P0.out.later bb);have K1:=qh (K0.out.later bb P0.out.size);have R1:=qh (R0.out.below bb R0.out.lt);clear bb CO n0 n1 n2 y00 y01 y02 yb0;obtain⟨⟨n0,n1,n2⟩,_⟩:=R1.out.cells;have y00:=P1.out.cell X0.out.1;have y01:=P1.out.cell X0.out.2.1;have y02:=P1.out.cell X0.out.2.2;have yb0:=qi y00
          go_wp2_with fail
          refine(C1.out _ P1.out _ (by first|rfl|simp only[q6])).mono ?_;rintro e w2⟨rfl,pp,kk⟩;have P2:=qh pp;have K2:=qh (K1.out.trans kk);have R2:=qh (kk.row3 R1.out hne);clear pp kk C1 n0 n1 n2 y00 y01 y02 yb0;obtain⟨⟨n0,n1,n2⟩,_⟩:=R2.out.cells;have y00:=P2.out.cell X0.out.1;have y01:=P2.out.cell X0.out.2.1;have y02:=P2.out.cell X0.out.2.2;have yb0:=qi y00
          go_wp2_with fail
          refine(C2.out _ (by first|rfl|(push_cast;rfl)) _ P2.out).mono ?_;rintro e w3⟨rfl,pp,kk⟩;have P3:=qh pp;have K3:=qh (K2.out.trans kk);have R3:=qh (kk.row3 R2.out hne);clear pp kk C2 n0 n1 n2 y00 y01 y02 yb0;obtain⟨⟨n0,n1,n2⟩,_⟩:=R3.out.cells;have y00:=P3.out.cell X0.out.1;have y01:=P3.out.cell X0.out.2.1;have y02:=P3.out.cell X0.out.2.2;have yb0:=qi y00
          go_wp2_with fail
          refine(C3.out _ P3.out _ (by first|rfl|simp only[q6])).mono ?_;rintro e w4⟨rfl,pp,kk⟩;have P4:=qh pp;have K4:=qh (K3.out.trans kk);have R4:=qh (kk.row3 R3.out hne);clear pp kk C3 n0 n1 n2 y00 y01 y02 yb0;go_wp2;go_end0;exact⟨rfl,by rw[HE.out];simpa only[qn,x9]using P4.out,K4.out⟩
         ·have m30:¬ k=30:=hc
          have hk30:((k:Int)==30)=false:=by rw[qc];exact hc
          clear hc
          have hkk:((22<=k/\k<=28)\/k=31)/\2<=L:=by
           simp only[ji,decide_eq_false m15,decide_eq_false m16,decide_eq_false m20,decide_eq_false m21,decide_eq_false m29,decide_eq_false m30,Bool.false_or,Bool.or_eq_true,ql,qp,Bool.false_and]at hsh;omega
          obtain⟨sg,bd,hop⟩:=qhw hkk.1
          have C1:Hid (∀ w',PrI w0 b l w'->Calls Tryz.prog 228 #[.pointer (some ⟨b,0,none⟩),.agg #[.int .i64 k,.string s,.slice a L cap],.bool more] w' (PrO w0 b l w' T)):=qh (fun w' h=>by
           refine qix k s kl (by rw[hL];exact hkk.2) sg bd hop hk _ _ _ more _ w' HN.out h T ?_ hlen;rw[<-hT];simp only[Nd.bare,qao];rw[qd (by omega),qd m17,qd (by omega),qd (by omega),qd m29,qd m30]
           simp only[q5h,q82,hop])
          clear CO how hT hlen hk hka ht HL hsh hL hop hkk m15 m16 m17 m18 m19 m20 m21 m29 m30;obtain⟨⟨n0,n1,n2⟩,_⟩:=R0.out.cells;go_enter Tryz.func206,Tryz.ntmps206
          go_upto_region 1 with fail
          rw[HW.out]
          go_wp2_with fail
          refine(C1.out _ P0.out).mono ?_;rintro e w1⟨rfl,pp,kk⟩;have P1:=qh pp;have K1:=qh (K0.out.trans kk);have R1:=qh (kk.row3 R0.out hne);clear pp kk C1 n0 n1 n2;go_wp2;go_end0;exact⟨rfl,P1.out,K1.out⟩
theorem qba{w0:World}{b:Nat}:∀ (N:Nat) (t:Nd),t.sz<=N->t.okP=true->q8m w0 b t:=by
 intro N
 induction N with
 |zero =>
  rintro⟨k,s,kl⟩h;simp only[Nd.sz]at h;omega
 |succ N ih =>
  rintro⟨k,s,kl⟩h ho;simp only[Nd.okP,ql]at ho;have hB:∀ i (hi:i < kl.length),q8m w0 b kl[i]:=fun i hi=>ih _ (by have:=Nd.kid_lt k s kl i hi;omega) (q91 ho.2.2 i hi)
  exact qme k s kl ho.1 (fun i hi=>qe2 (hB i hi)) (fun i hi=>qdh (hB i hi))
theorem q9q{w0:World}{b:Nat}(t:Nd)(h:t.okP=true):q6e w0 b t:=qe2 (qba _ t (q9 _) h)
def Nd.nm:Nd->Tx| .mk _ s _=>bs s
def jw:List Nd->Bool->Tx
 |[],_=>[]
 |x :: l,first=>(if first then [] else [44,32])++(x.nm++jw l false)
theorem qa5:∀ (l:List Nd) (i:Nat) (h:i < l.length) (f:Bool),jw (l.take (i+1)) f=jw (l.take i) f++((if i=0/\f=true then [] else [44,32])++(l[i]).nm)
 |x :: l,0,_,f=>by cases f <;> simp[jw]
 |x :: l,i+1,h,f=>by
  simp only[List.take_succ_cons,jw,zi];rw[qa5 l i (by simpa using h) false];simp
theorem qiq(l:List Nd)(f:Bool)(i:Nat):(jw (l.take i) f).length<=(jw l f).length:=by
 induction l generalizing i f with
 |nil=>simp[jw]
 |cons x l ih =>
  cases i with
  |zero=>simp[jw]
  |succ i =>
   simp only[List.take_succ_cons,jw,qg];have:=ih false i;omega
theorem q5l{w0:World}{b:Nat}(k:Int)(s:ByteArray)(kl:List Nd)(n cap':Nat)(hn:n<=kl.length)(v0 v1:Value)(a:Option Addr)(m cap:Nat)(l:Tx)(w:World)(ht:NdR w0 (.mk k s kl) v0 v1 (.slice a m cap))(hp:PrI w0 b l w)
  (hlen:l.length+(jw (kl.take n) true).length<=100000000):Calls Tryz.prog 204 #[.pointer (some ⟨b,0,none⟩),.slice a n cap'] w (PrO w0 b l w (jw (kl.take n) true)):=by
 have hl:kl.length<=maxLen:=by
  obtain⟨_,_,_,_,_,e,_,_,_,_,h⟩:=ht.form
  cases e;exact h
 unfold maxLen at hl;have HN:=qh ht;have P0:=qh hp;have K0:=qh (Wr.refl w0.heap.size b w);have HL:=qh hlen;have Hn:=qh hn;obtain⟨T,hT⟩:∃ T,jw (kl.take n) true=T:=⟨_,rfl⟩;rw[hT]at HL;rw[hT];have HT:=qh hT;have hn2:n<=9223372036854775807:=by omega
 clear ht hp hlen hT hn hl;go_enter Tryz.func204,Tryz.ntmps204;go_wp2
 go_loopw [8] (fun v wr=>∃ i:Nat,i<=n/\v = .int .i64 i/\Hid (PrI w0 b (l++jw (kl.take i) true) wr)/\Hid (Wr w0.heap.size b w wr)) (fun v _=>n - (intOf v).toNat)
 case atStart=>exact⟨0,qv _,rfl,qh (by simpa[jw]using P0.out),K0⟩
 case round =>
  obtain⟨i,hi,rfl,PI,KI⟩:=hrel
  by_cases hlt:i < n
  ·have hlt':(i:Int) < (n:Int):=by omega
   have hi0:(0:Int)<=(i:Int):=by omega
   have hik:i < kl.length:=qu hlt Hn.out;have hm1:(i:Int)+1<=(n:Int):=by omega
   obtain⟨bb,o,k1,s1,l1,a1,c1,rfl,e1,x0,x1,x2,r1⟩:=HN.out.kid i hik;have y0:=PI.out.cell x0;have y1:=PI.out.cell x1;have y2:=PI.out.cell x2;have yb:=qi y0;have hG:=qa5 kl i hik true
   have hGl:(jw (kl.take (i+1)) true).length<=T.length:=by
    rw[<-HT.out];have:=qiq (kl.take n) true (i+1)
    rwa [List.take_take,Nat.min_eq_left hlt]at this
   have hnm:(kl[i]).nm=bs s1:=by rw[e1];rfl
   rw[hG,hnm]at hGl;rw[hnm]at hG;have hlen3:=HL.out;generalize hU:jw (kl.take i) true=U at *;have HG:=qh hG;have RN:=qh (Row3.new wr (.int .i64 k1) (.string s1) (.slice a1 l1.length c1));have PN:=qh (PI.out.alloc (.cells #[.int .i64 k1,.string s1,.slice a1 l1.length c1] 25));have KN:=qh (KI.out.alloc PI.out.size (.cells #[.int .i64 k1,.string s1,.slice a1 l1.length c1] 25));have hnn:wr.heap.size≠b:=by have:=PI.out.p.lt;omega
   by_cases hz:i=0
   ·have HG2:Hid (jw (kl.take (i+1)) true=U++bs s1):=qh (by rw[hG,qj ⟨hz,rfl⟩];rfl)
    rw[qj ⟨hz,rfl⟩]at hGl;simp only[qg,qz]at hGl;have CA:=qh (fun w' (h:PrI w0 b (l++U) w') n (hn:n=w'.heap.size)=>put1 h n hn s1 (by simp only[qg];omega));have hz':¬ ((0:Int) < (i:Int)):=by omega
    clear hU hG hGl hlen3 x0 x1 x2 r1 e1 hik HG hnm hz
    go_wp2_with fail
    refine(CA.out _ PN.out _ (by first|rfl|simp only[q6])).mono ?_;rintro e w6⟨rfl,pp,kk⟩;have P6:Hid (PrI w0 b (l++jw (kl.take (i+1)) true) w6):=qh (by rw[HG2.out,<-qn];exact pp);have K6:=qh (KN.out.trans kk);clear pp kk CA y0 y1 y2 yb;go_wp2;go_roundw
    case rel=>exact⟨i+1,hlt,by push_cast;rfl,P6,K6⟩
    case measure=>simp[intOf];omega
   ·have HG2:Hid (jw (kl.take (i+1)) true=U++(bs ⟨#[44,32]⟩++bs s1)):=qh (by rw[hG,qd (fun h=>hz h.1)];rfl)
    rw[qd (fun h=>hz h.1)]at hGl;simp only[qg,qr,qz]at hGl;have CP:=qh (fun w' (h:PrI w0 b (l++U) w') n (hn:n=w'.heap.size)=>put1 h n hn ⟨#[44,32]⟩ (by have h1:(bs ⟨#[44,32]⟩).length=2:=rfl;simp only[qg];omega));have CA:=qh (fun w' (h:PrI w0 b ((l++U)++bs ⟨#[44,32]⟩) w') n (hn:n=w'.heap.size)=>put1 h n hn s1 (by have h1:(bs ⟨#[44,32]⟩).length=2:=rfl;simp only[qg];omega));have hz':(0:Int) < (i:Int):=by omega
    clear hU hG hGl hlen3 x0 x1 x2 r1 e1 hik HG hnm hz
    go_wp2_with fail
    refine(CP.out _ PN.out _ (by first|rfl|simp only[q6])).mono ?_;rintro e w5⟨rfl,pp,kk⟩;have P5:=qh pp;have K5:=qh (KN.out.trans kk);have R5:=qh (kk.row3 RN.out hnn);obtain⟨⟨n0,n1,n2⟩,_⟩:=R5.out.cells;clear pp kk CP y0 y1 y2 yb
    go_wp2_with fail
    refine(CA.out _ P5.out _ (by first|rfl|simp only[q6])).mono ?_;rintro e w6⟨rfl,pp,kk⟩;have P6:Hid (PrI w0 b (l++jw (kl.take (i+1)) true) w6):=qh (by rw[HG2.out];simpa only[qn]using pp);have K6:=qh (K5.out.trans kk);clear pp kk CA n0 n1 n2;go_wp2;go_roundw
    case rel=>exact⟨i+1,hlt,by push_cast;rfl,P6,K6⟩
    case measure=>simp[intOf];omega
  ·have hlt':¬ ((i:Int) < (n:Int)):=by omega
   obtain rfl:i=n:=by omega
   have P6:=qh (show PrI w0 b (l++T) wr by rw[<-HT.out];exact PI.out);go_wp2;go_end0;exact⟨rfl,P6.out,KI.out⟩
def qfs(l:List Nd)(i bind:Nat):Tx:=match l[i]? with|some x=>x.txt bind false|none=>[]
theorem q1i{l:List Nd}{i:Nat}(h:i < l.length)(bind:Nat):qfs l i bind=(l[i]).txt bind false:=by unfold qfs;rw[qq h]
def xz(k:Int)(l:List Nd):Tx :=
 if k=2\/k=14 then jw l true
 else if k=3 then jw (l.take (l.length - 1)) true++([58,32]++qfs l (l.length - 1) 6)
 else if k=4\/k=5\/k=6\/k=7 then l.flatMap fun x=>32 :: x.txt 7 false
 else if k=8\/k=9\/k=10\/k=11 then [58,32]++qfs l 0 0
 else []
def Nd.itm:Nd->Tx| .mk k s l=>(wq k++([32]++bs s))++(xz k l++[46])
def qi6(k:Int)(n:Nat):Prop:=((k=3\/k=8\/k=9\/k=10\/k=11)->1<=n)
theorem PrI.drew{w0:World}{b:Nat}{l:Tx}{w:World}(h:PrI w0 b l w):PrI w0 b l w.drew:=h.later (Below.refl _ _).drew
theorem Wr.drew{B b:Nat}{w w':World}(h:Wr B b w w'):Wr B b w w'.drew:=⟨h.bl.drew,h.kp.drew⟩
theorem qi5{w0:World}{b:Nat}(k:Int)(s:ByteArray)(kl:List Nd)(hok:qi6 k kl.length)(hk:∀ i (h:i < kl.length),q6e w0 b kl[i])(v0 v1 v2:Value)(l:Tx)(w:World)(ht:NdR w0 (.mk k s kl) v0 v1 v2)(hp:PrI w0 b l w)
  (hlen:l.length+(Nd.mk k s kl).itm.length<=100000000):Calls Tryz.prog 156 #[.pointer (some ⟨b,0,none⟩),.agg #[v0,v1,v2]] w (PrO w0 b l w (Nd.mk k s kl).itm):=by
 obtain⟨_,_,_,a,cap,hform,rfl,rfl,rfl,hs,hl⟩:=ht.form
 cases hform;obtain⟨L,hL⟩:∃ L,kl.length=L:=⟨_,rfl⟩;rw[hL]at ht hl;rw[hL];obtain⟨W,hW⟩:∃ W,w.alloc (.cells #[.int .i64 k,.string s,.slice a L cap] 25)=W:=⟨_,rfl⟩;have R0':Row3 W w.heap.size (.int .i64 k) (.string s) (.slice a L cap):=by rw[<-hW];exact Row3.new _ _ _ _
 have P0:=qh (hW▸hp.alloc (.cells #[.int .i64 k,.string s,.slice a L cap] 25));have K0:=qh (hW▸(Wr.refl w0.heap.size b w).alloc hp.size (.cells #[.int .i64 k,.string s,.slice a L cap] 25));have hne:w.heap.size≠b:=by have:=hp.p.lt;omega
 have HN:=qh ht;have HL:=qh hlen;unfold maxLen at hl;rw[hL]at hok;obtain⟨T,hT⟩:∃ T,(Nd.mk k s kl).itm=T:=⟨_,rfl⟩;rw[hT]at HL hlen;rw[hT];have HW:=qh hW;have R0:=qh R0';have hcap:=ht.cap;rw[hL]at hcap;clear hW R0' hp;obtain⟨ow,how⟩:∃ ow,wq k=ow:=⟨_,rfl⟩;have CO:Hid (∀ w',PrI w0 b l w'->_):=qh (fun w' (h:PrI w0 b l w')=>q9n k s a L cap w' h.glw h.two');rw[how]at CO;unfold S_ at CO;obtain⟨X,hX⟩:∃ X,xz k kl=X:=⟨_,rfl⟩;have hE:T=(bs ⟨ow.toArray⟩++(bs ⟨#[32]⟩++bs s))++(X++bs ⟨#[46]⟩):=by rw[<-hT,<-hX,<-how];rfl
 have HE:=qh hE;have hlen2:=HL.out;rw[hE]at hlen2;simp only[qg]at hlen2;have C1:=qh (fun w' (h:PrI w0 b l w') n (hn:n=w'.heap.size)=>put3 h n hn ⟨ow.toArray⟩ ⟨#[32]⟩ s (by simp only[qg];omega));have CE:=qh (fun w' (h:PrI w0 b ((l++(bs ⟨ow.toArray⟩++(bs ⟨#[32]⟩++bs s)))++X) w') n (hn:n=w'.heap.size)=>put1 h n hn ⟨#[46]⟩ (by simp only[qg];omega));have HX:=qh hX;have HK:=qh hk;have HLL:=qh hL;have Hok:=qh hok;obtain⟨p,hp⟩:∃ p,l++(bs ⟨ow.toArray⟩++(bs ⟨#[32]⟩++bs s))=p:=⟨_,rfl⟩;have HP:=qh hp
 have HL3:Hid (p.length+X.length+1<=100000000):=qh (by
  rw[<-hp];have h1:(bs ⟨#[46]⟩).length=1:=rfl;simp only[qg]
  omega)
 rw[hp]at CE;clear how hX hE hlen hlen2 hk ht HL hL hok hT hp;have P0d:=qh P0.out.drew;have K0d:=qh K0.out.drew;have R0d:=qh (show Row3 W.drew _ _ _ _ from R0.out);obtain⟨⟨n0,n1,n2⟩,_⟩:=R0.out.cells;have S0:=R0d.out.cells.1;go_enter Tryz.func156,Tryz.ntmps156
 go_upto_region 1 with fail
 rw[HW.out]
 go_cut [] (fun wx=>Hid (PrI w0 b p wx)/\Hid (Wr w0.heap.size b w wx)/\Hid (Row3 wx w.heap.size (.int .i64 k) (.string s) (.slice a L cap)))
 case first =>
  go_region_held3 (fun w'=>w'.cell? ⟨w.heap.size,0,none⟩=some (.int .i64 k)/\w'.cell? ⟨w.heap.size,1,none⟩=some (.string s)/\w'.cell? ⟨w.heap.size,2,none⟩=some (.slice a L cap))
   (first|with_reducible exact S0|with_reducible exact S1|with_reducible exact S1a|with_reducible exact S2|(trace_state;fail))
   (first
    |(go_at_call 203;refine(CO.out _ P0d.out).mono ?_;rintro e w1 ⟨rfl,bb⟩;have P1:=qh (P0d.out.later bb);have K1:=qh (K0d.out.later bb P0d.out.size);have R1:=qh (R0d.out.below bb R0d.out.lt);have S1:=R1.out.cells.1;have S1a:=(R1.out.alloc (.cells #[.string ⟨ow.toArray⟩,.string ⟨#[32]⟩,.string s] 9)).cells.1;clear bb)
    |(go_at_call 157;refine(C1.out _ P1.out _ (by first|rfl|simp only[q6])).mono ?_;rintro e w2 ⟨rfl,pp,kk⟩;have P2:=qh pp;have K2:=qh (K1.out.trans kk);have R2:=qh (kk.row3 R1.out hne);have S2:=R2.out.cells.1;clear pp kk))
  all_goals go_wp2
  all_goals go_meet
  all_goals exact⟨by rw[<-HP.out];exact P2,K2,R2⟩
 case rest =>
  obtain⟨P0,K0,R0⟩:=hcut
  by_cases hc:k=2
  ·subst hc
   have hX2:jw (kl.take L) true=X:=by
    rw[<-HX.out,<-HLL.out,List.take_length,xz,qj (by decide)]
   have C2:Hid (∀ w',PrI w0 b p w'->Calls Tryz.prog 204 #[.pointer (some ⟨b,0,none⟩),.slice a L cap] w' (PrO w0 b p w' X)):=qh (fun w' h=>by
    have hl9:p.length+X.length<=100000000:=by have:=HL3.out;omega
    rw[<-hX2]at hl9 ⊢
    exact q5l _ s kl L cap (by rw[HLL.out];exact q9 _) _ _ _ _ _ _ w' HN.out h hl9)
   clear hX2;obtain⟨⟨n0,n1,n2⟩,_⟩:=R0.out.cells
   go_wp2_with fail
   refine(C2.out _ P0.out).mono ?_;rintro e w1⟨rfl,pp,kk⟩;have P1:=qh pp;have K1:=qh (K0.out.trans kk);have R1:=qh (kk.row3 R0.out hne);clear pp kk C2 n0 n1 n2;obtain⟨⟨n0,n1,n2⟩,_⟩:=R1.out.cells
   go_wp2_with fail
   refine(CE.out _ P1.out _ (by first|rfl|simp only[q6])).mono ?_;rintro e w2⟨rfl,pp,kk⟩;have P2:=qh pp;have K2:=qh (K1.out.trans kk);have R2:=qh (kk.row3 R1.out hne);clear pp kk CE n0 n1 n2;go_wp2;go_end0;exact⟨rfl,by rw[HE.out];have hh:=P2.out;rw[<-HP.out]at hh;simpa only[qn,x9]using hh,K2.out⟩
  ·have hk2:((k:Int)==2)=false:=by rw[qc];exact hc
   have m2:¬ k=2:=hc;clear hc
   by_cases hc:k=3
   ·subst hc
    have hL1:1<=L:=Hok.out (by decide);obtain⟨M,hM⟩:∃ M,L - 1=M:=⟨_,rfl⟩;have hML:((L:Nat):Int) - 1=(M:Int):=by omega
    have hMk:M < kl.length:=by rw[HLL.out];omega
    have hMc:M<=cap:=by omega
    have hML2:(M:Int) < (L:Int):=by omega
    have hML3:M < L:=by omega
    have hM0:(0:Int)<=(M:Int):=by omega
    obtain⟨bb,o,k0',s0',l0',a0',c0',rfl,eK0,x00,x01,x02,r0⟩:=HN.out.kid M hMk;have X0:=qh (And.intro x00 (And.intro x01 x02));obtain⟨Y0,hY0⟩:∃ Y,(kl[M]'hMk).txt 6 false=Y:=⟨_,rfl⟩;obtain⟨Z,hZ⟩:∃ Z,jw (kl.take M) true=Z:=⟨_,rfl⟩
    have hXE:X=Z++(bs ⟨#[58,32]⟩++Y0):=by
     rw[<-HX.out,xz,qd (by decide),qj rfl,HLL.out,hM,hZ,q1i hMk,hY0];rfl
    have HXE:=qh hXE;have hlen2:=HL3.out;rw[hXE]at hlen2;simp only[qg]at hlen2
    have C2:Hid (∀ w',PrI w0 b p w'->Calls Tryz.prog 204 #[.pointer (some ⟨b,0,none⟩),.slice (some ⟨bb,o,none⟩) M cap] w' (PrO w0 b p w' Z)):=qh (fun w' h=>by
     have hl9:p.length+Z.length<=100000000:=by omega
     rw[<-hZ]at hl9 ⊢
     exact q5l _ s kl M cap (Nat.le_of_lt hMk) _ _ _ _ _ _ w' HN.out h hl9)
    have C3:=qh (fun w' (h:PrI w0 b (p++Z) w') n (hn:n=w'.heap.size)=>put1 h n hn ⟨#[58,32]⟩ (by simp only[qg];omega));have hk:=HK.out
    have C4:Hid (∀ (z:Int),z=((6:Nat):Int)->∀ w',PrI w0 b ((p++Z)++bs ⟨#[58,32]⟩) w'->Calls Tryz.prog 158 #[.pointer (some ⟨b,0,none⟩),.agg #[.int .i64 k0',.string s0',.slice a0' l0'.length c0'],.int .i64 z,.bool false] w' (PrO w0 b ((p++Z)++bs ⟨#[58,32]⟩) w' Y0)):=qh (fun z hz w' h=>by
     subst hz;have hl9:List.length ((p++Z)++bs ⟨#[58,32]⟩)+Y0.length<=100000000:=by(try simp[bs]at hlen2 ⊢);omega
     rw[<-hY0]at hl9 ⊢
     exact hk M hMk _ _ _ (6) false _ w' (by omega) (eK0▸r0) h hl9)
    clear hY0 hZ hXE hlen2 hk eK0 r0 x00 x01 x02 hM hL1 hMk;obtain⟨⟨n0,n1,n2⟩,_⟩:=R0.out.cells;have y00:=P0.out.cell X0.out.1;have y01:=P0.out.cell X0.out.2.1;have y02:=P0.out.cell X0.out.2.2;have yb0:=qi y00
    go_wp2_with fail
    refine(C2.out _ P0.out).mono ?_;rintro e w1⟨rfl,pp,kk⟩;have P1:=qh pp;have K1:=qh (K0.out.trans kk);have R1:=qh (kk.row3 R0.out hne);clear pp kk C2 n0 n1 n2 y00 y01 y02 yb0;obtain⟨⟨n0,n1,n2⟩,_⟩:=R1.out.cells;have y00:=P1.out.cell X0.out.1;have y01:=P1.out.cell X0.out.2.1;have y02:=P1.out.cell X0.out.2.2;have yb0:=qi y00
    go_wp2_with fail
    refine(C3.out _ P1.out _ (by first|rfl|simp only[q6])).mono ?_;rintro e w2⟨rfl,pp,kk⟩;have P2:=qh pp;have K2:=qh (K1.out.trans kk);have R2:=qh (kk.row3 R1.out hne);clear pp kk C3 n0 n1 n2 y00 y01 y02 yb0;obtain⟨⟨n0,n1,n2⟩,_⟩:=R2.out.cells;have y00:=P2.out.cell X0.out.1;have y01:=P2.out.cell X0.out.2.1;have y02:=P2.out.cell X0.out.2.2;have yb0:=qi y00
    go_wp2_with fail
    refine(C4.out _ (by first|rfl|(push_cast;rfl)) _ P2.out).mono ?_;rintro e w3⟨rfl,pp,kk⟩;have P3:=qh pp;have K3:=qh (K2.out.trans kk);have R3:=qh (kk.row3 R2.out hne);clear pp kk C4 n0 n1 n2 y00 y01 y02 yb0;obtain⟨⟨n0,n1,n2⟩,_⟩:=R3.out.cells;have y00:=P3.out.cell X0.out.1;have y01:=P3.out.cell X0.out.2.1;have y02:=P3.out.cell X0.out.2.2;have yb0:=qi y00;have P3x:Hid (PrI w0 b (p++X) w3):=qh (by rw[HXE.out];simpa only[qn]using P3.out);clear P3;have P3:=P3x;clear P3x
    go_wp2_with fail
    refine(CE.out _ P3.out _ (by first|rfl|simp only[q6])).mono ?_;rintro e w4⟨rfl,pp,kk⟩;have P4:=qh pp;have K4:=qh (K3.out.trans kk);have R4:=qh (kk.row3 R3.out hne);clear pp kk CE n0 n1 n2 y00 y01 y02 yb0;go_wp2;go_end0;exact⟨rfl,by rw[HE.out];have hh:=P4.out;rw[<-HP.out]at hh;simpa only[qn,x9]using hh,K4.out⟩
   ·have hk3:((k:Int)==3)=false:=by rw[qc];exact hc
    have m3:¬ k=3:=hc;clear hc
    by_cases hc:k=4
    ·subst hc
     have hXE:X=kl.flatMap fun x=>32 :: x.txt 7 false:=by rw[<-HX.out,xz,qd (by decide),qd (by decide),qj (by decide)]
     have HXE:=qh hXE;have HLen:=HL3;rw[hXE]at HLen;clear hXE;obtain⟨⟨n0,n1,n2⟩,_⟩:=R0.out.cells;go_wp2
     go_loopw [53] (fun v wr=>∃ i:Nat,i<=L/\v = .int .i64 i/\Hid (PrI w0 b (p++(kl.take i).flatMap fun x=>32 :: x.txt 7 false) wr)/\Hid (Wr w0.heap.size b w wr)/\Hid (Row3 wr w.heap.size (.int .i64 4) (.string s) (.slice a L cap))) (fun v _=>L - (intOf v).toNat)
     case atStart=>exact⟨0,qv _,rfl,qh (by simpa using P0.out),K0,R0⟩
     case round =>
      obtain⟨i,hi,rfl,PI,KI,RI⟩:=hrel
      by_cases hlt:i < L
      ·have hlt':(i:Int) < (L:Int):=by omega
       have hi0:(0:Int)<=(i:Int):=by omega
       have hik:i < kl.length:=by rw[HLL.out];exact hlt
       have hm1:(i:Int)+1<=(L:Int):=by omega
       obtain⟨bb,o,k1,s1,l1,a1,c1,rfl,e1,x0,x1,x2,r1⟩:=HN.out.kid i hik;have y0:=PI.out.cell x0;have y1:=PI.out.cell x1;have y2:=PI.out.cell x2;have yb:=qi y0
       have hG:(kl.take (i+1)).flatMap (fun x=>(32:UInt8) :: x.txt 7 false)=(kl.take i).flatMap (fun x=>32 :: x.txt 7 false)++(32 :: (kl[i]).txt 7 false):=by
        rw[zc hik,zj];simp
       have hGl:((kl.take (i+1)).flatMap (fun x=>(32:UInt8) :: x.txt 7 false)).length<=(kl.flatMap (fun x=>(32:UInt8) :: x.txt 7 false)).length:=by
        conv=>rhs;rw[<-List.take_append_drop (i+1) kl]
        rw[zj,qg];omega
       have hlen3:=HLen.out;rw[hG]at hGl;simp only[qg,qr]at hGl;generalize hU:(kl.take i).flatMap (fun x=>(32:UInt8) :: x.txt 7 false)=U at *;obtain⟨A,hA⟩:∃ A,(kl[i]).txt 7 false=A:=⟨_,rfl⟩;rw[hA]at hG hGl;have HG:=qh hG;have CP:=qh (fun w' (h:PrI w0 b (p++U) w') n (hn:n=w'.heap.size)=>put1 h n hn ⟨#[32]⟩ (by have h1:(bs ⟨#[32]⟩).length=1:=rfl;simp only[qg];omega))
       have CA:Hid (∀ (z:Int),z=((7:Nat):Int)->∀ w',PrI w0 b ((p++U)++bs ⟨#[32]⟩) w'->Calls Tryz.prog 158 #[.pointer (some ⟨b,0,none⟩),.agg #[.int .i64 k1,.string s1,.slice a1 l1.length c1],.int .i64 z,.bool false] w' (PrO w0 b ((p++U)++bs ⟨#[32]⟩) w' A)):=qh (fun z hz w' h=>by
        subst hz;have hl9:List.length ((p++U)++bs ⟨#[32]⟩)+A.length<=100000000:=by have h1:(bs ⟨#[32]⟩).length=1:=rfl;simp only[qg];omega
        rw[<-hA]at hl9 ⊢
        exact HK.out i hik _ _ _ 7 false _ w' (by decide) (e1▸r1) h hl9)
       have RN:=qh (Row3.new wr (.int .i64 k1) (.string s1) (.slice a1 l1.length c1));have PN:=qh (PI.out.alloc (.cells #[.int .i64 k1,.string s1,.slice a1 l1.length c1] 25));have KN:=qh (KI.out.alloc PI.out.size (.cells #[.int .i64 k1,.string s1,.slice a1 l1.length c1] 25));have RIN:=qh (RI.out.alloc (.cells #[.int .i64 k1,.string s1,.slice a1 l1.length c1] 25));have hnn:wr.heap.size≠b:=by have:=PI.out.p.lt;omega
       clear hU hA hG hGl hlen3 x0 x1 x2 r1 e1 hik n0 n1 n2
       go_wp2_with fail
       refine(CP.out _ PN.out _ (by first|rfl|simp only[q6])).mono ?_;rintro e w5⟨rfl,pp,kk⟩;have P5:=qh pp;have K5:=qh (KN.out.trans kk);have R5:=qh (kk.row3 RN.out hnn);have RI5:=qh (kk.row3 RIN.out hne);obtain⟨⟨n0,n1,n2⟩,_⟩:=R5.out.cells;clear pp kk CP y0 y1 y2 yb
       go_wp2_with fail
       refine(CA.out _ (by first|rfl|(push_cast;rfl)) _ P5.out).mono ?_;rintro e w6⟨rfl,pp,kk⟩;have P6:Hid (PrI w0 b (p++(kl.take (i+1)).flatMap fun x=>32 :: x.txt 7 false) w6):=qh (by rw[HG.out];simpa[bs]using pp);have K6:=qh (K5.out.trans kk);have R6:=qh (kk.row3 RI5.out hne);clear pp kk CA n0 n1 n2;go_wp2;go_roundw
       case rel=>exact⟨i+1,hlt,by push_cast;rfl,P6,K6,R6⟩
       case measure=>simp[intOf];omega
      ·have hlt':¬ ((i:Int) < (L:Int)):=by omega
       have hG:kl.take i=kl:=qw (by rw[HLL.out];omega);have P9:=qh (show PrI w0 b (p++X) wr by rw[HXE.out];have hh:=PI.out;rwa [hG]at hh);clear hG n0 n1 n2;clear P0 K0 R0;have P0:=P9;have K0:=KI;have R0:=RI;obtain⟨⟨n0,n1,n2⟩,_⟩:=R0.out.cells
       go_wp2_with fail
       refine(CE.out _ P0.out _ (by first|rfl|simp only[q6])).mono ?_;rintro e w1⟨rfl,pp,kk⟩;have P1:=qh pp;have K1:=qh (K0.out.trans kk);have R1:=qh (kk.row3 R0.out hne);clear pp kk CE n0 n1 n2;go_wp2;go_end0;exact⟨rfl,by rw[HE.out];have hh:=P1.out;rw[<-HP.out]at hh;simpa only[qn,x9]using hh,K1.out⟩
    ·have hk4:((k:Int)==4)=false:=by rw[qc];exact hc
     have m4:¬ k=4:=hc;clear hc
     by_cases hc:k=5
     ·subst hc
      have hXE:X=kl.flatMap fun x=>32 :: x.txt 7 false:=by rw[<-HX.out,xz,qd (by decide),qd (by decide),qj (by decide)]
      have HXE:=qh hXE;have HLen:=HL3;rw[hXE]at HLen;clear hXE;obtain⟨⟨n0,n1,n2⟩,_⟩:=R0.out.cells;go_wp2
      go_loopw [53] (fun v wr=>∃ i:Nat,i<=L/\v = .int .i64 i/\Hid (PrI w0 b (p++(kl.take i).flatMap fun x=>32 :: x.txt 7 false) wr)/\Hid (Wr w0.heap.size b w wr)/\Hid (Row3 wr w.heap.size (.int .i64 5) (.string s) (.slice a L cap))) (fun v _=>L - (intOf v).toNat)
      case atStart=>exact⟨0,qv _,rfl,qh (by simpa using P0.out),K0,R0⟩
      case round =>
       obtain⟨i,hi,rfl,PI,KI,RI⟩:=hrel
       by_cases hlt:i < L
       ·have hlt':(i:Int) < (L:Int):=by omega
        have hi0:(0:Int)<=(i:Int):=by omega
        have hik:i < kl.length:=by rw[HLL.out];exact hlt
        have hm1:(i:Int)+1<=(L:Int):=by omega
        obtain⟨bb,o,k1,s1,l1,a1,c1,rfl,e1,x0,x1,x2,r1⟩:=HN.out.kid i hik;have y0:=PI.out.cell x0;have y1:=PI.out.cell x1;have y2:=PI.out.cell x2;have yb:=qi y0
        have hG:(kl.take (i+1)).flatMap (fun x=>(32:UInt8) :: x.txt 7 false)=(kl.take i).flatMap (fun x=>32 :: x.txt 7 false)++(32 :: (kl[i]).txt 7 false):=by
         rw[zc hik,zj];simp
        have hGl:((kl.take (i+1)).flatMap (fun x=>(32:UInt8) :: x.txt 7 false)).length<=(kl.flatMap (fun x=>(32:UInt8) :: x.txt 7 false)).length:=by
         conv=>rhs;rw[<-List.take_append_drop (i+1) kl]
         rw[zj,qg];omega
        have hlen3:=HLen.out;rw[hG]at hGl;simp only[qg,qr]at hGl;generalize hU:(kl.take i).flatMap (fun x=>(32:UInt8) :: x.txt 7 false)=U at *;obtain⟨A,hA⟩:∃ A,(kl[i]).txt 7 false=A:=⟨_,rfl⟩;rw[hA]at hG hGl;have HG:=qh hG;have CP:=qh (fun w' (h:PrI w0 b (p++U) w') n (hn:n=w'.heap.size)=>put1 h n hn ⟨#[32]⟩ (by have h1:(bs ⟨#[32]⟩).length=1:=rfl;simp only[qg];omega))
        have CA:Hid (∀ (z:Int),z=((7:Nat):Int)->∀ w',PrI w0 b ((p++U)++bs ⟨#[32]⟩) w'->Calls Tryz.prog 158 #[.pointer (some ⟨b,0,none⟩),.agg #[.int .i64 k1,.string s1,.slice a1 l1.length c1],.int .i64 z,.bool false] w' (PrO w0 b ((p++U)++bs ⟨#[32]⟩) w' A)):=qh (fun z hz w' h=>by
         subst hz;have hl9:List.length ((p++U)++bs ⟨#[32]⟩)+A.length<=100000000:=by have h1:(bs ⟨#[32]⟩).length=1:=rfl;simp only[qg];omega
         rw[<-hA]at hl9 ⊢
         exact HK.out i hik _ _ _ 7 false _ w' (by decide) (e1▸r1) h hl9)
        have RN:=qh (Row3.new wr (.int .i64 k1) (.string s1) (.slice a1 l1.length c1));have PN:=qh (PI.out.alloc (.cells #[.int .i64 k1,.string s1,.slice a1 l1.length c1] 25));have KN:=qh (KI.out.alloc PI.out.size (.cells #[.int .i64 k1,.string s1,.slice a1 l1.length c1] 25));have RIN:=qh (RI.out.alloc (.cells #[.int .i64 k1,.string s1,.slice a1 l1.length c1] 25));have hnn:wr.heap.size≠b:=by have:=PI.out.p.lt;omega
        clear hU hA hG hGl hlen3 x0 x1 x2 r1 e1 hik n0 n1 n2
        go_wp2_with fail
        refine(CP.out _ PN.out _ (by first|rfl|simp only[q6])).mono ?_;rintro e w5⟨rfl,pp,kk⟩;have P5:=qh pp;have K5:=qh (KN.out.trans kk);have R5:=qh (kk.row3 RN.out hnn);have RI5:=qh (kk.row3 RIN.out hne);obtain⟨⟨n0,n1,n2⟩,_⟩:=R5.out.cells;clear pp kk CP y0 y1 y2 yb
        go_wp2_with fail
        refine(CA.out _ (by first|rfl|(push_cast;rfl)) _ P5.out).mono ?_;rintro e w6⟨rfl,pp,kk⟩;have P6:Hid (PrI w0 b (p++(kl.take (i+1)).flatMap fun x=>32 :: x.txt 7 false) w6):=qh (by rw[HG.out];simpa[bs]using pp);have K6:=qh (K5.out.trans kk);have R6:=qh (kk.row3 RI5.out hne);clear pp kk CA n0 n1 n2;go_wp2;go_roundw
        case rel=>exact⟨i+1,hlt,by push_cast;rfl,P6,K6,R6⟩
        case measure=>simp[intOf];omega
       ·have hlt':¬ ((i:Int) < (L:Int)):=by omega
        have hG:kl.take i=kl:=qw (by rw[HLL.out];omega);have P9:=qh (show PrI w0 b (p++X) wr by rw[HXE.out];have hh:=PI.out;rwa [hG]at hh);clear hG n0 n1 n2;clear P0 K0 R0;have P0:=P9;have K0:=KI;have R0:=RI;obtain⟨⟨n0,n1,n2⟩,_⟩:=R0.out.cells
        go_wp2_with fail
        refine(CE.out _ P0.out _ (by first|rfl|simp only[q6])).mono ?_;rintro e w1⟨rfl,pp,kk⟩;have P1:=qh pp;have K1:=qh (K0.out.trans kk);have R1:=qh (kk.row3 R0.out hne);clear pp kk CE n0 n1 n2;go_wp2;go_end0;exact⟨rfl,by rw[HE.out];have hh:=P1.out;rw[<-HP.out]at hh;simpa only[qn,x9]using hh,K1.out⟩
     ·have hk5:((k:Int)==5)=false:=by rw[qc];exact hc
      have m5:¬ k=5:=hc;clear hc
      by_cases hc:k=6
      ·subst hc
       have hXE:X=kl.flatMap fun x=>32 :: x.txt 7 false:=by rw[<-HX.out,xz,qd (by decide),qd (by decide),qj (by decide)]
       have HXE:=qh hXE;have HLen:=HL3;rw[hXE]at HLen;clear hXE;obtain⟨⟨n0,n1,n2⟩,_⟩:=R0.out.cells;go_wp2
       go_loopw [53] (fun v wr=>∃ i:Nat,i<=L/\v = .int .i64 i/\Hid (PrI w0 b (p++(kl.take i).flatMap fun x=>32 :: x.txt 7 false) wr)/\Hid (Wr w0.heap.size b w wr)/\Hid (Row3 wr w.heap.size (.int .i64 6) (.string s) (.slice a L cap))) (fun v _=>L - (intOf v).toNat)
       case atStart=>exact⟨0,qv _,rfl,qh (by simpa using P0.out),K0,R0⟩
       case round =>
        obtain⟨i,hi,rfl,PI,KI,RI⟩:=hrel
        by_cases hlt:i < L
        ·have hlt':(i:Int) < (L:Int):=by omega
         have hi0:(0:Int)<=(i:Int):=by omega
         have hik:i < kl.length:=by rw[HLL.out];exact hlt
         have hm1:(i:Int)+1<=(L:Int):=by omega
         obtain⟨bb,o,k1,s1,l1,a1,c1,rfl,e1,x0,x1,x2,r1⟩:=HN.out.kid i hik;have y0:=PI.out.cell x0;have y1:=PI.out.cell x1;have y2:=PI.out.cell x2;have yb:=qi y0
         have hG:(kl.take (i+1)).flatMap (fun x=>(32:UInt8) :: x.txt 7 false)=(kl.take i).flatMap (fun x=>32 :: x.txt 7 false)++(32 :: (kl[i]).txt 7 false):=by
          rw[zc hik,zj];simp
         have hGl:((kl.take (i+1)).flatMap (fun x=>(32:UInt8) :: x.txt 7 false)).length<=(kl.flatMap (fun x=>(32:UInt8) :: x.txt 7 false)).length:=by
          conv=>rhs;rw[<-List.take_append_drop (i+1) kl]
          rw[zj,qg];omega
         have hlen3:=HLen.out;rw[hG]at hGl;simp only[qg,qr]at hGl;generalize hU:(kl.take i).flatMap (fun x=>(32:UInt8) :: x.txt 7 false)=U at *;obtain⟨A,hA⟩:∃ A,(kl[i]).txt 7 false=A:=⟨_,rfl⟩;rw[hA]at hG hGl;have HG:=qh hG;have CP:=qh (fun w' (h:PrI w0 b (p++U) w') n (hn:n=w'.heap.size)=>put1 h n hn ⟨#[32]⟩ (by have h1:(bs ⟨#[32]⟩).length=1:=rfl;simp only[qg];omega))
         have CA:Hid (∀ (z:Int),z=((7:Nat):Int)->∀ w',PrI w0 b ((p++U)++bs ⟨#[32]⟩) w'->Calls Tryz.prog 158 #[.pointer (some ⟨b,0,none⟩),.agg #[.int .i64 k1,.string s1,.slice a1 l1.length c1],.int .i64 z,.bool false] w' (PrO w0 b ((p++U)++bs ⟨#[32]⟩) w' A)):=qh (fun z hz w' h=>by
          subst hz;have hl9:List.length ((p++U)++bs ⟨#[32]⟩)+A.length<=100000000:=by have h1:(bs ⟨#[32]⟩).length=1:=rfl;simp only[qg];omega
          rw[<-hA]at hl9 ⊢
          exact HK.out i hik _ _ _ 7 false _ w' (by decide) (e1▸r1) h hl9)
         have RN:=qh (Row3.new wr (.int .i64 k1) (.string s1) (.slice a1 l1.length c1));have PN:=qh (PI.out.alloc (.cells #[.int .i64 k1,.string s1,.slice a1 l1.length c1] 25));have KN:=qh (KI.out.alloc PI.out.size (.cells #[.int .i64 k1,.string s1,.slice a1 l1.length c1] 25));have RIN:=qh (RI.out.alloc (.cells #[.int .i64 k1,.string s1,.slice a1 l1.length c1] 25));have hnn:wr.heap.size≠b:=by have:=PI.out.p.lt;omega
         clear hU hA hG hGl hlen3 x0 x1 x2 r1 e1 hik n0 n1 n2
         go_wp2_with fail
         refine(CP.out _ PN.out _ (by first|rfl|simp only[q6])).mono ?_;rintro e w5⟨rfl,pp,kk⟩;have P5:=qh pp;have K5:=qh (KN.out.trans kk);have R5:=qh (kk.row3 RN.out hnn);have RI5:=qh (kk.row3 RIN.out hne);obtain⟨⟨n0,n1,n2⟩,_⟩:=R5.out.cells;clear pp kk CP y0 y1 y2 yb
         go_wp2_with fail
         refine(CA.out _ (by first|rfl|(push_cast;rfl)) _ P5.out).mono ?_;rintro e w6⟨rfl,pp,kk⟩;have P6:Hid (PrI w0 b (p++(kl.take (i+1)).flatMap fun x=>32 :: x.txt 7 false) w6):=qh (by rw[HG.out];simpa[bs]using pp);have K6:=qh (K5.out.trans kk);have R6:=qh (kk.row3 RI5.out hne);clear pp kk CA n0 n1 n2;go_wp2;go_roundw
         case rel=>exact⟨i+1,hlt,by push_cast;rfl,P6,K6,R6⟩
         case measure=>simp[intOf];omega
        ·have hlt':¬ ((i:Int) < (L:Int)):=by omega
         have hG:kl.take i=kl:=qw (by rw[HLL.out];omega);have P9:=qh (show PrI w0 b (p++X) wr by rw[HXE.out];have hh:=PI.out;rwa [hG]at hh);clear hG n0 n1 n2;clear P0 K0 R0;have P0:=P9;have K0:=KI;have R0:=RI;obtain⟨⟨n0,n1,n2⟩,_⟩:=R0.out.cells
         go_wp2_with fail
         refine(CE.out _ P0.out _ (by first|rfl|simp only[q6])).mono ?_;rintro e w1⟨rfl,pp,kk⟩;have P1:=qh pp;have K1:=qh (K0.out.trans kk);have R1:=qh (kk.row3 R0.out hne);clear pp kk CE n0 n1 n2;go_wp2;go_end0;exact⟨rfl,by rw[HE.out];have hh:=P1.out;rw[<-HP.out]at hh;simpa only[qn,x9]using hh,K1.out⟩
      ·have hk6:((k:Int)==6)=false:=by rw[qc];exact hc
       have m6:¬ k=6:=hc;clear hc
       by_cases hc:k=7
       ·subst hc
        have hXE:X=kl.flatMap fun x=>32 :: x.txt 7 false:=by rw[<-HX.out,xz,qd (by decide),qd (by decide),qj (by decide)]
        have HXE:=qh hXE;have HLen:=HL3;rw[hXE]at HLen;clear hXE;obtain⟨⟨n0,n1,n2⟩,_⟩:=R0.out.cells;go_wp2
        go_loopw [53] (fun v wr=>∃ i:Nat,i<=L/\v = .int .i64 i/\Hid (PrI w0 b (p++(kl.take i).flatMap fun x=>32 :: x.txt 7 false) wr)/\Hid (Wr w0.heap.size b w wr)/\Hid (Row3 wr w.heap.size (.int .i64 7) (.string s) (.slice a L cap))) (fun v _=>L - (intOf v).toNat)
        case atStart=>exact⟨0,qv _,rfl,qh (by simpa using P0.out),K0,R0⟩
        case round =>
         obtain⟨i,hi,rfl,PI,KI,RI⟩:=hrel
         by_cases hlt:i < L
         ·have hlt':(i:Int) < (L:Int):=by omega
          have hi0:(0:Int)<=(i:Int):=by omega
          have hik:i < kl.length:=by rw[HLL.out];exact hlt
          have hm1:(i:Int)+1<=(L:Int):=by omega
          obtain⟨bb,o,k1,s1,l1,a1,c1,rfl,e1,x0,x1,x2,r1⟩:=HN.out.kid i hik;have y0:=PI.out.cell x0;have y1:=PI.out.cell x1;have y2:=PI.out.cell x2;have yb:=qi y0
          have hG:(kl.take (i+1)).flatMap (fun x=>(32:UInt8) :: x.txt 7 false)=(kl.take i).flatMap (fun x=>32 :: x.txt 7 false)++(32 :: (kl[i]).txt 7 false):=by
           rw[zc hik,zj];simp
          have hGl:((kl.take (i+1)).flatMap (fun x=>(32:UInt8) :: x.txt 7 false)).length<=(kl.flatMap (fun x=>(32:UInt8) :: x.txt 7 false)).length:=by
           conv=>rhs;rw[<-List.take_append_drop (i+1) kl]
           rw[zj,qg];omega
          have hlen3:=HLen.out;rw[hG]at hGl;simp only[qg,qr]at hGl;generalize hU:(kl.take i).flatMap (fun x=>(32:UInt8) :: x.txt 7 false)=U at *;obtain⟨A,hA⟩:∃ A,(kl[i]).txt 7 false=A:=⟨_,rfl⟩;rw[hA]at hG hGl;have HG:=qh hG;have CP:=qh (fun w' (h:PrI w0 b (p++U) w') n (hn:n=w'.heap.size)=>put1 h n hn ⟨#[32]⟩ (by have h1:(bs ⟨#[32]⟩).length=1:=rfl;simp only[qg];omega))
          have CA:Hid (∀ (z:Int),z=((7:Nat):Int)->∀ w',PrI w0 b ((p++U)++bs ⟨#[32]⟩) w'->Calls Tryz.prog 158 #[.pointer (some ⟨b,0,none⟩),.agg #[.int .i64 k1,.string s1,.slice a1 l1.length c1],.int .i64 z,.bool false] w' (PrO w0 b ((p++U)++bs ⟨#[32]⟩) w' A)):=qh (fun z hz w' h=>by
           subst hz;have hl9:List.length ((p++U)++bs ⟨#[32]⟩)+A.length<=100000000:=by have h1:(bs ⟨#[32]⟩).length=1:=rfl;simp only[qg];omega
           rw[<-hA]at hl9 ⊢
           exact HK.out i hik _ _ _ 7 false _ w' (by decide) (e1▸r1) h hl9)
          have RN:=qh (Row3.new wr (.int .i64 k1) (.string s1) (.slice a1 l1.length c1));have PN:=qh (PI.out.alloc (.cells #[.int .i64 k1,.string s1,.slice a1 l1.length c1] 25));have KN:=qh (KI.out.alloc PI.out.size (.cells #[.int .i64 k1,.string s1,.slice a1 l1.length c1] 25));have RIN:=qh (RI.out.alloc (.cells #[.int .i64 k1,.string s1,.slice a1 l1.length c1] 25));have hnn:wr.heap.size≠b:=by have:=PI.out.p.lt;omega
          clear hU hA hG hGl hlen3 x0 x1 x2 r1 e1 hik n0 n1 n2
          go_wp2_with fail
          refine(CP.out _ PN.out _ (by first|rfl|simp only[q6])).mono ?_;rintro e w5⟨rfl,pp,kk⟩;have P5:=qh pp;have K5:=qh (KN.out.trans kk);have R5:=qh (kk.row3 RN.out hnn);have RI5:=qh (kk.row3 RIN.out hne);obtain⟨⟨n0,n1,n2⟩,_⟩:=R5.out.cells;clear pp kk CP y0 y1 y2 yb
          go_wp2_with fail
          refine(CA.out _ (by first|rfl|(push_cast;rfl)) _ P5.out).mono ?_;rintro e w6⟨rfl,pp,kk⟩;have P6:Hid (PrI w0 b (p++(kl.take (i+1)).flatMap fun x=>32 :: x.txt 7 false) w6):=qh (by rw[HG.out];simpa[bs]using pp);have K6:=qh (K5.out.trans kk);have R6:=qh (kk.row3 RI5.out hne);clear pp kk CA n0 n1 n2;go_wp2;go_roundw
          case rel=>exact⟨i+1,hlt,by push_cast;rfl,P6,K6,R6⟩
          case measure=>simp[intOf];omega
         ·have hlt':¬ ((i:Int) < (L:Int)):=by omega
          have hG:kl.take i=kl:=qw (by rw[HLL.out];omega);have P9:=qh (show PrI w0 b (p++X) wr by rw[HXE.out];have hh:=PI.out;rwa [hG]at hh);clear hG n0 n1 n2;clear P0 K0 R0;have P0:=P9;have K0:=KI;have R0:=RI;obtain⟨⟨n0,n1,n2⟩,_⟩:=R0.out.cells
          go_wp2_with fail
          refine(CE.out _ P0.out _ (by first|rfl|simp only[q6])).mono ?_;rintro e w1⟨rfl,pp,kk⟩;have P1:=qh pp;have K1:=qh (K0.out.trans kk);have R1:=qh (kk.row3 R0.out hne);clear pp kk CE n0 n1 n2;go_wp2;go_end0;exact⟨rfl,by rw[HE.out];have hh:=P1.out;rw[<-HP.out]at hh;simpa only[qn,x9]using hh,K1.out⟩
       ·have hk7:((k:Int)==7)=false:=by rw[qc];exact hc
        have m7:¬ k=7:=hc;clear hc
        by_cases hc:k=8
        ·subst hc
         have j0:1<=L:=Hok.out (by decide);have i0:(0:Int) < (L:Int):=by omega
         have j1:0 < L:=by omega
         have hMk:0 < kl.length:=by rw[HLL.out];omega
         obtain⟨bb,o,k0',s0',l0',a0',c0',rfl,eK0,x00,x01,x02,r0⟩:=HN.out.kid 0 hMk;simp only[Nat.zero_mul,Nat.add_zero]at x00 x01 x02;have X0:=qh (And.intro x00 (And.intro x01 x02));obtain⟨Y0,hY0⟩:∃ Y,(kl[0]'hMk).txt 0 false=Y:=⟨_,rfl⟩
         have hXE:X=bs ⟨#[58,32]⟩++Y0:=by
          rw[<-HX.out,xz,qd (by decide),qd (by decide),qd (by decide),qj (by decide),q1i hMk,hY0];rfl
         have HXE:=qh hXE;have hlen2:=HL3.out;rw[hXE]at hlen2;simp only[qg]at hlen2;have C3:=qh (fun w' (h:PrI w0 b p w') n (hn:n=w'.heap.size)=>put1 h n hn ⟨#[58,32]⟩ (by omega));have hk:=HK.out
         have C4:Hid (∀ (z:Int),z=((0:Nat):Int)->∀ w',PrI w0 b (p++bs ⟨#[58,32]⟩) w'->Calls Tryz.prog 158 #[.pointer (some ⟨b,0,none⟩),.agg #[.int .i64 k0',.string s0',.slice a0' l0'.length c0'],.int .i64 z,.bool false] w' (PrO w0 b (p++bs ⟨#[58,32]⟩) w' Y0)):=qh (fun z hz w' h=>by
          subst hz;have hl9:List.length (p++bs ⟨#[58,32]⟩)+Y0.length<=100000000:=by(try simp[bs]at hlen2 ⊢);omega
          rw[<-hY0]at hl9 ⊢
          exact hk 0 hMk _ _ _ (0) false _ w' (by omega) (eK0▸r0) h hl9)
         clear hY0 hXE hlen2 hk eK0 r0 x00 x01 x02 hMk;obtain⟨⟨n0,n1,n2⟩,_⟩:=R0.out.cells;have y00:=P0.out.cell X0.out.1;have y01:=P0.out.cell X0.out.2.1;have y02:=P0.out.cell X0.out.2.2;have yb0:=qi y00
         go_wp2_with fail
         refine(C3.out _ P0.out _ (by first|rfl|simp only[q6])).mono ?_;rintro e w1⟨rfl,pp,kk⟩;have P1:=qh pp;have K1:=qh (K0.out.trans kk);have R1:=qh (kk.row3 R0.out hne);clear pp kk C3 n0 n1 n2 y00 y01 y02 yb0;obtain⟨⟨n0,n1,n2⟩,_⟩:=R1.out.cells;have y00:=P1.out.cell X0.out.1;have y01:=P1.out.cell X0.out.2.1;have y02:=P1.out.cell X0.out.2.2;have yb0:=qi y00
         go_wp2_with fail
         refine(C4.out _ (by first|rfl|(push_cast;rfl)) _ P1.out).mono ?_;rintro e w2⟨rfl,pp,kk⟩;have P2:=qh pp;have K2:=qh (K1.out.trans kk);have R2:=qh (kk.row3 R1.out hne);clear pp kk C4 n0 n1 n2 y00 y01 y02 yb0;obtain⟨⟨n0,n1,n2⟩,_⟩:=R2.out.cells;have y00:=P2.out.cell X0.out.1;have y01:=P2.out.cell X0.out.2.1;have y02:=P2.out.cell X0.out.2.2;have yb0:=qi y00;have P2x:Hid (PrI w0 b (p++X) w2):=qh (by rw[HXE.out];simpa only[qn]using P2.out);clear P2;have P2:=P2x;clear P2x
         go_wp2_with fail
         refine(CE.out _ P2.out _ (by first|rfl|simp only[q6])).mono ?_;rintro e w3⟨rfl,pp,kk⟩;have P3:=qh pp;have K3:=qh (K2.out.trans kk);have R3:=qh (kk.row3 R2.out hne);clear pp kk CE n0 n1 n2 y00 y01 y02 yb0;go_wp2;go_end0;exact⟨rfl,by rw[HE.out];have hh:=P3.out;rw[<-HP.out]at hh;simpa only[qn,x9]using hh,K3.out⟩
        ·have hk8:((k:Int)==8)=false:=by rw[qc];exact hc
         have m8:¬ k=8:=hc;clear hc
         by_cases hc:k=9
         ·subst hc
          have j0:1<=L:=Hok.out (by decide);have i0:(0:Int) < (L:Int):=by omega
          have j1:0 < L:=by omega
          have hMk:0 < kl.length:=by rw[HLL.out];omega
          obtain⟨bb,o,k0',s0',l0',a0',c0',rfl,eK0,x00,x01,x02,r0⟩:=HN.out.kid 0 hMk;simp only[Nat.zero_mul,Nat.add_zero]at x00 x01 x02;have X0:=qh (And.intro x00 (And.intro x01 x02));obtain⟨Y0,hY0⟩:∃ Y,(kl[0]'hMk).txt 0 false=Y:=⟨_,rfl⟩
          have hXE:X=bs ⟨#[58,32]⟩++Y0:=by
           rw[<-HX.out,xz,qd (by decide),qd (by decide),qd (by decide),qj (by decide),q1i hMk,hY0];rfl
          have HXE:=qh hXE;have hlen2:=HL3.out;rw[hXE]at hlen2;simp only[qg]at hlen2;have C3:=qh (fun w' (h:PrI w0 b p w') n (hn:n=w'.heap.size)=>put1 h n hn ⟨#[58,32]⟩ (by omega));have hk:=HK.out
          have C4:Hid (∀ (z:Int),z=((0:Nat):Int)->∀ w',PrI w0 b (p++bs ⟨#[58,32]⟩) w'->Calls Tryz.prog 158 #[.pointer (some ⟨b,0,none⟩),.agg #[.int .i64 k0',.string s0',.slice a0' l0'.length c0'],.int .i64 z,.bool false] w' (PrO w0 b (p++bs ⟨#[58,32]⟩) w' Y0)):=qh (fun z hz w' h=>by
           subst hz;have hl9:List.length (p++bs ⟨#[58,32]⟩)+Y0.length<=100000000:=by(try simp[bs]at hlen2 ⊢);omega
           rw[<-hY0]at hl9 ⊢
           exact hk 0 hMk _ _ _ (0) false _ w' (by omega) (eK0▸r0) h hl9)
          clear hY0 hXE hlen2 hk eK0 r0 x00 x01 x02 hMk;obtain⟨⟨n0,n1,n2⟩,_⟩:=R0.out.cells;have y00:=P0.out.cell X0.out.1;have y01:=P0.out.cell X0.out.2.1;have y02:=P0.out.cell X0.out.2.2;have yb0:=qi y00
          go_wp2_with fail
          refine(C3.out _ P0.out _ (by first|rfl|simp only[q6])).mono ?_;rintro e w1⟨rfl,pp,kk⟩;have P1:=qh pp;have K1:=qh (K0.out.trans kk);have R1:=qh (kk.row3 R0.out hne);clear pp kk C3 n0 n1 n2 y00 y01 y02 yb0;obtain⟨⟨n0,n1,n2⟩,_⟩:=R1.out.cells;have y00:=P1.out.cell X0.out.1;have y01:=P1.out.cell X0.out.2.1;have y02:=P1.out.cell X0.out.2.2;have yb0:=qi y00
          go_wp2_with fail
          refine(C4.out _ (by first|rfl|(push_cast;rfl)) _ P1.out).mono ?_;rintro e w2⟨rfl,pp,kk⟩;have P2:=qh pp;have K2:=qh (K1.out.trans kk);have R2:=qh (kk.row3 R1.out hne);clear pp kk C4 n0 n1 n2 y00 y01 y02 yb0;obtain⟨⟨n0,n1,n2⟩,_⟩:=R2.out.cells;have y00:=P2.out.cell X0.out.1;have y01:=P2.out.cell X0.out.2.1;have y02:=P2.out.cell X0.out.2.2;have yb0:=qi y00;have P2x:Hid (PrI w0 b (p++X) w2):=qh (by rw[HXE.out];simpa only[qn]using P2.out);clear P2;have P2:=P2x;clear P2x
          go_wp2_with fail
          refine(CE.out _ P2.out _ (by first|rfl|simp only[q6])).mono ?_;rintro e w3⟨rfl,pp,kk⟩;have P3:=qh pp;have K3:=qh (K2.out.trans kk);have R3:=qh (kk.row3 R2.out hne);clear pp kk CE n0 n1 n2 y00 y01 y02 yb0;go_wp2;go_end0;exact⟨rfl,by rw[HE.out];have hh:=P3.out;rw[<-HP.out]at hh;simpa only[qn,x9]using hh,K3.out⟩
         ·have hk9:((k:Int)==9)=false:=by rw[qc];exact hc
          have m9:¬ k=9:=hc;clear hc
          by_cases hc:k=10
          ·subst hc
           have j0:1<=L:=Hok.out (by decide);have i0:(0:Int) < (L:Int):=by omega
           have j1:0 < L:=by omega
           have hMk:0 < kl.length:=by rw[HLL.out];omega
           obtain⟨bb,o,k0',s0',l0',a0',c0',rfl,eK0,x00,x01,x02,r0⟩:=HN.out.kid 0 hMk;simp only[Nat.zero_mul,Nat.add_zero]at x00 x01 x02;have X0:=qh (And.intro x00 (And.intro x01 x02));obtain⟨Y0,hY0⟩:∃ Y,(kl[0]'hMk).txt 0 false=Y:=⟨_,rfl⟩
           have hXE:X=bs ⟨#[58,32]⟩++Y0:=by
            rw[<-HX.out,xz,qd (by decide),qd (by decide),qd (by decide),qj (by decide),q1i hMk,hY0];rfl
           have HXE:=qh hXE;have hlen2:=HL3.out;rw[hXE]at hlen2;simp only[qg]at hlen2;have C3:=qh (fun w' (h:PrI w0 b p w') n (hn:n=w'.heap.size)=>put1 h n hn ⟨#[58,32]⟩ (by omega));have hk:=HK.out
           have C4:Hid (∀ (z:Int),z=((0:Nat):Int)->∀ w',PrI w0 b (p++bs ⟨#[58,32]⟩) w'->Calls Tryz.prog 158 #[.pointer (some ⟨b,0,none⟩),.agg #[.int .i64 k0',.string s0',.slice a0' l0'.length c0'],.int .i64 z,.bool false] w' (PrO w0 b (p++bs ⟨#[58,32]⟩) w' Y0)):=qh (fun z hz w' h=>by
            subst hz;have hl9:List.length (p++bs ⟨#[58,32]⟩)+Y0.length<=100000000:=by(try simp[bs]at hlen2 ⊢);omega
            rw[<-hY0]at hl9 ⊢
            exact hk 0 hMk _ _ _ (0) false _ w' (by omega) (eK0▸r0) h hl9)
           clear hY0 hXE hlen2 hk eK0 r0 x00 x01 x02 hMk;obtain⟨⟨n0,n1,n2⟩,_⟩:=R0.out.cells;have y00:=P0.out.cell X0.out.1;have y01:=P0.out.cell X0.out.2.1;have y02:=P0.out.cell X0.out.2.2;have yb0:=qi y00
           go_wp2_with fail
           refine(C3.out _ P0.out _ (by first|rfl|simp only[q6])).mono ?_;rintro e w1⟨rfl,pp,kk⟩;have P1:=qh pp;have K1:=qh (K0.out.trans kk);have R1:=qh (kk.row3 R0.out hne);clear pp kk C3 n0 n1 n2 y00 y01 y02 yb0;obtain⟨⟨n0,n1,n2⟩,_⟩:=R1.out.cells;have y00:=P1.out.cell X0.out.1;have y01:=P1.out.cell X0.out.2.1;have y02:=P1.out.cell X0.out.2.2;have yb0:=qi y00
           go_wp2_with fail
           refine(C4.out _ (by first|rfl|(push_cast;rfl)) _ P1.out).mono ?_;rintro e w2⟨rfl,pp,kk⟩;have P2:=qh pp;have K2:=qh (K1.out.trans kk);have R2:=qh (kk.row3 R1.out hne);clear pp kk C4 n0 n1 n2 y00 y01 y02 yb0;obtain⟨⟨n0,n1,n2⟩,_⟩:=R2.out.cells;have y00:=P2.out.cell X0.out.1;have y01:=P2.out.cell X0.out.2.1;have y02:=P2.out.cell X0.out.2.2;have yb0:=qi y00;have P2x:Hid (PrI w0 b (p++X) w2):=qh (by rw[HXE.out];simpa only[qn]using P2.out);clear P2;have P2:=P2x;clear P2x
           go_wp2_with fail
           refine(CE.out _ P2.out _ (by first|rfl|simp only[q6])).mono ?_;rintro e w3⟨rfl,pp,kk⟩;have P3:=qh pp;have K3:=qh (K2.out.trans kk);have R3:=qh (kk.row3 R2.out hne);clear pp kk CE n0 n1 n2 y00 y01 y02 yb0;go_wp2;go_end0;exact⟨rfl,by rw[HE.out];have hh:=P3.out;rw[<-HP.out]at hh;simpa only[qn,x9]using hh,K3.out⟩
          ·have hk10:((k:Int)==10)=false:=by rw[qc];exact hc
           have m10:¬ k=10:=hc;clear hc
           by_cases hc:k=11
           ·subst hc
            have j0:1<=L:=Hok.out (by decide);have i0:(0:Int) < (L:Int):=by omega
            have j1:0 < L:=by omega
            have hMk:0 < kl.length:=by rw[HLL.out];omega
            obtain⟨bb,o,k0',s0',l0',a0',c0',rfl,eK0,x00,x01,x02,r0⟩:=HN.out.kid 0 hMk;simp only[Nat.zero_mul,Nat.add_zero]at x00 x01 x02;have X0:=qh (And.intro x00 (And.intro x01 x02));obtain⟨Y0,hY0⟩:∃ Y,(kl[0]'hMk).txt 0 false=Y:=⟨_,rfl⟩
            have hXE:X=bs ⟨#[58,32]⟩++Y0:=by
             rw[<-HX.out,xz,qd (by decide),qd (by decide),qd (by decide),qj (by decide),q1i hMk,hY0];rfl
            have HXE:=qh hXE;have hlen2:=HL3.out;rw[hXE]at hlen2;simp only[qg]at hlen2;have C3:=qh (fun w' (h:PrI w0 b p w') n (hn:n=w'.heap.size)=>put1 h n hn ⟨#[58,32]⟩ (by omega));have hk:=HK.out
            have C4:Hid (∀ (z:Int),z=((0:Nat):Int)->∀ w',PrI w0 b (p++bs ⟨#[58,32]⟩) w'->Calls Tryz.prog 158 #[.pointer (some ⟨b,0,none⟩),.agg #[.int .i64 k0',.string s0',.slice a0' l0'.length c0'],.int .i64 z,.bool false] w' (PrO w0 b (p++bs ⟨#[58,32]⟩) w' Y0)):=qh (fun z hz w' h=>by
             subst hz;have hl9:List.length (p++bs ⟨#[58,32]⟩)+Y0.length<=100000000:=by(try simp[bs]at hlen2 ⊢);omega
             rw[<-hY0]at hl9 ⊢
             exact hk 0 hMk _ _ _ (0) false _ w' (by omega) (eK0▸r0) h hl9)
            clear hY0 hXE hlen2 hk eK0 r0 x00 x01 x02 hMk;obtain⟨⟨n0,n1,n2⟩,_⟩:=R0.out.cells;have y00:=P0.out.cell X0.out.1;have y01:=P0.out.cell X0.out.2.1;have y02:=P0.out.cell X0.out.2.2;have yb0:=qi y00
            go_wp2_with fail
            refine(C3.out _ P0.out _ (by first|rfl|simp only[q6])).mono ?_;rintro e w1⟨rfl,pp,kk⟩;have P1:=qh pp;have K1:=qh (K0.out.trans kk);have R1:=qh (kk.row3 R0.out hne);clear pp kk C3 n0 n1 n2 y00 y01 y02 yb0;obtain⟨⟨n0,n1,n2⟩,_⟩:=R1.out.cells;have y00:=P1.out.cell X0.out.1;have y01:=P1.out.cell X0.out.2.1;have y02:=P1.out.cell X0.out.2.2;have yb0:=qi y00
            go_wp2_with fail
            refine(C4.out _ (by first|rfl|(push_cast;rfl)) _ P1.out).mono ?_;rintro e w2⟨rfl,pp,kk⟩;have P2:=qh pp;have K2:=qh (K1.out.trans kk);have R2:=qh (kk.row3 R1.out hne);clear pp kk C4 n0 n1 n2 y00 y01 y02 yb0;obtain⟨⟨n0,n1,n2⟩,_⟩:=R2.out.cells;have y00:=P2.out.cell X0.out.1;have y01:=P2.out.cell X0.out.2.1;have y02:=P2.out.cell X0.out.2.2;have yb0:=qi y00;have P2x:Hid (PrI w0 b (p++X) w2):=qh (by rw[HXE.out];simpa only[qn]using P2.out);clear P2;have P2:=P2x;clear P2x
            go_wp2_with fail
            refine(CE.out _ P2.out _ (by first|rfl|simp only[q6])).mono ?_;rintro e w3⟨rfl,pp,kk⟩;have P3:=qh pp;have K3:=qh (K2.out.trans kk);have R3:=qh (kk.row3 R2.out hne);clear pp kk CE n0 n1 n2 y00 y01 y02 yb0;go_wp2;go_end0;exact⟨rfl,by rw[HE.out];have hh:=P3.out;rw[<-HP.out]at hh;simpa only[qn,x9]using hh,K3.out⟩
           ·have hk11:((k:Int)==11)=false:=by rw[qc];exact hc
            have m11:¬ k=11:=hc;clear hc
            by_cases hc:k=14
            ·subst hc
             have hX2:jw (kl.take L) true=X:=by
              rw[<-HX.out,<-HLL.out,List.take_length,xz,qj (by decide)]
             have C2:Hid (∀ w',PrI w0 b p w'->Calls Tryz.prog 204 #[.pointer (some ⟨b,0,none⟩),.slice a L cap] w' (PrO w0 b p w' X)):=qh (fun w' h=>by
              have hl9:p.length+X.length<=100000000:=by have:=HL3.out;omega
              rw[<-hX2]at hl9 ⊢
              exact q5l _ s kl L cap (by rw[HLL.out];exact q9 _) _ _ _ _ _ _ w' HN.out h hl9)
             clear hX2;obtain⟨⟨n0,n1,n2⟩,_⟩:=R0.out.cells
             go_wp2_with fail
             refine(C2.out _ P0.out).mono ?_;rintro e w1⟨rfl,pp,kk⟩;have P1:=qh pp;have K1:=qh (K0.out.trans kk);have R1:=qh (kk.row3 R0.out hne);clear pp kk C2 n0 n1 n2;obtain⟨⟨n0,n1,n2⟩,_⟩:=R1.out.cells
             go_wp2_with fail
             refine(CE.out _ P1.out _ (by first|rfl|simp only[q6])).mono ?_;rintro e w2⟨rfl,pp,kk⟩;have P2:=qh pp;have K2:=qh (K1.out.trans kk);have R2:=qh (kk.row3 R1.out hne);clear pp kk CE n0 n1 n2;go_wp2;go_end0;exact⟨rfl,by rw[HE.out];have hh:=P2.out;rw[<-HP.out]at hh;simpa only[qn,x9]using hh,K2.out⟩
            ·have hk14:((k:Int)==14)=false:=by rw[qc];exact hc
             have m14:¬ k=14:=hc;clear hc
             have hXE:X=[]:=by
              rw[<-HX.out,xz,qd (by omega),qd (by omega),qd (by omega),qd (by omega)]
             have P9:=qh (show PrI w0 b (p++X) _ by rw[hXE,List.append_nil];exact P0.out);clear P0 hXE;have P0:=P9;clear P9 m2 m3 m4 m5 m6 m7 m8 m9 m10 m11 m14;obtain⟨⟨n0,n1,n2⟩,_⟩:=R0.out.cells
             go_wp2_with fail
             refine(CE.out _ P0.out _ (by first|rfl|simp only[q6])).mono ?_;rintro e w1⟨rfl,pp,kk⟩;have P1:=qh pp;have K1:=qh (K0.out.trans kk);have R1:=qh (kk.row3 R0.out hne);clear pp kk CE n0 n1 n2;go_wp2;go_end0;exact⟨rfl,by rw[HE.out];have hh:=P1.out;rw[<-HP.out]at hh;simpa only[qn,x9]using hh,K1.out⟩
end Go.Proofs.YtkckddojlignpaaGreatDoor
namespace Go.Proofs.YtkckddojlignpaaGreatDoor
open Go.RowKit Go.Shelf
theorem qfb:Tryz.prog.cellsOf 5=1:=by kernel_rfl
theorem qbd(B b:Nat)(l:List UInt8)(w:World)(h:PrW B b l w)(h0:l≠[]) :
  Calls Tryz.prog 98 #[.pointer (some ⟨b,0,none⟩)] w fun e w'=>e = .returned (.string ⟨l.toArray⟩)/\Below B w w':=by
 obtain⟨p,hB,v,hbk,hown,hne⟩:∃ p,Lib.BuilderAt 124 5 B b p (Lib.byteCells l) w:=by
  rcases h with h|h
  ·exact⟨_,h⟩
  ·exact⟨_,h⟩
 have hl0:l.length≠0:=by simpa using h0
 rw[Lib.byteCells_length]at hown
 obtain⟨g,cap,cur,rfl,hbg,hg,hnc,hcm,hcs,htake⟩:∃ g cap cur,v = .slice (some ⟨g,0,none⟩) l.length cap/\B<=g/\w.heap[g]?=some (.cells cur 5 (0,0))/\l.length<=cap/\cap<=maxLen/\cur.size=cap*1/\cur.toList.take (l.length*1)=Lib.byteCells l:=by
  rcases hown.2 with ⟨_,hz⟩|⟨g,cap,cur,hv,r⟩
  ·exact absurd hz hl0
  ·exact⟨g,cap,cur,hv,r⟩
 have c1:w.drew.cell? ⟨b,1,none⟩=some (.slice (some ⟨g,0,none⟩) l.length cap):=by
  have:w.drew.heap[b]?=some (.cells #[p,.slice (some ⟨g,0,none⟩) l.length cap] 124 (0,0)):=hbk;rw[xw this];rfl
 have hSD:(Builtin.unsafeSliceData_ #[120] 170 #[.slice (some ⟨g,0,none⟩) l.length cap]).run Tryz.prog w.drew = .ok (.pointer (some ⟨g,0,none⟩)) w.drew :=
  Lib.run_unsafeSliceData_row _ _ _ _ _ _ (by omega)
 have hUS:(Builtin.unsafeString_ #[170,3] 9 #[.pointer (some ⟨g,0,none⟩),.int .i64 l.length]).run Tryz.prog w.drew = .ok (.string ⟨l.toArray⟩) (w.drew.freeze ⟨g,0,none⟩ l.length):=by
  refine Lib.run_unsafeString_row w.drew 170 3 9 5 Tryz.underlying170 qfb g cur.size (by have hg':w.drew.heap[g]?=some (.cells cur 5 (0,0)):=hg;simp[World.shape?,hg']) l h0 (by omega) (by unfold maxLen at hcm;omega) ?_;intro j x hx;have:=hown.cells (g:=g) rfl j (.int .u8 x.toNat) (by simp[Lib.byteCells,hx]);exact this
 go_enter Tryz.func98,Tryz.ntmps98;go_wp2
 go_region
 all_goals (go_wp2;go_ret;exact⟨rfl,Lib.below_freeze (Below.drew (Below.refl B w)) (p:=⟨g,0,none⟩) hbg _⟩)
theorem q2l(W:World)(q:Option Addr):(Builtin.unsafeString_ #[170,3] 9 #[.pointer q,.int .i64 0]).run Tryz.prog W = .ok (.string .empty) W :=
 Lib.run_unsafeString_none W _ _ _ q
theorem qcq(B b:Nat)(p:Value)(w:World)(hbk:w.heap[b]?=some (.cells #[p,.slice none 0 0] 124 (0,0))) :
  Calls Tryz.prog 98 #[.pointer (some ⟨b,0,none⟩)] w fun e w'=>e = .returned (.string ⟨#[]⟩)/\Below B w w':=by
 have hUS:=q2l
 have c1:w.drew.cell? ⟨b,1,none⟩=some (.slice none 0 0):=by
  have:w.drew.heap[b]?=some (.cells #[p,.slice none 0 0] 124 (0,0)):=hbk;rw[xw this];rfl
 have hSD:(Builtin.unsafeSliceData_ #[120] 170 #[.slice none 0 0]).run Tryz.prog w.drew = .ok (.pointer none) w.drew:=rfl;go_enter Tryz.func98,Tryz.ntmps98;go_wp2
 go_region
 all_goals (go_wp2;go_ret;exact⟨rfl,Below.drew (Below.refl B w)⟩)
theorem q8w(B b g:Nat)(p:Value)(cur:Array Value)(w:World)(hBw:B<=w.heap.size)(hbk:w.heap[b]?=some (.cells #[p,.slice (some ⟨g,0,none⟩) 0 0] 124 (0,0)))(hg:w.heap[g]?=some (.cells cur 5 (0,0))) :
  Calls Tryz.prog 98 #[.pointer (some ⟨b,0,none⟩)] w fun e w'=>e = .returned (.string ⟨#[]⟩)/\Below B w w':=by
 have hUS:=q2l;have hlt:b < w.heap.size:=zg hbk
 have c1:w.drew.cell? ⟨b,1,none⟩=some (.slice (some ⟨g,0,none⟩) 0 0):=by
  have:w.drew.heap[b]?=some (.cells #[p,.slice (some ⟨g,0,none⟩) 0 0] 124 (0,0)):=hbk;rw[xw this];rfl
 have hSD:(Builtin.unsafeSliceData_ #[120] 170 #[.slice (some ⟨g,0,none⟩) 0 0]).run Tryz.prog w.drew = .ok (.pointer (some ⟨w.drew.heap.size,0,none⟩)) (w.drew.alloc (.view ⟨g,0,none⟩ 5)) :=
  Lib.run_unsafeSliceData_zero w.drew _ _ 5 Tryz.underlying170 ⟨g,0,none⟩ 0 (5,cur.size) (by have hg':w.drew.heap[g]?=some (.cells cur 5 (0,0)):=hg;simp[World.shape?,hg'])
 have c2:(w.drew.alloc (.view ⟨g,0,none⟩ 5)).cell? ⟨b,1,none⟩=some (.slice (some ⟨g,0,none⟩) 0 0):=by
  have:(w.drew.alloc (.view ⟨g,0,none⟩ 5)).heap[b]?=_:=(Lib.alloc_old w.drew _ b hlt).trans hbk;rw[xw this];rfl
 have c3:(w.alloc (.view ⟨g,0,none⟩ 5)).drew.cell? ⟨b,1,none⟩=some (.slice (some ⟨g,0,none⟩) 0 0):=c2;have c0:w.cell? ⟨b,1,none⟩=some (.slice (some ⟨g,0,none⟩) 0 0):=c1;go_enter Tryz.func98,Tryz.ntmps98;go_wp2
 go_region
 all_goals (go_wp2;go_ret;exact⟨rfl,(Below.drew (Below.refl B w)).alloc hBw _⟩)
theorem qbe(B b g cap:Nat)(p:Value)(w:World)(hc0:cap≠0)(hbk:w.heap[b]?=some (.cells #[p,.slice (some ⟨g,0,none⟩) 0 cap] 124 (0,0))) :
  Calls Tryz.prog 98 #[.pointer (some ⟨b,0,none⟩)] w fun e w'=>e = .returned (.string ⟨#[]⟩)/\Below B w w':=by
 have hUS:=q2l
 have c1:w.drew.cell? ⟨b,1,none⟩=some (.slice (some ⟨g,0,none⟩) 0 cap):=by
  have:w.drew.heap[b]?=some (.cells #[p,.slice (some ⟨g,0,none⟩) 0 cap] 124 (0,0)):=hbk;rw[xw this];rfl
 have hSD:(Builtin.unsafeSliceData_ #[120] 170 #[.slice (some ⟨g,0,none⟩) 0 cap]).run Tryz.prog w.drew = .ok (.pointer (some ⟨g,0,none⟩)) w.drew :=
  Lib.run_unsafeSliceData_row _ _ _ _ _ _ hc0
 clear hc0;go_enter Tryz.func98,Tryz.ntmps98;go_wp2
 go_region
 all_goals (go_wp2;go_ret;exact⟨rfl,Below.drew (Below.refl B w)⟩)
theorem qcr(B b:Nat)(l:List UInt8)(w:World)(h:PrW B b l w)(hBw:B<=w.heap.size) :
  Calls Tryz.prog 98 #[.pointer (some ⟨b,0,none⟩)] w fun e w'=>e = .returned (S_ l)/\Below B w w':=by
 cases l with
 |cons x r=>exact qbd B b (x :: r) w h (by simp)
 |nil =>
  obtain⟨p,hB,v,hbk,hown,hne⟩:∃ p,Lib.BuilderAt 124 5 B b p [] w:=by
   rcases h with h|h
   ·exact⟨_,h⟩
   ·exact⟨_,h⟩
  rcases hown.2 with ⟨rfl,_⟩|⟨g,cap,cur,rfl,hbg,hg,_,_,_,_⟩
  ·exact qcq B b p w hbk
  ·by_cases hc0:cap=0
   ·subst hc0
    exact q8w B b g p cur w hBw hbk hg
   ·exact qbe B b g cap p w hc0 hbk
end Go.Proofs.YtkckddojlignpaaGreatDoor
