/- A part of the proof, packed: see the last text of this claim. -/
import Derived.Test.YtkckddojlignpaaGreatDoorPkBa
import Derived.Deep.RegionLaw
import Derived.RegionDies
set_option maxHeartbeats 20000000
set_option maxRecDepth 100000
namespace Go.Proofs.YtkckddojlignpaaGreatDoor
open Go.RowKit
attribute [local go_sem] jn jm jk
def zu(E:PE)(s:Lx.Bs)(r:Sx.PR Nd):Sx.PR Nd :=
 match r with
 | .bad q=>.bad q
 | .ok a q=>if Sx.txt E.ts q=s then .ok a (q+1) else .bad q
def Gr2(E:PE)(w:World)(r:Sx.PR Nd)(e:Ending)(w':World):Prop :=
 match r with
 | .ok (.mk k s l) q=>(∃ a cap,e = .returned (.tuple #[.agg #[.int .i64 k,.string s,.slice a l.length cap],.bool true])/\NdS (fun b=>w.heap.size<=b) w' (.mk k s l) (.int .i64 k) (.string s) (.slice a l.length cap))/\Mv E q w w'/\q<=E.ts.length
 | .bad q=>e = .panicked [{ v:=xz E q,recovered:=false }]/\Mv E q w w'/\q<=E.ts.length
theorem qcv(E:PE)(q:Nat)(w:World)(h:PS E q w)(ht:Sx.txt E.ts q=[40])(r:Sx.PR Nd)(C:∀ w0,PS E (q+1) w0->Calls Tryz.prog 44 #[.pointer (some ⟨E.pb,0,none⟩)] w0 (Gr E w0 r)) :
  Calls Tryz.prog 148 #[.pointer (some ⟨E.pb,0,none⟩)] w (Gr E w (zu E [41] r)):=by
 have HP:=qh h;have hpl:=h.lt;have D:=qh C;have B0:=qh ((Below.refl w.heap.size w).alloc (q5 _) (.cells #[.int .i64 0,.string ⟨#[]⟩,.slice none 0 0] 25));have R0:=qh (Row3.new w (.int .i64 0) (.string ⟨#[]⟩) (.slice none 0 0));have T:=qh (fun w h=>y6 E q ⟨#[40]⟩ w h ht (by decide));clear h C ht;obtain⟨R,hR⟩:∃ R,Gr E w (zu E [41] r)=R:=⟨_,rfl⟩
 cases r with
 |bad q' =>
  have HR:Hid (Gr E w (.bad q')=R):=qh hR;rw[hR];clear hR;go_enter Tryz.func148,Tryz.ntmps148
  go_wp2_with fail
  refine(T.out _ (HP.out.later B0.out)).mono ?_;rintro e wt⟨rfl,hmt,hpt⟩;have MT:=qh (Mv.before HP.out B0.out hmt);have PT:=qh hpt;have RT:=qh (R0.out.mv hmt (by omega));clear hmt hpt
  go_wp2_with fail
  refine(D.out _ PT.out).mono ?_;rintro e w1⟨rfl,hm,hq⟩;have M1:=Mv.trans HP.out MT.out PT.out.le hm;go_wp2;rw[<-HR.out];exact⟨rfl,rfl,M1,hq⟩
 |ok t q1 =>
  obtain⟨k1,s1,l1⟩:=t
  by_cases hc:Sx.txt E.ts q1=[41]
  ·have HR:Hid (Gr E w (.ok (.mk k1 s1 l1) (q1+1))=R):=qh (by rw[<-hR];simp only[zu];rw[qa hc])
   have NY:=qh (fun w h=>ka E q1 ⟨#[41]⟩ w h hc (by decide));have hlt:=Sx.txt_at hc;rw[hR];clear hR hc;go_enter Tryz.func148,Tryz.ntmps148
   go_wp2_with fail
   refine(T.out _ (HP.out.later B0.out)).mono ?_;rintro e wt⟨rfl,hmt,hpt⟩;have MT:=qh (Mv.before HP.out B0.out hmt);have PT:=qh hpt;have RT:=qh (R0.out.mv hmt (by omega));clear hmt hpt
   go_wp2_with fail
   refine(D.out _ PT.out).mono ?_;rintro e w1⟨⟨a,cap,rfl,hn⟩,hm,hq⟩;have M1:=qh (Mv.trans HP.out MT.out PT.out.le hm);have N1:=qh (hn.from RT.out.lt);have R1:=qh (RT.out.mv hm (by omega));have Hq:=qh hq;have P1:=qh ((M1.out.ps HP.out Hq.out).later ((Below.refl _ w1).alloc (q5 _) (.cells #[.int .i64 k1,.string s1,.slice a l1.length cap] 25)));clear hm hn hq
   go_wp2_with fail
   refine(NY.out _ P1.out).mono ?_;rintro e w2⟨rfl,hm2,hp2⟩;have M2:=qh (Mv.trans HP.out (M1.out.alloc (.cells #[.int .i64 k1,.string s1,.slice a l1.length cap] 25)) Hq.out hm2);have R2:=qh ((R1.out.alloc (.cells #[.int .i64 k1,.string s1,.slice a l1.length cap] 25)).mv hm2 (by omega));have L2:=qh ((Row3.new w1 (.int .i64 k1) (.string s1) (.slice a l1.length cap)).mv hm2 (by have:=M1.out.size;omega));have K2:=qh (((Kp.refl (w.heap.size+1) w1).alloc (.cells #[.int .i64 k1,.string s1,.slice a l1.length cap] 25)).mv hm2 (by omega));obtain⟨⟨n0,n1,n2⟩,g0,g1,g2⟩:=R2.out.cells;obtain⟨⟨m0,m1,m2⟩,_⟩:=L2.out.cells;have ll:=L2.out.lt;have lr:=R2.out.lt;have l1w:=R1.out.lt;clear hm2 hp2;go_wp2;refine zg (R2.out.put _ _ _) Tryz.results148 rfl rfl ?_;rw[<-HR.out];exact⟨⟨a,cap,rfl,N1.out.fin (Nat.le_succ _) (K2.out.put3 (b:=w.heap.size) _ _ _ (by omega))⟩,M2.out.put3 (q5 _) _ _ _,hlt⟩
  ·have HR:Hid (Gr E w (.bad q1)=R):=qh (by rw[<-hR];simp only[zu];rw[q7 hc])
   have NN:=qh (fun w h=>q0e E q1 ⟨#[41]⟩ w h hc);rw[hR];clear hR hc;go_enter Tryz.func148,Tryz.ntmps148
   go_wp2_with fail
   refine(T.out _ (HP.out.later B0.out)).mono ?_;rintro e wt⟨rfl,hmt,hpt⟩;have MT:=qh (Mv.before HP.out B0.out hmt);have PT:=qh hpt;have RT:=qh (R0.out.mv hmt (by omega));clear hmt hpt
   go_wp2_with fail
   refine(D.out _ PT.out).mono ?_;rintro e w1⟨⟨a,cap,rfl,hn⟩,hm,hq⟩;have M1:=qh (Mv.trans HP.out MT.out PT.out.le hm);have N1:=qh (hn.from RT.out.lt);have R1:=qh (RT.out.mv hm (by omega));have Hq:=qh hq;have P1:=qh ((M1.out.ps HP.out Hq.out).later ((Below.refl _ w1).alloc (q5 _) (.cells #[.int .i64 k1,.string s1,.slice a l1.length cap] 25)));clear hm hn hq
   go_wp2_with fail
   refine(NN.out _ P1.out).mono ?_;rintro e w2⟨rfl,hb2⟩;have M2:=(M1.out.alloc (.cells #[.int .i64 k1,.string s1,.slice a l1.length cap] 25)).later (hb2.mono (by simp;have:=M1.out.size;omega));go_wp2;rw[<-HR.out];exact⟨rfl,rfl,M2,Hq.out⟩
theorem q81(E:PE)(q:Nat)(w:World)(h:PS E q w)(ht:Sx.txt E.ts q=[40])(r:Sx.PR Nd)(C:∀ w0,PS E (q+1) w0->Calls Tryz.prog 43 #[.pointer (some ⟨E.pb,0,none⟩)] w0 (Gr E w0 r)) :
  Calls Tryz.prog 89 #[.pointer (some ⟨E.pb,0,none⟩)] w (Gr2 E w (zu E [41] r)):=by
 have HP:=qh h;have hpl:=h.lt;have D:=qh C;have B0:=qh ((Below.refl w.heap.size w).alloc (q5 _) (.cells #[.int .i64 0,.string ⟨#[]⟩,.slice none 0 0] 25));have R0:=qh (Row3.new w (.int .i64 0) (.string ⟨#[]⟩) (.slice none 0 0));have T:=qh (fun w h=>y6 E q ⟨#[40]⟩ w h ht (by decide));clear h C ht;obtain⟨R,hR⟩:∃ R,Gr2 E w (zu E [41] r)=R:=⟨_,rfl⟩
 cases r with
 |bad q' =>
  have HR:Hid (Gr2 E w (.bad q')=R):=qh hR;rw[hR];clear hR;go_enter Tryz.func89,Tryz.ntmps89
  go_wp2_with fail
  refine(T.out _ (HP.out.later B0.out)).mono ?_;rintro e wt⟨rfl,hmt,hpt⟩;have MT:=qh (Mv.before HP.out B0.out hmt);have PT:=qh hpt;have RT:=qh (R0.out.mv hmt (by omega));clear hmt hpt
  go_wp2_with fail
  refine(D.out _ PT.out).mono ?_;rintro e w1⟨rfl,hm,hq⟩;have M1:=Mv.trans HP.out MT.out PT.out.le hm;go_wp2;rw[<-HR.out];exact⟨rfl,rfl,M1,hq⟩
 |ok t q1 =>
  obtain⟨k1,s1,l1⟩:=t
  by_cases hc:Sx.txt E.ts q1=[41]
  ·have HR:Hid (Gr2 E w (.ok (.mk k1 s1 l1) (q1+1))=R):=qh (by rw[<-hR];simp only[zu];rw[qa hc])
   have NY:=qh (fun w h=>ka E q1 ⟨#[41]⟩ w h hc (by decide));have hlt:=Sx.txt_at hc;rw[hR];clear hR hc;go_enter Tryz.func89,Tryz.ntmps89
   go_wp2_with fail
   refine(T.out _ (HP.out.later B0.out)).mono ?_;rintro e wt⟨rfl,hmt,hpt⟩;have MT:=qh (Mv.before HP.out B0.out hmt);have PT:=qh hpt;have RT:=qh (R0.out.mv hmt (by omega));clear hmt hpt
   go_wp2_with fail
   refine(D.out _ PT.out).mono ?_;rintro e w1⟨⟨a,cap,rfl,hn⟩,hm,hq⟩;have M1:=qh (Mv.trans HP.out MT.out PT.out.le hm);have N1:=qh (hn.from RT.out.lt);have R1:=qh (RT.out.mv hm (by omega));have Hq:=qh hq;have P1:=qh ((M1.out.ps HP.out Hq.out).later ((Below.refl _ w1).alloc (q5 _) (.cells #[.int .i64 k1,.string s1,.slice a l1.length cap] 25)));clear hm hn hq
   go_wp2_with fail
   refine(NY.out _ P1.out).mono ?_;rintro e w2⟨rfl,hm2,hp2⟩;have M2:=qh (Mv.trans HP.out (M1.out.alloc (.cells #[.int .i64 k1,.string s1,.slice a l1.length cap] 25)) Hq.out hm2);have R2:=qh ((R1.out.alloc (.cells #[.int .i64 k1,.string s1,.slice a l1.length cap] 25)).mv hm2 (by omega));have L2:=qh ((Row3.new w1 (.int .i64 k1) (.string s1) (.slice a l1.length cap)).mv hm2 (by have:=M1.out.size;omega));have K2:=qh (((Kp.refl (w.heap.size+1) w1).alloc (.cells #[.int .i64 k1,.string s1,.slice a l1.length cap] 25)).mv hm2 (by omega));obtain⟨⟨n0,n1,n2⟩,g0,g1,g2⟩:=R2.out.cells;obtain⟨⟨m0,m1,m2⟩,_⟩:=L2.out.cells;have ll:=L2.out.lt;have lr:=R2.out.lt;have l1w:=R1.out.lt;clear hm2 hp2;go_wp2;refine q2g (R2.out.put _ _ _) Tryz.results89 rfl rfl rfl ?_;rw[<-HR.out];exact⟨⟨a,cap,rfl,N1.out.fin (Nat.le_succ _) (K2.out.put3 (b:=w.heap.size) _ _ _ (by omega))⟩,M2.out.put3 (q5 _) _ _ _,hlt⟩
  ·have HR:Hid (Gr2 E w (.bad q1)=R):=qh (by rw[<-hR];simp only[zu];rw[q7 hc])
   have NN:=qh (fun w h=>q0e E q1 ⟨#[41]⟩ w h hc);rw[hR];clear hR hc;go_enter Tryz.func89,Tryz.ntmps89
   go_wp2_with fail
   refine(T.out _ (HP.out.later B0.out)).mono ?_;rintro e wt⟨rfl,hmt,hpt⟩;have MT:=qh (Mv.before HP.out B0.out hmt);have PT:=qh hpt;have RT:=qh (R0.out.mv hmt (by omega));clear hmt hpt
   go_wp2_with fail
   refine(D.out _ PT.out).mono ?_;rintro e w1⟨⟨a,cap,rfl,hn⟩,hm,hq⟩;have M1:=qh (Mv.trans HP.out MT.out PT.out.le hm);have N1:=qh (hn.from RT.out.lt);have R1:=qh (RT.out.mv hm (by omega));have Hq:=qh hq;have P1:=qh ((M1.out.ps HP.out Hq.out).later ((Below.refl _ w1).alloc (q5 _) (.cells #[.int .i64 k1,.string s1,.slice a l1.length cap] 25)));clear hm hn hq
   go_wp2_with fail
   refine(NN.out _ P1.out).mono ?_;rintro e w2⟨rfl,hb2⟩;have M2:=(M1.out.alloc (.cells #[.int .i64 k1,.string s1,.slice a l1.length cap] 25)).later (hb2.mono (by simp;have:=M1.out.size;omega));go_wp2;rw[<-HR.out];exact⟨rfl,rfl,M2,Hq.out⟩
theorem qim(E:PE)(q:Nat)(w:World)(h:PS E q w)(k:Int)(r:Sx.PR Nd)(C:∀ w0,PS E q w0->Calls Tryz.prog 42 #[.pointer (some ⟨E.pb,0,none⟩)] w0 (Gr E w0 r)) :
  Calls Tryz.prog 141 #[.pointer (some ⟨E.pb,0,none⟩),.int .i64 k] w (Gr E w (zu E [41] r)):=by
 have HP:=qh h;have hpl:=h.lt;have D:=qh C;have B0:=qh ((Below.refl w.heap.size w).alloc (q5 _) (.cells #[.int .i64 0,.string ⟨#[]⟩,.slice none 0 0] 25));have R0:=qh (Row3.new w (.int .i64 0) (.string ⟨#[]⟩) (.slice none 0 0));clear h C;obtain⟨R,hR⟩:∃ R,Gr E w (zu E [41] r)=R:=⟨_,rfl⟩
 cases r with
 |bad q' =>
  have HR:Hid (Gr E w (.bad q')=R):=qh hR;rw[hR];clear hR;go_enter Tryz.func141,Tryz.ntmps141;obtain⟨wt,hwt⟩:∃ wt,w.alloc (.cells #[.int .i64 0,.string ⟨#[]⟩,.slice none 0 0] 25)=wt:=⟨_,rfl⟩;have MT:=qh (Mv.below HP.out B0.out);have PT:=qh (HP.out.later B0.out);have RT:=R0;rw[hwt]at MT PT RT
  go_wp2_with fail
  (try rw[hwt])
  refine(D.out _ PT.out).mono ?_;rintro e w1⟨rfl,hm,hq⟩;have M1:=Mv.trans HP.out MT.out PT.out.le hm;go_wp2;rw[<-HR.out];exact⟨rfl,rfl,M1,hq⟩
 |ok t q1 =>
  obtain⟨k1,s1,l1⟩:=t
  by_cases hc:Sx.txt E.ts q1=[41]
  ·have HR:Hid (Gr E w (.ok (.mk k1 s1 l1) (q1+1))=R):=qh (by rw[<-hR];simp only[zu];rw[qa hc])
   have NY:=qh (fun w h=>ka E q1 ⟨#[41]⟩ w h hc (by decide));have hlt:=Sx.txt_at hc;rw[hR];clear hR hc;go_enter Tryz.func141,Tryz.ntmps141;obtain⟨wt,hwt⟩:∃ wt,w.alloc (.cells #[.int .i64 0,.string ⟨#[]⟩,.slice none 0 0] 25)=wt:=⟨_,rfl⟩;have MT:=qh (Mv.below HP.out B0.out);have PT:=qh (HP.out.later B0.out);have RT:=R0;rw[hwt]at MT PT RT
   go_wp2_with fail
   (try rw[hwt])
   refine(D.out _ PT.out).mono ?_;rintro e w1⟨⟨a,cap,rfl,hn⟩,hm,hq⟩;have M1:=qh (Mv.trans HP.out MT.out PT.out.le hm);have N1:=qh (hn.from RT.out.lt);have R1:=qh (RT.out.mv hm (by omega));have Hq:=qh hq;have P1:=qh ((M1.out.ps HP.out Hq.out).later ((Below.refl _ w1).alloc (q5 _) (.cells #[.int .i64 k1,.string s1,.slice a l1.length cap] 25)));clear hm hn hq
   go_wp2_with fail
   refine(NY.out _ P1.out).mono ?_;rintro e w2⟨rfl,hm2,hp2⟩;have M2:=qh (Mv.trans HP.out (M1.out.alloc (.cells #[.int .i64 k1,.string s1,.slice a l1.length cap] 25)) Hq.out hm2);have R2:=qh ((R1.out.alloc (.cells #[.int .i64 k1,.string s1,.slice a l1.length cap] 25)).mv hm2 (by omega));have L2:=qh ((Row3.new w1 (.int .i64 k1) (.string s1) (.slice a l1.length cap)).mv hm2 (by have:=M1.out.size;omega));have K2:=qh (((Kp.refl (w.heap.size+1) w1).alloc (.cells #[.int .i64 k1,.string s1,.slice a l1.length cap] 25)).mv hm2 (by omega));obtain⟨⟨n0,n1,n2⟩,g0,g1,g2⟩:=R2.out.cells;obtain⟨⟨m0,m1,m2⟩,_⟩:=L2.out.cells;have ll:=L2.out.lt;have lr:=R2.out.lt;have l1w:=R1.out.lt;clear hm2 hp2;go_wp2;refine zg (R2.out.put _ _ _) Tryz.results141 rfl rfl ?_;rw[<-HR.out];exact⟨⟨a,cap,rfl,N1.out.fin (Nat.le_succ _) (K2.out.put3 (b:=w.heap.size) _ _ _ (by omega))⟩,M2.out.put3 (q5 _) _ _ _,hlt⟩
  ·have HR:Hid (Gr E w (.bad q1)=R):=qh (by rw[<-hR];simp only[zu];rw[q7 hc])
   have NN:=qh (fun w h=>q0e E q1 ⟨#[41]⟩ w h hc);rw[hR];clear hR hc;go_enter Tryz.func141,Tryz.ntmps141;obtain⟨wt,hwt⟩:∃ wt,w.alloc (.cells #[.int .i64 0,.string ⟨#[]⟩,.slice none 0 0] 25)=wt:=⟨_,rfl⟩;have MT:=qh (Mv.below HP.out B0.out);have PT:=qh (HP.out.later B0.out);have RT:=R0;rw[hwt]at MT PT RT
   go_wp2_with fail
   (try rw[hwt])
   refine(D.out _ PT.out).mono ?_;rintro e w1⟨⟨a,cap,rfl,hn⟩,hm,hq⟩;have M1:=qh (Mv.trans HP.out MT.out PT.out.le hm);have N1:=qh (hn.from RT.out.lt);have R1:=qh (RT.out.mv hm (by omega));have Hq:=qh hq;have P1:=qh ((M1.out.ps HP.out Hq.out).later ((Below.refl _ w1).alloc (q5 _) (.cells #[.int .i64 k1,.string s1,.slice a l1.length cap] 25)));clear hm hn hq
   go_wp2_with fail
   refine(NN.out _ P1.out).mono ?_;rintro e w2⟨rfl,hb2⟩;have M2:=(M1.out.alloc (.cells #[.int .i64 k1,.string s1,.slice a l1.length cap] 25)).later (hb2.mono (by simp;have:=M1.out.size;omega));go_wp2;rw[<-HR.out];exact⟨rfl,rfl,M2,Hq.out⟩
attribute [local go_sem] jn jm jk
theorem qef(E:PE)(q:Nat)(w:World)(h:PS E q w)(ht:Sx.txt E.ts q≠[40]):Calls Tryz.prog 89 #[.pointer (some ⟨E.pb,0,none⟩)] w fun e w'=>e = .returned q9h/\Below w.heap.size w w':=by
 have T:=qh (fun w h=>we E q ⟨#[40]⟩ w h ht);have HP:=qh h;clear h ht;go_enter Tryz.func89,Tryz.ntmps89
 go_wp2_with fail
 refine(T.out _ (HP.out.later ((Below.refl _ w).alloc (q5 _) _))).mono ?_;rintro e w1⟨rfl,hb⟩;have HB:=qh (((Below.refl _ w).alloc (q5 _) (.cells #[.int .i64 0,.string ⟨#[]⟩,.slice none 0 0] 25)).trans (hb.mono (by simp)));have hr:=(Row3.new w (.int .i64 0) (.string ⟨#[]⟩) (.slice none 0 0)).below hb (by simp);obtain⟨⟨n0,n1,n2⟩,g0,g1,g2⟩:=hr.cells;have HRo:=qh hr;clear hb T hr;go_wp2;exact q2g (HRo.out.put _ _ _) Tryz.results89 rfl rfl rfl ⟨rfl,y4 HB.out (q5 _) _ _ _⟩
theorem q4j(E:PE)(q:Nat)(w:World)(h:PS E q w):Calls Tryz.prog 187 #[.pointer (some ⟨E.pb,0,none⟩)] w (Gr E w (Sx.small E.ts q)):=by
 unfold Sx.small
 by_cases hk:Sx.knd E.ts q=1
 ·rw[qa hk]
  refine(qb5 E q w h hk).mono ?_;rintro e w'⟨rfl,hm,hp⟩;exact⟨⟨none,0,rfl,.leaf _ _ _ _ (q1t E h.g q) _ _⟩,hm,hp.le⟩
 ·rw[q7 hk]
  refine(qmj E q w h hk).mono ?_;rintro e w'⟨rfl,hb⟩;exact⟨rfl,Mv.below h hb,h.le⟩
theorem qcu(E:PE)(q:Nat)(w:World)(h:PS E q w)(ht:Sx.txt E.ts q≠[40])(r:Sx.PR Nd)(C:∀ w0,PS E q w0->Calls Tryz.prog 187 #[.pointer (some ⟨E.pb,0,none⟩)] w0 (Gr E w0 r)) :
  Calls Tryz.prog 148 #[.pointer (some ⟨E.pb,0,none⟩)] w (Gr E w r):=by
 have HP:=qh h;have hpl:=h.lt;have D:=qh C;have B0:=qh ((Below.refl w.heap.size w).alloc (q5 _) (.cells #[.int .i64 0,.string ⟨#[]⟩,.slice none 0 0] 25));have R0:=qh (Row3.new w (.int .i64 0) (.string ⟨#[]⟩) (.slice none 0 0));have T1:=qh (fun w h=>we E q ⟨#[40]⟩ w h ht);clear h C ht;obtain⟨R,hR⟩:∃ R,Gr E w r=R:=⟨_,rfl⟩;have HR:=qh hR;rw[hR];clear hR
 cases r with
 |bad q' =>
  have MT:=qh (Mv.below HP.out B0.out);have PT:=qh (HP.out.later B0.out);have RT:=R0;go_enter Tryz.func148,Tryz.ntmps148
  go_wp2_with fail
  refine(T1.out _ PT.out).mono ?_;rintro e u1⟨rfl,hb⟩;have MT:=qh (MT.out.later (hb.mono MT.out.size));have PT:=qh (PT.out.later hb);have RT:=qh (RT.out.below hb RT.out.lt);clear hb
  go_wp2_with fail
  refine(D.out _ PT.out).mono ?_;rintro e w1⟨rfl,hm,hq⟩;have M1:=Mv.trans HP.out MT.out PT.out.le hm;go_wp2;rw[<-HR.out];exact⟨rfl,rfl,M1,hq⟩
 |ok t q1 =>
  obtain⟨k1,s1,l1⟩:=t;have MT:=qh (Mv.below HP.out B0.out);have PT:=qh (HP.out.later B0.out);have RT:=R0;go_enter Tryz.func148,Tryz.ntmps148
  go_wp2_with fail
  refine(T1.out _ PT.out).mono ?_;rintro e u1⟨rfl,hb⟩;have MT:=qh (MT.out.later (hb.mono MT.out.size));have PT:=qh (PT.out.later hb);have RT:=qh (RT.out.below hb RT.out.lt);clear hb
  go_wp2_with fail
  refine(D.out _ PT.out).mono ?_;rintro e w1⟨⟨a,cap,rfl,hn⟩,hm,hq⟩;have M1:=qh (Mv.trans HP.out MT.out PT.out.le hm);have N1:=qh (hn.from RT.out.lt);have R1:=qh (RT.out.mv hm (by omega));have Hq:=qh hq;obtain⟨⟨n0,n1,n2⟩,g0,g1,g2⟩:=R1.out.cells;have lr:=R1.out.lt;clear hm hn hq;go_wp2;refine zg (R1.out.put _ _ _) Tryz.results148 rfl rfl ?_;rw[<-HR.out];exact⟨⟨a,cap,rfl,N1.out.fin (Nat.le_succ _) ((Kp.refl (w.heap.size+1) w1).put3 (b:=w.heap.size) _ _ _ (by omega))⟩,M1.out.put3 (q5 _) _ _ _,Hq.out⟩
theorem qmg(E:PE)(q:Nat)(w:World)(h:PS E q w)(ht:Sx.txt E.ts q=[92])(r:Sx.PR Nd)(C:∀ w0,PS E (q+1) w0->Calls Tryz.prog 88 #[.pointer (some ⟨E.pb,0,none⟩),.int .i64 17,.func (.func 43) #[] #[]] w0 (Gr E w0 r)) :
  Calls Tryz.prog 43 #[.pointer (some ⟨E.pb,0,none⟩)] w (Gr E w r):=by
 have HP:=qh h;have hpl:=h.lt;have D:=qh C;have B0:=qh ((Below.refl w.heap.size w).alloc (q5 _) (.cells #[.int .i64 0,.string ⟨#[]⟩,.slice none 0 0] 25));have R0:=qh (Row3.new w (.int .i64 0) (.string ⟨#[]⟩) (.slice none 0 0));have T1:=qh (fun w h=>y6 E q ⟨#[92]⟩ w h ht (by decide));clear h C ht;obtain⟨R,hR⟩:∃ R,Gr E w r=R:=⟨_,rfl⟩;have HR:=qh hR;rw[hR];clear hR
 cases r with
 |bad q' =>
  have MT:=qh (Mv.below HP.out B0.out);have PT:=qh (HP.out.later B0.out);have RT:=R0;go_enter Tryz.func43,Tryz.ntmps43
  go_wp2_with fail
  refine(T1.out _ PT.out).mono ?_;rintro e u1⟨rfl,hm,hp⟩;have MT:=qh (Mv.trans HP.out MT.out PT.out.le hm);have RT:=qh (RT.out.mv hm (by omega));have PT:=qh hp;clear hm hp
  go_wp2_with fail
  refine(D.out _ PT.out).mono ?_;rintro e w1⟨rfl,hm,hq⟩;have M1:=Mv.trans HP.out MT.out PT.out.le hm;go_wp2;rw[<-HR.out];exact⟨rfl,rfl,M1,hq⟩
 |ok t q1 =>
  obtain⟨k1,s1,l1⟩:=t;have MT:=qh (Mv.below HP.out B0.out);have PT:=qh (HP.out.later B0.out);have RT:=R0;go_enter Tryz.func43,Tryz.ntmps43
  go_wp2_with fail
  refine(T1.out _ PT.out).mono ?_;rintro e u1⟨rfl,hm,hp⟩;have MT:=qh (Mv.trans HP.out MT.out PT.out.le hm);have RT:=qh (RT.out.mv hm (by omega));have PT:=qh hp;clear hm hp
  go_wp2_with fail
  refine(D.out _ PT.out).mono ?_;rintro e w1⟨⟨a,cap,rfl,hn⟩,hm,hq⟩;have M1:=qh (Mv.trans HP.out MT.out PT.out.le hm);have N1:=qh (hn.from RT.out.lt);have R1:=qh (RT.out.mv hm (by omega));have Hq:=qh hq;obtain⟨⟨n0,n1,n2⟩,g0,g1,g2⟩:=R1.out.cells;have lr:=R1.out.lt;clear hm hn hq;go_wp2;refine zg (R1.out.put _ _ _) Tryz.results43 rfl rfl ?_;rw[<-HR.out];exact⟨⟨a,cap,rfl,N1.out.fin (Nat.le_succ _) ((Kp.refl (w.heap.size+1) w1).put3 (b:=w.heap.size) _ _ _ (by omega))⟩,M1.out.put3 (q5 _) _ _ _,Hq.out⟩
theorem qh2(E:PE)(q:Nat)(w:World)(h:PS E q w)(ht:Sx.txt E.ts q≠[92])(r:Sx.PR Nd)(C:∀ w0,PS E q w0->Calls Tryz.prog 89 #[.pointer (some ⟨E.pb,0,none⟩)] w0 (Gr2 E w0 r)) :
  Calls Tryz.prog 43 #[.pointer (some ⟨E.pb,0,none⟩)] w (Gr E w r):=by
 have HP:=qh h;have hpl:=h.lt;have D:=qh C;have B0:=qh ((Below.refl w.heap.size w).alloc (q5 _) (.cells #[.int .i64 0,.string ⟨#[]⟩,.slice none 0 0] 25));have R0:=qh (Row3.new w (.int .i64 0) (.string ⟨#[]⟩) (.slice none 0 0));have T1:=qh (fun w h=>we E q ⟨#[92]⟩ w h ht);clear h C ht;obtain⟨R,hR⟩:∃ R,Gr E w r=R:=⟨_,rfl⟩;have HR:=qh hR;rw[hR];clear hR
 cases r with
 |bad q' =>
  have MT:=qh (Mv.below HP.out B0.out);have PT:=qh (HP.out.later B0.out);have RT:=R0;go_enter Tryz.func43,Tryz.ntmps43
  go_wp2_with fail
  refine(T1.out _ PT.out).mono ?_;rintro e u1⟨rfl,hb⟩;have MT:=qh (MT.out.later (hb.mono MT.out.size));have PT:=qh (PT.out.later hb);have RT:=qh (RT.out.below hb RT.out.lt);clear hb
  go_wp2_with fail
  refine(D.out _ PT.out).mono ?_;rintro e w1⟨rfl,hm,hq⟩;have M1:=Mv.trans HP.out MT.out PT.out.le hm;go_wp2;rw[<-HR.out];exact⟨rfl,rfl,M1,hq⟩
 |ok t q1 =>
  obtain⟨k1,s1,l1⟩:=t;have MT:=qh (Mv.below HP.out B0.out);have PT:=qh (HP.out.later B0.out);have RT:=R0;go_enter Tryz.func43,Tryz.ntmps43
  go_wp2_with fail
  refine(T1.out _ PT.out).mono ?_;rintro e u1⟨rfl,hb⟩;have MT:=qh (MT.out.later (hb.mono MT.out.size));have PT:=qh (PT.out.later hb);have RT:=qh (RT.out.below hb RT.out.lt);clear hb
  go_wp2_with fail
  refine(D.out _ PT.out).mono ?_;rintro e w1⟨⟨a,cap,rfl,hn⟩,hm,hq⟩;have M1:=qh (Mv.trans HP.out MT.out PT.out.le hm);have N1:=qh (hn.from RT.out.lt);have R1:=qh (RT.out.mv hm (by omega));have Hq:=qh hq;obtain⟨⟨n0,n1,n2⟩,g0,g1,g2⟩:=R1.out.cells;have lr:=R1.out.lt;clear hm hn hq;go_wp2;refine zg ((R1.out.put _ _ _).alloc _) Tryz.results43 rfl rfl ?_;rw[<-HR.out];exact⟨⟨a,cap,rfl,N1.out.fin (Nat.le_succ _) (((Kp.refl (w.heap.size+1) w1).put3 (b:=w.heap.size) _ _ _ (by omega)).alloc _)⟩,(M1.out.put3 (q5 _) _ _ _).alloc _,Hq.out⟩
theorem qmh(E:PE)(q:Nat)(w:World)(h:PS E q w)(ht:Sx.txt E.ts q≠[92])(hu:Sx.txt E.ts q≠[40])(r:Sx.PR Nd)(C:∀ w0,PS E q w0->Calls Tryz.prog 90 #[.pointer (some ⟨E.pb,0,none⟩)] w0 (Gr E w0 r)) :
  Calls Tryz.prog 43 #[.pointer (some ⟨E.pb,0,none⟩)] w (Gr E w r):=by
 have HP:=qh h;have hpl:=h.lt;have D:=qh C;have B0:=qh ((Below.refl w.heap.size w).alloc (q5 _) (.cells #[.int .i64 0,.string ⟨#[]⟩,.slice none 0 0] 25));have R0:=qh (Row3.new w (.int .i64 0) (.string ⟨#[]⟩) (.slice none 0 0));have T1:=qh (fun w h=>we E q ⟨#[92]⟩ w h ht);have T2:=qh (fun w h=>qef E q w h hu);unfold q9h at T2;clear h C ht hu;obtain⟨R,hR⟩:∃ R,Gr E w r=R:=⟨_,rfl⟩;have HR:=qh hR;rw[hR];clear hR
 cases r with
 |bad q' =>
  have MT:=qh (Mv.below HP.out B0.out);have PT:=qh (HP.out.later B0.out);have RT:=R0;go_enter Tryz.func43,Tryz.ntmps43
  go_wp2_with fail
  refine(T1.out _ PT.out).mono ?_;rintro e u1⟨rfl,hb⟩;have MT:=qh (MT.out.later (hb.mono MT.out.size));have PT:=qh (PT.out.later hb);have RT:=qh (RT.out.below hb RT.out.lt);clear hb
  go_wp2_with fail
  refine(T2.out _ PT.out).mono ?_;rintro e u2⟨rfl,hb⟩;have MT:=qh ((MT.out.later (hb.mono MT.out.size)).alloc (.cells #[.int .i64 0,.string ⟨#[]⟩,.slice none 0 0] 25));have PT:=qh ((PT.out.later hb).later ((Below.refl _ u2).alloc (q5 _) (.cells #[.int .i64 0,.string ⟨#[]⟩,.slice none 0 0] 25)));have RT:=qh ((RT.out.below hb RT.out.lt).alloc (.cells #[.int .i64 0,.string ⟨#[]⟩,.slice none 0 0] 25));clear hb
  go_wp2_with fail
  refine(D.out _ PT.out).mono ?_;rintro e w1⟨rfl,hm,hq⟩;have M1:=Mv.trans HP.out MT.out PT.out.le hm;go_wp2;rw[<-HR.out];exact⟨rfl,rfl,M1,hq⟩
 |ok t q1 =>
  obtain⟨k1,s1,l1⟩:=t;have MT:=qh (Mv.below HP.out B0.out);have PT:=qh (HP.out.later B0.out);have RT:=R0;go_enter Tryz.func43,Tryz.ntmps43
  go_wp2_with fail
  refine(T1.out _ PT.out).mono ?_;rintro e u1⟨rfl,hb⟩;have MT:=qh (MT.out.later (hb.mono MT.out.size));have PT:=qh (PT.out.later hb);have RT:=qh (RT.out.below hb RT.out.lt);clear hb
  go_wp2_with fail
  refine(T2.out _ PT.out).mono ?_;rintro e u2⟨rfl,hb⟩;have MT:=qh ((MT.out.later (hb.mono MT.out.size)).alloc (.cells #[.int .i64 0,.string ⟨#[]⟩,.slice none 0 0] 25));have PT:=qh ((PT.out.later hb).later ((Below.refl _ u2).alloc (q5 _) (.cells #[.int .i64 0,.string ⟨#[]⟩,.slice none 0 0] 25)));have RT:=qh ((RT.out.below hb RT.out.lt).alloc (.cells #[.int .i64 0,.string ⟨#[]⟩,.slice none 0 0] 25));clear hb
  go_wp2_with fail
  refine(D.out _ PT.out).mono ?_;rintro e w1⟨⟨a,cap,rfl,hn⟩,hm,hq⟩;have M1:=qh (Mv.trans HP.out MT.out PT.out.le hm);have N1:=qh (hn.from RT.out.lt);have R1:=qh (RT.out.mv hm (by omega));have Hq:=qh hq;obtain⟨⟨n0,n1,n2⟩,g0,g1,g2⟩:=R1.out.cells;have lr:=R1.out.lt;clear hm hn hq;go_wp2;refine zg (R1.out.put _ _ _) Tryz.results43 rfl rfl ?_;rw[<-HR.out];exact⟨⟨a,cap,rfl,N1.out.fin (Nat.le_succ _) ((Kp.refl (w.heap.size+1) w1).put3 (b:=w.heap.size) _ _ _ (by omega))⟩,M1.out.put3 (q5 _) _ _ _,Hq.out⟩
theorem qij(E:PE)(f q:Nat):q2o E 6 (Sx.simple E.ts f q) (Sx.typed E.ts f)=Sx.typed E.ts (f+1) q:=by
 simp only[q2o,Sx.typed]
 cases Sx.simple E.ts f q with
 |bad q'=>rfl
 |ok a q' =>
  simp only[qdk]
  by_cases h:Sx.txt E.ts q'=[45,62]
  ·rw[qa h,qa h]
   all_goals (cases Sx.typed E.ts f (q'+1) <;> rfl)
  ·rw[q7 h,q7 h]
theorem q63(E:PE):∀ f,
  (∀ q w,PS E q w->16*(E.ts.length - q)+2<=f->Calls Tryz.prog 85 #[.pointer (some ⟨E.pb,0,none⟩),.int .i64 6] w (Gr E w (Sx.typed E.ts f q))) /\
  (∀ q w,PS E q w->16*(E.ts.length - q)+1<=f->Calls Tryz.prog 148 #[.pointer (some ⟨E.pb,0,none⟩)] w (Gr E w (Sx.simple E.ts f q)))
 |0=>⟨fun q w _ h=>by omega,fun q w _ h=>by omega⟩
 |f+1=>by
  obtain⟨ih1,ih2⟩:=q63 E f;refine⟨fun q w h hf=>?_,fun q w h hf=>?_⟩
  ·rw[<-qij]
   refine q9o E q 6 w h (by decide) (by decide) _ _ (fun w0 h0=>?_) (fun q1 a e hq w0 h0=>?_)
   ·exact qr1 E q w0 h0 _ fun w1 h1=>ih2 q w1 h1 (by omega)
   ·have:=((Sx.typed_goes E.ts f).2 q) a q1 e
    exact ih1 (q1+1) w0 h0 (by omega)
  ·by_cases ht:Sx.txt E.ts q=[40]
   ·have hq:=Sx.txt_at ht
    have e:Sx.simple E.ts (f+1) q=zu E [41] (Sx.typed E.ts f (q+1)):=by
     simp only[Sx.simple,zu];rw[qa ht]
     all_goals (cases Sx.typed E.ts f (q+1) <;> rfl)
    rw[e];exact qcv E q w h ht _ fun w0 h0=>q8x E (q+1) w0 h0 _ fun w1 h1=>ih1 (q+1) w1 h1 (by omega)
   ·have e:Sx.simple E.ts (f+1) q=Sx.small E.ts q:=by
     simp only[Sx.simple];rw[q7 ht]
    rw[e];exact qcu E q w h ht _ fun w0 h0=>q4j E q w0 h0
theorem q2c(E:PE)(f q:Nat)(w:World)(h:PS E q w)(hf:16*(E.ts.length - q)+2<=f):Calls Tryz.prog 44 #[.pointer (some ⟨E.pb,0,none⟩)] w (Gr E w (Sx.typed E.ts f q)) :=
 q8x E q w h _ fun w1 h1=>(q63 E f).1 q w1 h1 hf
theorem q4k(E:PE)(f q:Nat)(w:World)(h:PS E q w)(hf:16*(E.ts.length - q)+1<=f):Calls Tryz.prog 148 #[.pointer (some ⟨E.pb,0,none⟩)] w (Gr E w (Sx.simple E.ts f q)) :=
 (q63 E f).2 q w h hf
section
variable {ops:Array Oper} {rest:List Oper} {o:Oper} {a:Act} {Q:Exit->Act->World->Prop} {w:World}
theorem xw{K:Act->World->Prop}{Ex:Prop}(hgd:o.guard=none)(s x:Operand)
  (ho:o.op = .call { callee:=.builtin .append,args:=#[s,x],argTypes:=#[23,23] })
  (h:Nat) (v:Value) (l:List Nd) (hs:a.eval s=v) (hk:Kids h w v l) (ad:Addr) (c:Nat) (hx:a.eval x = .slice (some ad) 1 c) (t:Nd) (v0 v1 v2:Value)
  (hnews:∀ j u,[v0,v1,v2][j]?=some u->w.cell? (ad.add j)=some u) (hn:NdS (fun b=>h<=b/\v.ownBlock≠some b) w t v0 v1 v2) (hlen:l.length<=1000000) (hbase:h<=w.heap.size) (H:Nat) (hH:w.heap.size=H)
  (hK:∀ g cap w',Kids h w' (.slice (some ⟨g,0,none⟩) (l.length+1) cap) (l++[t])->w.grownBy w' v.ownBlock->(v.ownBlock=some g\/g=H)->g < w'.heap.size->K (a.put o.dst (.slice (some ⟨g,0,none⟩) (l.length+1) cap)) w') :
  if Region.wanted o (yielded ops a.tmps)=true then Oper.wp Tryz.prog o a w K Q else Ex:=by
 obtain⟨i0,hi0,hz0,hz1,hz2⟩:=info_parts q8h;obtain⟨xs,h1,h2⟩:=hk;refine step_append_lies w hgd s x 23 ho h 25 i0 _ 3 48 Tryz.underlying23 hi0 hz0 hz1 hz2 rfl (by decide) v l.length xs hs h1 ad 1 c [v0,v1,v2] hx rfl hnews hn.ones (by decide) (by unfold maxLen;omega) (by omega) hbase H hH ?_;intro g cap w' h3 h4 h5 h6;exact hK g cap w' (Kids.snoc h1 h2 hn h3 h4 (by rw[hH];exact h5)) h4 h5 h6
end
theorem q0g(E:PE)(q:Nat)(w:World)(h:PS E q w)(k:Int)(s:ByteArray)(l:List Nd)(q1:Nat)(hn:Sx.nameA E.ts q = .ok (.mk k s l) q1):Calls Tryz.prog 149 #[.pointer (some ⟨E.pb,0,none⟩)] w fun e w'=>e = .returned (.tuple #[.agg #[.int .i64 k,.string s,.slice none 0 0],.bool true])/\Mv E q1 w w'/\PS E q1 w':=by
 unfold Sx.nameA at hn
 split at hn
 ·rename_i hk
  cases hn;exact qdn E q w h hk
 ·split at hn
  ·rename_i hk
   cases hn;exact qn5 E q w h hk
  ·cases hn
theorem vk(E:PE){w:World}(hg:PG E w){q:Nat}{k:Int}{s:ByteArray}{l:List Nd}{q1:Nat}(hn:Sx.nameA E.ts q = .ok (.mk k s l) q1):s.size<=maxLen/\l=[]:=by
 unfold Sx.nameA at hn
 split at hn
 ·cases hn
  exact⟨q1t E hg q,rfl⟩
 ·split at hn
  ·cases hn
   exact⟨q1t E hg q,rfl⟩
  ·cases hn
theorem name_bad(E:PE)(q:Nat)(w:World)(h:PS E q w)(q1:Nat)(hn:Sx.nameA E.ts q = .bad q1):q1=q/\Calls Tryz.prog 149 #[.pointer (some ⟨E.pb,0,none⟩)] w fun e w'=>e = .returned (.tuple #[.agg #[.int .i64 0,.string ⟨#[]⟩,.slice none 0 0],.bool false])/\Below w.heap.size w w':=by
 unfold Sx.nameA at hn
 split at hn
 ·cases hn
 ·rename_i h1
  split at hn
  ·cases hn
  ·rename_i h2
   cases hn;exact⟨rfl,qoz E q w h h1 h2⟩
theorem Row3.grown{W W':World}{b:Nat}{v0 v1 v2:Value}{row:Option Nat}(h:Row3 W b v0 v1 v2)(hg:W.grownBy W' row)(hne:some b≠row):Row3 W' b v0 v1 v2:=(hg.block b h.lt hne).trans h
theorem qfn(E:PE)(q:Nat)(w:World)(h:PS E q w)(k:Int)(g:Nat)(q1:Nat)(hn:Sx.nameA E.ts q = .bad q1) :
  Calls Tryz.prog 88 #[.pointer (some ⟨E.pb,0,none⟩),.int .i64 k,.func (.func g) #[] #[]] w fun e w'=>e = .panicked [{ v:=xz E q,recovered:=false }]/\Below w.heap.size w w':=by
 have HP:=qh h;have T1:=qh (fun w h=>(name_bad E q w h q1 hn).2);have T2:=qh (fun w h=>q0a E q w h);have B0:=qh ((Below.refl w.heap.size w).alloc (q5 _) (.cells #[.int .i64 0,.string ⟨#[]⟩,.slice none 0 0] 25));clear h hn;go_enter Tryz.func88,Tryz.ntmps88
 go_wp2_with fail
 refine(T1.out _ (HP.out.later B0.out)).mono ?_;rintro e u1⟨rfl,hb⟩;have B1:=qh ((B0.out.trans (hb.mono B0.out.size)).alloc (by have:=B0.out.size;have:=hb.size;omega) (.cells #[.int .i64 0,.string ⟨#[]⟩,.slice none 0 0] 25));clear hb
 go_wp2_with fail
 refine(T2.out _ (HP.out.later B1.out)).mono ?_;rintro e u2⟨rfl,hb⟩;go_wp2;exact⟨rfl,rfl,B1.out.trans (hb.mono B1.out.size)⟩
theorem qfm(E:PE)(q:Nat)(w:World)(h:PS E q w)(k:Int)(g:Nat)(_eg:∀ args w,(callFunc g args).run Tryz.prog w = .ok (.enter g args) w)(nk:Int)(s:ByteArray)(q1:Nat)(hn:Sx.nameA E.ts q = .ok (.mk nk s []) q1)(ht:Sx.txt E.ts q1=[58])(qb:Nat)(CT:∀ w0,PS E (q1+1) w0->Calls Tryz.prog 44 #[.pointer (some ⟨E.pb,0,none⟩)] w0 (Gr E w0 (.bad qb))) :
  Calls Tryz.prog 88 #[.pointer (some ⟨E.pb,0,none⟩),.int .i64 k,.func (.func g) #[] #[]] w (Gr E w (.bad qb)):=by
 have HP:=qh h;have hpl:=h.lt;have hsz:=(vk E h.g hn).1;have T1:=qh (fun w h=>q0g E q w h nk s [] q1 hn);have B0:=qh ((Below.refl w.heap.size w).alloc (q5 _) (.cells #[.int .i64 0,.string ⟨#[]⟩,.slice none 0 0] 25));have R0:=qh (Row3.new w (.int .i64 0) (.string ⟨#[]⟩) (.slice none 0 0));have T2:=qh (fun w h=>y6 E q1 ⟨#[58]⟩ w h ht (by decide));have D:=qh CT;have HS:=qh hsz;clear h hn hsz ht CT;obtain⟨R,hR⟩:∃ R,Gr E w (.bad qb)=R:=⟨_,rfl⟩;have HR:=qh hR;rw[hR];clear hR;go_enter Tryz.func88,Tryz.ntmps88
 go_wp2_with fail
 refine(T1.out _ (HP.out.later B0.out)).mono ?_;rintro e u1⟨rfl,hm,hp⟩;have M:=qh (((Mv.before HP.out B0.out hm).alloc (.cells #[.int .i64 nk,.string s,.slice none 0 0] 25)).alloc (.cells #[.int .i64 k,.string s,.slice none 0 0] 25));have P:=qh (hp.later (((Below.refl _ u1).alloc (q5 _) (.cells #[.int .i64 nk,.string s,.slice none 0 0] 25)).alloc (by simp) (.cells #[.int .i64 k,.string s,.slice none 0 0] 25)));have Rw:=qh (((R0.out.mv hm (by omega)).alloc (.cells #[.int .i64 nk,.string s,.slice none 0 0] 25)).alloc (.cells #[.int .i64 k,.string s,.slice none 0 0] 25));have Nw:=qh (Row3.newAt (W:=u1.alloc (.cells #[.int .i64 nk,.string s,.slice none 0 0] 25)) (n:=u1.heap.size+1) (v0:=.int .i64 k) (v1:=.string s) (v2:=.slice none 0 0) (by simp));have hwu:w.heap.size < u1.heap.size:=(R0.out.mv hm (by omega)).lt;have hz:u1.heap.size+1+1<=((u1.alloc (.cells #[.int .i64 nk,.string s,.slice none 0 0] 25)).alloc (.cells #[.int .i64 k,.string s,.slice none 0 0] 25)).heap.size:=by simp
 have Hz:=qh hz;clear hm hp hz
 go_wp2_with fail
 refine(T2.out _ P.out).mono ?_;rintro e u2⟨rfl,hm,hp⟩;have hz2:u1.heap.size+1+1<=u2.heap.size:=ql Hz.out hm.size;have M2:=qh (Mv.trans HP.out M.out P.out.le hm);have P2:=qh hp;have R2:=qh (Rw.out.mv hm (by omega));have N2:=qh (Nw.out.mv hm (by omega));obtain⟨⟨m0,m1,m2⟩,f0,f1,f2⟩:=N2.out.cells;have ln:=N2.out.lt;clear hm hp
 have F:Hid (∀ w5,Mv E qb u2.drew w5->qb<=E.ts.length->R (.panicked [{ v:=xz E qb,recovered:=false }]) w5):=qh fun w5 hm5 hq5=>by
  rw[<-HR.out];exact⟨rfl,Mv.trans HP.out (M2.out.later (below_drewN (Below.refl _ _) 1)) P2.out.le hm5,hq5⟩
 go_wp2_with fail
 go_region_dies
 all_goals refine(D.out _ (P2.out.later (Below.refl _ _).drew)).mono ?_
 all_goals rintro e w5 ⟨rfl,hm5,hq5⟩
 all_goals exact⟨rfl,F.out w5 hm5 hq5⟩
theorem qj0(E:PE)(q:Nat)(w:World)(h:PS E q w)(k:Int)(g:Nat)(_eg:∀ args w,(callFunc g args).run Tryz.prog w = .ok (.enter g args) w)(nk:Int)(s:ByteArray)(q1:Nat)(hn:Sx.nameA E.ts q = .ok (.mk nk s []) q1)(ht:Sx.txt E.ts q1=[58])(k1:Int)(s1:ByteArray)(l1:List Nd)(r:Nat)(CT:∀ w0,PS E (q1+1) w0->Calls Tryz.prog 44 #[.pointer (some ⟨E.pb,0,none⟩)] w0 (Gr E w0 (.ok (.mk k1 s1 l1) r)))(hd:Sx.txt E.ts r≠[46]) :
  Calls Tryz.prog 88 #[.pointer (some ⟨E.pb,0,none⟩),.int .i64 k,.func (.func g) #[] #[]] w (Gr E w (.bad r)):=by
 have HP:=qh h;have hpl:=h.lt;have hsz:=(vk E h.g hn).1;have T1:=qh (fun w h=>q0g E q w h nk s [] q1 hn);have B0:=qh ((Below.refl w.heap.size w).alloc (q5 _) (.cells #[.int .i64 0,.string ⟨#[]⟩,.slice none 0 0] 25));have R0:=qh (Row3.new w (.int .i64 0) (.string ⟨#[]⟩) (.slice none 0 0));have T2:=qh (fun w h=>y6 E q1 ⟨#[58]⟩ w h ht (by decide));have D:=qh CT;have T3:=qh (fun w h=>q0e E r ⟨#[46]⟩ w h hd);have HS:=qh hsz;clear h hn hsz ht CT hd;obtain⟨R,hR⟩:∃ R,Gr E w (.bad r)=R:=⟨_,rfl⟩;have HR:=qh hR;rw[hR];clear hR;go_enter Tryz.func88,Tryz.ntmps88
 go_wp2_with fail
 refine(T1.out _ (HP.out.later B0.out)).mono ?_;rintro e u1⟨rfl,hm,hp⟩;have M:=qh (((Mv.before HP.out B0.out hm).alloc (.cells #[.int .i64 nk,.string s,.slice none 0 0] 25)).alloc (.cells #[.int .i64 k,.string s,.slice none 0 0] 25));have P:=qh (hp.later (((Below.refl _ u1).alloc (q5 _) (.cells #[.int .i64 nk,.string s,.slice none 0 0] 25)).alloc (by simp) (.cells #[.int .i64 k,.string s,.slice none 0 0] 25)));have Rw:=qh (((R0.out.mv hm (by omega)).alloc (.cells #[.int .i64 nk,.string s,.slice none 0 0] 25)).alloc (.cells #[.int .i64 k,.string s,.slice none 0 0] 25));have Nw:=qh (Row3.newAt (W:=u1.alloc (.cells #[.int .i64 nk,.string s,.slice none 0 0] 25)) (n:=u1.heap.size+1) (v0:=.int .i64 k) (v1:=.string s) (v2:=.slice none 0 0) (by simp));have hwu:w.heap.size < u1.heap.size:=(R0.out.mv hm (by omega)).lt;have hz:u1.heap.size+1+1<=((u1.alloc (.cells #[.int .i64 nk,.string s,.slice none 0 0] 25)).alloc (.cells #[.int .i64 k,.string s,.slice none 0 0] 25)).heap.size:=by simp
 have Hz:=qh hz;clear hm hp hz
 go_wp2_with fail
 refine(T2.out _ P.out).mono ?_;rintro e u2⟨rfl,hm,hp⟩;have hz2:u1.heap.size+1+1<=u2.heap.size:=ql Hz.out hm.size;have M2:=qh (Mv.trans HP.out M.out P.out.le hm);have P2:=qh hp;have R2:=qh (Rw.out.mv hm (by omega));have N2:=qh (Nw.out.mv hm (by omega));obtain⟨⟨m0,m1,m2⟩,f0,f1,f2⟩:=N2.out.cells;have ln:=N2.out.lt;clear hm hp
 go_wp2_with fail
 go_region_law (first
  |(go_simp;go_at_call 44;refine(D.out _ (P2.out.later (Below.refl _ _).drew)).mono ?_;rintro e w5 ⟨⟨a,cap,rfl,hn5⟩,hm5,hq5⟩;have hm5':=Mv.before P2.out (Below.refl _ _).drew hm5;have N5:=qh (N2.out.mv hm5' (by omega));have R5:=qh (R2.out.mv hm5' (by omega));have hz5:u1.heap.size+1+1<=w5.heap.size:=ql hz2 hm5'.size;obtain⟨⟨c0,c1,c2⟩,y0,y1,y2⟩:=N5.out.cells;have l5:=N5.out.lt)
  |(refine xw rfl _ _ rfl (u1.heap.size+1+1) (.slice none 0 0) [] rfl (Kids.nil _ _) ⟨w5.heap.size,0,none⟩ 1 (by rfl) (.mk k1 s1 l1) (.int .i64 k1) (.string s1) (.slice a l1.length cap) (vz w5 _ _ _ _ _ rfl) (hn5.keep (fun b hb1 hb2=>⟨Below.heap_alloc _ _ _ hb2,ql hz2 hb1,fun e=>by cases e⟩)) (by simp) (by simp;omega) _ rfl ?_;intro g6 cap6 w6 K6 G6 _ hg6;have N6:=qh ((N5.out.alloc _).grown G6 (by simp[Value.ownBlock]));have R6:=qh ((R5.out.alloc _).grown G6 (by simp[Value.ownBlock]));obtain⟨⟨d0,d1,d2⟩,z0,z1,z2⟩:=N6.out.cells))
 all_goals
  have hz6:u1.heap.size+1+1<=w6.heap.size:=by have:=G6.size;simp at this;omega
  have M6:=Mv.later (Mv.trans HP.out M2.out P2.out.le hm5') ((((Below.refl w.heap.size w5).alloc (by omega) (.cells #[.int .i64 k1,.string s1,.slice a l1.length cap] 25)).grown G6 (by simp;omega) (by intro b hb;simp[Value.ownBlock]at hb)));obtain⟨W,hW⟩:∃ W,w6.setCell ⟨u1.heap.size+1,2,none⟩ (.slice (some ⟨g6,0,none⟩) 1 cap6)=W:=⟨_,rfl⟩;have M3:=qh (show Mv E r w W by rw[<-hW];exact M6.later ((Below.refl w.heap.size w6).setCell (p:=⟨u1.heap.size+1,2,none⟩) (by simp only;omega) _));have N3:=qh (show Row3 W (u1.heap.size+1) (.int .i64 k) (.string s) (.slice (some ⟨g6,0,none⟩) 1 cap6)by rw[<-hW];exact N6.out.put2 _);have R3:=qh (show Row3 W w.heap.size (.int .i64 0) (.string ⟨#[]⟩) (.slice none 0 0)by rw[<-hW];exact R6.out.other _ (by simp only;omega));have K3:=qh (show Kids (u1.heap.size+1+1) W (.slice (some ⟨g6,0,none⟩) 1 cap6) [.mk k1 s1 l1] by rw[<-hW];exact K6.keep fun b hb1 _=>Below.heap_setCell _ _ _ _ (by simp only;omega));have P3:=qh (M3.out.ps HP.out hq5);have hz3:u1.heap.size+1+1<=W.heap.size:=by rw[<-hW,qq];exact hz6
  rw[hW];clear hW hn5 hm5 hm5' hq5 N5 R5 N6 R6 K6 G6 M6 c0 c1 c2 y0 y1 y2 l5 d0 d1 d2 z0 z1 z2 m0 m1 m2 f0 f1 f2 ln hg6 M2 P2 R2 N2
  go_wp2_with fail
  refine(T3.out _ P3.out).mono ?_;rintro e u4⟨rfl,hb⟩;have M4:=M3.out.later (hb.mono M3.out.size);go_wp2;rw[<-HR.out];exact⟨rfl,rfl,M4,P3.out.le⟩
theorem qj1(E:PE)(q:Nat)(w:World)(h:PS E q w)(k:Int)(g:Nat)(eg:∀ args w,(callFunc g args).run Tryz.prog w = .ok (.enter g args) w)(nk:Int)(s:ByteArray)(q1:Nat)(hn:Sx.nameA E.ts q = .ok (.mk nk s []) q1)(ht:Sx.txt E.ts q1=[58])(k1:Int)(s1:ByteArray)(l1:List Nd)(r:Nat)(CT:∀ w0,PS E (q1+1) w0->Calls Tryz.prog 44 #[.pointer (some ⟨E.pb,0,none⟩)] w0 (Gr E w0 (.ok (.mk k1 s1 l1) r)))(hd:Sx.txt E.ts r=[46])(qb:Nat)(CB:∀ w0,PS E (r+1) w0->Calls Tryz.prog g #[.pointer (some ⟨E.pb,0,none⟩)] w0 (Gr E w0 (.bad qb))) :
  Calls Tryz.prog 88 #[.pointer (some ⟨E.pb,0,none⟩),.int .i64 k,.func (.func g) #[] #[]] w (Gr E w (.bad qb)):=by
 have HP:=qh h;have hpl:=h.lt;have hsz:=(vk E h.g hn).1;have T1:=qh (fun w h=>q0g E q w h nk s [] q1 hn);have B0:=qh ((Below.refl w.heap.size w).alloc (q5 _) (.cells #[.int .i64 0,.string ⟨#[]⟩,.slice none 0 0] 25));have R0:=qh (Row3.new w (.int .i64 0) (.string ⟨#[]⟩) (.slice none 0 0));have T2:=qh (fun w h=>y6 E q1 ⟨#[58]⟩ w h ht (by decide));have D:=qh CT;have D2:=qh CB;have T3:=qh (fun w h=>ka E r ⟨#[46]⟩ w h hd (by decide));have HS:=qh hsz;clear h hn hsz ht CT hd CB;obtain⟨R,hR⟩:∃ R,Gr E w (.bad qb)=R:=⟨_,rfl⟩;have HR:=qh hR;rw[hR];clear hR;go_enter Tryz.func88,Tryz.ntmps88
 go_wp2_with fail
 refine(T1.out _ (HP.out.later B0.out)).mono ?_;rintro e u1⟨rfl,hm,hp⟩;have M:=qh (((Mv.before HP.out B0.out hm).alloc (.cells #[.int .i64 nk,.string s,.slice none 0 0] 25)).alloc (.cells #[.int .i64 k,.string s,.slice none 0 0] 25));have P:=qh (hp.later (((Below.refl _ u1).alloc (q5 _) (.cells #[.int .i64 nk,.string s,.slice none 0 0] 25)).alloc (by simp) (.cells #[.int .i64 k,.string s,.slice none 0 0] 25)));have Rw:=qh (((R0.out.mv hm (by omega)).alloc (.cells #[.int .i64 nk,.string s,.slice none 0 0] 25)).alloc (.cells #[.int .i64 k,.string s,.slice none 0 0] 25));have Nw:=qh (Row3.newAt (W:=u1.alloc (.cells #[.int .i64 nk,.string s,.slice none 0 0] 25)) (n:=u1.heap.size+1) (v0:=.int .i64 k) (v1:=.string s) (v2:=.slice none 0 0) (by simp));have hwu:w.heap.size < u1.heap.size:=(R0.out.mv hm (by omega)).lt;have hz:u1.heap.size+1+1<=((u1.alloc (.cells #[.int .i64 nk,.string s,.slice none 0 0] 25)).alloc (.cells #[.int .i64 k,.string s,.slice none 0 0] 25)).heap.size:=by simp
 have Hz:=qh hz;clear hm hp hz
 go_wp2_with fail
 refine(T2.out _ P.out).mono ?_;rintro e u2⟨rfl,hm,hp⟩;have hz2:u1.heap.size+1+1<=u2.heap.size:=ql Hz.out hm.size;have M2:=qh (Mv.trans HP.out M.out P.out.le hm);have P2:=qh hp;have R2:=qh (Rw.out.mv hm (by omega));have N2:=qh (Nw.out.mv hm (by omega));obtain⟨⟨m0,m1,m2⟩,f0,f1,f2⟩:=N2.out.cells;have ln:=N2.out.lt;clear hm hp
 go_wp2_with fail
 go_region_law (first
  |(go_simp;go_at_call 44;refine(D.out _ (P2.out.later (Below.refl _ _).drew)).mono ?_;rintro e w5 ⟨⟨a,cap,rfl,hn5⟩,hm5,hq5⟩;have hm5':=Mv.before P2.out (Below.refl _ _).drew hm5;have N5:=qh (N2.out.mv hm5' (by omega));have R5:=qh (R2.out.mv hm5' (by omega));have hz5:u1.heap.size+1+1<=w5.heap.size:=ql hz2 hm5'.size;obtain⟨⟨c0,c1,c2⟩,y0,y1,y2⟩:=N5.out.cells;have l5:=N5.out.lt)
  |(refine xw rfl _ _ rfl (u1.heap.size+1+1) (.slice none 0 0) [] rfl (Kids.nil _ _) ⟨w5.heap.size,0,none⟩ 1 (by rfl) (.mk k1 s1 l1) (.int .i64 k1) (.string s1) (.slice a l1.length cap) (vz w5 _ _ _ _ _ rfl) (hn5.keep (fun b hb1 hb2=>⟨Below.heap_alloc _ _ _ hb2,ql hz2 hb1,fun e=>by cases e⟩)) (by simp) (by simp;omega) _ rfl ?_;intro g6 cap6 w6 K6 G6 _ hg6;have N6:=qh ((N5.out.alloc _).grown G6 (by simp[Value.ownBlock]));have R6:=qh ((R5.out.alloc _).grown G6 (by simp[Value.ownBlock]));obtain⟨⟨d0,d1,d2⟩,z0,z1,z2⟩:=N6.out.cells))
 all_goals
  have hz6:u1.heap.size+1+1<=w6.heap.size:=by have:=G6.size;simp at this;omega
  have M6:=Mv.later (Mv.trans HP.out M2.out P2.out.le hm5') ((((Below.refl w.heap.size w5).alloc (by omega) (.cells #[.int .i64 k1,.string s1,.slice a l1.length cap] 25)).grown G6 (by simp;omega) (by intro b hb;simp[Value.ownBlock]at hb)));obtain⟨W,hW⟩:∃ W,w6.setCell ⟨u1.heap.size+1,2,none⟩ (.slice (some ⟨g6,0,none⟩) 1 cap6)=W:=⟨_,rfl⟩;have M3:=qh (show Mv E r w W by rw[<-hW];exact M6.later ((Below.refl w.heap.size w6).setCell (p:=⟨u1.heap.size+1,2,none⟩) (by simp only;omega) _));have N3:=qh (show Row3 W (u1.heap.size+1) (.int .i64 k) (.string s) (.slice (some ⟨g6,0,none⟩) 1 cap6)by rw[<-hW];exact N6.out.put2 _);have R3:=qh (show Row3 W w.heap.size (.int .i64 0) (.string ⟨#[]⟩) (.slice none 0 0)by rw[<-hW];exact R6.out.other _ (by simp only;omega));have K3:=qh (show Kids (u1.heap.size+1+1) W (.slice (some ⟨g6,0,none⟩) 1 cap6) [.mk k1 s1 l1] by rw[<-hW];exact K6.keep fun b hb1 _=>Below.heap_setCell _ _ _ _ (by simp only;omega));have P3:=qh (M3.out.ps HP.out hq5);have hz3:u1.heap.size+1+1<=W.heap.size:=by rw[<-hW,qq];exact hz6
  rw[hW];clear hW hn5 hm5 hm5' hq5 N5 R5 N6 R6 K6 G6 M6 c0 c1 c2 y0 y1 y2 l5 d0 d1 d2 z0 z1 z2 m0 m1 m2 f0 f1 f2 ln hg6 M2 P2 R2 N2
  go_wp2_with fail
  refine(T3.out _ P3.out).mono ?_;rintro e u4⟨rfl,hm,hp⟩;have hz4:u1.heap.size+1+1<=u4.heap.size:=ql hz3 hm.size;have M4:=qh (Mv.trans HP.out M3.out P3.out.le hm);have P4:=qh hp;have R4:=qh (R3.out.mv hm (by omega));have N4:=qh (N3.out.mv hm (by omega));have K4:=qh (Kids.step hm (by omega) K3.out);obtain⟨⟨m0,m1,m2⟩,f0,f1,f2⟩:=N4.out.cells;have ln:=N4.out.lt;clear hm hp
  have F:Hid (∀ w5,Mv E qb u4.drew w5->qb<=E.ts.length->R (.panicked [{ v:=xz E qb,recovered:=false }]) w5):=qh fun w5 hm5 hq5=>by
   rw[<-HR.out];exact⟨rfl,Mv.trans HP.out (M4.out.later (below_drewN (Below.refl _ _) 1)) P4.out.le hm5,hq5⟩
  go_wp2_with fail
  go_region_dies
  all_goals refine(D2.out _ (P4.out.later (Below.refl _ _).drew)).mono ?_
  all_goals rintro e w5 ⟨rfl,hm5,hq5⟩
  all_goals exact⟨rfl,F.out w5 hm5 hq5⟩
theorem qiz(E:PE)(q:Nat)(w:World)(h:PS E q w)(k:Int)(g:Nat)(eg:∀ args w,(callFunc g args).run Tryz.prog w = .ok (.enter g args) w)(nk:Int)(s:ByteArray)(q1:Nat)(hn:Sx.nameA E.ts q = .ok (.mk nk s []) q1)(ht:Sx.txt E.ts q1=[58])(k1:Int)(s1:ByteArray)(l1:List Nd)(r:Nat)(CT:∀ w0,PS E (q1+1) w0->Calls Tryz.prog 44 #[.pointer (some ⟨E.pb,0,none⟩)] w0 (Gr E w0 (.ok (.mk k1 s1 l1) r)))(hd:Sx.txt E.ts r=[46])(k2:Int)(s2:ByteArray)(l2:List Nd)(qb:Nat)(CB:∀ w0,PS E (r+1) w0->Calls Tryz.prog g #[.pointer (some ⟨E.pb,0,none⟩)] w0 (Gr E w0 (.ok (.mk k2 s2 l2) qb))) :
  Calls Tryz.prog 88 #[.pointer (some ⟨E.pb,0,none⟩),.int .i64 k,.func (.func g) #[] #[]] w (Gr E w (.ok (.mk k s [.mk k1 s1 l1,.mk k2 s2 l2]) qb)):=by
 have HP:=qh h;have hpl:=h.lt;have hsz:=(vk E h.g hn).1;have T1:=qh (fun w h=>q0g E q w h nk s [] q1 hn);have B0:=qh ((Below.refl w.heap.size w).alloc (q5 _) (.cells #[.int .i64 0,.string ⟨#[]⟩,.slice none 0 0] 25));have R0:=qh (Row3.new w (.int .i64 0) (.string ⟨#[]⟩) (.slice none 0 0));have T2:=qh (fun w h=>y6 E q1 ⟨#[58]⟩ w h ht (by decide));have D:=qh CT;have D2:=qh CB;have T3:=qh (fun w h=>ka E r ⟨#[46]⟩ w h hd (by decide));have HS:=qh hsz;clear h hn hsz ht CT hd CB;obtain⟨R,hR⟩:∃ R,Gr E w (.ok (.mk k s [.mk k1 s1 l1,.mk k2 s2 l2]) qb)=R:=⟨_,rfl⟩;have HR:=qh hR;rw[hR];clear hR;go_enter Tryz.func88,Tryz.ntmps88
 go_wp2_with fail
 refine(T1.out _ (HP.out.later B0.out)).mono ?_;rintro e u1⟨rfl,hm,hp⟩;have M:=qh (((Mv.before HP.out B0.out hm).alloc (.cells #[.int .i64 nk,.string s,.slice none 0 0] 25)).alloc (.cells #[.int .i64 k,.string s,.slice none 0 0] 25));have P:=qh (hp.later (((Below.refl _ u1).alloc (q5 _) (.cells #[.int .i64 nk,.string s,.slice none 0 0] 25)).alloc (by simp) (.cells #[.int .i64 k,.string s,.slice none 0 0] 25)));have Rw:=qh (((R0.out.mv hm (by omega)).alloc (.cells #[.int .i64 nk,.string s,.slice none 0 0] 25)).alloc (.cells #[.int .i64 k,.string s,.slice none 0 0] 25));have Nw:=qh (Row3.newAt (W:=u1.alloc (.cells #[.int .i64 nk,.string s,.slice none 0 0] 25)) (n:=u1.heap.size+1) (v0:=.int .i64 k) (v1:=.string s) (v2:=.slice none 0 0) (by simp));have hwu:w.heap.size < u1.heap.size:=(R0.out.mv hm (by omega)).lt;have hz:u1.heap.size+1+1<=((u1.alloc (.cells #[.int .i64 nk,.string s,.slice none 0 0] 25)).alloc (.cells #[.int .i64 k,.string s,.slice none 0 0] 25)).heap.size:=by simp
 have Hz:=qh hz;clear hm hp hz
 go_wp2_with fail
 refine(T2.out _ P.out).mono ?_;rintro e u2⟨rfl,hm,hp⟩;have hz2:u1.heap.size+1+1<=u2.heap.size:=ql Hz.out hm.size;have M2:=qh (Mv.trans HP.out M.out P.out.le hm);have P2:=qh hp;have R2:=qh (Rw.out.mv hm (by omega));have N2:=qh (Nw.out.mv hm (by omega));obtain⟨⟨m0,m1,m2⟩,f0,f1,f2⟩:=N2.out.cells;have ln:=N2.out.lt;clear hm hp
 go_wp2_with fail
 go_region_law (first
  |(go_simp;go_at_call 44;refine(D.out _ (P2.out.later (Below.refl _ _).drew)).mono ?_;rintro e w5 ⟨⟨a,cap,rfl,hn5⟩,hm5,hq5⟩;have hm5':=Mv.before P2.out (Below.refl _ _).drew hm5;have N5:=qh (N2.out.mv hm5' (by omega));have R5:=qh (R2.out.mv hm5' (by omega));have hz5:u1.heap.size+1+1<=w5.heap.size:=ql hz2 hm5'.size;obtain⟨⟨c0,c1,c2⟩,y0,y1,y2⟩:=N5.out.cells;have l5:=N5.out.lt)
  |(refine xw rfl _ _ rfl (u1.heap.size+1+1) (.slice none 0 0) [] rfl (Kids.nil _ _) ⟨w5.heap.size,0,none⟩ 1 (by rfl) (.mk k1 s1 l1) (.int .i64 k1) (.string s1) (.slice a l1.length cap) (vz w5 _ _ _ _ _ rfl) (hn5.keep (fun b hb1 hb2=>⟨Below.heap_alloc _ _ _ hb2,ql hz2 hb1,fun e=>by cases e⟩)) (by simp) (by simp;omega) _ rfl ?_;intro g6 cap6 w6 K6 G6 _ hg6;have N6:=qh ((N5.out.alloc _).grown G6 (by simp[Value.ownBlock]));have R6:=qh ((R5.out.alloc _).grown G6 (by simp[Value.ownBlock]));obtain⟨⟨d0,d1,d2⟩,z0,z1,z2⟩:=N6.out.cells))
 all_goals
  have hz6:u1.heap.size+1+1<=w6.heap.size:=by have:=G6.size;simp at this;omega
  have M6:=Mv.later (Mv.trans HP.out M2.out P2.out.le hm5') ((((Below.refl w.heap.size w5).alloc (by omega) (.cells #[.int .i64 k1,.string s1,.slice a l1.length cap] 25)).grown G6 (by simp;omega) (by intro b hb;simp[Value.ownBlock]at hb)));obtain⟨W,hW⟩:∃ W,w6.setCell ⟨u1.heap.size+1,2,none⟩ (.slice (some ⟨g6,0,none⟩) 1 cap6)=W:=⟨_,rfl⟩;have M3:=qh (show Mv E r w W by rw[<-hW];exact M6.later ((Below.refl w.heap.size w6).setCell (p:=⟨u1.heap.size+1,2,none⟩) (by simp only;omega) _));have N3:=qh (show Row3 W (u1.heap.size+1) (.int .i64 k) (.string s) (.slice (some ⟨g6,0,none⟩) 1 cap6)by rw[<-hW];exact N6.out.put2 _);have R3:=qh (show Row3 W w.heap.size (.int .i64 0) (.string ⟨#[]⟩) (.slice none 0 0)by rw[<-hW];exact R6.out.other _ (by simp only;omega));have K3:=qh (show Kids (u1.heap.size+1+1) W (.slice (some ⟨g6,0,none⟩) 1 cap6) [.mk k1 s1 l1] by rw[<-hW];exact K6.keep fun b hb1 _=>Below.heap_setCell _ _ _ _ (by simp only;omega));have P3:=qh (M3.out.ps HP.out hq5);have hz3:u1.heap.size+1+1<=W.heap.size:=by rw[<-hW,qq];exact hz6
  rw[hW];clear hW hn5 hm5 hm5' hq5 N5 R5 N6 R6 K6 G6 M6 c0 c1 c2 y0 y1 y2 l5 d0 d1 d2 z0 z1 z2 m0 m1 m2 f0 f1 f2 ln hg6 M2 P2 R2 N2
  go_wp2_with fail
  refine(T3.out _ P3.out).mono ?_;rintro e u4⟨rfl,hm,hp⟩;have hz4:u1.heap.size+1+1<=u4.heap.size:=ql hz3 hm.size;have M4:=qh (Mv.trans HP.out M3.out P3.out.le hm);have P4:=qh hp;have R4:=qh (R3.out.mv hm (by omega));have N4:=qh (N3.out.mv hm (by omega));have K4:=qh (Kids.step hm (by omega) K3.out);obtain⟨⟨m0,m1,m2⟩,f0,f1,f2⟩:=N4.out.cells;have ln:=N4.out.lt;clear hm hp
  go_wp2_with fail
  go_region_law (first
   |(go_simp;refine(D2.out _ (P4.out.later (Below.refl _ _).drew)).mono ?_;rintro e w5 ⟨⟨a5,cap5,rfl,hn5⟩,hm5,hq5⟩;have hm5':=Mv.before P4.out (Below.refl _ _).drew hm5;have N5:=qh (N4.out.mv hm5' (by omega));have R5:=qh (R4.out.mv hm5' (by omega));have K5:=qh (Kids.step hm5' (by omega) K4.out);have hz5:u1.heap.size+1+1<=w5.heap.size:=ql hz4 hm5'.size;obtain⟨⟨c0,c1,c2⟩,y0,y1,y2⟩:=N5.out.cells;have l5:=N5.out.lt)
   |(refine xw rfl _ _ rfl (u1.heap.size+1+1) _ [Nd.mk k1 s1 l1] rfl (Kids.keep K5.out fun b _ hb2=>Below.heap_alloc _ _ _ hb2) ⟨w5.heap.size,0,none⟩ 1 (by rfl) (.mk k2 s2 l2) (.int .i64 k2) (.string s2) (.slice a5 l2.length cap5) (vz w5 _ _ _ _ _ rfl) (hn5.keep (fun b hb1 hb2=>⟨Below.heap_alloc _ _ _ hb2,ql hz4 hb1,fun e=>by have:=K4.out.own b e;have hb1':u4.heap.size<=b:=hb1;omega⟩)) (by simp) (by simp;omega) _ rfl ?_;intro g6 cap6 w6 K6 G6 _ hg6;have hown:=K5.out.own;have N6:=qh ((N5.out.alloc _).grown G6 (fun e=>by have:=hown _ e.symm;omega));have R6:=qh ((R5.out.alloc _).grown G6 (fun e=>by have:=hown _ e.symm;omega));obtain⟨⟨d0,d1,d2⟩,z0,z1,z2⟩:=N6.out.cells))
  all_goals
   have hz6:u1.heap.size+1+1<=w6.heap.size:=by have:=G6.size;simp at this;omega
   have M6:=Mv.later (Mv.trans HP.out M4.out P4.out.le hm5') ((((Below.refl w.heap.size w5).alloc (by omega) (.cells #[.int .i64 k2,.string s2,.slice a5 l2.length cap5] 25)).grown G6 (by simp;omega) (fun b hb=>by have:=hown b hb;omega)));obtain⟨V,hV⟩:∃ V,w6.setCell ⟨u1.heap.size+1,2,none⟩ (.slice (some ⟨g6,0,none⟩) ([Nd.mk k1 s1 l1].length+1) cap6)=V:=⟨_,rfl⟩;have M7:=qh (show Mv E qb w V by rw[<-hV];exact M6.later ((Below.refl w.heap.size w6).setCell (p:=⟨u1.heap.size+1,2,none⟩) (by simp only;omega) _));have N7:=qh (show Row3 V (u1.heap.size+1) (.int .i64 k) (.string s) (.slice (some ⟨g6,0,none⟩) ([Nd.mk k1 s1 l1].length+1) cap6)by rw[<-hV];exact N6.out.put2 _);have R7:=qh (show Row3 V w.heap.size (.int .i64 0) (.string ⟨#[]⟩) (.slice none 0 0)by rw[<-hV];exact R6.out.other _ (by simp only;omega));have K7:=show Kids (u1.heap.size+1+1) V (.slice (some ⟨g6,0,none⟩) ([Nd.mk k1 s1 l1].length+1) cap6) ([Nd.mk k1 s1 l1]++[.mk k2 s2 l2])by rw[<-hV];exact K6.keep fun b hb1 _=>Below.heap_setCell _ _ _ _ (by simp only;omega)
   have Q7:=qh hq5;have hz7:u1.heap.size+1+1<=V.heap.size:=by rw[<-hV,qq];exact hz6
   have N8:=qh ((K7.node k s HS.out (by unfold maxLen;simp)).fin (h:=w.heap.size) (by omega) ((Kp.refl (u1.heap.size+1+1) V).put3 (b:=w.heap.size) (.int .i64 k) (.string s) (.slice (some ⟨g6,0,none⟩) ([Nd.mk k1 s1 l1].length+1) cap6) (by omega)));simp only[qo,qi,Nat.zero_add,Nat.reduceAdd]at hV N7 N8;rw[hV];clear hV hn5 hm5 hm5' hq5 N5 R5 N6 R6 K6 G6 M6 c0 c1 c2 y0 y1 y2 l5 d0 d1 d2 z0 z1 z2 m0 m1 m2 f0 f1 f2 ln hg6 hown K5 K7;obtain⟨⟨n0,n1,n2⟩,_⟩:=N7.out.cells;obtain⟨⟨r0,r1,r2⟩,g0,g1,g2⟩:=R7.out.cells;have ln:=N7.out.lt;have lr:=R7.out.lt;go_wp2;refine zg (R7.out.put _ _ _) Tryz.results88 rfl rfl ?_;rw[<-HR.out];exact⟨⟨_,_,rfl,N8.out⟩,M7.out.put3 (q5 _) _ _ _,Q7.out⟩
theorem qj3(E:PE)(q:Nat)(w:World)(h:PS E q w)(k:Int)(g:Nat)(_eg:∀ args w,(callFunc g args).run Tryz.prog w = .ok (.enter g args) w)(nk:Int)(s:ByteArray)(q1:Nat)(hn:Sx.nameA E.ts q = .ok (.mk nk s []) q1)(ht:Sx.txt E.ts q1≠[58])(hd:Sx.txt E.ts q1≠[46]) :
  Calls Tryz.prog 88 #[.pointer (some ⟨E.pb,0,none⟩),.int .i64 k,.func (.func g) #[] #[]] w (Gr E w (.bad q1)):=by
 have HP:=qh h;have hpl:=h.lt;have hsz:=(vk E h.g hn).1;have T1:=qh (fun w h=>q0g E q w h nk s [] q1 hn);have B0:=qh ((Below.refl w.heap.size w).alloc (q5 _) (.cells #[.int .i64 0,.string ⟨#[]⟩,.slice none 0 0] 25));have R0:=qh (Row3.new w (.int .i64 0) (.string ⟨#[]⟩) (.slice none 0 0));have T2:=qh (fun w h=>we E q1 ⟨#[58]⟩ w h ht);have T3:=qh (fun w h=>q0e E q1 ⟨#[46]⟩ w h hd);have HS:=qh hsz;clear h hn hsz ht hd;obtain⟨R,hR⟩:∃ R,Gr E w (.bad q1)=R:=⟨_,rfl⟩;have HR:=qh hR;rw[hR];clear hR;go_enter Tryz.func88,Tryz.ntmps88
 go_wp2_with fail
 refine(T1.out _ (HP.out.later B0.out)).mono ?_;rintro e u1⟨rfl,hm,hp⟩;have M:=qh (((Mv.before HP.out B0.out hm).alloc (.cells #[.int .i64 nk,.string s,.slice none 0 0] 25)).alloc (.cells #[.int .i64 k,.string s,.slice none 0 0] 25));have P:=qh (hp.later (((Below.refl _ u1).alloc (q5 _) (.cells #[.int .i64 nk,.string s,.slice none 0 0] 25)).alloc (by simp) (.cells #[.int .i64 k,.string s,.slice none 0 0] 25)));have Rw:=qh (((R0.out.mv hm (by omega)).alloc (.cells #[.int .i64 nk,.string s,.slice none 0 0] 25)).alloc (.cells #[.int .i64 k,.string s,.slice none 0 0] 25));have Nw:=qh (Row3.newAt (W:=u1.alloc (.cells #[.int .i64 nk,.string s,.slice none 0 0] 25)) (n:=u1.heap.size+1) (v0:=.int .i64 k) (v1:=.string s) (v2:=.slice none 0 0) (by simp));have hwu:w.heap.size < u1.heap.size:=(R0.out.mv hm (by omega)).lt;have hz:u1.heap.size+1+1<=((u1.alloc (.cells #[.int .i64 nk,.string s,.slice none 0 0] 25)).alloc (.cells #[.int .i64 k,.string s,.slice none 0 0] 25)).heap.size:=by simp
 have Hz:=qh hz;clear hm hp hz
 go_wp2_with fail
 refine(T2.out _ P.out).mono ?_;rintro e W⟨rfl,hb⟩;have hz3:u1.heap.size+1+1<=W.heap.size:=ql Hz.out hb.size;have M3:=qh (M.out.later (hb.mono M.out.size));have P3:=qh (P.out.later hb);have R3:=qh (Rw.out.below hb Rw.out.lt);have N3:=qh (Nw.out.below hb Nw.out.lt);have K3:=qh (Kids.nil (u1.heap.size+1+1) W);clear hb
 go_wp2_with fail
 refine(T3.out _ P3.out).mono ?_;rintro e u4⟨rfl,hb⟩;have M4:=M3.out.later (hb.mono M3.out.size);go_wp2;rw[<-HR.out];exact⟨rfl,rfl,M4,P3.out.le⟩
theorem qj4(E:PE)(q:Nat)(w:World)(h:PS E q w)(k:Int)(g:Nat)(eg:∀ args w,(callFunc g args).run Tryz.prog w = .ok (.enter g args) w)(nk:Int)(s:ByteArray)(q1:Nat)(hn:Sx.nameA E.ts q = .ok (.mk nk s []) q1)(ht:Sx.txt E.ts q1≠[58])(hd:Sx.txt E.ts q1=[46])(qb:Nat)(CB:∀ w0,PS E (q1+1) w0->Calls Tryz.prog g #[.pointer (some ⟨E.pb,0,none⟩)] w0 (Gr E w0 (.bad qb))) :
  Calls Tryz.prog 88 #[.pointer (some ⟨E.pb,0,none⟩),.int .i64 k,.func (.func g) #[] #[]] w (Gr E w (.bad qb)):=by
 have HP:=qh h;have hpl:=h.lt;have hsz:=(vk E h.g hn).1;have T1:=qh (fun w h=>q0g E q w h nk s [] q1 hn);have B0:=qh ((Below.refl w.heap.size w).alloc (q5 _) (.cells #[.int .i64 0,.string ⟨#[]⟩,.slice none 0 0] 25));have R0:=qh (Row3.new w (.int .i64 0) (.string ⟨#[]⟩) (.slice none 0 0));have T2:=qh (fun w h=>we E q1 ⟨#[58]⟩ w h ht);have D2:=qh CB;have T3:=qh (fun w h=>ka E q1 ⟨#[46]⟩ w h hd (by decide));have HS:=qh hsz;clear h hn hsz ht hd CB;obtain⟨R,hR⟩:∃ R,Gr E w (.bad qb)=R:=⟨_,rfl⟩;have HR:=qh hR;rw[hR];clear hR;go_enter Tryz.func88,Tryz.ntmps88
 go_wp2_with fail
 refine(T1.out _ (HP.out.later B0.out)).mono ?_;rintro e u1⟨rfl,hm,hp⟩;have M:=qh (((Mv.before HP.out B0.out hm).alloc (.cells #[.int .i64 nk,.string s,.slice none 0 0] 25)).alloc (.cells #[.int .i64 k,.string s,.slice none 0 0] 25));have P:=qh (hp.later (((Below.refl _ u1).alloc (q5 _) (.cells #[.int .i64 nk,.string s,.slice none 0 0] 25)).alloc (by simp) (.cells #[.int .i64 k,.string s,.slice none 0 0] 25)));have Rw:=qh (((R0.out.mv hm (by omega)).alloc (.cells #[.int .i64 nk,.string s,.slice none 0 0] 25)).alloc (.cells #[.int .i64 k,.string s,.slice none 0 0] 25));have Nw:=qh (Row3.newAt (W:=u1.alloc (.cells #[.int .i64 nk,.string s,.slice none 0 0] 25)) (n:=u1.heap.size+1) (v0:=.int .i64 k) (v1:=.string s) (v2:=.slice none 0 0) (by simp));have hwu:w.heap.size < u1.heap.size:=(R0.out.mv hm (by omega)).lt;have hz:u1.heap.size+1+1<=((u1.alloc (.cells #[.int .i64 nk,.string s,.slice none 0 0] 25)).alloc (.cells #[.int .i64 k,.string s,.slice none 0 0] 25)).heap.size:=by simp
 have Hz:=qh hz;clear hm hp hz
 go_wp2_with fail
 refine(T2.out _ P.out).mono ?_;rintro e W⟨rfl,hb⟩;have hz3:u1.heap.size+1+1<=W.heap.size:=ql Hz.out hb.size;have M3:=qh (M.out.later (hb.mono M.out.size));have P3:=qh (P.out.later hb);have R3:=qh (Rw.out.below hb Rw.out.lt);have N3:=qh (Nw.out.below hb Nw.out.lt);have K3:=qh (Kids.nil (u1.heap.size+1+1) W);clear hb
 go_wp2_with fail
 refine(T3.out _ P3.out).mono ?_;rintro e u4⟨rfl,hm,hp⟩;have hz4:u1.heap.size+1+1<=u4.heap.size:=ql hz3 hm.size;have M4:=qh (Mv.trans HP.out M3.out P3.out.le hm);have P4:=qh hp;have R4:=qh (R3.out.mv hm (by omega));have N4:=qh (N3.out.mv hm (by omega));have K4:=qh (Kids.step hm (by omega) K3.out);obtain⟨⟨m0,m1,m2⟩,f0,f1,f2⟩:=N4.out.cells;have ln:=N4.out.lt;clear hm hp
 have F:Hid (∀ w5,Mv E qb u4.drew w5->qb<=E.ts.length->R (.panicked [{ v:=xz E qb,recovered:=false }]) w5):=qh fun w5 hm5 hq5=>by
  rw[<-HR.out];exact⟨rfl,Mv.trans HP.out (M4.out.later (below_drewN (Below.refl _ _) 1)) P4.out.le hm5,hq5⟩
 go_wp2_with fail
 go_region_dies
 all_goals refine(D2.out _ (P4.out.later (Below.refl _ _).drew)).mono ?_
 all_goals rintro e w5 ⟨rfl,hm5,hq5⟩
 all_goals exact⟨rfl,F.out w5 hm5 hq5⟩
theorem qj2(E:PE)(q:Nat)(w:World)(h:PS E q w)(k:Int)(g:Nat)(eg:∀ args w,(callFunc g args).run Tryz.prog w = .ok (.enter g args) w)(nk:Int)(s:ByteArray)(q1:Nat)(hn:Sx.nameA E.ts q = .ok (.mk nk s []) q1)(ht:Sx.txt E.ts q1≠[58])(hd:Sx.txt E.ts q1=[46])(k2:Int)(s2:ByteArray)(l2:List Nd)(qb:Nat)(CB:∀ w0,PS E (q1+1) w0->Calls Tryz.prog g #[.pointer (some ⟨E.pb,0,none⟩)] w0 (Gr E w0 (.ok (.mk k2 s2 l2) qb))) :
  Calls Tryz.prog 88 #[.pointer (some ⟨E.pb,0,none⟩),.int .i64 k,.func (.func g) #[] #[]] w (Gr E w (.ok (.mk k s [.mk k2 s2 l2]) qb)):=by
 have HP:=qh h;have hpl:=h.lt;have hsz:=(vk E h.g hn).1;have T1:=qh (fun w h=>q0g E q w h nk s [] q1 hn);have B0:=qh ((Below.refl w.heap.size w).alloc (q5 _) (.cells #[.int .i64 0,.string ⟨#[]⟩,.slice none 0 0] 25));have R0:=qh (Row3.new w (.int .i64 0) (.string ⟨#[]⟩) (.slice none 0 0));have T2:=qh (fun w h=>we E q1 ⟨#[58]⟩ w h ht);have D2:=qh CB;have T3:=qh (fun w h=>ka E q1 ⟨#[46]⟩ w h hd (by decide));have HS:=qh hsz;clear h hn hsz ht hd CB;obtain⟨R,hR⟩:∃ R,Gr E w (.ok (.mk k s [.mk k2 s2 l2]) qb)=R:=⟨_,rfl⟩;have HR:=qh hR;rw[hR];clear hR;go_enter Tryz.func88,Tryz.ntmps88
 go_wp2_with fail
 refine(T1.out _ (HP.out.later B0.out)).mono ?_;rintro e u1⟨rfl,hm,hp⟩;have M:=qh (((Mv.before HP.out B0.out hm).alloc (.cells #[.int .i64 nk,.string s,.slice none 0 0] 25)).alloc (.cells #[.int .i64 k,.string s,.slice none 0 0] 25));have P:=qh (hp.later (((Below.refl _ u1).alloc (q5 _) (.cells #[.int .i64 nk,.string s,.slice none 0 0] 25)).alloc (by simp) (.cells #[.int .i64 k,.string s,.slice none 0 0] 25)));have Rw:=qh (((R0.out.mv hm (by omega)).alloc (.cells #[.int .i64 nk,.string s,.slice none 0 0] 25)).alloc (.cells #[.int .i64 k,.string s,.slice none 0 0] 25));have Nw:=qh (Row3.newAt (W:=u1.alloc (.cells #[.int .i64 nk,.string s,.slice none 0 0] 25)) (n:=u1.heap.size+1) (v0:=.int .i64 k) (v1:=.string s) (v2:=.slice none 0 0) (by simp));have hwu:w.heap.size < u1.heap.size:=(R0.out.mv hm (by omega)).lt;have hz:u1.heap.size+1+1<=((u1.alloc (.cells #[.int .i64 nk,.string s,.slice none 0 0] 25)).alloc (.cells #[.int .i64 k,.string s,.slice none 0 0] 25)).heap.size:=by simp
 have Hz:=qh hz;clear hm hp hz
 go_wp2_with fail
 refine(T2.out _ P.out).mono ?_;rintro e W⟨rfl,hb⟩;have hz3:u1.heap.size+1+1<=W.heap.size:=ql Hz.out hb.size;have M3:=qh (M.out.later (hb.mono M.out.size));have P3:=qh (P.out.later hb);have R3:=qh (Rw.out.below hb Rw.out.lt);have N3:=qh (Nw.out.below hb Nw.out.lt);have K3:=qh (Kids.nil (u1.heap.size+1+1) W);clear hb
 go_wp2_with fail
 refine(T3.out _ P3.out).mono ?_;rintro e u4⟨rfl,hm,hp⟩;have hz4:u1.heap.size+1+1<=u4.heap.size:=ql hz3 hm.size;have M4:=qh (Mv.trans HP.out M3.out P3.out.le hm);have P4:=qh hp;have R4:=qh (R3.out.mv hm (by omega));have N4:=qh (N3.out.mv hm (by omega));have K4:=qh (Kids.step hm (by omega) K3.out);obtain⟨⟨m0,m1,m2⟩,f0,f1,f2⟩:=N4.out.cells;have ln:=N4.out.lt;clear hm hp
 go_wp2_with fail
 go_region_law (first
  |(go_simp;refine(D2.out _ (P4.out.later (Below.refl _ _).drew)).mono ?_;rintro e w5 ⟨⟨a5,cap5,rfl,hn5⟩,hm5,hq5⟩;have hm5':=Mv.before P4.out (Below.refl _ _).drew hm5;have N5:=qh (N4.out.mv hm5' (by omega));have R5:=qh (R4.out.mv hm5' (by omega));have K5:=qh (Kids.step hm5' (by omega) K4.out);have hz5:u1.heap.size+1+1<=w5.heap.size:=ql hz4 hm5'.size;obtain⟨⟨c0,c1,c2⟩,y0,y1,y2⟩:=N5.out.cells;have l5:=N5.out.lt)
  |(refine xw rfl _ _ rfl (u1.heap.size+1+1) _ ([]:List Nd) rfl (Kids.keep K5.out fun b _ hb2=>Below.heap_alloc _ _ _ hb2) ⟨w5.heap.size,0,none⟩ 1 (by rfl) (.mk k2 s2 l2) (.int .i64 k2) (.string s2) (.slice a5 l2.length cap5) (vz w5 _ _ _ _ _ rfl) (hn5.keep (fun b hb1 hb2=>⟨Below.heap_alloc _ _ _ hb2,ql hz4 hb1,fun e=>by have:=K4.out.own b e;have hb1':u4.heap.size<=b:=hb1;omega⟩)) (by simp) (by simp;omega) _ rfl ?_;intro g6 cap6 w6 K6 G6 _ hg6;have hown:=K5.out.own;have N6:=qh ((N5.out.alloc _).grown G6 (fun e=>by have:=hown _ e.symm;omega));have R6:=qh ((R5.out.alloc _).grown G6 (fun e=>by have:=hown _ e.symm;omega));obtain⟨⟨d0,d1,d2⟩,z0,z1,z2⟩:=N6.out.cells))
 all_goals
  have hz6:u1.heap.size+1+1<=w6.heap.size:=by have:=G6.size;simp at this;omega
  have M6:=Mv.later (Mv.trans HP.out M4.out P4.out.le hm5') ((((Below.refl w.heap.size w5).alloc (by omega) (.cells #[.int .i64 k2,.string s2,.slice a5 l2.length cap5] 25)).grown G6 (by simp;omega) (fun b hb=>by have:=hown b hb;omega)));obtain⟨V,hV⟩:∃ V,w6.setCell ⟨u1.heap.size+1,2,none⟩ (.slice (some ⟨g6,0,none⟩) (([]:List Nd).length+1) cap6)=V:=⟨_,rfl⟩;have M7:=qh (show Mv E qb w V by rw[<-hV];exact M6.later ((Below.refl w.heap.size w6).setCell (p:=⟨u1.heap.size+1,2,none⟩) (by simp only;omega) _));have N7:=qh (show Row3 V (u1.heap.size+1) (.int .i64 k) (.string s) (.slice (some ⟨g6,0,none⟩) (([]:List Nd).length+1) cap6)by rw[<-hV];exact N6.out.put2 _);have R7:=qh (show Row3 V w.heap.size (.int .i64 0) (.string ⟨#[]⟩) (.slice none 0 0)by rw[<-hV];exact R6.out.other _ (by simp only;omega));have K7:=show Kids (u1.heap.size+1+1) V (.slice (some ⟨g6,0,none⟩) (([]:List Nd).length+1) cap6) (([]:List Nd)++[.mk k2 s2 l2])by rw[<-hV];exact K6.keep fun b hb1 _=>Below.heap_setCell _ _ _ _ (by simp only;omega)
  have Q7:=qh hq5;have hz7:u1.heap.size+1+1<=V.heap.size:=by rw[<-hV,qq];exact hz6
  have N8:=qh ((K7.node k s HS.out (by unfold maxLen;simp)).fin (h:=w.heap.size) (by omega) ((Kp.refl (u1.heap.size+1+1) V).put3 (b:=w.heap.size) (.int .i64 k) (.string s) (.slice (some ⟨g6,0,none⟩) (([]:List Nd).length+1) cap6) (by omega)));simp only[qo,Nat.zero_add]at hV N7 N8;rw[hV];clear hV hn5 hm5 hm5' hq5 N5 R5 N6 R6 K6 G6 M6 c0 c1 c2 y0 y1 y2 l5 d0 d1 d2 z0 z1 z2 m0 m1 m2 f0 f1 f2 ln hg6 hown K5 K7;obtain⟨⟨n0,n1,n2⟩,_⟩:=N7.out.cells;obtain⟨⟨r0,r1,r2⟩,g0,g1,g2⟩:=R7.out.cells;have ln:=N7.out.lt;have lr:=R7.out.lt;go_wp2;refine zg (R7.out.put _ _ _) Tryz.results88 rfl rfl ?_;rw[<-HR.out];exact⟨⟨_,_,rfl,N8.out⟩,M7.out.put3 (q5 _) _ _ _,Q7.out⟩
attribute [local go_sem] jn jm jk
def q34:List Lx.Bs:=[[45,62],[40],[41],[58],[46],[92],[44],[111,45],[60,61],[45,111],[61,62],[43],[38],[42],[33],[97,108,108],[101,120],[111,110,101],[116,111,112],[123],[125]]
def vt(ts:List Lx.Tok):Prop:=∀ q,Sx.knd ts q=1\/Sx.knd ts q=2->∀ s∈q34,Sx.txt ts q≠s
def nxt(E:PE)(w:World):Nat:=match w.cell? ⟨E.pb,1,none⟩with|some (.int _ q)=>q.toNat|_=>0
theorem PS.nxt{E:PE}{q:Nat}{w:World}(h:PS E q w):nxt E w=q:=by
 unfold Proofs.YtkckddojlignpaaGreatDoor.nxt;rw[h.cells.2.1];simp
theorem Row3.grown'{W W':World}{b:Nat}{v0 v1 v2:Value}{row:Option Nat}(h:Row3 W b v0 v1 v2)(hg:W.grownBy W' row)(hne:some b≠row):Row3 W' b v0 v1 v2:=(hg.block b h.lt hne).trans h
theorem Kp.put3x{h:Nat}{w w1:World}(a:Kp h w w1){b:Nat}(u0 u1 u2:Value)(hp:w.heap.size<=b):Kp h w (((w1.setCell ⟨b,0,none⟩ u0).setCell ⟨b,1,none⟩ u1).setCell ⟨b,2,none⟩ u2) :=
 ⟨by simp only[qq];exact a.size,fun k h1 h2=>(Below.heap_setCell _ _ _ _ (by simp only;omega)).trans ((Below.heap_setCell _ _ _ _ (by simp only;omega)).trans ((Below.heap_setCell _ _ _ _ (by simp only;omega)).trans (a.blk k h1 h2)))⟩
theorem Kids.kp{h:Nat}{w W:World}{v:Value}{l:List Nd}(hk:Kids h w v l)(hp:Kp h w W):Kids h W v l:=hk.keep hp.blk
def q06(k:Int)(s:ByteArray):Sx.PR (List Nd)->Sx.PR Nd
 | .bad r=>.bad r
 | .ok l r=>.ok (.mk k s l) r
def qoe(ts:List Lx.Tok)(f:Nat)(acc:List Nd):Sx.PR Nd->Sx.PR (List Nd)
 | .bad r=>.bad r
 | .ok a r=>Sx.args ts f (acc++[a]) r
theorem qj8(E:PE)(f:Nat)(acc:List Nd)(p:Nat)(ht:Sx.txt E.ts p=[40]):Sx.args E.ts (f+1) acc p=qoe E.ts f acc (zu E [41] (Sx.term E.ts f (p+1))):=by
 simp only[Sx.args,zu];rw[qa ht]
 cases Sx.term E.ts f (p+1)with
 |bad _=>rfl
 |ok a r =>
  simp only
  by_cases h41:Sx.txt E.ts r=[41]
  ·rw[qa h41,qa h41];rfl
  ·rw[q7 h41,q7 h41];rfl
theorem qho(E:PE)(f p:Nat){a:Nd}{r:Nat}(h:zu E [41] (Sx.term E.ts f (p+1)) = .ok a r):p < r/\r<=E.ts.length:=by
 simp only[zu]at h
 cases ht2:Sx.term E.ts f (p+1)with
 |bad _=>rw[ht2]at h;cases h
 |ok a2 r2 =>
  rw[ht2]at h;have:=(Sx.term_goes E.ts f).1 _ _ _ ht2;simp only at h
  split at h
  ·rename_i h41
   have:=Sx.txt_at h41
   cases h;omega
  ·cases h
theorem q5q(ts:List Lx.Tok)(f:Nat)(acc:List Nd)(p p1:Nat)(ht:Sx.txt ts p≠[40])(hn:Sx.nameA ts p = .bad p1):Sx.args ts (f+1) acc p = .ok acc p:=by
 simp only[Sx.args];rw[q7 ht,hn]
theorem qm4(ts:List Lx.Tok)(f:Nat)(acc:List Nd)(p p1:Nat)(x:Nd)(ht:Sx.txt ts p≠[40])(hn:Sx.nameA ts p = .ok x p1):Sx.args ts (f+1) acc p=Sx.args ts f (acc++[x]) p1:=by
 simp only[Sx.args];rw[q7 ht,hn]
theorem qi0{ts:List Lx.Tok}{p p1:Nat}{x:Nd}(hn:Sx.nameA ts p = .ok x p1):Sx.knd ts p=1\/Sx.knd ts p=2:=by
 unfold Sx.nameA at hn
 split at hn
 ·exact .inl ‹_›
 ·split at hn
  ·exact .inr ‹_›
  ·cases hn
theorem qek(E:PE)(q:Nat)(w:World)(h:PS E q w)(q1:Nat)(hn:Sx.nameA E.ts q = .bad q1) :
  Calls Tryz.prog 90 #[.pointer (some ⟨E.pb,0,none⟩)] w fun e w'=>e = .panicked [{ v:=xz E q,recovered:=false }]/\Below w.heap.size w w':=by
 have HP:=qh h;have T1:=qh (fun w h=>(name_bad E q w h q1 hn).2);have T2:=qh (fun w h=>q0a E q w h);have B0:=qh ((Below.refl w.heap.size w).alloc (q5 _) (.cells #[.int .i64 0,.string ⟨#[]⟩,.slice none 0 0] 25));clear h hn;go_enter Tryz.func90,Tryz.ntmps90
 go_wp2_with fail
 refine(T1.out _ (HP.out.later B0.out)).mono ?_;rintro e u1⟨rfl,hb⟩;have B1:=qh ((B0.out.trans (hb.mono B0.out.size)).alloc (by have:=B0.out.size;have:=hb.size;omega) (.cells #[.int .i64 0,.string ⟨#[]⟩,.slice none 0 0] 25));clear hb
 go_wp2_with fail
 refine(T2.out _ (HP.out.later B1.out)).mono ?_;rintro e u2⟨rfl,hb⟩;go_wp2;exact⟨rfl,rfl,B1.out.trans (hb.mono B1.out.size)⟩
theorem qej(E:PE)(hsn:vt E.ts)(q:Nat)(w:World)(h:PS E q w)(f:Nat)(nk:Int)(s:ByteArray)(q1:Nat)(hn:Sx.nameA E.ts q = .ok (.mk nk s []) q1)(hf:16*(E.ts.length - q1)+3<=f)
  (CT:∀ f1 p w0,f1 < f->q < p->16*(E.ts.length - p)+2<=f1->PS E p w0->Sx.txt E.ts p=[40]->Calls Tryz.prog 89 #[.pointer (some ⟨E.pb,0,none⟩)] w0 (Gr2 E w0 (zu E [41] (Sx.term E.ts f1 (p+1))))) :
  Calls Tryz.prog 90 #[.pointer (some ⟨E.pb,0,none⟩)] w (Gr E w (q06 nk s (Sx.args E.ts f [] q1))):=by
 have HP:=qh h;have hpl:=h.lt;have Hsz:=qh (vk E h.g hn).1;have hfew:=h.g.few;have Hsn:=qh hsn;have Hq1:=qh (Sx.nameA_ok hn);have T1:=qh (fun w h=>q0g E q w h nk s [] q1 hn);have D:=qh CT;have Hf:=qh hf;have B0:=qh ((Below.refl w.heap.size w).alloc (q5 _) (.cells #[.int .i64 0,.string ⟨#[]⟩,.slice none 0 0] 25));have R0:=qh (Row3.new w (.int .i64 0) (.string ⟨#[]⟩) (.slice none 0 0));obtain⟨A,hA⟩:∃ A,Sx.args E.ts f [] q1=A:=⟨_,rfl⟩;have HA:=qh hA;obtain⟨R,hR⟩:∃ R,Gr E w (q06 nk s A)=R:=⟨_,rfl⟩;have HR:=qh hR;rw[hA,hR];clear h hn CT hA hR hsn hf;go_enter Tryz.func90,Tryz.ntmps90
 go_wp2_with fail
 refine(T1.out _ (HP.out.later B0.out)).mono ?_;rintro e u1⟨rfl,hm,hp⟩;obtain⟨nb,hnb⟩:∃ nb,u1.heap.size=nb:=⟨_,rfl⟩;have hwn:w.heap.size < nb:=by rw[<-hnb];exact(R0.out.mv hm (by omega)).lt
 have M0:=qh ((Mv.before HP.out B0.out hm).alloc (.cells #[.int .i64 nk,.string s,.slice none 0 0] 25));have P0:=qh (hp.later ((Below.refl _ u1).alloc (q5 _) (.cells #[.int .i64 nk,.string s,.slice none 0 0] 25)));have R1:=qh ((R0.out.mv hm (by omega)).alloc (.cells #[.int .i64 nk,.string s,.slice none 0 0] 25));have N0:=qh (Row3.newAt (W:=u1) (n:=nb) (v0:=.int .i64 nk) (v1:=.string s) (v2:=.slice none 0 0) hnb.symm);clear hm hp
 go_wp2_with fail
 go_loopw [] (fun W=>∃ (f1 p:Nat) (acc:List Nd) (v:Value),q < p/\f1<=f/\16*(E.ts.length - p)+3<=f1/\acc.length<=p/\Hid (Sx.args E.ts f1 acc p=A)/\Hid (Mv E p w W)/\Hid (PS E p W)/\Hid (Row3 W w.heap.size (.int .i64 0) (.string ⟨#[]⟩) (.slice none 0 0))/\Hid (Row3 W nb (.int .i64 nk) (.string s) v)/\Hid (Kids (nb+1) W v acc)) (fun W=>E.ts.length+1 - nxt E W)
 case atStart =>
  exact⟨f,q1,[],.slice none 0 0,by have:=Hq1.out;omega,q5 _,Hf.out,qp _,HA,M0.out,P0.out,R1.out,N0.out,Kids.nil _ _⟩
 case round =>
  obtain⟨f1,p,acc,v,hqp,hff,hf1,hacc,hrun,hM,hP,hRw,hN,hK⟩:=hrel;clear T1 N0 M0 P0 R1;obtain⟨f2,rfl⟩:∃ f2,f1=f2+1:=⟨f1 - 1,by omega⟩;obtain⟨va,vcap,rfl,_⟩:=hK.out.shape;have hple:=hP.out.le;have hnl:=hN.out.lt;have hpbn:E.pb < nb:=by omega
  have hmeas:=hP.out.nxt
  cases hnm:Sx.nameA E.ts p with
  |ok x p1 =>
   obtain⟨k2,s2,l2⟩:=x;obtain⟨hsz2,rfl⟩:=vk E hP.out.g hnm;have hp1:=Sx.nameA_ok hnm;have hne:Sx.txt E.ts p≠[40]:=Hsn.out p (qi0 hnm) [40] (by decide);have HA':Hid (Sx.args E.ts f2 (acc++[.mk k2 s2 []]) p1=A):=qh ((qm4 _ _ _ _ _ _ hne hnm).symm.trans hrun.out);have TN:=qh (fun w h=>q0g E p w h k2 s2 [] p1 hnm);have HS2:=qh hsz2;have Hp1:=qh hp1;clear hnm hne hsz2 hp1 hrun
   go_wp2_with fail
   refine(TN.out _ hP.out).mono ?_;rintro e W1⟨rfl,hm,hp⟩;have M1:=qh (Mv.trans HP.out hM.out hple hm);have P1:=qh hp;have R1:=qh (hRw.out.mv hm (by omega));have N1:=qh (hN.out.mv hm (by omega));have K1:=qh (Kids.step hm (by omega) hK.out);obtain⟨⟨n0,n1,n2⟩,g0,g1,g2⟩:=N1.out.cells;have ln:=N1.out.lt;have hown:=qh K1.out.own;clear hm hp TN
   go_wp2_with (at_builtin;refine q2t rfl _ _ rfl (nb+1) (.slice va acc.length vcap) acc rfl (K1.out.keep fun b _ hb2=>(Below.heap_alloc _ _ _ (by simp;omega)).trans (Below.heap_alloc _ _ _ hb2)) ⟨W1.heap.size+1,0,none⟩ 1 (by rfl) (.mk k2 s2 []) (.int .i64 k2) (.string s2) (.slice none 0 0) (vz _ _ _ _ _ _ (by simp)) (.leaf _ _ _ _ HS2.out _ _) (by omega) (by simp;omega) _ rfl ?_;intro g6 cap6 w6 K6 G6 _ hg6;have N6:=qh (((N1.out.alloc _).alloc _).grown' G6 (fun e=>by have:=hown.out _ e.symm;omega));have R6:=qh (((R1.out.alloc _).alloc _).grown' G6 (fun e=>by have:=hown.out _ e.symm;omega));obtain⟨⟨d0,d1,d2⟩,z0,z1,z2⟩:=N6.out.cells)
   have M6:=(((M1.out.alloc (.cells #[.int .i64 k2,.string s2,.slice none 0 0] 25)).alloc _).later (((Below.refl w.heap.size _).grown G6 (by simp;omega) (fun b hb=>by have:=hown.out b hb;omega))));have hsz6:=G6.size;simp only[q6]at hsz6;have M7:=M6.later ((Below.refl w.heap.size w6).setCell (p:=⟨nb,2,none⟩) (by simp only;omega) (.slice (some ⟨g6,0,none⟩) (acc.length+1) cap6));have P7:=M7.ps HP.out P1.out.le;have hm7:=P7.nxt;have K7:=K6.keep (w':=w6.setCell ⟨nb,2,none⟩ (.slice (some ⟨g6,0,none⟩) (acc.length+1) cap6)) fun b hb1 _=>Below.heap_setCell _ _ _ _ (by simp only;omega)
   have HH:=qh (And.intro (N6.out.put2 (.slice (some ⟨g6,0,none⟩) (acc.length+1) cap6)) (And.intro (R6.out.other (p:=⟨nb,2,none⟩) (.slice (some ⟨g6,0,none⟩) (acc.length+1) cap6) (by simp only;omega)) (And.intro K7 (And.intro M7 P7))));have Hm7:=qh hm7;have Hmeas:=qh hmeas;clear hmeas hm7 P7 M7 K7 M6;go_roundw
   case rel=>exact⟨f2,p1,acc++[Nd.mk k2 s2 []],_,by have:=Hp1.out;omega,by omega,by have:=Hp1.out;omega,by have:=Hp1.out;simp;omega,HA',HH.out.2.2.2.1,HH.out.2.2.2.2,HH.out.2.1,HH.out.1,HH.out.2.2.1⟩
   case measure=>rw[Hm7.out,Hmeas.out];have:=Hp1.out;omega
  |bad p1 =>
   have TN:=qh (fun w h=>(name_bad E p w h p1 hnm).2)
   by_cases ht:Sx.txt E.ts p=[40]
   ·have hlt:=Sx.txt_at ht
    obtain⟨rb,hrb⟩:∃ rb,zu E [41] (Sx.term E.ts f2 (p+1))=rb:=⟨_,rfl⟩;have DB:=qh (fun w0 h0=>D.out f2 p w0 (by omega) hqp (by omega) h0 ht);rw[hrb]at DB;have HA':Hid (A=qoe E.ts f2 acc rb):=qh (by rw[<-hrun.out,<-hrb];exact qj8 E f2 acc p ht);have Hgo:Hid (∀ a r,rb = .ok a r->p < r/\r<=E.ts.length):=qh (fun a r e=>qho E f2 p (hrb.trans e));clear hrb ht hnm hrun
    cases rb with
    |bad r =>
     go_wp2_with fail
     refine(TN.out _ hP.out).mono ?_;rintro e W1⟨rfl,hb⟩;have M1:=qh ((hM.out.later (hb.mono hM.out.size)).alloc (.cells #[.int .i64 0,.string ⟨#[]⟩,.slice none 0 0] 25));have P1:=qh ((hP.out.later hb).later ((Below.refl _ W1).alloc (q5 _) (.cells #[.int .i64 0,.string ⟨#[]⟩,.slice none 0 0] 25)));clear hb
     go_wp2_with fail
     refine(DB.out _ P1.out).mono ?_;rintro e W2⟨rfl,hm,hq⟩;have M2:=Mv.trans HP.out M1.out hple hm;go_wp2;rw[<-HR.out,HA'.out];exact⟨rfl,rfl,M2,hq⟩
    |ok x p1 =>
     obtain⟨k2,s2,l2⟩:=x;have hpp1:=Hgo.out _ _ rfl
     go_wp2_with fail
     refine(TN.out _ hP.out).mono ?_;rintro e W1⟨rfl,hb⟩;have M1:=qh ((hM.out.later (hb.mono hM.out.size)).alloc (.cells #[.int .i64 0,.string ⟨#[]⟩,.slice none 0 0] 25));have P1:=qh ((hP.out.later hb).later ((Below.refl _ W1).alloc (q5 _) (.cells #[.int .i64 0,.string ⟨#[]⟩,.slice none 0 0] 25)));have R1:=qh ((hRw.out.below hb hRw.out.lt).alloc (.cells #[.int .i64 0,.string ⟨#[]⟩,.slice none 0 0] 25));have N1:=qh ((hN.out.below hb hnl).alloc (.cells #[.int .i64 0,.string ⟨#[]⟩,.slice none 0 0] 25));have K1:=qh (hK.out.keep fun b _ h2=>hb.block b h2);have KP1:=qh ((Kp.refl (nb+1) W1).alloc (.cells #[.int .i64 0,.string ⟨#[]⟩,.slice none 0 0] 25));have X1:=qh (Row3.new W1 (.int .i64 0) (.string ⟨#[]⟩) (.slice none 0 0));have hx1:nb < W1.heap.size:=qs hnl hb.size;clear hb
     go_wp2_with fail
     refine(DB.out _ P1.out).mono ?_;rintro e W2⟨⟨a2,cap2,rfl,hn2⟩,hm,hq⟩;have M2:=qh (Mv.trans HP.out M1.out hple hm);have R2:=qh (R1.out.mv hm (by omega));have N2:=qh (N1.out.mv hm (by omega));have X2:=qh (X1.out.mv hm (by omega));have KP2:=qh (KP1.out.mv hm (by omega));obtain⟨⟨n0,n1,n2⟩,g0,g1,g2⟩:=N2.out.cells;obtain⟨⟨x0,x1,x2⟩,y0,y1,y2⟩:=X2.out.cells;have ln:=N2.out.lt;have lx:=X2.out.lt;have hown:=qh K1.out.own;have hNS:=qh hn2;have Hq:=qh hq;have hle2:=hm.size;simp only[q6]at hle2;have KX:=qh (KP2.out.put3x (b:=W1.heap.size) (.int .i64 k2) (.string s2) (.slice a2 l2.length cap2) (q5 _));have NX:=qh (N2.out.put3o (c:=W1.heap.size) (by omega) (.int .i64 k2) (.string s2) (.slice a2 l2.length cap2));have RX:=qh (R2.out.put3o (c:=W1.heap.size) (by omega) (.int .i64 k2) (.string s2) (.slice a2 l2.length cap2));have MX:=qh (M2.out.put3 (b:=W1.heap.size) (by omega) (.int .i64 k2) (.string s2) (.slice a2 l2.length cap2));have SX:=qh (hn2.fin (h:=(W1.alloc (.cells #[.int .i64 0,.string ⟨#[]⟩,.slice none 0 0] 25)).heap.size) (q5 _) ((Kp.refl _ W2).put3 (b:=W1.heap.size) (.int .i64 k2) (.string s2) (.slice a2 l2.length cap2) (by simp)));clear hm hq hn2 TN DB
     go_wp2_with (at_builtin;refine q2t rfl _ _ rfl (nb+1) (.slice va acc.length vcap) acc rfl (K1.out.kp (KX.out.alloc _)) ⟨W2.heap.size,0,none⟩ 1 (by rfl) (.mk k2 s2 l2) (.int .i64 k2) (.string s2) (.slice a2 l2.length cap2) (vz _ _ _ _ _ _ (by simp only[qq])) (SX.out.keep fun b hb1 hb2=>⟨Below.heap_alloc _ _ _ hb2,by simp at hb1;omega,fun e=>by have:=hown.out b e;simp at hb1;omega⟩) (by omega) (by simp;omega) _ rfl ?_;intro g6 cap6 w6 K6 G6 _ hg6;have N6:=qh ((NX.out.alloc _).grown' G6 (fun e=>by have:=hown.out _ e.symm;omega));have R6:=qh ((RX.out.alloc _).grown' G6 (fun e=>by have:=hown.out _ e.symm;omega));obtain⟨⟨d0,d1,d2⟩,z0,z1,z2⟩:=N6.out.cells)
     have M6:=(MX.out.alloc _).later (((Below.refl w.heap.size _).grown G6 (by simp;omega) (fun b hb=>by have:=hown.out b hb;omega)));have hsz6:=G6.size;simp only[q6,qq]at hsz6;have M7:=M6.later ((Below.refl w.heap.size w6).setCell (p:=⟨nb,2,none⟩) (by simp only;omega) (.slice (some ⟨g6,0,none⟩) (acc.length+1) cap6));have P7:=M7.ps HP.out Hq.out;have hm7:=P7.nxt;have K7:=K6.keep (w':=w6.setCell ⟨nb,2,none⟩ (.slice (some ⟨g6,0,none⟩) (acc.length+1) cap6)) fun b hb1 _=>Below.heap_setCell _ _ _ _ (by simp only;omega)
     have HH:=qh (And.intro (N6.out.put2 (.slice (some ⟨g6,0,none⟩) (acc.length+1) cap6)) (And.intro (R6.out.other (p:=⟨nb,2,none⟩) (.slice (some ⟨g6,0,none⟩) (acc.length+1) cap6) (by simp only;omega)) (And.intro K7 (And.intro M7 P7))));have Hm7:=qh hm7;have Hmeas:=qh hmeas;have Hpp1:=qh hpp1;clear hmeas hm7 P7 M7 K7 M6 hpp1;go_roundw
     case rel=>exact⟨f2,p1,acc++[Nd.mk k2 s2 l2],_,by have:=Hpp1.out;omega,by omega,by have:=Hpp1.out;omega,by have:=Hpp1.out;simp;omega,qh (by rw[HA'.out];rfl),HH.out.2.2.2.1,HH.out.2.2.2.2,HH.out.2.1,HH.out.1,HH.out.2.2.1⟩
     case measure=>rw[Hm7.out,Hmeas.out];have:=Hpp1.out;omega
   ·have HA':Hid (A = .ok acc p):=qh (hrun.out.symm.trans (q5q _ _ _ _ _ ht hnm))
    have TB:=qh (fun w h=>qef E p w h ht);unfold q9h at TB;clear ht hnm hrun
    go_wp2_with fail
    refine(TN.out _ hP.out).mono ?_;rintro e W1⟨rfl,hb⟩;have M1:=qh ((hM.out.later (hb.mono hM.out.size)).alloc (.cells #[.int .i64 0,.string ⟨#[]⟩,.slice none 0 0] 25));have P1:=qh ((hP.out.later hb).later ((Below.refl _ W1).alloc (q5 _) (.cells #[.int .i64 0,.string ⟨#[]⟩,.slice none 0 0] 25)));have R1:=qh ((hRw.out.below hb hRw.out.lt).alloc (.cells #[.int .i64 0,.string ⟨#[]⟩,.slice none 0 0] 25));have N1:=qh ((hN.out.below hb hnl).alloc (.cells #[.int .i64 0,.string ⟨#[]⟩,.slice none 0 0] 25));have K1:=qh (hK.out.keep fun b _ h2=>hb.block b h2);have KP1:=qh ((Kp.refl (nb+1) W1).alloc (.cells #[.int .i64 0,.string ⟨#[]⟩,.slice none 0 0] 25));have X1:=qh (Row3.new W1 (.int .i64 0) (.string ⟨#[]⟩) (.slice none 0 0));have hx1:nb < W1.heap.size:=qs hnl hb.size;clear hb
    go_wp2_with fail
    refine(TB.out _ P1.out).mono ?_;rintro e W2⟨rfl,hb⟩;have M2:=qh (M1.out.later (hb.mono M1.out.size));have R2:=qh (R1.out.below hb R1.out.lt);have N2:=qh (N1.out.below hb N1.out.lt);have X2:=qh (X1.out.below hb X1.out.lt);have KP2:=qh (KP1.out.below hb);obtain⟨⟨r0,r1,r2⟩,t0,t1,t2⟩:=R2.out.cells;obtain⟨⟨n0,n1,n2⟩,g0,g1,g2⟩:=N2.out.cells;obtain⟨⟨x0,x1,x2⟩,y0,y1,y2⟩:=X2.out.cells;have ln:=N2.out.lt;have lx:=X2.out.lt;have lr:=R2.out.lt;have Hple:=qh hple;clear hb TN TB hmeas;have KPf:=((KP2.out.put3x (b:=W1.heap.size) (.int .i64 0) (.string ⟨#[]⟩) (.slice none 0 0) (q5 _)).put3 (b:=w.heap.size) (.int .i64 nk) (.string s) (.slice va acc.length vcap) (by omega));have ND:=qh (((K1.out.kp KPf).node nk s Hsz.out (by unfold maxLen;omega)).from (h':=w.heap.size) (by omega));have Mf:=qh ((M2.out.put3 (b:=W1.heap.size) (by omega) (.int .i64 0) (.string ⟨#[]⟩) (.slice none 0 0)).put3 (b:=w.heap.size) (q5 _) (.int .i64 nk) (.string s) (.slice va acc.length vcap));clear KPf;go_wp2;refine zg ((R2.out.put3o (by omega) _ _ _).put _ _ _) Tryz.results90 rfl rfl ?_;rw[<-HR.out,HA'.out];exact⟨⟨va,vcap,rfl,ND.out⟩,Mf.out,Hple.out⟩
theorem q5l(E:PE)(q:Nat)(w:World)(h:PS E q w)(k:Int)(g:Nat)(eg:∀ args w,(callFunc g args).run Tryz.prog w = .ok (.enter g args) w)(ty body:Nat->Sx.PR Nd)(hty:∀ p,Sx.Goes E.ts p (ty p))
  (CT:∀ p w0,q < p->PS E p w0->Calls Tryz.prog 44 #[.pointer (some ⟨E.pb,0,none⟩)] w0 (Gr E w0 (ty p)))
  (CB:∀ p w0,q < p->PS E p w0->Calls Tryz.prog g #[.pointer (some ⟨E.pb,0,none⟩)] w0 (Gr E w0 (body p))) :
  Calls Tryz.prog 88 #[.pointer (some ⟨E.pb,0,none⟩),.int .i64 k,.func (.func g) #[] #[]] w (Gr E w (Sx.binder ty body E.ts k q)):=by
 unfold Sx.binder
 cases hn:Sx.nameA E.ts q with
 |bad q1 =>
  obtain rfl:q1=q:=(name_bad E q w h q1 hn).1;refine(qfn E q1 w h k g q1 hn).mono ?_;rintro e w'⟨rfl,hb⟩;exact⟨rfl,Mv.below h hb,h.le⟩
 |ok x q1 =>
  obtain⟨nk,s,l⟩:=x;obtain⟨_,rfl⟩:=vk E h.g hn;have hq1:=Sx.nameA_ok hn;simp only
  by_cases ht:Sx.txt E.ts q1=[58]
  ·rw[qa ht]
   have CT':=fun w0 (h0:PS E (q1+1) w0)=>CT (q1+1) w0 (by omega) h0
   cases hr:ty (q1+1)with
   |bad r =>
    rw[hr]at CT';exact qfm E q w h k g eg nk s q1 hn ht r CT'
   |ok t r =>
    rw[hr]at CT';have hgo:=hty _ _ _ hr;obtain⟨k1,s1,l1⟩:=t;simp only
    by_cases hd:Sx.txt E.ts r=[46]
    ·rw[qa hd]
     have CB':=fun w0 (h0:PS E (r+1) w0)=>CB (r+1) w0 (by omega) h0
     cases hb:body (r+1)with
     |bad u =>
      rw[hb]at CB';exact qj1 E q w h k g eg nk s q1 hn ht k1 s1 l1 r CT' hd u CB'
     |ok b u =>
      rw[hb]at CB';obtain⟨k2,s2,l2⟩:=b;exact qiz E q w h k g eg nk s q1 hn ht k1 s1 l1 r CT' hd k2 s2 l2 u CB'
    ·rw[q7 hd]
     exact qj0 E q w h k g eg nk s q1 hn ht k1 s1 l1 r CT' hd
  ·rw[q7 ht]
   by_cases hd:Sx.txt E.ts q1=[46]
   ·rw[qa hd]
    have CB':=fun w0 (h0:PS E (q1+1) w0)=>CB (q1+1) w0 (by omega) h0
    cases hb:body (q1+1)with
    |bad u =>
     rw[hb]at CB';exact qj4 E q w h k g eg nk s q1 hn ht hd u CB'
    |ok b u =>
     rw[hb]at CB';obtain⟨k2,s2,l2⟩:=b;exact qj2 E q w h k g eg nk s q1 hn ht hd k2 s2 l2 u CB'
   ·rw[q7 hd]
    exact qj3 E q w h k g eg nk s q1 hn ht hd
theorem qr6:∀ args w,(callFunc 43 args).run Tryz.prog w = .ok (.enter 43 args) w:=enters_of Tryz.func43 (by kernel_rfl) rfl
theorem qls:∀ args w,(callFunc 42 args).run Tryz.prog w = .ok (.enter 42 args) w:=enters_of Tryz.func42 (by kernel_rfl) rfl
theorem qa5(E:PE)(f q:Nat):Sx.applied E.ts f q=(match Sx.nameA E.ts q with| .bad q1=>.bad q1| .ok (.mk k s _) q1=>q06 k s (Sx.args E.ts f [] q1)):=by
 unfold Sx.applied
 cases Sx.nameA E.ts q with
 |bad _=>rfl
 |ok x q1 =>
  obtain⟨k,s,l⟩:=x;simp only
  all_goals (cases Sx.args E.ts f [] q1 <;> rfl)
theorem qa4(E:PE)(hsn:vt E.ts)(f:Nat)(ih:∀ f1,f1 < f->∀ q w,PS E q w->16*(E.ts.length - q)+4<=f1->Calls Tryz.prog 43 #[.pointer (some ⟨E.pb,0,none⟩)] w (Gr E w (Sx.term E.ts f1 q)))
  (q:Nat) (w:World) (h:PS E q w) (hf:16*(E.ts.length - q)+3<=f):Calls Tryz.prog 90 #[.pointer (some ⟨E.pb,0,none⟩)] w (Gr E w (Sx.applied E.ts f q)):=by
 rw[qa5]
 cases hn:Sx.nameA E.ts q with
 |bad q1 =>
  obtain rfl:q1=q:=(name_bad E q w h q1 hn).1;refine(qek E q1 w h q1 hn).mono ?_;rintro e w'⟨rfl,hb⟩;exact⟨rfl,Mv.below h hb,h.le⟩
 |ok x q1 =>
  obtain⟨nk,s,l⟩:=x;obtain⟨_,rfl⟩:=vk E h.g hn;have hq1:=Sx.nameA_ok hn;refine qej E hsn q w h f nk s q1 hn (by omega) fun f1 p w0 hf1 hp hm h0 ht=>?_
  have hlt:=Sx.txt_at ht;exact q81 E p w0 h0 ht _ fun w1 h1=>ih f1 hf1 (p+1) w1 h1 (by omega)
theorem qco(E:PE)(hsn:vt E.ts)(f:Nat):∀ q w,PS E q w->16*(E.ts.length - q)+4<=f->Calls Tryz.prog 43 #[.pointer (some ⟨E.pb,0,none⟩)] w (Gr E w (Sx.term E.ts f q)):=by
 induction f using Nat.strongRecOn with
 |_ f ih =>
  intro q w h hf;obtain⟨f,rfl⟩:∃ f',f=f'+1:=⟨f - 1,by omega⟩
  by_cases hl:Sx.txt E.ts q=[92]
  ·have e:Sx.term E.ts (f+1) q=Sx.binder (Sx.typed E.ts f) (Sx.term E.ts f) E.ts 17 (q+1):=by
    simp only[Sx.term];rw[qa hl]
   have hlt:=Sx.txt_at hl;rw[e];refine qmg E q w h hl _ fun w0 h0=>?_
   exact q5l E (q+1) w0 h0 17 _ qr6 _ _ (Sx.typed_goes E.ts f).1 (fun p w1 hp h1=>q2c E f p w1 h1 (by omega)) (fun p w1 hp h1=>ih f (by omega) p w1 h1 (by omega))
  ·by_cases ht:Sx.txt E.ts q=[40]
   ·have hlt:=Sx.txt_at ht
    have e:Sx.term E.ts (f+1) q=zu E [41] (Sx.term E.ts f (q+1)):=by
     simp only[Sx.term,zu];rw[q7 hl,qa ht]
     all_goals (cases Sx.term E.ts f (q+1) <;> rfl)
    rw[e];refine qh2 E q w h hl _ fun w0 h0=>?_
    exact q81 E q w0 h0 ht _ fun w1 h1=>ih f (by omega) (q+1) w1 h1 (by omega)
   ·have e:Sx.term E.ts (f+1) q=Sx.applied E.ts f q:=by
     rw[qa5];simp only[Sx.term];rw[q7 hl,q7 ht]
     cases Sx.nameA E.ts q with
     |bad _=>rfl
     |ok x q1 =>
      obtain⟨k,s,l⟩:=x;simp only
      all_goals (cases Sx.args E.ts f [] q1 <;> rfl)
    rw[e];exact qmh E q w h hl ht _ fun w0 h0=>qa4 E hsn f (fun f1 hf1=>ih f1 (by omega)) q w0 h0 (by omega)
theorem qfs(E:PE)(hsn:vt E.ts)(f q:Nat)(w:World)(h:PS E q w)(hf:16*(E.ts.length - q)+3<=f):Calls Tryz.prog 90 #[.pointer (some ⟨E.pb,0,none⟩)] w (Gr E w (Sx.applied E.ts f q)) :=
 qa4 E hsn f (fun f1 _ q w h hf=>qco E hsn f1 q w h hf) q w h hf
theorem qnq(E:PE)(q:Nat)(w:World)(h:PS E q w)(q':Nat)(C1:∀ w0,PS E q w0->Calls Tryz.prog 85 #[.pointer (some ⟨E.pb,0,none⟩),.int .i64 1] w0 (Gr E w0 (.bad q'))) :
  Calls Tryz.prog 42 #[.pointer (some ⟨E.pb,0,none⟩)] w (Gr E w (.bad q')):=by
 have HP:=qh h;have D:=qh C1;have B0:=qh ((Below.refl w.heap.size w).alloc (q5 _) (.cells #[.int .i64 0,.string ⟨#[]⟩,.slice none 0 0] 25));clear h C1;go_enter Tryz.func42,Tryz.ntmps42
 go_wp2_with fail
 refine(D.out _ (HP.out.later B0.out)).mono ?_;rintro e w1⟨rfl,hm,hq⟩;go_wp2;exact⟨rfl,rfl,Mv.before HP.out B0.out hm,hq⟩
theorem qin{ts:List Lx.Tok}{f:Nat}{a:Nd}{p:Nat}(h:Sx.sgn ts 0 p=none):Sx.formR ts (f+1) a p = .ok a p:=by simp only[Sx.formR,h]
theorem qlk{ts:List Lx.Tok}{f:Nat}{a:Nd}{p:Nat}{k:Int}{r:Nat}(h:Sx.sgn ts 0 p=some k)(h2:Sx.right ts f 1 (p+1) = .bad r):Sx.formR ts (f+1) a p = .bad r:=by simp only[Sx.formR,h,h2]
theorem qnr{ts:List Lx.Tok}{f:Nat}{a c:Nd}{p:Nat}{k:Int}{r:Nat}(h:Sx.sgn ts 0 p=some k)(h2:Sx.right ts f 1 (p+1) = .ok c r):Sx.formR ts (f+1) a p=Sx.formR ts f (.mk k Sx.noS [a,c]) r:=by simp only[Sx.formR,h,h2]
theorem qlj(E:PE)(q:Nat)(w:World)(h:PS E q w)(f:Nat)(k0:Int)(s0:ByteArray)(l0:List Nd)(q1:Nat)(hq1:q < q1)(hf:16*(E.ts.length - q1)+1<=f)
  (C1:∀ w0,PS E q w0->Calls Tryz.prog 85 #[.pointer (some ⟨E.pb,0,none⟩),.int .i64 1] w0 (Gr E w0 (.ok (.mk k0 s0 l0) q1)))
  (C2:∀ f1 p w0,f1 < f->q < p->16*(E.ts.length - p)+9<=f1->PS E p w0->Calls Tryz.prog 85 #[.pointer (some ⟨E.pb,0,none⟩),.int .i64 1] w0 (Gr E w0 (Sx.right E.ts f1 1 p))) :
  Calls Tryz.prog 42 #[.pointer (some ⟨E.pb,0,none⟩)] w (Gr E w (Sx.formR E.ts f (.mk k0 s0 l0) q1)):=by
 have HP:=qh h;have hpl:=h.lt;have D1:=qh C1;have D2:=qh C2;have Hf:=qh hf;have Hq1:=qh hq1;have CO:=qh (fun p w h=>q6l E p 0 w h (by omega));have B0:=qh ((Below.refl w.heap.size w).alloc (q5 _) (.cells #[.int .i64 0,.string ⟨#[]⟩,.slice none 0 0] 25));have R0:=qh (Row3.new w (.int .i64 0) (.string ⟨#[]⟩) (.slice none 0 0));obtain⟨A,hA⟩:∃ A,Sx.formR E.ts f (.mk k0 s0 l0) q1=A:=⟨_,rfl⟩;have HA:=qh hA;obtain⟨R,hR⟩:∃ R,Gr E w A=R:=⟨_,rfl⟩;have HR:=qh hR;rw[hA,hR];clear h C1 C2 hA hR hf hq1;go_enter Tryz.func42,Tryz.ntmps42
 go_wp2_with fail
 refine(D1.out _ (HP.out.later B0.out)).mono ?_;rintro e w1⟨⟨a0,cap0,rfl,hn⟩,hm,hq⟩;obtain⟨nb,hnb⟩:∃ nb,w1.heap.size=nb:=⟨_,rfl⟩;have hwn:w.heap.size < nb:=by rw[<-hnb];exact(R0.out.mv hm (by omega)).lt
 have M0:=qh ((Mv.before HP.out B0.out hm).alloc (.cells #[.int .i64 k0,.string s0,.slice a0 l0.length cap0] 25));have P0:=qh (((Mv.before HP.out B0.out hm).ps HP.out hq).later ((Below.refl _ w1).alloc (q5 _) (.cells #[.int .i64 k0,.string s0,.slice a0 l0.length cap0] 25)));have R1:=qh ((R0.out.mv hm (by omega)).alloc (.cells #[.int .i64 k0,.string s0,.slice a0 l0.length cap0] 25));have N0:=qh (Row3.newAt (W:=w1) (n:=nb) (v0:=.int .i64 k0) (v1:=.string s0) (v2:=.slice a0 l0.length cap0) hnb.symm);have T0:=qh (NdS.keep (S':=fun b=>w.heap.size < b/\b≠nb) (w':=w1.alloc (.cells #[.int .i64 k0,.string s0,.slice a0 l0.length cap0] 25)) (fun b h1 h2=>⟨Below.heap_alloc _ _ _ h2,by simp at h1;omega,by omega⟩) hn);clear hm hq hn
 go_wp2_with fail
 go_loopw [] (fun W=>∃ (f1 p:Nat) (k:Int) (s:ByteArray) (l:List Nd) (a:Option Addr) (cap:Nat),q < p/\f1<=f/\16*(E.ts.length - p)+1<=f1/\Hid (Sx.formR E.ts f1 (.mk k s l) p=A)/\Hid (Mv E p w W)/\Hid (PS E p W)/\Hid (Row3 W w.heap.size (.int .i64 0) (.string ⟨#[]⟩) (.slice none 0 0))/\Hid (Row3 W nb (.int .i64 k) (.string s) (.slice a l.length cap))/\Hid (NdS (fun b=>w.heap.size < b/\b≠nb) W (.mk k s l) (.int .i64 k) (.string s) (.slice a l.length cap))) (fun W=>E.ts.length+1 - nxt E W)
 case atStart =>
  exact⟨f,q1,k0,s0,l0,a0,cap0,Hq1.out,q5 _,Hf.out,HA,M0.out,P0.out,R1.out,N0.out,T0.out⟩
 case round =>
  obtain⟨f1,p,k,s,l,a,cap,hqp,hff,hf1,hrun,hM,hP,hRw,hN,hT⟩:=hrel;clear D1 N0 M0 P0 R1 T0;obtain⟨f2,rfl⟩:∃ f2,f1=f2+1:=⟨f1 - 1,by omega⟩;have hple:=hP.out.le;have hnl:=hN.out.lt;have hrl:=hRw.out.lt;have hpbn:E.pb < nb:=by omega
  have Hmeas:=qh hP.out.nxt;obtain⟨o,ho⟩:∃ o,jg (Sx.txt E.ts p) 0 opsL=o:=⟨_,rfl⟩;have CP:=qh (CO.out p);rw[ho]at CP;have ho':Sx.sgn E.ts 0 p=o:=by rw[<-q9e E.ts p 0 (by omega)];exact ho
  cases o with
  |none =>
   have HA':=qh (hrun.out.symm.trans (qin ho'));clear ho ho' CO hrun
   go_wp2_with fail
   refine(CP.out _ hP.out).mono ?_;rintro e W1⟨h0,_⟩;obtain⟨rfl,hb⟩:=h0 rfl;have M1:=qh (hM.out.later (hb.mono hM.out.size));have R1:=qh (hRw.out.below hb hrl);have N1:=qh (hN.out.below hb hnl);have T1:=qh (NdS.keep (S':=fun b=>w.heap.size < b/\b≠nb) (w':=W1) (fun b h1 h2=>⟨hb.block b h2,h1⟩) hT.out);obtain⟨⟨r0,r1,r2⟩,t0,t1,t2⟩:=R1.out.cells;obtain⟨⟨n0,n1,n2⟩,g0,g1,g2⟩:=N1.out.cells;have ln:=N1.out.lt;have lr:=R1.out.lt;have Hple:=qh hple;have TF:=qh (NdS.keep (S':=fun b=>w.heap.size<=b) (w':=((W1.setCell ⟨w.heap.size,0,none⟩ (.int .i64 k)).setCell ⟨w.heap.size,1,none⟩ (.string s)).setCell ⟨w.heap.size,2,none⟩ (.slice a l.length cap)) (fun b h1 h2=>⟨((Kp.refl (w.heap.size+1) W1).put3 (b:=w.heap.size) _ _ _ (by omega)).blk b (by omega) h2,by omega⟩) T1.out);clear hb CP h0;go_wp2;refine zg (R1.out.put _ _ _) Tryz.results42 rfl rfl ?_;rw[<-HR.out,HA'.out];exact⟨⟨a,cap,rfl,TF.out⟩,M1.out.put3 (q5 _) _ _ _,Hple.out⟩
  |some kk =>
   have hlt:=Sx.sgn_lt ho';obtain⟨r2,hr2⟩:∃ r,Sx.right E.ts f2 1 (p+1)=r:=⟨_,rfl⟩;have DB:=qh (fun w0 h0=>D2.out f2 (p+1) w0 (by omega) (by omega) (by omega) h0);rw[hr2]at DB
   cases r2 with
   |bad qb =>
    have HA':=qh (hrun.out.symm.trans (qlk ho' hr2));clear ho ho' CO hrun hr2
    go_wp2_with fail
    refine(CP.out _ hP.out).mono ?_;rintro e W1⟨_,h0⟩;obtain⟨rfl,hm,hp⟩:=h0 kk rfl;have M1:=qh (Mv.trans HP.out hM.out hple hm);have P1:=qh hp;have N1:=qh (hN.out.mv hm (by omega));obtain⟨⟨n0,n1,n2⟩,g0,g1,g2⟩:=N1.out.cells;have ln:=N1.out.lt;clear hm hp CP h0
    have F:Hid (∀ w5,Mv E qb W1.drew w5->qb<=E.ts.length->R (.panicked [{ v:=xz E qb,recovered:=false }]) w5):=qh fun w5 hm5 hq5=>by
     rw[<-HR.out,HA'.out];exact⟨rfl,Mv.trans HP.out (M1.out.later (below_drewN (Below.refl _ _) 1)) P1.out.le hm5,hq5⟩
    go_wp2_with fail
    go_region_dies
    all_goals refine(DB.out _ (P1.out.later (Below.refl _ _).drew)).mono ?_
    all_goals rintro e w5 ⟨rfl,hm5,hq5⟩
    all_goals exact⟨rfl,F.out w5 hm5 hq5⟩
   |ok c p2 =>
    obtain⟨k2,s2,l2⟩:=c;have HA':=qh ((qnr ho' hr2).symm.trans hrun.out);have hgo:=(Sx.form_goes E.ts f2).2.1 1 _ _ _ hr2;clear ho ho' CO hrun hr2
    go_wp2_with fail
    refine(CP.out _ hP.out).mono ?_;rintro e W1⟨_,h0⟩;obtain⟨rfl,hm,hp⟩:=h0 kk rfl;have M1:=qh (Mv.trans HP.out hM.out hple hm);have P1:=qh hp;have N1:=qh (hN.out.mv hm (by omega));have R1:=qh (hRw.out.mv hm (by omega));have T1:=qh (NdS.keep (S':=fun b=>w.heap.size < b/\b≠nb) (w':=W1) (fun b h1 h2=>⟨hm.blk b h2 (by omega),h1⟩) hT.out);obtain⟨⟨n0,n1,n2⟩,g0,g1,g2⟩:=N1.out.cells;have ln:=N1.out.lt;have Hgo:=qh hgo;clear hm hp CP h0 hgo
    go_wp2_with fail
    go_region_law (first
     |(go_simp;go_at_call 85;refine(DB.out _ (P1.out.later (Below.refl _ _).drew)).mono ?_;rintro e w5 ⟨⟨a5,cap5,rfl,hn5⟩,hm5,hq5⟩;have hm5':=Mv.before P1.out (Below.refl _ _).drew hm5;have N5:=qh (N1.out.mv hm5' (by omega));have R5:=qh (R1.out.mv hm5' (by omega));obtain⟨⟨c0,c1,c2⟩,y0,y1,y2⟩:=N5.out.cells;have l5:=N5.out.lt)
     |(go_simp;go_at_call 70;refine(qdg kk k k2 s s2 a a5 l.length l2.length cap cap5 w5).mono ?_;rintro e w6 ⟨g,rfl,hg,htw,hb6⟩;have N6:=qh (N5.out.below hb6 N5.out.lt);have R6:=qh (R5.out.below hb6 R5.out.lt);obtain⟨⟨d0,d1,d2⟩,z0,z1,z2⟩:=N6.out.cells))
    all_goals
     have hs5:=hm5'.size;have hgw:nb < g:=by omega
     obtain⟨V,hV⟩:∃ V,((w6.setCell ⟨nb,0,none⟩ (.int .i64 kk)).setCell ⟨nb,1,none⟩ (.string ⟨#[]⟩)).setCell ⟨nb,2,none⟩ (.slice (some ⟨g,0,none⟩) 2 2)=V:=⟨_,rfl⟩
     have hkv:∀ b,b≠nb->V.heap[b]?=w6.heap[b]?:=fun b hb=>by
      rw[<-hV];exact(Below.heap_setCell _ _ _ _ hb).trans ((Below.heap_setCell _ _ _ _ hb).trans (Below.heap_setCell _ _ _ _ hb))
     have hb6s:=hb6.size;have TL:=NdS.keep (S':=fun b=>w.heap.size < b/\b≠nb) (w':=V) (fun b h1 h2=>⟨(hkv b h1.2).trans ((hb6.block b (by omega)).trans (hm5'.blk b h2 (by omega))),h1⟩) T1.out;have TR:=NdS.keep (S':=fun b=>w.heap.size < b/\b≠nb) (w':=V) (fun b h1 h2=>⟨(hkv b (by have:W1.heap.size<=b:=h1;omega)).trans (hb6.block b h2),by have:W1.heap.size<=b:=h1;omega,by have:W1.heap.size<=b:=h1;omega⟩) hn5
     have TW:Two V g (.int .i64 k) (.string s) (.slice a l.length cap) (.int .i64 k2) (.string s2) (.slice a5 l2.length cap5):=by
      obtain⟨t,ht⟩:=htw;exact⟨t,(hkv g (by omega)).trans ht⟩
     have NN:=qh (NdS.two TW ⟨by omega,by omega⟩ TL TR kk 2 (q5 _));have M7:=qh (show Mv E p2 w V by rw[<-hV];exact((Mv.trans HP.out M1.out P1.out.le hm5').later (hb6.mono (by omega))).put3 (b:=nb) (by omega) _ _ _);have P7:=qh (M7.out.ps HP.out hq5);have N7:=qh (show Row3 V nb (.int .i64 kk) (.string Sx.noS) (.slice (some ⟨g,0,none⟩) 2 2)by rw[<-hV];exact N6.out.put _ _ _);have R7:=qh (show Row3 V w.heap.size (.int .i64 0) (.string ⟨#[]⟩) (.slice none 0 0)by rw[<-hV];exact R6.out.put3o (by omega) _ _ _);have Hm7:=qh P7.out.nxt;rw[hV];clear TL TR TW hV hkv htw hb6 hm5 hm5' hn5 hs5 hq5 N5 R5 N6 R6 c0 c1 c2 y0 y1 y2 l5 d0 d1 d2 z0 z1 z2 n0 n1 n2 g0 g1 g2
     go_wp2_with fail
     go_roundw
     case rel=>exact⟨f2,p2,kk,Sx.noS,[Nd.mk k s l,Nd.mk k2 s2 l2],some ⟨g,0,none⟩,2,by have:=Hgo.out;omega,by omega,by have:=Hgo.out;omega,HA',M7,P7,R7,N7,NN⟩
     case measure=>rw[Hm7.out,Hmeas.out];have:=Hgo.out;omega
attribute [local go_sem] jn jm jk
theorem qbo(i:Nat)(hi:i < 20)(w:World):∃ s k,openL[i]?=some (s,k)/\(Instr.index 161 (.agg openArr) (.int .i64 (i:Nat))).run Tryz.prog w = .ok (.agg #[S_ s,.int .i64 k]) w:=by
 match i,hi with
 |0,_=>exact⟨_,_,rfl,by kernel_rfl⟩
 |1,_=>exact⟨_,_,rfl,by kernel_rfl⟩
 |2,_=>exact⟨_,_,rfl,by kernel_rfl⟩
 |3,_=>exact⟨_,_,rfl,by kernel_rfl⟩
 |4,_=>exact⟨_,_,rfl,by kernel_rfl⟩
 |5,_=>exact⟨_,_,rfl,by kernel_rfl⟩
 |6,_=>exact⟨_,_,rfl,by kernel_rfl⟩
 |7,_=>exact⟨_,_,rfl,by kernel_rfl⟩
 |8,_=>exact⟨_,_,rfl,by kernel_rfl⟩
 |9,_=>exact⟨_,_,rfl,by kernel_rfl⟩
 |10,_=>exact⟨_,_,rfl,by kernel_rfl⟩
 |11,_=>exact⟨_,_,rfl,by kernel_rfl⟩
 |12,_=>exact⟨_,_,rfl,by kernel_rfl⟩
 |13,_=>exact⟨_,_,rfl,by kernel_rfl⟩
 |14,_=>exact⟨_,_,rfl,by kernel_rfl⟩
 |15,_=>exact⟨_,_,rfl,by kernel_rfl⟩
 |16,_=>exact⟨_,_,rfl,by kernel_rfl⟩
 |17,_=>exact⟨_,_,rfl,by kernel_rfl⟩
 |18,_=>exact⟨_,_,rfl,by kernel_rfl⟩
 |19,_=>exact⟨_,_,rfl,by kernel_rfl⟩
 |i+20,h=>exact absurd h (by omega)
theorem qfz{w:World}(h:GLw w):(loadVar 161 ⟨0,0,none⟩).run Tryz.prog w = .ok (.agg openArr) w:=by
 obtain⟨t,fr,h1⟩:=h.g0;exact run_loadVar_row w 0 t _ openArr fr _ h1 Tryz.underlying161 rfl (by kernel_rfl)
theorem qo4:∃ z,∀ w,(zeroValue 157).run Tryz.prog w = .ok z w:=⟨_,fun w=>by rfl⟩
def q9k(t:Lx.Bs)(l:List (List UInt8×Int)):Int:=l.foldl (fun acc o=>if o.1=t then o.2 else acc) 0
theorem qi9{t:Lx.Bs}{i:Nat}{s:List UInt8}{k:Int}(h:openL[i]?=some (s,k)):q9k t (openL.take (i+1))=if s=t then k else q9k t (openL.take i):=by
 have hi:i < openL.length:=(List.getElem?_eq_some_iff.1 h).1;unfold q9k;rw[qw hi,List.foldl_append,(List.getElem?_eq_some_iff.1 h).2];rfl
theorem q7w(E:PE)(q:Nat)(w:World)(h:PS E q w)(mb:Nat)(L:List (List UInt8×Value))(hm:∀ W,PS E q W->StrMap W mb L)(hf:js L (Sx.txt E.ts q)=none) :
  Calls Tryz.prog 82 #[.pointer (some ⟨E.pb,0,none⟩),.map (some mb)] w fun e w'=>e = .panicked [{ v:=xz E q,recovered:=false }]/\Below w.heap.size w w':=by
 have HP:=qh h;have C:=qh (fun w h=>jy E q w h);have D:=qh (fun w h=>q0a E q w h);unfold wo at C;have B0:=qh ((Below.refl w.heap.size w).alloc (q5 _) (.cells #[.int .i64 0,.string ⟨#[]⟩,.slice none 0 0] 25));have HM:=qh hm;have HF:=qh hf;obtain⟨z,hz⟩:=qo4;have HZ:=qh hz;clear h hm hf hz;go_enter Tryz.func82,Tryz.ntmps82
 go_wp2_with fail
 refine(C.out _ (HP.out.later B0.out)).mono ?_;rintro e w1⟨rfl,hb⟩;have B1:=qh (B0.out.trans (hb.mono B0.out.size));have P1:=qh (HP.out.later B1.out);have SM:=qh (HM.out w1 P1.out);clear hb
 go_wp2_with (refine q2s rfl _ _ _ rfl Tryz.underlying100 Tryz.underlying9 (HZ.out _) rfl SM.out (Sx.txt E.ts q) rfl ?_;rw[HF.out];simp only[Option.getD_none,Option.isSome_none])
 refine(D.out _ P1.out).mono ?_;rintro e w2⟨rfl,hb⟩;go_wp2;exact⟨rfl,rfl,B1.out.trans (hb.mono B1.out.size)⟩
theorem zl(E:PE)(q:Nat)(w:World)(h:PS E q w)(mb:Nat)(L:List (List UInt8×Value))(hm:∀ W,PS E q W->StrMap W mb L)(g:Nat)(eg:∀ args w,(callFunc g args).run Tryz.prog w = .ok (.enter g args) w)(hf:js L (Sx.txt E.ts q)=some (F_ g))(hq:q < E.ts.length)
  (k:Int) (hk:q9k (Sx.txt E.ts q) openL=k) (r:Sx.PR Nd) (CG:∀ w0,PS E (q+1) w0->Calls Tryz.prog g #[.pointer (some ⟨E.pb,0,none⟩),.int .i64 k] w0 (Gr E w0 r)) :
  Calls Tryz.prog 82 #[.pointer (some ⟨E.pb,0,none⟩),.map (some mb)] w (Gr E w r):=by
 have HP:=qh h;have hpl:=h.lt;have hfew:=h.g.few;have C:=qh (fun w h=>jy E q w h);unfold wo at C;have B0:=qh ((Below.refl w.heap.size w).alloc (q5 _) (.cells #[.int .i64 0,.string ⟨#[]⟩,.slice none 0 0] 25));have R0:=qh (Row3.new w (.int .i64 0) (.string ⟨#[]⟩) (.slice none 0 0));have HM:=qh hm;have HF:=qh hf;have HK:=qh hk;have DG:=qh CG;have Hq:=qh hq;obtain⟨z,hz⟩:=qo4;have HZ:=qh hz;obtain⟨t,ht⟩:∃ t,Sx.txt E.ts q=t:=⟨_,rfl⟩;rw[ht]at HF HK C;obtain⟨y,hy⟩:∃ y,Sx.str t=y:=⟨_,rfl⟩;rw[hy]at C;have HY:Hid (Value.string y=S_ t):=qh (by rw[<-hy];rfl);have Hy:=qh hy;clear hy;have HT:=qh ht;obtain⟨R,hR⟩:∃ R,Gr E w r=R:=⟨_,rfl⟩;have HR:=qh hR;rw[hR];clear h hm hf hz hk CG ht hR;go_enter Tryz.func82,Tryz.ntmps82
 go_wp2_with fail
 refine(C.out _ (HP.out.later B0.out)).mono ?_;rintro e w1⟨rfl,hb⟩;have B1:=qh (B0.out.trans (hb.mono B0.out.size));have P1:=qh (HP.out.later B1.out);have R1:=qh (R0.out.below hb (by simp));have SM:=qh (HM.out w1 P1.out);obtain⟨_,c1,_⟩:=P1.out.cells;have f1:=P1.out.frozen 1;have lp:=P1.out.lt
 have M2:=qh (show Mv E (q+1) w (w1.setCell ⟨E.pb,1,none⟩ (.int .i64 ((q:Int)+1)))by
  have:=Mv.step (q':=q+1) HP.out B1.out;push_cast at this
  exact this)
 have HGL:=qh (qfz (M2.out.ps HP.out Hq.out).g.gl);clear hb C
 go_wp2_with (first
  |(refine q2s rfl _ _ _ rfl Tryz.underlying100 Tryz.underlying9 (HZ.out _) rfl SM.out t HY.out ?_;rw[HF.out];simp only[Option.getD_some,Option.isSome_some,F_])
  |(refine ym rfl _ _ rfl HGL.out ?_))
 obtain⟨W,hW⟩:∃ W,w1.setCell ⟨E.pb,1,none⟩ (.int .i64 ((q:Int)+1))=W:=⟨_,rfl⟩;rw[hW]at M2;rw[hW];have R2:=qh (show Row3 W w.heap.size (.int .i64 0) (.string ⟨#[]⟩) (.slice none 0 0)by rw[<-hW];exact R1.out.other _ (by simp only;omega));clear hW HGL c1 f1
 go_loopw [8,32] (fun v8 v32 wr=>∃ (i:Nat) (kk:Int),i<=20/\v32 = .int .i64 i/\v8 = .int .i64 kk/\Hid (q9k t (openL.take i)=kk)/\Hid (Below W.heap.size W wr)) (fun _ v32 _=>20 - (intOf v32).toNat)
 case atStart=>exact⟨0,0,qp _,rfl,rfl,rfl,Below.refl _ _⟩
 case round =>
  obtain⟨i,kk,hi,rfl,rfl,hrun,hbl⟩:=hrel
  by_cases hlt:i < 20
  ·have hlt':(i:Int) < 20:=by omega
   obtain⟨s,k3,hget,hidx⟩:=qbo i hlt wr;have Hidx:=qh hidx;have Hst:=qh (qi9 (t:=t) hget);unfold S_ at Hidx;obtain⟨xs,hxs⟩:∃ xs,(⟨s.toArray⟩:ByteArray)=xs:=⟨_,rfl⟩;rw[hxs]at Hidx;have Hxs:=qh hxs;have hm1:(i:Int)+1<=20:=by omega
   clear hidx hget
   by_cases hs:s=t
   ·have HF2:=qh (Hst.out.trans (qa hs))
    obtain rfl:xs=y:=by rw[<-hxs,<-Hy.out,hs];rfl
    clear hs hxs
    go_wp2_with (refine xi rfl _ _ _ rfl rfl rfl Hidx.out ?_)
    go_roundw
    case rel=>exact⟨i+1,k3,hlt,by push_cast;rfl,rfl,HF2,hbl.out.alloc hbl.out.size _⟩
    case measure=>simp[intOf];omega
   ·have HF2:=qh (Hst.out.trans ((q7 hs).trans hrun.out))
    have e1:(xs.toList==y.toList)=false:=qeg (fun e=>hs (by
     rw[<-hxs,<-Hy.out]at e;have:=congrArg (fun x:ByteArray=>x.data.toList) e
     simpa[Sx.str]using this))
    clear hs hxs
    go_wp2_with (refine xi rfl _ _ _ rfl rfl rfl Hidx.out ?_)
    go_roundw
    case rel=>exact⟨i+1,kk,hlt,by push_cast;rfl,rfl,HF2,hbl.out.alloc hbl.out.size _⟩
    case measure=>simp[intOf];omega
  ·have hlt':¬ ((i:Int) < 20):=by omega
   obtain rfl:i=20:=by omega
   have hkk:kk=k:=hrun.out.symm.trans HK.out;subst hkk;have M3:=qh (M2.out.later (hbl.out.mono M2.out.size));have P3:=qh (M3.out.ps HP.out Hq.out);have R3:=qh (R2.out.below hbl.out R2.out.lt)
   cases r with
   |bad q' =>
    go_wp2_with fail
    refine(DG.out _ P3.out).mono ?_;rintro e w5⟨rfl,hm,hq5⟩;have M5:=Mv.trans HP.out M3.out P3.out.le hm;go_wp2;rw[<-HR.out];exact⟨rfl,rfl,M5,hq5⟩
   |ok x q1 =>
    obtain⟨k1,s1,l1⟩:=x
    go_wp2_with fail
    refine(DG.out _ P3.out).mono ?_;rintro e w5⟨⟨a,cap,rfl,hn⟩,hm,hq5⟩;have M5:=qh (Mv.trans HP.out M3.out P3.out.le hm);have N5:=qh (hn.from R3.out.lt);have R5:=qh (R3.out.mv hm (by omega));have Hq5:=qh hq5;obtain⟨⟨n0,n1,n2⟩,g0,g1,g2⟩:=R5.out.cells;have lr:=R5.out.lt;clear hm hn hq5;go_wp2;refine zg (R5.out.put _ _ _) Tryz.results82 rfl rfl ?_;rw[<-HR.out];exact⟨⟨a,cap,rfl,N5.out.fin (Nat.le_succ _) ((Kp.refl (w.heap.size+1) w5).put3 (b:=w.heap.size) _ _ _ (by omega))⟩,M5.out.put3 (q5 _) _ _ _,Hq5.out⟩
attribute [local go_sem] jn jm jk
theorem q9v(k:Int)(s:ByteArray)(v:Value)(w:World):(Instr.field 25 (.agg #[.int .i64 k,.string s,v]) 1).run Tryz.prog w = .ok (.string s) w:=by rfl
attribute [local go_sem] q9v
theorem qbi(E:PE)(q:Nat)(w:World)(h:PS E q w)(k:Int):Calls Tryz.prog 139 #[.pointer (some ⟨E.pb,0,none⟩),.int .i64 k] w (Gr E w (.ok (.mk k Sx.noS []) q)):=by
 have HP:=qh h;obtain⟨R,hR⟩:∃ R,Gr E w (.ok (.mk k Sx.noS []) q)=R:=⟨_,rfl⟩;have HR:=qh hR;rw[hR];clear h hR;go_enter Tryz.func139,Tryz.ntmps139;go_wp2;refine zg (Row3.new w _ _ _) Tryz.results139 rfl rfl ?_;rw[<-HR.out];exact⟨⟨none,0,rfl,.leaf _ _ _ _ (by unfold maxLen;decide) _ _⟩,Mv.below HP.out ((Below.refl _ w).alloc (q5 _) _),HP.out.le⟩
def q2j(k:Int):Sx.PR Nd->Sx.PR Nd
 | .bad q=>.bad q
 | .ok (.mk _ s _) q=>.ok (.mk k s []) q
theorem q4y(E:PE)(q:Nat)(w:World)(h:PS E q w)(k:Int):Calls Tryz.prog 136 #[.pointer (some ⟨E.pb,0,none⟩),.int .i64 k] w (Gr E w (q2j k (Sx.small E.ts q))):=by
 have HP:=qh h;have hpl:=h.lt;have D:=qh (fun w h=>q4j E q w h);have B0:=qh ((Below.refl w.heap.size w).alloc (q5 _) (.cells #[.int .i64 0,.string ⟨#[]⟩,.slice none 0 0] 25));have R0:=qh (Row3.new w (.int .i64 0) (.string ⟨#[]⟩) (.slice none 0 0));generalize Sx.small E.ts q=r at *;obtain⟨R,hR⟩:∃ R,Gr E w (q2j k r)=R:=⟨_,rfl⟩;have HR:=qh hR;rw[hR];clear h hR
 cases r with
 |bad q' =>
  go_enter Tryz.func136,Tryz.ntmps136
  go_wp2_with fail
  refine(D.out _ (HP.out.later B0.out)).mono ?_;rintro e w1⟨rfl,hm,hq⟩;go_wp2;rw[<-HR.out];exact⟨rfl,rfl,Mv.before HP.out B0.out hm,hq⟩
 |ok t q1 =>
  obtain⟨k1,s1,l1⟩:=t;go_enter Tryz.func136,Tryz.ntmps136
  go_wp2_with fail
  refine(D.out _ (HP.out.later B0.out)).mono ?_;rintro e w1⟨⟨a,cap,rfl,hn⟩,hm,hq⟩;have M1:=qh (Mv.before HP.out B0.out hm);have R1:=qh (R0.out.mv hm (by omega));have Hq:=qh hq;have HS:Hid (s1.size<=maxLen):=qh (by obtain⟨k',s',l',a',c',e1,_,e3,_,h5,_⟩:=hn.form;cases e1;exact h5);obtain⟨⟨n0,n1,n2⟩,g0,g1,g2⟩:=R1.out.cells;have lr:=R1.out.lt;clear hm hn hq D;go_wp2;refine zg (R1.out.put _ _ _) Tryz.results136 rfl rfl ?_;rw[<-HR.out];exact⟨⟨none,0,rfl,.leaf _ _ _ _ HS.out _ _⟩,M1.out.put3 (q5 _) _ _ _,Hq.out⟩
def qak(k:Int):Sx.PR Nd->Sx.PR Nd
 | .bad q=>.bad q
 | .ok a q=>.ok (.mk k Sx.noS [a]) q
theorem NdS.one{S:Nat->Prop}{w':World}{g:Nat}{a:Nd}{u0 u1 u2:Value}{t:TypeId}(ht:w'.heap[g]?=some (.cells #[u0,u1,u2] t (0,0)))(hg:S g)(ha:NdS S w' a u0 u1 u2)(k:Int) :
  NdS S w' (.mk k Sx.noS [a]) (.int .i64 k) (.string ⟨#[]⟩) (.slice (some ⟨g,0,none⟩) 1 1):=by
 have hx:=fun j=>qk w' g j _ _ _ ht
 refine .mk k Sx.noS [a] (some ⟨g,0,none⟩) 1 g 0 (fun _=>u0) (fun _=>u1) (fun _=>u2) (by unfold maxLen;decide) (by unfold maxLen;simp) (q5 _) (fun _=>rfl) (fun _=>hg) ?_ ?_ ?_ ?_
 ·intro i hi
  match i,hi with
  |0,_=>exact(hx 0).trans rfl
 ·intro i hi
  match i,hi with
  |0,_=>exact(hx 1).trans rfl
 ·intro i hi
  match i,hi with
  |0,_=>exact(hx 2).trans rfl
 ·intro i hi
  match i,hi with
  |0,_=>exact ha
theorem qm2(E:PE)(q:Nat)(w:World)(h:PS E q w)(k:Int)(r:Sx.PR Nd)(C:∀ w0,PS E q w0->Calls Tryz.prog 147 #[.pointer (some ⟨E.pb,0,none⟩)] w0 (Gr E w0 r)) :
  Calls Tryz.prog 137 #[.pointer (some ⟨E.pb,0,none⟩),.int .i64 k] w (Gr E w (qak k r)):=by
 have HP:=qh h;have hpl:=h.lt;have D:=qh C;have B0:=qh ((Below.refl w.heap.size w).alloc (q5 _) (.cells #[.int .i64 0,.string ⟨#[]⟩,.slice none 0 0] 25));have R0:=qh (Row3.new w (.int .i64 0) (.string ⟨#[]⟩) (.slice none 0 0));obtain⟨R,hR⟩:∃ R,Gr E w (qak k r)=R:=⟨_,rfl⟩;have HR:=qh hR;rw[hR];clear h hR C
 cases r with
 |bad q' =>
  go_enter Tryz.func137,Tryz.ntmps137
  go_wp2_with fail
  refine(D.out _ (HP.out.later B0.out)).mono ?_;rintro e w1⟨rfl,hm,hq⟩;go_wp2;rw[<-HR.out];exact⟨rfl,rfl,Mv.before HP.out B0.out hm,hq⟩
 |ok t q1 =>
  obtain⟨k1,s1,l1⟩:=t;go_enter Tryz.func137,Tryz.ntmps137
  go_wp2_with fail
  refine(D.out _ (HP.out.later B0.out)).mono ?_;rintro e w1⟨⟨a,cap,rfl,hn⟩,hm,hq⟩;have M1:=qh (Mv.before HP.out B0.out hm);have R1:=qh (R0.out.mv hm (by omega));have N1:=qh hn;have Hq:=qh hq;obtain⟨⟨n0,n1,n2⟩,g0,g1,g2⟩:=R1.out.cells;have lr:=R1.out.lt;clear hm hn hq D;go_wp2;refine zg ((R1.out.put _ _ _).alloc _) Tryz.results137 rfl rfl ?_;rw[<-HR.out];refine⟨⟨some ⟨w1.heap.size,0,none⟩,1,rfl,NdS.one (x6 (by simp only[qq])) (by show w.heap.size<=w1.heap.size;omega) (N1.out.fin (by simp) (((Kp.refl _ w1).put3 (b:=w.heap.size) _ _ _ (by simp)).alloc _)) k⟩,(M1.out.put3 (q5 _) _ _ _).alloc _,Hq.out⟩
theorem qi1(E:PE)(q:Nat)(w:World)(h:PS E q w)(k:Int)(r:Sx.PR Nd)(C:∀ w0,PS E q w0->Calls Tryz.prog 42 #[.pointer (some ⟨E.pb,0,none⟩)] w0 (Gr E w0 r)) :
  Calls Tryz.prog 140 #[.pointer (some ⟨E.pb,0,none⟩),.int .i64 k] w (Gr E w (qak k (zu E [125] r))):=by
 have HP:=qh h;have hpl:=h.lt;have D:=qh C;have B0:=qh ((Below.refl w.heap.size w).alloc (q5 _) (.cells #[.int .i64 0,.string ⟨#[]⟩,.slice none 0 0] 25));have R0:=qh (Row3.new w (.int .i64 0) (.string ⟨#[]⟩) (.slice none 0 0));obtain⟨R,hR⟩:∃ R,Gr E w (qak k (zu E [125] r))=R:=⟨_,rfl⟩;clear h C
 cases r with
 |bad q' =>
  have HR:Hid (Gr E w (.bad q')=R):=qh hR;rw[hR];clear hR;go_enter Tryz.func140,Tryz.ntmps140
  go_wp2_with fail
  refine(D.out _ (HP.out.later B0.out)).mono ?_;rintro e w1⟨rfl,hm,hq⟩;go_wp2;rw[<-HR.out];exact⟨rfl,rfl,Mv.before HP.out B0.out hm,hq⟩
 |ok t q1 =>
  obtain⟨k1,s1,l1⟩:=t
  by_cases hc:Sx.txt E.ts q1=[125]
  ·have HR:Hid (Gr E w (.ok (.mk k Sx.noS [.mk k1 s1 l1]) (q1+1))=R):=qh (by rw[<-hR];simp only[zu];rw[qa hc];rfl)
   have NY:=qh (fun w h=>ka E q1 ⟨#[125]⟩ w h hc (by decide));have hlt:=Sx.txt_at hc;rw[hR];clear hR hc;go_enter Tryz.func140,Tryz.ntmps140
   go_wp2_with fail
   refine(D.out _ (HP.out.later B0.out)).mono ?_;rintro e w1⟨⟨a,cap,rfl,hn⟩,hm,hq⟩;obtain⟨W,hW⟩:∃ W,(w1.alloc (.cells #[.int .i64 k1,.string s1,.slice a l1.length cap] 25)).alloc (.cells #[.int .i64 k,.string ⟨#[]⟩,.slice (some ⟨w1.heap.size,0,none⟩) 1 1] 25)=W:=⟨_,rfl⟩;have M1:=qh (show Mv E q1 w W by rw[<-hW];exact((Mv.before HP.out B0.out hm).alloc _).alloc _);have R1:=qh (show Row3 W w.heap.size (.int .i64 0) (.string ⟨#[]⟩) (.slice none 0 0)by rw[<-hW];exact((R0.out.mv hm (by omega)).alloc _).alloc _);have X1:=qh (show Row3 W (w1.heap.size+1) (.int .i64 k) (.string ⟨#[]⟩) (.slice (some ⟨w1.heap.size,0,none⟩) 1 1)by rw[<-hW];exact Row3.newAt (by simp));have G1:∃ t,W.heap[w1.heap.size]?=some (.cells #[.int .i64 k1,.string s1,.slice a l1.length cap] t (0,0)):=⟨_,by rw[<-hW];exact(Below.heap_alloc _ _ _ (by simp)).trans (qm _ _)⟩;have N1:=qh (show NdS (fun b=>w.heap.size < b/\b≠w1.heap.size+1) W (.mk k1 s1 l1) _ _ _ by rw[<-hW];exact hn.keep fun b h1 h2=>⟨(Below.heap_alloc _ _ _ (by simp;omega)).trans (Below.heap_alloc _ _ _ h2),by simp at h1;omega,by omega⟩);have P1:=qh (M1.out.ps HP.out hq);have Hq:=qh hq;have hw1:w.heap.size < w1.heap.size:=(R0.out.mv hm (by omega)).lt;have HG1:=qh G1;clear hm hn hq D G1
   go_wp2_with fail
   (try rw[hW])
   clear hW;refine(NY.out _ P1.out).mono ?_;rintro e w2⟨rfl,hm2,hp2⟩;have M2:=qh (Mv.trans HP.out M1.out Hq.out hm2);have R2:=qh (R1.out.mv hm2 (by omega));have X2:=qh (X1.out.mv hm2 (by omega));obtain⟨⟨n0,n1,n2⟩,g0,g1,g2⟩:=R2.out.cells;obtain⟨⟨x0,x1,x2⟩,_⟩:=X2.out.cells;have lx:=X2.out.lt;have lr:=R2.out.lt;have ll:w.heap.size≠w1.heap.size+1:=by omega
   obtain⟨V,hV⟩:∃ V,((w2.setCell ⟨w.heap.size,0,none⟩ (.int .i64 k)).setCell ⟨w.heap.size,1,none⟩ (.string ⟨#[]⟩)).setCell ⟨w.heap.size,2,none⟩ (.slice (some ⟨w1.heap.size,0,none⟩) 1 1)=V:=⟨_,rfl⟩
   have hkv:∀ b,w.heap.size < b->b < W.heap.size->V.heap[b]?=W.heap[b]?:=fun b h1 h2=>by
    rw[<-hV];exact(((Kp.refl (w.heap.size+1) w2).put3 (b:=w.heap.size) _ _ _ (by omega)).blk b (by omega) (qs h2 hm2.size)).trans (hm2.blk b h2 (by omega))
   have NF:=qh (show NdS (fun b=>w.heap.size<=b) V (.mk k Sx.noS [.mk k1 s1 l1]) (.int .i64 k) (.string ⟨#[]⟩) (.slice (some ⟨w1.heap.size,0,none⟩) 1 1)by
    obtain⟨t,ht⟩:=HG1.out
    exact NdS.one ((hkv _ hw1 (za ht)).trans ht) (vn hw1) (N1.out.keep fun b h1 h2=>⟨hkv b h1.1 h2,vn h1.1⟩) k)
   have MF:=qh (show Mv E (q1+1) w V by rw[<-hV];exact M2.out.put3 (q5 _) _ _ _);have RF:=qh (show Row3 V w.heap.size (.int .i64 k) (.string ⟨#[]⟩) (.slice (some ⟨w1.heap.size,0,none⟩) 1 1)by rw[<-hV];exact R2.out.put _ _ _);clear hm2 hp2 hkv;go_wp2
   try rw[hV]
   refine zg RF.out Tryz.results140 rfl rfl ?_;rw[<-HR.out];exact⟨⟨_,_,rfl,NF.out⟩,MF.out,hlt⟩
  ·have HR:Hid (Gr E w (.bad q1)=R):=qh (by rw[<-hR];simp only[zu];rw[q7 hc];rfl)
   have NN:=qh (fun w h=>q0e E q1 ⟨#[125]⟩ w h hc);rw[hR];clear hR hc;go_enter Tryz.func140,Tryz.ntmps140
   go_wp2_with fail
   refine(D.out _ (HP.out.later B0.out)).mono ?_;rintro e w1⟨⟨a,cap,rfl,hn⟩,hm,hq⟩;obtain⟨W,hW⟩:∃ W,(w1.alloc (.cells #[.int .i64 k1,.string s1,.slice a l1.length cap] 25)).alloc (.cells #[.int .i64 k,.string ⟨#[]⟩,.slice (some ⟨w1.heap.size,0,none⟩) 1 1] 25)=W:=⟨_,rfl⟩;have M1:=qh (show Mv E q1 w W by rw[<-hW];exact((Mv.before HP.out B0.out hm).alloc _).alloc _);have P1:=qh (M1.out.ps HP.out hq);have Hq:=qh hq;clear hm hn hq D
   go_wp2_with fail
   (try rw[hW])
   clear hW;refine(NN.out _ P1.out).mono ?_;rintro e w2⟨rfl,hb2⟩;have M2:=M1.out.later (hb2.mono M1.out.size);go_wp2;rw[<-HR.out];exact⟨rfl,rfl,M2,Hq.out⟩
attribute [local go_sem] jn jm jk
theorem qr7:∀ args w,(callFunc 137 args).run Tryz.prog w = .ok (.enter 137 args) w:=enters_of Tryz.func137 (by kernel_rfl) rfl
theorem qgj:∀ args w,(callFunc 138 args).run Tryz.prog w = .ok (.enter 138 args) w:=enters_of Tryz.func138 (by kernel_rfl) rfl
theorem qlr:∀ args w,(callFunc 139 args).run Tryz.prog w = .ok (.enter 139 args) w:=enters_of Tryz.func139 (by kernel_rfl) rfl
theorem qpn:∀ args w,(callFunc 140 args).run Tryz.prog w = .ok (.enter 140 args) w:=enters_of Tryz.func140 (by kernel_rfl) rfl
theorem qpp:∀ args w,(callFunc 141 args).run Tryz.prog w = .ok (.enter 141 args) w:=enters_of Tryz.func141 (by kernel_rfl) rfl
theorem qkc(E:PE)(q:Nat)(w:World)(h:PS E q w)(hk:Sx.knd E.ts q=1)(r:Sx.PR Nd)(CA:∀ w0,PS E q w0->Calls Tryz.prog 90 #[.pointer (some ⟨E.pb,0,none⟩)] w0 (Gr E w0 r)) :
  Calls Tryz.prog 147 #[.pointer (some ⟨E.pb,0,none⟩)] w (Gr E w r):=by
 have HP:=qh h;have hpl:=h.lt;have C:=qh (fun w h=>jy E q w h);unfold wo at C;rw[hk]at C;have C':Hid (∀ w,PS E q w->Calls Tryz.prog 142 #[.pointer (some ⟨E.pb,0,none⟩)] w fun e w'=>e = .returned (.agg #[.int .i64 1,.string (Sx.str (Sx.txt E.ts q)),.int .i64 (E.pos q:Nat)])/\Below w.heap.size w w'):=C;have D:=qh CA;have B0:=qh ((Below.refl w.heap.size w).alloc (q5 _) (.cells #[.int .i64 0,.string ⟨#[]⟩,.slice none 0 0] 25));have R0:=qh (Row3.new w (.int .i64 0) (.string ⟨#[]⟩) (.slice none 0 0));obtain⟨R,hR⟩:∃ R,Gr E w r=R:=⟨_,rfl⟩;have HR:=qh hR;rw[hR];clear h hR CA hk C;go_enter Tryz.func147,Tryz.ntmps147
 go_wp2_with fail
 refine(C'.out _ (HP.out.later B0.out)).mono ?_;rintro e w1⟨rfl,hb⟩;have B1:=qh (B0.out.trans (hb.mono B0.out.size));have P1:=qh (HP.out.later B1.out);have R1:=qh (R0.out.below hb (by simp));clear hb C'
 cases r with
 |bad q' =>
  go_wp2_with fail
  refine(D.out _ P1.out).mono ?_;rintro e w5⟨rfl,hm,hq⟩;go_wp2;rw[<-HR.out];exact⟨rfl,rfl,Mv.before HP.out B1.out hm,hq⟩
 |ok x q1 =>
  obtain⟨k1,s1,l1⟩:=x
  go_wp2_with fail
  refine(D.out _ P1.out).mono ?_;rintro e w5⟨⟨a,cap,rfl,hn⟩,hm,hq⟩;have M5:=qh (Mv.before HP.out B1.out hm);have N5:=qh (hn.from R1.out.lt);have R5:=qh (R1.out.mv hm (by omega));have Hq5:=qh hq;obtain⟨⟨n0,n1,n2⟩,g0,g1,g2⟩:=R5.out.cells;have lr:=R5.out.lt;clear hm hn hq;go_wp2;refine zg (R5.out.put _ _ _) Tryz.results147 rfl rfl ?_;rw[<-HR.out];exact⟨⟨a,cap,rfl,N5.out.fin (Nat.le_succ _) ((Kp.refl (w.heap.size+1) w5).put3 (b:=w.heap.size) _ _ _ (by omega))⟩,M5.out.put3 (q5 _) _ _ _,Hq5.out⟩
theorem qkb(E:PE)(q:Nat)(w:World)(h:PS E q w)(hk:Sx.knd E.ts q≠1)(r:Sx.PR Nd)(CA:∀ w0,PS E q w0->Calls Tryz.prog 82 #[.pointer (some ⟨E.pb,0,none⟩),.map (some E.mp)] w0 (Gr E w0 r)) :
  Calls Tryz.prog 147 #[.pointer (some ⟨E.pb,0,none⟩)] w (Gr E w r):=by
 have HP:=qh h;have hpl:=h.lt;have C:=qh (fun w h=>jy E q w h);unfold wo at C;have e1:(((Sx.knd E.ts q:Nat):Int)==1)=false:=by rw[q9];omega
 obtain⟨k,hk2⟩:∃ k,((Sx.knd E.ts q:Nat):Int)=k:=⟨_,rfl⟩;rw[hk2]at C e1;have D:=qh CA;have B0:=qh ((Below.refl w.heap.size w).alloc (q5 _) (.cells #[.int .i64 0,.string ⟨#[]⟩,.slice none 0 0] 25));have R0:=qh (Row3.new w (.int .i64 0) (.string ⟨#[]⟩) (.slice none 0 0));obtain⟨R,hR⟩:∃ R,Gr E w r=R:=⟨_,rfl⟩;have HR:=qh hR;rw[hR];clear h hR CA hk hk2;go_enter Tryz.func147,Tryz.ntmps147
 go_wp2_with fail
 refine(C.out _ (HP.out.later B0.out)).mono ?_;rintro e w1⟨rfl,hb⟩;have B1:=qh (B0.out.trans (hb.mono B0.out.size));have P1:=qh (HP.out.later B1.out);have R1:=qh (R0.out.below hb (by simp));obtain⟨_,_,_,_,c4⟩:=P1.out.cells;clear hb C
 cases r with
 |bad q' =>
  go_wp2_with fail
  refine(D.out _ P1.out).mono ?_;rintro e w5⟨rfl,hm,hq⟩;go_wp2;rw[<-HR.out];exact⟨rfl,rfl,Mv.before HP.out B1.out hm,hq⟩
 |ok x q1 =>
  obtain⟨k1,s1,l1⟩:=x
  go_wp2_with fail
  refine(D.out _ P1.out).mono ?_;rintro e w5⟨⟨a,cap,rfl,hn⟩,hm,hq⟩;have M5:=qh (Mv.before HP.out B1.out hm);have N5:=qh (hn.from R1.out.lt);have R5:=qh (R1.out.mv hm (by omega));have Hq5:=qh hq;obtain⟨⟨n0,n1,n2⟩,g0,g1,g2⟩:=R5.out.cells;have lr:=R5.out.lt;clear hm hn hq c4;go_wp2;refine zg (R5.out.put _ _ _) Tryz.results147 rfl rfl ?_;rw[<-HR.out];exact⟨⟨a,cap,rfl,N5.out.fin (Nat.le_succ _) ((Kp.refl (w.heap.size+1) w5).put3 (b:=w.heap.size) _ _ _ (by omega))⟩,M5.out.put3 (q5 _) _ _ _,Hq5.out⟩
theorem qhm{t:Lx.Bs}(h1:t≠[33])(h2:t≠[97,108,108])(h3:t≠[101,120])(h4:t≠[111,110,101])(h5:t≠[116,111,112])(h6:t≠[123])(h7:t≠[40]):js vw t=none:=by
 unfold js vw;have f:∀ s:List UInt8,t≠s->(s==t)=false:=fun s h=>by rw[q9];exact fun e=>h e.symm
 simp[f _ h1,f _ h2,f _ h3,f _ h4,f _ h5,f _ h6,f _ h7]
theorem qmx(E:PE)(hsn:vt E.ts)(f:Nat)
  (ihp:∀ q w,PS E q w->16*(E.ts.length - q)+4<=f->Calls Tryz.prog 147 #[.pointer (some ⟨E.pb,0,none⟩)] w (Gr E w (Sx.part E.ts f q)))
  (ihf:∀ q w,PS E q w->16*(E.ts.length - q)+10<=f->Calls Tryz.prog 42 #[.pointer (some ⟨E.pb,0,none⟩)] w (Gr E w (Sx.form E.ts f q)))
  (q:Nat) (w:World) (h:PS E q w) (hf:16*(E.ts.length - q)+4<=f+1):Calls Tryz.prog 147 #[.pointer (some ⟨E.pb,0,none⟩)] w (Gr E w (Sx.part E.ts (f+1) q)):=by
 by_cases hk:Sx.knd E.ts q=1
 ·have e:Sx.part E.ts (f+1) q=Sx.applied E.ts f q:=by simp only[Sx.part];rw[qa hk]
  rw[e];exact qkc E q w h hk _ fun w0 h0=>qfs E hsn f q w0 h0 (by omega)
 refine qkb E q w h hk _ fun w0 h0=>?_
 have HM:∀ W,PS E q W->StrMap W E.mp vw:=fun W hW=>hW.g.mp
 by_cases h1:Sx.txt E.ts q=[33]
 ·have hq:=Sx.txt_at h1
  have e:Sx.part E.ts (f+1) q=qak 29 (Sx.part E.ts f (q+1)):=by
   simp only[Sx.part];rw[q7 hk,qa h1]
   all_goals (cases Sx.part E.ts f (q+1) <;> rfl)
  rw[e];exact zl E q w0 h0 E.mp vw HM _ qr7 (by rw[h1];rfl) hq 29 (by rw[h1];rfl) _ fun w1 h2=>qm2 E (q+1) w1 h2 29 _ fun w2 h3=>ihp (q+1) w2 h3 (by omega)
 by_cases h2:Sx.txt E.ts q=[97,108,108]
 ·have hq:=Sx.txt_at h2
  have e:Sx.part E.ts (f+1) q=Sx.binder (Sx.typed E.ts f) (Sx.form E.ts f) E.ts 18 (q+1):=by
   simp only[Sx.part];rw[q7 hk,q7 h1,qa h2]
  rw[e];exact zl E q w0 h0 E.mp vw HM _ qgj (by rw[h2];rfl) hq 18 (by rw[h2];rfl) _ fun w1 h3=>q99 E (q+1) w1 h3 _ 18 fun w2 h4=>q5l E (q+1) w2 h4 18 _ qls _ _ (Sx.typed_goes E.ts f).1 (fun p w3 hp h5=>q2c E f p w3 h5 (by omega)) (fun p w3 hp h5=>ihf p w3 h5 (by omega))
 by_cases h3:Sx.txt E.ts q=[101,120]
 ·have hq:=Sx.txt_at h3
  have e:Sx.part E.ts (f+1) q=Sx.binder (Sx.typed E.ts f) (Sx.form E.ts f) E.ts 19 (q+1):=by
   simp only[Sx.part];rw[q7 hk,q7 h1,q7 h2,qa h3]
  rw[e];exact zl E q w0 h0 E.mp vw HM _ qgj (by rw[h3];rfl) hq 19 (by rw[h3];rfl) _ fun w1 h4=>q99 E (q+1) w1 h4 _ 19 fun w2 h4=>q5l E (q+1) w2 h4 19 _ qls _ _ (Sx.typed_goes E.ts f).1 (fun p w3 hp h5=>q2c E f p w3 h5 (by omega)) (fun p w3 hp h5=>ihf p w3 h5 (by omega))
 by_cases h4:Sx.txt E.ts q=[111,110,101]
 ·have hq:=Sx.txt_at h4
  have e:Sx.part E.ts (f+1) q = .ok (.mk 20 Sx.noS []) (q+1):=by
   simp only[Sx.part];rw[q7 hk,q7 h1,q7 h2,q7 h3,qa h4]
  rw[e];exact zl E q w0 h0 E.mp vw HM _ qlr (by rw[h4];rfl) hq 20 (by rw[h4];rfl) _ fun w1 h5=>qbi E (q+1) w1 h5 20
 by_cases h5:Sx.txt E.ts q=[116,111,112]
 ·have hq:=Sx.txt_at h5
  have e:Sx.part E.ts (f+1) q = .ok (.mk 21 Sx.noS []) (q+1):=by
   simp only[Sx.part];rw[q7 hk,q7 h1,q7 h2,q7 h3,q7 h4,qa h5]
  rw[e];exact zl E q w0 h0 E.mp vw HM _ qlr (by rw[h5];rfl) hq 21 (by rw[h5];rfl) _ fun w1 h6=>qbi E (q+1) w1 h6 21
 by_cases h6:Sx.txt E.ts q=[123]
 ·have hq:=Sx.txt_at h6
  have e:Sx.part E.ts (f+1) q=qak 30 (zu E [125] (Sx.form E.ts f (q+1))):=by
   simp only[Sx.part];rw[q7 hk,q7 h1,q7 h2,q7 h3,q7 h4,q7 h5,qa h6]
   cases Sx.form E.ts f (q+1)with
   |bad _=>rfl
   |ok a q1 =>
    simp only[zu]
    by_cases hc:Sx.txt E.ts q1=[125]
    ·rw[qa hc,qa hc];rfl
    ·rw[q7 hc,q7 hc];rfl
  rw[e];exact zl E q w0 h0 E.mp vw HM _ qpn (by rw[h6];rfl) hq 30 (by rw[h6];rfl) _ fun w1 h7=>qi1 E (q+1) w1 h7 30 _ fun w2 h8=>ihf (q+1) w2 h8 (by omega)
 by_cases h7:Sx.txt E.ts q=[40]
 ·have hq:=Sx.txt_at h7
  have e:Sx.part E.ts (f+1) q=zu E [41] (Sx.form E.ts f (q+1)):=by
   simp only[Sx.part];rw[q7 hk,q7 h1,q7 h2,q7 h3,q7 h4,q7 h5,q7 h6,qa h7]
   all_goals (cases Sx.form E.ts f (q+1) <;> rfl)
  rw[e];exact zl E q w0 h0 E.mp vw HM _ qpp (by rw[h7];rfl) hq 0 (by rw[h7];rfl) _ fun w1 h8=>qim E (q+1) w1 h8 0 _ fun w2 h9=>ihf (q+1) w2 h9 (by omega)
 have e:Sx.part E.ts (f+1) q = .bad q:=by
  simp only[Sx.part];rw[q7 hk,q7 h1,q7 h2,q7 h3,q7 h4,q7 h5,q7 h6,q7 h7]
 rw[e];refine(q7w E q w0 h0 E.mp vw HM (qhm h1 h2 h3 h4 h5 h6 h7)).mono ?_;rintro e w'⟨rfl,hb⟩;exact⟨rfl,Mv.below h0 hb,h0.le⟩
theorem qik(E:PE)(f b q:Nat)(hb:b<=4):q2o E b (Sx.right E.ts f (b+1) q) (Sx.right E.ts f b)=Sx.right E.ts (f+1) b q:=by
 simp only[q2o,Sx.right];rw[q7 (by omega)]
 cases Sx.right E.ts f (b+1) q with
 |bad q'=>rfl
 |ok a q' =>
  simp only[q9e E.ts q' b hb]
  all_goals (cases Sx.sgn E.ts b q' with
   |none=>rfl
   |some k=>cases Sx.right E.ts f b (q'+1) <;> rfl)
theorem qli(E:PE)(hsn:vt E.ts)(f:Nat) :
  (∀ q w,PS E q w->16*(E.ts.length - q)+4<=f->Calls Tryz.prog 147 #[.pointer (some ⟨E.pb,0,none⟩)] w (Gr E w (Sx.part E.ts f q))) /\
  (∀ b q w,1<=b->b<=5->PS E q w->16*(E.ts.length - q)+(10 - b)<=f->Calls Tryz.prog 85 #[.pointer (some ⟨E.pb,0,none⟩),.int .i64 (b:Nat)] w (Gr E w (Sx.right E.ts f b q))) /\
  (∀ q w,PS E q w->16*(E.ts.length - q)+10<=f->Calls Tryz.prog 42 #[.pointer (some ⟨E.pb,0,none⟩)] w (Gr E w (Sx.form E.ts f q))):=by
 induction f using Nat.strongRecOn with
 |_ f ih =>
  cases f with
  |zero=>exact⟨fun q w _ h=>by omega,fun b q w _ _ _ h=>by omega,fun q w _ h=>by omega⟩
  |succ f =>
   obtain⟨ih1,ih2,ih3⟩:=ih f (by omega);refine⟨fun q w h hf=>qmx E hsn f ih1 ih3 q w h hf,fun b q w hb1 hb5 h hf=>?_,fun q w h hf=>?_⟩
   ·by_cases hb:b=5
    ·subst hb
     have e:Sx.right E.ts (f+1) 5 q=Sx.part E.ts f q:=by simp only[Sx.right];rw[qa (by omega)]
     rw[e];exact qr2 E q w h _ fun w0 h0=>ih1 q w0 h0 (by omega)
    ·rw[<-qik E f b q (by omega)]
     refine q9o E q b w h (by omega) hb _ _ (fun w0 h0=>?_) (fun q1 a e hq w0 h0=>?_)
     ·have:=ih2 (b+1) q w0 (by omega) (by omega) h0 (by omega)
      push_cast at this;exact this
     ·have:=(Sx.form_goes E.ts f).2.1 (b+1) q a q1 e
      exact ih2 b (q1+1) w0 hb1 hb5 h0 (by omega)
   ·simp only[Sx.form]
    have C1:=fun w0 (h0:PS E q w0)=>ih2 1 q w0 (by omega) (by omega) h0 (by omega)
    cases hr:Sx.right E.ts f 1 q with
    |bad q' =>
     rw[hr]at C1;exact qnq E q w h q' C1
    |ok a q1 =>
     rw[hr]at C1;have hgo:=(Sx.form_goes E.ts f).2.1 1 q a q1 hr;obtain⟨k0,s0,l0⟩:=a;exact qlj E q w h f k0 s0 l0 q1 hgo.1 (by omega) C1 fun f1 p w0 hf1 hp hm h0=>(ih f1 (by omega)).2.1 1 p w0 (by omega) (by omega) h0 (by omega)
theorem qe4(E:PE)(hsn:vt E.ts)(f q:Nat)(w:World)(h:PS E q w)(hf:16*(E.ts.length - q)+10<=f):Calls Tryz.prog 42 #[.pointer (some ⟨E.pb,0,none⟩)] w (Gr E w (Sx.form E.ts f q)) :=
 (qli E hsn f).2.2 q w h hf
attribute [local go_sem] jn jm jk
def GrK(E:PE)(w:World)(k:Int)(s:ByteArray)(r:Sx.PR (List Nd))(e:Ending)(w':World):Prop :=
 match r with
 | .ok l q=>(∃ v,e = .returned (.agg #[.int .i64 k,.string s,v])/\Kids w.heap.size w' v l)/\Mv E q w w'/\q<=E.ts.length/\l.length<=q
 | .bad q=>e = .panicked [{ v:=xz E q,recovered:=false }]/\Mv E q w w'/\q<=E.ts.length
theorem GrK.gr{E:PE}{w:World}{k:Int}{s:ByteArray}{r:Sx.PR (List Nd)}{e:Ending}{w':World}(hs:s.size<=maxLen)(hf:E.ts.length<=6000)(h:GrK E w k s r e w'):Gr E w (q06 k s r) e w':=by
 cases r with
 |bad q=>exact h
 |ok l q =>
  obtain⟨⟨v,rfl,hk⟩,hm,hq,hl⟩:=h;obtain⟨a,cap,rfl,_⟩:=hk.shape;exact⟨⟨a,cap,rfl,hk.node k s hs (by unfold maxLen;omega)⟩,hm,hq⟩
def q2i(ts:List Lx.Tok)(f:Nat)(acc:List Nd)(p:Nat):Sx.PR (List Nd) :=
 match Sx.small ts p with
 | .bad q=>.bad q
 | .ok a q=>Sx.namesR ts f (acc++[a]) q
theorem qhv{ts:List Lx.Tok}{f:Nat}{acc:List Nd}{p q:Nat}(h:Sx.small ts p = .bad q):q2i ts f acc p = .bad q:=by unfold q2i;rw[h]
theorem qkv{ts:List Lx.Tok}{f:Nat}{acc:List Nd}{p q:Nat}{a:Nd}(h:Sx.small ts p = .ok a q):q2i ts f acc p=Sx.namesR ts f (acc++[a]) q:=by unfold q2i;rw[h]
theorem qku{ts:List Lx.Tok}{f:Nat}{acc:List Nd}{p:Nat}(h:Sx.txt ts p=[44]):Sx.namesR ts (f+1) acc p=q2i ts f acc (p+1):=by simp only[Sx.namesR,q2i];rw[qa h];cases Sx.small ts (p+1) <;> rfl
theorem qhu{ts:List Lx.Tok}{f:Nat}{acc:List Nd}{p:Nat}(h:Sx.txt ts p≠[44]):Sx.namesR ts (f+1) acc p = .ok acc p:=by simp only[Sx.namesR];rw[q7 h]
theorem q0f(E:PE)(q:Nat)(w:World)(h:PS E q w)(k:Int)(f:Nat)(hf:16*(E.ts.length - q)+1<=f) :
  Calls Tryz.prog 131 #[.pointer (some ⟨E.pb,0,none⟩),.int .i64 k] w (GrK E w k Sx.noS (Sx.names E.ts f q)):=by
 have HP:=qh h;have hpl:=h.lt;have hfew:=h.g.few;have Hf:=qh hf;have D:=qh (fun p w h=>q4j E p w h);have B0:=qh ((Below.refl w.heap.size w).alloc (q5 _) (.cells #[.int .i64 0,.string ⟨#[]⟩,.slice none 0 0] 25));obtain⟨A,hA⟩:∃ A,Sx.names E.ts f q=A:=⟨_,rfl⟩;have HA:Hid (q2i E.ts f [] q=A):=qh (by rw[<-hA];rfl);obtain⟨R,hR⟩:∃ R,GrK E w k Sx.noS A=R:=⟨_,rfl⟩;have HR:=qh hR;rw[hA,hR];have HPP:=qh h;clear h hA hR hf;go_enter Tryz.func131,Tryz.ntmps131
 go_wp2_with fail
 obtain⟨W0,hW0⟩:∃ W,(w.alloc (.cells #[.int .i64 0,.string ⟨#[]⟩,.slice none 0 0] 25)).alloc (.cells #[.int .i64 k,.string ⟨#[]⟩,.slice none 0 0] 25)=W:=⟨_,rfl⟩;have M0:=qh (show Mv E q w W0 by rw[<-hW0];exact Mv.below HPP.out (B0.out.alloc (by simp) _));have P0:=qh (M0.out.ps HPP.out HPP.out.le);have R0:=qh (show Row3 W0 w.heap.size (.int .i64 0) (.string ⟨#[]⟩) (.slice none 0 0)by rw[<-hW0];exact(Row3.new w _ _ _).alloc _);have N0:=qh (show Row3 W0 (w.heap.size+1) (.int .i64 k) (.string ⟨#[]⟩) (.slice none 0 0)by rw[<-hW0];exact Row3.newAt (by simp));have z0:w.heap.size+1+1<=W0.heap.size:=by rw[<-hW0];simp
 have Hz0:=qh z0;rw[hW0];clear hW0 z0
 go_loopw [] (fun W=>∃ (f1 p:Nat) (acc:List Nd) (v:Value),q<=p/\16*(E.ts.length - p)+1<=f1/\acc.length<=p/\Hid (q2i E.ts f1 acc p=A)/\Hid (Mv E p w W)/\Hid (PS E p W)/\Hid (Row3 W w.heap.size (.int .i64 0) (.string ⟨#[]⟩) (.slice none 0 0))/\Hid (Row3 W (w.heap.size+1) (.int .i64 k) (.string ⟨#[]⟩) v)/\Hid (Kids (w.heap.size+1+1) W v acc)/\Hid (w.heap.size+1+1<=W.heap.size)) (fun W=>E.ts.length+1 - nxt E W)
 case atStart =>
  exact⟨f,q,[],.slice none 0 0,q5 _,Hf.out,qp _,HA,M0,P0,R0,N0,Kids.nil _ _,Hz0⟩
 case round =>
  obtain⟨f1,p,acc,v,hqp,hf1,hacc,hrun,hM,hP,hRw,hN,hK,hz⟩:=hrel;clear M0 P0 R0 N0 Hz0 HA;obtain⟨va,vcap,rfl,_⟩:=hK.out.shape;have hple:=hP.out.le;have hnl:=hN.out.lt;have Hmeas:=qh hP.out.nxt;obtain⟨⟨n0,n1,n2⟩,g0,g1,g2⟩:=hN.out.cells;have DB:=qh (D.out p)
  cases hs:Sx.small E.ts p with
  |bad qb =>
   have HA':=qh (hrun.out.symm.trans (qhv hs));rw[hs]at DB
   have F:Hid (∀ w5,Mv E qb wr.drew w5->qb<=E.ts.length->R (.panicked [{ v:=xz E qb,recovered:=false }]) w5):=qh fun w5 hm5 hq5=>by
    rw[<-HR.out,HA'.out];exact⟨rfl,Mv.trans HP.out (hM.out.later (below_drewN (Below.refl _ _) 1)) hple hm5,hq5⟩
   clear hs D hrun
   go_wp2_with fail
   go_region_dies
   all_goals refine(DB.out _ (hP.out.later (Below.refl _ _).drew)).mono ?_
   all_goals rintro e w5 ⟨rfl,hm5,hq5⟩
   all_goals exact⟨rfl,F.out w5 hm5 hq5⟩
  |ok x p1 =>
   obtain⟨k2,s2,l2⟩:=x;obtain⟨hp1,hp1l,hlf,_⟩:=Sx.small_ok hs;have hrun2:=qh ((qkv hs).symm.trans hrun.out);rw[hs]at DB;have Hp1:=qh (And.intro hp1 hp1l);obtain⟨f2,hf2⟩:∃ f2,f1=f2+1:=⟨f1 - 1,by omega⟩;have hlt:p < E.ts.length:=by omega
   clear hs D hrun hlf hp1 hp1l
   go_wp2_with fail
   go_region_law (first
    |(go_simp;go_at_call 187;refine(DB.out _ (hP.out.later (Below.refl _ _).drew)).mono ?_;rintro e w5 ⟨⟨a5,cap5,rfl,hn5⟩,hm5,hq5⟩;have hm5':=Mv.before hP.out (Below.refl _ _).drew hm5;have N5:=qh (hN.out.mv hm5' (by omega));have R5:=qh (hRw.out.mv hm5' (by omega));have K5:=qh (Kids.step hm5' (by omega) hK.out);have hz5:w.heap.size+1+1<=w5.heap.size:=ql hz.out hm5'.size;obtain⟨⟨c0,c1,c2⟩,y0,y1,y2⟩:=N5.out.cells;have l5:=N5.out.lt)
    |(refine xw rfl _ _ rfl (w.heap.size+1+1) (.slice va acc.length vcap) acc rfl (Kids.keep K5.out fun b _ hb2=>Below.heap_alloc _ _ _ hb2) ⟨w5.heap.size,0,none⟩ 1 (by rfl) (.mk k2 s2 l2) (.int .i64 k2) (.string s2) (.slice a5 l2.length cap5) (vz w5 _ _ _ _ _ rfl) (hn5.keep (fun b hb1 hb2=>⟨Below.heap_alloc _ _ _ hb2,ql hz.out hb1,fun e=>by have:=hK.out.own b e;have hb1':wr.heap.size<=b:=hb1;omega⟩)) (by omega) (by simp;omega) _ rfl ?_;intro g6 cap6 w6 K6 G6 _ hg6;have hown:=K5.out.own;have N6:=qh ((N5.out.alloc _).grown' G6 (fun e=>by have:=hown _ e.symm;omega));have R6:=qh ((R5.out.alloc _).grown' G6 (fun e=>by have:=hown _ e.symm;omega));obtain⟨⟨d0,d1,d2⟩,z0,z1,z2⟩:=N6.out.cells))
   all_goals
    have hz6:w.heap.size+1+1<=w6.heap.size:=by have:=G6.size;simp at this;omega
    have M6:=Mv.later (Mv.trans HP.out hM.out hple hm5') ((((Below.refl w.heap.size w5).alloc (by omega) (.cells #[.int .i64 k2,.string s2,.slice a5 l2.length cap5] 25)).grown G6 (by simp;omega) (fun b hb=>by have:=hown b hb;omega)));obtain⟨V,hV⟩:∃ V,w6.setCell ⟨w.heap.size+1,2,none⟩ (.slice (some ⟨g6,0,none⟩) (acc.length+1) cap6)=V:=⟨_,rfl⟩;have M7:=qh (show Mv E p1 w V by rw[<-hV];exact M6.later ((Below.refl w.heap.size w6).setCell (p:=⟨w.heap.size+1,2,none⟩) (by simp only;omega) _));have N7:=qh (show Row3 V (w.heap.size+1) (.int .i64 k) (.string ⟨#[]⟩) (.slice (some ⟨g6,0,none⟩) (acc.length+1) cap6)by rw[<-hV];exact N6.out.put2 _);have R7:=qh (show Row3 V w.heap.size (.int .i64 0) (.string ⟨#[]⟩) (.slice none 0 0)by rw[<-hV];exact R6.out.other _ (by simp only;omega));have K7:=qh (show Kids (w.heap.size+1+1) V (.slice (some ⟨g6,0,none⟩) (acc.length+1) cap6) (acc++[.mk k2 s2 l2])by rw[<-hV];exact K6.keep fun b hb1 _=>Below.heap_setCell _ _ _ _ (by simp only;omega));have P7:=qh (M7.out.ps HP.out hq5);have z7:w.heap.size+1+1<=V.heap.size:=by rw[<-hV,qq];exact hz6
    have Hz7:=qh z7;rw[hV];clear hV hn5 hm5 hm5' hq5 N5 R5 N6 R6 K6 G6 M6 c0 c1 c2 y0 y1 y2 d0 d1 d2 z0 z1 z2 n0 n1 n2 g0 g1 g2 l5 hg6 hown K5 DB
    by_cases hc:Sx.txt E.ts p1=[44]
    ·have HA2:=qh ((qku hc).symm.trans (hf2▸hrun2.out))
     have T:=qh (fun w h=>y6 E p1 ⟨#[44]⟩ w h hc (by decide));have hlt1:=Sx.txt_at hc;clear hc
     go_wp2_with fail
     refine(T.out _ P7.out).mono ?_;rintro e w8⟨rfl,hm8,hp8⟩;have M8:=qh (Mv.trans HP.out M7.out P7.out.le hm8);have P8:=qh hp8;have N8:=qh (N7.out.mv hm8 (by omega));have R8:=qh (R7.out.mv hm8 (by omega));have K8:=qh (Kids.step hm8 (by omega) K7.out);have z8:=qh (ql z7 hm8.size);have Hm8:=qh hp8.nxt;clear hm8 hp8 T
     go_wp2_with fail
     go_roundw
     case rel=>exact⟨f2,p1+1,acc++[Nd.mk k2 s2 l2],_,by have:=Hp1.out;omega,by have:=Hp1.out;omega,by have:=Hp1.out;simp;omega,HA2,M8,P8,R8,N8,K8,z8⟩
     case measure=>rw[Hm8.out,Hmeas.out];have:=Hp1.out;omega
    ·have HA2:=qh ((qhu hc).symm.trans (hf2▸hrun2.out))
     have T:=qh (fun w h=>we E p1 ⟨#[44]⟩ w h hc);clear hc
     go_wp2_with fail
     refine(T.out _ P7.out).mono ?_;rintro e w8⟨rfl,hb8⟩;have M8:=qh (M7.out.later (hb8.mono M7.out.size));have R8:=qh (R7.out.below hb8 R7.out.lt);have N8:=qh (N7.out.below hb8 N7.out.lt);have K8:=qh (K7.out.keep fun b _ h2=>hb8.block b h2);obtain⟨⟨r0,r1,r2⟩,t0,t1,t2⟩:=R8.out.cells;obtain⟨⟨x0,x1,x2⟩,_⟩:=N8.out.cells;have ln:=N8.out.lt;have lr:=R8.out.lt;have KF:=qh ((K8.out.kp ((Kp.refl (w.heap.size+1+1) w8).put3 (b:=w.heap.size) (.int .i64 k) (.string ⟨#[]⟩) (.slice (some ⟨g6,0,none⟩) (acc.length+1) cap6) (by omega))).base (h':=w.heap.size) (by omega));have Hle:=qh P7.out.le;clear hb8 T;go_wp2;refine zg (R8.out.put _ _ _) Tryz.results131 rfl rfl ?_;rw[<-HR.out,<-HA2.out];exact⟨⟨_,rfl,KF.out⟩,M8.out.put3 (q5 _) _ _ _,Hle.out,by have:=Hp1.out;simp;omega⟩
attribute [local go_sem] jn jm jk q9v
theorem q4z(E:PE)(q:Nat)(w:World)(h:PS E q w)(k:Int)(hk:Sx.knd E.ts q=1):Calls Tryz.prog 136 #[.pointer (some ⟨E.pb,0,none⟩),.int .i64 k] w fun e w'=>e = .returned (.agg #[.int .i64 k,.string (Sx.str (Sx.txt E.ts q)),.slice none 0 0])/\Mv E (q+1) w w'/\PS E (q+1) w':=by
 have HP:=qh h;have hpl:=h.lt;have D:=qh (fun w h=>qb5 E q w h hk);unfold qob at D;generalize Sx.str (Sx.txt E.ts q)=x at *;have B0:=qh ((Below.refl w.heap.size w).alloc (q5 _) (.cells #[.int .i64 0,.string ⟨#[]⟩,.slice none 0 0] 25));have R0:=qh (Row3.new w (.int .i64 0) (.string ⟨#[]⟩) (.slice none 0 0));clear h hk;go_enter Tryz.func136,Tryz.ntmps136
 go_wp2_with fail
 refine(D.out _ (HP.out.later B0.out)).mono ?_;rintro e w1⟨rfl,hm,hp⟩;have M1:=qh (Mv.before HP.out B0.out hm);have R1:=qh (R0.out.mv hm (by omega));have Hq:=qh hp.le;obtain⟨⟨n0,n1,n2⟩,g0,g1,g2⟩:=R1.out.cells;have lr:=R1.out.lt;clear hm hp D;go_wp2;have hM:=M1.out.put3 (b:=w.heap.size) (q5 _) (.int .i64 k) (.string x) (.slice none 0 0);exact zg (R1.out.put _ _ _) Tryz.results136 rfl rfl ⟨rfl,hM,hM.ps HP.out Hq.out⟩
def kn(rd:Nat->Nat->Sx.PR Nd)(ts:List Lx.Tok):Nat->List Nd->Nat->Sx.PR (List Nd)
 |0,_,p=>.bad p
 |f+1,acc,p=>if Sx.txt ts p=[46] then .ok acc p else(match rd f p with
  | .bad q=>.bad q
  | .ok a q=>kn rd ts f (acc++[a]) q)
section
variable {rd:Nat->Nat->Sx.PR Nd} {ts:List Lx.Tok} {f:Nat} {acc:List Nd} {p q:Nat} {a:Nd}
theorem q6s(h:Sx.txt ts p=[46]):kn rd ts (f+1) acc p = .ok acc p:=by simp only[kn];rw[qa h]
theorem q3m(h:Sx.txt ts p≠[46])(h2:rd f p = .bad q):kn rd ts (f+1) acc p = .bad q:=by simp only[kn];rw[q7 h,h2]
theorem q8e(h:Sx.txt ts p≠[46])(h2:rd f p = .ok a q):kn rd ts (f+1) acc p=kn rd ts f (acc++[a]) q:=by simp only[kn];rw[q7 h,h2]
end
theorem qfa(E:PE)(q:Nat)(w:World)(h:PS E q w)(k:Int)(hk:Sx.knd E.ts q=1)(f:Nat)(hf:16*(E.ts.length - (q+1))+2<=f)(g:Nat)(eg:∀ args w,(callFunc g args).run Tryz.prog w = .ok (.enter g args) w)(rd:Nat->Nat->Sx.PR Nd)(hgo:∀ f1 p,Sx.Goes E.ts p (rd f1 p))
  (CR:∀ f1 p w0,f1 < f->q < p->16*(E.ts.length - p)+1<=f1->PS E p w0->Calls Tryz.prog g #[.pointer (some ⟨E.pb,0,none⟩)] w0 (Gr E w0 (rd f1 p))) :
  Calls Tryz.prog 188 #[.pointer (some ⟨E.pb,0,none⟩),.int .i64 k,.func (.func g) #[.pointer (some ⟨E.pb,0,none⟩)] #[]] w (Gr E w (q06 k (Sx.str (Sx.txt E.ts q)) (kn rd E.ts f [] (q+1)))):=by
 have HP:=qh h;have hpl:=h.lt;have hfew:=h.g.few;have Hf:=qh hf;have D:=qh CR;have HG:=qh hgo;have C:=qh (fun p w h=>jy E p w h);unfold wo at C;have T1:=qh (fun w h=>q4z E q w h k hk);have Hsz:=qh (q1t E h.g q);generalize Sx.str (Sx.txt E.ts q)=s at *;have B0:=qh ((Below.refl w.heap.size w).alloc (q5 _) (.cells #[.int .i64 0,.string ⟨#[]⟩,.slice none 0 0] 25));have R0:=qh (Row3.new w (.int .i64 0) (.string ⟨#[]⟩) (.slice none 0 0));obtain⟨A,hA⟩:∃ A,kn rd E.ts f [] (q+1)=A:=⟨_,rfl⟩;have HA:=qh hA;obtain⟨R,hR⟩:∃ R,Gr E w (q06 k s A)=R:=⟨_,rfl⟩;have HR:=qh hR;rw[hA,hR];clear h hA hR hf CR hgo hk;go_enter Tryz.func188,Tryz.ntmps188
 go_wp2_with fail
 refine(T1.out _ (HP.out.later B0.out)).mono ?_;rintro e u1⟨rfl,hm,hp⟩;obtain⟨nb,hnb⟩:∃ nb,u1.heap.size=nb:=⟨_,rfl⟩;have hwn:w.heap.size < nb:=by rw[<-hnb];exact(R0.out.mv hm (by omega)).lt
 have M0:=qh ((Mv.before HP.out B0.out hm).alloc (.cells #[.int .i64 k,.string s,.slice none 0 0] 25));have P0:=qh (hp.later ((Below.refl _ u1).alloc (q5 _) (.cells #[.int .i64 k,.string s,.slice none 0 0] 25)));have R1:=qh ((R0.out.mv hm (by omega)).alloc (.cells #[.int .i64 k,.string s,.slice none 0 0] 25));have N0:=qh (Row3.newAt (W:=u1) (n:=nb) (v0:=.int .i64 k) (v1:=.string s) (v2:=.slice none 0 0) hnb.symm);have Z0:Hid (nb+1<=(u1.alloc (.cells #[.int .i64 k,.string s,.slice none 0 0] 25)).heap.size):=qh (by simp;omega);clear hm hp
 go_wp2_with fail
 go_loopw [] (fun W=>∃ (f1 p:Nat) (acc:List Nd) (v:Value),q < p/\f1<=f/\16*(E.ts.length - p)+2<=f1/\acc.length<=p/\Hid (kn rd E.ts f1 acc p=A)/\Hid (Mv E p w W)/\Hid (PS E p W)/\Hid (Row3 W w.heap.size (.int .i64 0) (.string ⟨#[]⟩) (.slice none 0 0))/\Hid (Row3 W nb (.int .i64 k) (.string s) v)/\Hid (Kids (nb+1) W v acc)/\Hid (nb+1<=W.heap.size)) (fun W=>E.ts.length+1 - nxt E W)
 case atStart =>
  exact⟨f,q+1,[],.slice none 0 0,by omega,q5 _,Hf.out,qp _,HA,M0.out,P0.out,R1.out,N0.out,Kids.nil _ _,Z0.out⟩
 case round =>
  obtain⟨f1,p,acc,v,hqp,hff,hf1,hacc,hrun,hM,hP,hRw,hN,hK,hz⟩:=hrel;clear M0 P0 R1 N0 HA T1;obtain⟨va,vcap,rfl,_⟩:=hK.out.shape;obtain⟨f2,rfl⟩:∃ f2,f1=f2+1:=⟨f1 - 1,by omega⟩;have hple:=hP.out.le;have hnl:=hN.out.lt;have Hmeas:=qh hP.out.nxt;have CP:=qh (C.out p)
  by_cases hd:Sx.txt E.ts p=[46]
  ·have HA2:=qh (hrun.out.symm.trans (q6s hd))
   rw[hd]at CP;have CP':Hid (∀ w,PS E p w->Calls Tryz.prog 142 #[.pointer (some ⟨E.pb,0,none⟩)] w fun e w'=>e = .returned (.agg #[.int .i64 (Sx.knd E.ts p:Nat),.string ⟨#[46]⟩,.int .i64 (E.pos p:Nat)])/\Below w.heap.size w w'):=CP;clear hd C hrun CP
   go_wp2_with fail
   refine(CP'.out _ hP.out).mono ?_;rintro e w8⟨rfl,hb8⟩;have M8:=qh (hM.out.later (hb8.mono hM.out.size));have R8:=qh (hRw.out.below hb8 hRw.out.lt);have N8:=qh (hN.out.below hb8 hnl);have K8:=qh (hK.out.keep fun b _ h2=>hb8.block b h2);obtain⟨⟨r0,r1,r2⟩,t0,t1,t2⟩:=R8.out.cells;obtain⟨⟨x0,x1,x2⟩,_⟩:=N8.out.cells;have ln:=N8.out.lt;have lr:=R8.out.lt;have ND:=qh (((K8.out.kp ((Kp.refl (nb+1) w8).put3 (b:=w.heap.size) (.int .i64 k) (.string s) (.slice va acc.length vcap) (by omega))).node k s Hsz.out (by unfold maxLen;omega)).from (h':=w.heap.size) (by omega));have Hle:=qh hple;clear hb8 CP';go_wp2;refine zg (R8.out.put _ _ _) Tryz.results188 rfl rfl ?_;rw[<-HR.out,HA2.out];exact⟨⟨va,vcap,rfl,ND.out⟩,M8.out.put3 (q5 _) _ _ _,Hle.out⟩
  ·obtain⟨x,hx⟩:∃ x,Sx.str (Sx.txt E.ts p)=x:=⟨_,rfl⟩
   rw[hx]at CP
   have hxn:x≠⟨#[46]⟩:=fun e=>hd (by
    rw[<-hx]at e;have:=congrArg (fun y:ByteArray=>y.data.toList) e
    simpa[Sx.str]using this)
   have e1:(!(x.toList==[46]))=true:=by
    rw[show([46]:List UInt8)=(⟨#[46]⟩:ByteArray).toList from by decide +kernel,qeg hxn];rfl
   have DB:=qh (fun w0 h0=>D.out f2 p w0 (by omega) hqp (by omega) h0);clear hx hxn C
   go_wp2_with fail
   refine(CP.out _ hP.out).mono ?_;rintro e W1⟨rfl,hb⟩;have M1:=qh (hM.out.later (hb.mono hM.out.size));have P1:=qh (hP.out.later hb);have R1:=qh (hRw.out.below hb hRw.out.lt);have N1:=qh (hN.out.below hb hnl);have K1:=qh (hK.out.keep fun b _ h2=>hb.block b h2);have hz1:=qh (ql hz.out hb.size);obtain⟨⟨n0,n1,n2⟩,g0,g1,g2⟩:=N1.out.cells;have ln1:=N1.out.lt;clear hb CP
   cases hs:rd f2 p with
   |bad qb =>
    have HA':=qh (hrun.out.symm.trans (q3m hd hs));rw[hs]at DB
    have F:Hid (∀ w5,Mv E qb W1.drew w5->qb<=E.ts.length->R (.panicked [{ v:=xz E qb,recovered:=false }]) w5):=qh fun w5 hm5 hq5=>by
     rw[<-HR.out,HA'.out];exact⟨rfl,Mv.trans HP.out (M1.out.later (below_drewN (Below.refl _ _) 1)) hple hm5,hq5⟩
    clear hs D hrun hd
    go_wp2_with fail
    go_region_dies
    all_goals refine(DB.out _ (P1.out.later (Below.refl _ _).drew)).mono ?_
    all_goals rintro e w5 ⟨rfl,hm5,hq5⟩
    all_goals exact⟨rfl,F.out w5 hm5 hq5⟩
   |ok y p1 =>
    obtain⟨k2,s2,l2⟩:=y;have HA':=qh ((q8e (acc:=acc) hd hs).symm.trans hrun.out);have Hp1:=qh (HG.out f2 p _ _ hs);rw[hs]at DB;clear hs D hrun hd
    go_wp2_with fail
    go_region_law (first
     |(go_simp;refine(DB.out _ (P1.out.later (Below.refl _ _).drew)).mono ?_;rintro e w5 ⟨⟨a5,cap5,rfl,hn5⟩,hm5,hq5⟩;have hm5':=Mv.before P1.out (Below.refl _ _).drew hm5;have N5:=qh (N1.out.mv hm5' (by omega));have R5:=qh (R1.out.mv hm5' (by omega));have K5:=qh (Kids.step hm5' (by omega) K1.out);have hz5:nb+1<=w5.heap.size:=ql hz1.out hm5'.size;obtain⟨⟨c0,c1,c2⟩,y0,y1,y2⟩:=N5.out.cells;have l5:=N5.out.lt)
     |(refine xw rfl _ _ rfl (nb+1) (.slice va acc.length vcap) acc rfl (Kids.keep K5.out fun b _ hb2=>Below.heap_alloc _ _ _ hb2) ⟨w5.heap.size,0,none⟩ 1 (by rfl) (.mk k2 s2 l2) (.int .i64 k2) (.string s2) (.slice a5 l2.length cap5) (vz w5 _ _ _ _ _ rfl) (hn5.keep (fun b hb1 hb2=>⟨Below.heap_alloc _ _ _ hb2,ql hz1.out hb1,fun e=>by have:=K1.out.own b e;have hb1':W1.heap.size<=b:=hb1;omega⟩)) (by omega) (by simp;omega) _ rfl ?_;intro g6 cap6 w6 K6 G6 _ hg6;have hown:=K5.out.own;have N6:=qh ((N5.out.alloc _).grown' G6 (fun e=>by have:=hown _ e.symm;omega));have R6:=qh ((R5.out.alloc _).grown' G6 (fun e=>by have:=hown _ e.symm;omega));obtain⟨⟨d0,d1,d2⟩,z0,z1,z2⟩:=N6.out.cells))
    all_goals
     have hz6:nb+1<=w6.heap.size:=by have:=G6.size;simp at this;omega
     have M6:=Mv.later (Mv.trans HP.out M1.out hple hm5') ((((Below.refl w.heap.size w5).alloc (by omega) (.cells #[.int .i64 k2,.string s2,.slice a5 l2.length cap5] 25)).grown G6 (by simp;omega) (fun b hb=>by have:=hown b hb;omega)));obtain⟨V,hV⟩:∃ V,w6.setCell ⟨nb,2,none⟩ (.slice (some ⟨g6,0,none⟩) (acc.length+1) cap6)=V:=⟨_,rfl⟩;have M7:=qh (show Mv E p1 w V by rw[<-hV];exact M6.later ((Below.refl w.heap.size w6).setCell (p:=⟨nb,2,none⟩) (by simp only;omega) _));have N7:=qh (show Row3 V nb (.int .i64 k) (.string s) (.slice (some ⟨g6,0,none⟩) (acc.length+1) cap6)by rw[<-hV];exact N6.out.put2 _);have R7:=qh (show Row3 V w.heap.size (.int .i64 0) (.string ⟨#[]⟩) (.slice none 0 0)by rw[<-hV];exact R6.out.other _ (by simp only;omega));have K7:=qh (show Kids (nb+1) V (.slice (some ⟨g6,0,none⟩) (acc.length+1) cap6) (acc++[.mk k2 s2 l2])by rw[<-hV];exact K6.keep fun b hb1 _=>Below.heap_setCell _ _ _ _ (by simp only;omega));have P7:=qh (M7.out.ps HP.out hq5);have z7:=qh (show nb+1<=V.heap.size by rw[<-hV,qq];exact hz6);have Hm7:=qh P7.out.nxt;rw[hV];clear hV hn5 hm5 hm5' hq5 N5 R5 N6 R6 K6 G6 M6 c0 c1 c2 y0 y1 y2 d0 d1 d2 z0 z1 z2 n0 n1 n2 g0 g1 g2 l5 hg6 hown K5 DB
     go_wp2_with fail
     go_roundw
     case rel=>exact⟨f2,p1,acc++[Nd.mk k2 s2 l2],_,by have:=Hp1.out;omega,by omega,by have:=Hp1.out;omega,by have:=Hp1.out;simp;omega,HA',M7,P7,R7,N7,K7,z7⟩
     case measure=>rw[Hm7.out,Hmeas.out];have:=Hp1.out;omega
def KidsS(S:Nat->Prop)(w:World)(v:Value)(l:List Nd):Prop :=
 ∃ xs,w.ownsRow 0 25 3 v l.length xs/\(∀ g,v.ownBlock=some g->S g)/\∀ i (hi:i < l.length),∃ v0 v1 v2,xs[i*3]?=some v0/\xs[i*3+1]?=some v1/\xs[i*3+2]?=some v2/\NdS (fun b=>S b/\v.ownBlock≠some b) w l[i] v0 v1 v2
theorem Kids.toS{h:Nat}{w:World}{v:Value}{l:List Nd}(hk:Kids h w v l):KidsS (fun b=>h<=b/\b < w.heap.size) w v l:=by
 have ho:=hk.own;obtain⟨xs,h1,h2⟩:=hk;refine⟨xs,vj h1 (qp _),ho,fun i hi=>?_⟩;obtain⟨v0,v1,v2,e0,e1,e2,hn⟩:=h2 i hi;exact⟨v0,v1,v2,e0,e1,e2,hn.mono fun b hb hl=>⟨⟨hb.1,hl⟩,hb.2⟩⟩
theorem KidsS.keep{S S':Nat->Prop}{w w':World}{v:Value}{l:List Nd}(hk:KidsS S w v l)(he:∀ b,S b->b < w.heap.size->w'.heap[b]?=w.heap[b]?/\S' b):KidsS S' w' v l:=by
 obtain⟨xs,h1,h2,h3⟩:=hk;refine⟨xs,zi h1 fun k _ hl ho=>(he k (h2 k ho) hl).1,fun g hg=>(he g (h2 g hg) (h1.lt g hg).2).2,fun i hi=>?_⟩;obtain⟨v0,v1,v2,e0,e1,e2,hn⟩:=h3 i hi;exact⟨v0,v1,v2,e0,e1,e2,hn.keep fun b hb hl=>⟨(he b hb.1 hl).1,(he b hb.1 hl).2,hb.2⟩⟩
theorem KidsS.base0{S:Nat->Prop}{w:World}{v:Value}{l:List Nd}(hk:KidsS S w v l):Kids 0 w v l:=by
 obtain⟨xs,h1,h2,h3⟩:=hk;refine⟨xs,h1,fun i hi=>?_⟩;obtain⟨v0,v1,v2,e0,e1,e2,hn⟩:=h3 i hi;exact⟨v0,v1,v2,e0,e1,e2,hn.mono fun b hb _=>⟨qp _,hb.2⟩⟩
theorem KidsS.node{S:Nat->Prop}{w:World}{v:Value}{l:List Nd}(hk:KidsS S w v l)(k:Int)(s:ByteArray)(hs:s.size<=maxLen)(hl:l.length<=maxLen):NdS S w (.mk k s l) (.int .i64 k) (.string s) v:=by
 obtain⟨xs,h1,hS,h2⟩:=hk;rcases h1.2 with ⟨rfl,h0⟩|⟨g,cap,cur,rfl,hg,hh,hle,_,_,htake⟩
 ·obtain rfl:l=[]:=List.eq_nil_of_length_eq_zero h0
  exact .leaf _ _ _ _ hs _ _
 ·have hx:∀ j u,xs[j]?=some u->w.cell? ⟨g,j,none⟩=some u:=fun j u hj=>by
   have:=h1.cells (g:=g) rfl j u hj;have hadd:(⟨g,0,none⟩:Addr).add j=⟨g,j,none⟩:=by unfold Addr.add;split <;> simp_all
   rwa [hadd]at this
  refine .mk k s l (some ⟨g,0,none⟩) cap g 0 (fun i=>(xs[i*3]?).getD undef) (fun i=>(xs[i*3+1]?).getD undef) (fun i=>(xs[i*3+2]?).getD undef) hs hl hle (fun _=>rfl) (fun _=>hS g rfl) ?_ ?_ ?_ ?_
  ·intro i hi
   obtain⟨v0,v1,v2,e0,e1,e2,hn⟩:=h2 i hi;rw[Nat.zero_add,e0];exact hx _ _ e0
  ·intro i hi
   obtain⟨v0,v1,v2,e0,e1,e2,hn⟩:=h2 i hi;rw[Nat.zero_add,e1];exact hx _ _ e1
  ·intro i hi
   obtain⟨v0,v1,v2,e0,e1,e2,hn⟩:=h2 i hi;rw[Nat.zero_add,e2];exact hx _ _ e2
  ·intro i hi
   obtain⟨v0,v1,v2,e0,e1,e2,hn⟩:=h2 i hi;simp only[e0,e1,e2,Option.getD_some];exact hn.mono fun b hb _=>hb.1
theorem KidsS.snoc{S:Nat->Prop}{w w':World}{v:Value}{l:List Nd}{xs:List Value}{v0 v1 v2:Value}{x:Nd}{g cap:Nat}
  (h1:w.ownsRow 0 25 3 v l.length xs) (h2:∀ i (hi:i < l.length),∃ v0 v1 v2,xs[i*3]?=some v0/\xs[i*3+1]?=some v1/\xs[i*3+2]?=some v2/\NdS (fun b=>S b/\v.ownBlock≠some b) w l[i] v0 v1 v2)
  (hS:∀ g,v.ownBlock=some g->S g) (hx:NdS (fun b=>S b/\v.ownBlock≠some b) w x v0 v1 v2)
  (ho:w'.ownsRow 0 25 3 (.slice (some ⟨g,0,none⟩) (l.length+1) cap) (l.length+1) (xs++[v0,v1,v2])) (hg:w.grownBy w' v.ownBlock) (hw:v.ownBlock=some g\/g=w.heap.size) (hSn:S w.heap.size) :
  KidsS S w' (.slice (some ⟨g,0,none⟩) (l.length+1) cap) (l++[x]):=by
 have hk:∀ b,(S b/\v.ownBlock≠some b)->b < w.heap.size->w'.heap[b]?=w.heap[b]?/\(S b/\(Value.slice (some ⟨g,0,none⟩) (l.length+1) cap).ownBlock≠some b):=by
  rintro b⟨hb1,hb2⟩hb3;refine⟨hg.block b hb3 (fun e=>hb2 e.symm),hb1,?_⟩;intro e;have e':g=b:=by simpa[Value.ownBlock]using e
  rcases hw with hw|hw
  ·exact hb2 (by rw[hw,e'])
  ·omega
 have hxl:xs.length=l.length*3:=h1.1;refine⟨xs++[v0,v1,v2],by rw[qc];exact ho,fun g' hg'=>?_,fun i hi=>?_⟩
 ·have e':g=g':=by simpa[Value.ownBlock]using hg'
  rcases hw with hw|hw
  ·exact hS g' (by rw[hw,e'])
  ·rw[<-e',hw];exact hSn
 by_cases hlt:i < l.length
 ·obtain⟨u0,u1,u2,e0,e1,e2,hn⟩:=h2 i hlt
  refine⟨u0,u1,u2,?_,?_,?_,?_⟩
  ·rw[List.getElem?_append_left (by omega)];exact e0
  ·rw[List.getElem?_append_left (by omega)];exact e1
  ·rw[List.getElem?_append_left (by omega)];exact e2
  ·rw[List.getElem_append_left hlt]
   exact hn.keep hk
 ·have hi':i=l.length:=by simp only[qc,List.length_singleton]at hi;omega
  subst hi';refine⟨v0,v1,v2,?_,?_,?_,?_⟩
  ·rw[List.getElem?_append_right (by omega),show l.length*3 - xs.length=0 from by omega];rfl
  ·rw[List.getElem?_append_right (by omega),show l.length*3+1 - xs.length=1 from by omega];rfl
  ·rw[List.getElem?_append_right (by omega),show l.length*3+2 - xs.length=2 from by omega];rfl
  ·simp only[List.getElem_append_right (q5 _),Nat.sub_self,zo]
   exact hx.keep hk
section
variable {ops:Array Oper} {rest:List Oper} {o:Oper} {a:Act} {Q:Exit->Act->World->Prop} {w:World}
theorem q33{K:Act->World->Prop}{Ex:Prop}(hgd:o.guard=none)(s x:Operand)
  (ho:o.op = .call { callee:=.builtin .append,args:=#[s,x],argTypes:=#[23,23] })
  (S:Nat->Prop) (v:Value) (l:List Nd) (hs:a.eval s=v) (hk:KidsS S w v l) (ad:Addr) (c:Nat) (hx:a.eval x = .slice (some ad) 1 c) (t:Nd) (v0 v1 v2:Value)
  (hnews:∀ j u,[v0,v1,v2][j]?=some u->w.cell? (ad.add j)=some u) (hn:NdS (fun b=>S b/\v.ownBlock≠some b) w t v0 v1 v2) (hlen:l.length<=1000000) (hSn:S w.heap.size)
  (hK:∀ g cap w',KidsS S w' (.slice (some ⟨g,0,none⟩) (l.length+1) cap) (l++[t])->w.grownBy w' v.ownBlock->g < w'.heap.size->K (a.put o.dst (.slice (some ⟨g,0,none⟩) (l.length+1) cap)) w') :
  if Region.wanted o (yielded ops a.tmps)=true then Oper.wp Tryz.prog o a w K Q else Ex:=by
 obtain⟨i0,hi0,hz0,hz1,hz2⟩:=info_parts q8h;obtain⟨xs,h1,hS,h2⟩:=hk;refine step_append_lies w hgd s x 23 ho 0 25 i0 _ 3 48 Tryz.underlying23 hi0 hz0 hz1 hz2 rfl (by decide) v l.length xs hs h1 ad 1 c [v0,v1,v2] hx rfl hnews hn.ones (by decide) (by unfold maxLen;omega) (by omega) (qp _) _ rfl ?_;intro g cap w' h3 h4 h5 h6;exact hK g cap w' (KidsS.snoc h1 h2 hS hn h3 h4 h5 hSn) h4 h6
end
theorem qlw(E:PE)(q:Nat)(w:World)(h:PS E q w)(k:Int)(hk:Sx.knd E.ts q=1)(hc:Sx.txt E.ts (q+1)≠[58]) :
  Calls Tryz.prog 135 #[.pointer (some ⟨E.pb,0,none⟩),.int .i64 k] w (Gr E w (.bad (q+1))):=by
 have HP:=qh h;have hpl:=h.lt;have hfew:=h.g.few;have T2:=qh (fun w h=>q0e E (q+1) ⟨#[58]⟩ w h hc);have T1:=qh (fun w h=>q4z E q w h k hk);have Hsz:=qh (q1t E h.g q);generalize Sx.str (Sx.txt E.ts q)=s at *;have B0:=qh ((Below.refl w.heap.size w).alloc (q5 _) (.cells #[.int .i64 0,.string ⟨#[]⟩,.slice none 0 0] 25));have R0:=qh (Row3.new w (.int .i64 0) (.string ⟨#[]⟩) (.slice none 0 0));clear h hk hc;obtain⟨R,hR⟩:∃ R,Gr E w (.bad (q+1))=R:=⟨_,rfl⟩;have HR:=qh hR;rw[hR];clear hR;go_enter Tryz.func135,Tryz.ntmps135
 go_wp2_with fail
 refine(T1.out _ (HP.out.later B0.out)).mono ?_;rintro e u1⟨rfl,hm,hp⟩;have KS0:KidsS (fun b=>w.heap.size < b/\b < u1.heap.size) u1 (.slice none 0 0) []:=⟨[],World.ownsRow_nil _ _ _ _,fun g hg=>(by cases hg),fun i hi=>absurd hi (Nat.not_lt_zero i)⟩;have hp1:=hp;obtain⟨nb,hnb⟩:∃ nb,u1.heap.size=nb:=⟨_,rfl⟩;have hwn:w.heap.size < nb:=by rw[<-hnb];exact(R0.out.mv hm (by omega)).lt
 have M:=qh ((Mv.before HP.out B0.out hm).alloc (.cells #[.int .i64 k,.string s,(.slice none 0 0)] 25));have P:=qh (hp1.later ((Below.refl _ u1).alloc (q5 _) (.cells #[.int .i64 k,.string s,(.slice none 0 0)] 25)));have Rw:=qh ((R0.out.mv hm (by omega)).alloc (.cells #[.int .i64 k,.string s,(.slice none 0 0)] 25));have Nw:=qh (Row3.newAt (W:=u1) (n:=nb) (v0:=.int .i64 k) (v1:=.string s) (v2:=(.slice none 0 0)) hnb.symm);have KS:=qh (KS0.keep (S':=fun b=>w.heap.size < b/\b≠nb) (w':=u1.alloc (.cells #[.int .i64 k,.string s,(.slice none 0 0)] 25)) fun b h1 h2=>⟨Below.heap_alloc _ _ _ h2,h1.1,by have:=h1.2;omega⟩);have hz:nb+1<=(u1.alloc (.cells #[.int .i64 k,.string s,(.slice none 0 0)] 25)).heap.size:=by simp;omega
 have Hz:=qh hz;clear hm hp1 KS0 hz hp
 go_wp2_with fail
 refine(T2.out _ P.out).mono ?_;rintro e u4⟨rfl,hb⟩;have M4:=M.out.later (hb.mono M.out.size);go_wp2;rw[<-HR.out];exact⟨rfl,rfl,M4,P.out.le⟩
theorem qlx(E:PE)(q:Nat)(w:World)(h:PS E q w)(k:Int)(hk:Sx.knd E.ts q=1)(hc:Sx.txt E.ts (q+1)=[58])(qb:Nat)(CB:∀ w0,PS E ((q+1)+1) w0->Calls Tryz.prog 42 #[.pointer (some ⟨E.pb,0,none⟩)] w0 (Gr E w0 (.bad qb))) :
  Calls Tryz.prog 135 #[.pointer (some ⟨E.pb,0,none⟩),.int .i64 k] w (Gr E w (.bad qb)):=by
 have HP:=qh h;have hpl:=h.lt;have hfew:=h.g.few;have T2:=qh (fun w h=>ka E (q+1) ⟨#[58]⟩ w h hc (by decide));have D2:=qh CB;have T1:=qh (fun w h=>q4z E q w h k hk);have Hsz:=qh (q1t E h.g q);generalize Sx.str (Sx.txt E.ts q)=s at *;have B0:=qh ((Below.refl w.heap.size w).alloc (q5 _) (.cells #[.int .i64 0,.string ⟨#[]⟩,.slice none 0 0] 25));have R0:=qh (Row3.new w (.int .i64 0) (.string ⟨#[]⟩) (.slice none 0 0));clear h hk hc CB;obtain⟨R,hR⟩:∃ R,Gr E w (.bad qb)=R:=⟨_,rfl⟩;have HR:=qh hR;rw[hR];clear hR;go_enter Tryz.func135,Tryz.ntmps135
 go_wp2_with fail
 refine(T1.out _ (HP.out.later B0.out)).mono ?_;rintro e u1⟨rfl,hm,hp⟩;have KS0:KidsS (fun b=>w.heap.size < b/\b < u1.heap.size) u1 (.slice none 0 0) []:=⟨[],World.ownsRow_nil _ _ _ _,fun g hg=>(by cases hg),fun i hi=>absurd hi (Nat.not_lt_zero i)⟩;have hp1:=hp;obtain⟨nb,hnb⟩:∃ nb,u1.heap.size=nb:=⟨_,rfl⟩;have hwn:w.heap.size < nb:=by rw[<-hnb];exact(R0.out.mv hm (by omega)).lt
 have M:=qh ((Mv.before HP.out B0.out hm).alloc (.cells #[.int .i64 k,.string s,(.slice none 0 0)] 25));have P:=qh (hp1.later ((Below.refl _ u1).alloc (q5 _) (.cells #[.int .i64 k,.string s,(.slice none 0 0)] 25)));have Rw:=qh ((R0.out.mv hm (by omega)).alloc (.cells #[.int .i64 k,.string s,(.slice none 0 0)] 25));have Nw:=qh (Row3.newAt (W:=u1) (n:=nb) (v0:=.int .i64 k) (v1:=.string s) (v2:=(.slice none 0 0)) hnb.symm);have KS:=qh (KS0.keep (S':=fun b=>w.heap.size < b/\b≠nb) (w':=u1.alloc (.cells #[.int .i64 k,.string s,(.slice none 0 0)] 25)) fun b h1 h2=>⟨Below.heap_alloc _ _ _ h2,h1.1,by have:=h1.2;omega⟩);have hz:nb+1<=(u1.alloc (.cells #[.int .i64 k,.string s,(.slice none 0 0)] 25)).heap.size:=by simp;omega
 have Hz:=qh hz;clear hm hp1 KS0 hz hp
 go_wp2_with fail
 refine(T2.out _ P.out).mono ?_;rintro e u4⟨rfl,hm,hp⟩;have hz4:nb+1<=u4.heap.size:=ql Hz.out hm.size;have M4:=qh (Mv.trans HP.out M.out P.out.le hm);have P4:=qh hp;have R4:=qh (Rw.out.mv hm (by omega));have N4:=qh (Nw.out.mv hm (by omega));have K4:=qh (KS.out.keep (S':=fun b=>w.heap.size < b/\b≠nb) (w':=u4) fun b h1 h2=>⟨hm.blk b h2 (by omega),h1⟩);obtain⟨⟨m0,m1,m2⟩,f0,f1,f2⟩:=N4.out.cells;have ln:=N4.out.lt;clear hm hp
 have F:Hid (∀ w5,Mv E qb u4.drew w5->qb<=E.ts.length->R (.panicked [{ v:=xz E qb,recovered:=false }]) w5):=qh fun w5 hm5 hq5=>by
  rw[<-HR.out];exact⟨rfl,Mv.trans HP.out (M4.out.later (below_drewN (Below.refl _ _) 1)) P4.out.le hm5,hq5⟩
 go_wp2_with fail
 go_region_dies
 all_goals refine(D2.out _ (P4.out.later (Below.refl _ _).drew)).mono ?_
 all_goals rintro e w5 ⟨rfl,hm5,hq5⟩
 all_goals exact⟨rfl,F.out w5 hm5 hq5⟩
theorem qlv(E:PE)(q:Nat)(w:World)(h:PS E q w)(k:Int)(hk:Sx.knd E.ts q=1)(hc:Sx.txt E.ts (q+1)=[58])(k2:Int)(s2:ByteArray)(l2:List Nd)(qb:Nat)(CB:∀ w0,PS E ((q+1)+1) w0->Calls Tryz.prog 42 #[.pointer (some ⟨E.pb,0,none⟩)] w0 (Gr E w0 (.ok (.mk k2 s2 l2) qb))) :
  Calls Tryz.prog 135 #[.pointer (some ⟨E.pb,0,none⟩),.int .i64 k] w (Gr E w (.ok (.mk k (Sx.str (Sx.txt E.ts q)) (([]:List Nd)++[.mk k2 s2 l2])) qb)):=by
 have HP:=qh h;have hpl:=h.lt;have hfew:=h.g.few;have T2:=qh (fun w h=>ka E (q+1) ⟨#[58]⟩ w h hc (by decide));have D2:=qh CB;have T1:=qh (fun w h=>q4z E q w h k hk);have Hsz:=qh (q1t E h.g q);generalize Sx.str (Sx.txt E.ts q)=s at *;have B0:=qh ((Below.refl w.heap.size w).alloc (q5 _) (.cells #[.int .i64 0,.string ⟨#[]⟩,.slice none 0 0] 25));have R0:=qh (Row3.new w (.int .i64 0) (.string ⟨#[]⟩) (.slice none 0 0));clear h hk hc CB;obtain⟨R,hR⟩:∃ R,Gr E w (.ok (.mk k s (([]:List Nd)++[.mk k2 s2 l2])) qb)=R:=⟨_,rfl⟩;have HR:=qh hR;rw[hR];clear hR;go_enter Tryz.func135,Tryz.ntmps135
 go_wp2_with fail
 refine(T1.out _ (HP.out.later B0.out)).mono ?_;rintro e u1⟨rfl,hm,hp⟩;have KS0:KidsS (fun b=>w.heap.size < b/\b < u1.heap.size) u1 (.slice none 0 0) []:=⟨[],World.ownsRow_nil _ _ _ _,fun g hg=>(by cases hg),fun i hi=>absurd hi (Nat.not_lt_zero i)⟩;have hp1:=hp;obtain⟨nb,hnb⟩:∃ nb,u1.heap.size=nb:=⟨_,rfl⟩;have hwn:w.heap.size < nb:=by rw[<-hnb];exact(R0.out.mv hm (by omega)).lt
 have M:=qh ((Mv.before HP.out B0.out hm).alloc (.cells #[.int .i64 k,.string s,(.slice none 0 0)] 25));have P:=qh (hp1.later ((Below.refl _ u1).alloc (q5 _) (.cells #[.int .i64 k,.string s,(.slice none 0 0)] 25)));have Rw:=qh ((R0.out.mv hm (by omega)).alloc (.cells #[.int .i64 k,.string s,(.slice none 0 0)] 25));have Nw:=qh (Row3.newAt (W:=u1) (n:=nb) (v0:=.int .i64 k) (v1:=.string s) (v2:=(.slice none 0 0)) hnb.symm);have KS:=qh (KS0.keep (S':=fun b=>w.heap.size < b/\b≠nb) (w':=u1.alloc (.cells #[.int .i64 k,.string s,(.slice none 0 0)] 25)) fun b h1 h2=>⟨Below.heap_alloc _ _ _ h2,h1.1,by have:=h1.2;omega⟩);have hz:nb+1<=(u1.alloc (.cells #[.int .i64 k,.string s,(.slice none 0 0)] 25)).heap.size:=by simp;omega
 have Hz:=qh hz;clear hm hp1 KS0 hz hp
 go_wp2_with fail
 refine(T2.out _ P.out).mono ?_;rintro e u4⟨rfl,hm,hp⟩;have hz4:nb+1<=u4.heap.size:=ql Hz.out hm.size;have M4:=qh (Mv.trans HP.out M.out P.out.le hm);have P4:=qh hp;have R4:=qh (Rw.out.mv hm (by omega));have N4:=qh (Nw.out.mv hm (by omega));have K4:=qh (KS.out.keep (S':=fun b=>w.heap.size < b/\b≠nb) (w':=u4) fun b h1 h2=>⟨hm.blk b h2 (by omega),h1⟩);obtain⟨⟨m0,m1,m2⟩,f0,f1,f2⟩:=N4.out.cells;have ln:=N4.out.lt;clear hm hp
 go_wp2_with fail
 go_region_law (first
  |(go_simp;go_at_call 42;refine(D2.out _ (P4.out.later (Below.refl _ _).drew)).mono ?_;rintro e w5 ⟨⟨a5,cap5,rfl,hn5⟩,hm5,hq5⟩;have hm5':=Mv.before P4.out (Below.refl _ _).drew hm5;have N5:=qh (N4.out.mv hm5' (by omega));have R5:=qh (R4.out.mv hm5' (by omega));have K5:=qh (K4.out.keep (S':=fun b=>w.heap.size < b/\b≠nb) (w':=w5) fun b h1 h2=>⟨hm5'.blk b h2 (by omega),h1⟩);have hz5:nb+1<=w5.heap.size:=ql hz4 hm5'.size;obtain⟨⟨c0,c1,c2⟩,y0,y1,y2⟩:=N5.out.cells;have l5:=N5.out.lt)
  |(refine q33 rfl _ _ rfl (fun b=>w.heap.size < b/\b≠nb) (.slice none 0 0) ([]:List Nd) rfl (K5.out.keep fun b h1 hb2=>⟨Below.heap_alloc _ _ _ hb2,h1⟩) ⟨w5.heap.size,0,none⟩ 1 (by rfl) (.mk k2 s2 l2) (.int .i64 k2) (.string s2) (.slice a5 l2.length cap5) (vz w5 _ _ _ _ _ rfl) (hn5.keep (fun b hb1 hb2=>by have hb1':u4.heap.size<=b:=hb1;exact⟨Below.heap_alloc _ _ _ hb2,⟨by omega,by omega⟩,fun e=>by have:=(K4.out.base0).own b e;omega⟩)) (by first|omega|simp) (by simp;omega) ?_;intro g6 cap6 w6 K6 G6 hg6;have hown:∀ g,(Value.slice none 0 0).ownBlock=some g\/((.slice none 0 0):Value).ownBlock=some g->w.heap.size < g/\g≠nb:=(fun g hg=>by obtain⟨_,_,hS,_⟩:=K5.out;rcases hg with hg|hg <;> first|exact hS g hg|cases hg);have N6:=qh ((N5.out.alloc _).grown' G6 (fun e=>by have:=(hown _ (.inr e.symm)).2;omega));have R6:=qh ((R5.out.alloc _).grown' G6 (fun e=>by have:=(hown _ (.inr e.symm)).1;omega));obtain⟨⟨d0,d1,d2⟩,z0,z1,z2⟩:=N6.out.cells))
 all_goals
  have hz6:nb+1<=w6.heap.size:=by have:=G6.size;simp at this;omega
  have M6:=Mv.later (Mv.trans HP.out M4.out P4.out.le hm5') ((((Below.refl w.heap.size w5).alloc (by omega) (.cells #[.int .i64 k2,.string s2,.slice a5 l2.length cap5] 25)).grown G6 (by simp;omega) (fun b hb=>by have:=(hown b (.inr hb)).1;omega)));obtain⟨V,hV⟩:∃ V,w6.setCell ⟨nb,2,none⟩ (.slice (some ⟨g6,0,none⟩) (([]:List Nd).length+1) cap6)=V:=⟨_,rfl⟩;have M7:=qh (show Mv E qb w V by rw[<-hV];exact M6.later ((Below.refl w.heap.size w6).setCell (p:=⟨nb,2,none⟩) (by simp only;omega) _));have N7:=qh (show Row3 V nb (.int .i64 k) (.string s) (.slice (some ⟨g6,0,none⟩) (([]:List Nd).length+1) cap6)by rw[<-hV];exact N6.out.put2 _);have R7:=qh (show Row3 V w.heap.size (.int .i64 0) (.string ⟨#[]⟩) (.slice none 0 0)by rw[<-hV];exact R6.out.other _ (by simp only;omega));have ND:=qh ((K6.node k s Hsz.out (by unfold maxLen;simp;try omega)).keep (S':=fun b=>w.heap.size<=b) (w':=((V.setCell ⟨w.heap.size,0,none⟩ (.int .i64 k)).setCell ⟨w.heap.size,1,none⟩ (.string s)).setCell ⟨w.heap.size,2,none⟩ (.slice (some ⟨g6,0,none⟩) (([]:List Nd).length+1) cap6)) fun b h1 h2=>⟨(((Kp.refl (w.heap.size+1) V).put3 (b:=w.heap.size) _ _ _ (by omega)).blk b (by omega) (by rw[<-hV,qq];exact h2)).trans (by rw[<-hV];exact Below.heap_setCell _ _ _ _ h1.2),by omega⟩);have Q7:=qh hq5
  try simp only[qo,Nat.zero_add]at hV N7 ND
  rw[hV];clear hV hn5 hm5 hm5' hq5 N5 R5 N6 R6 K6 G6 M6 c0 c1 c2 y0 y1 y2 l5 d0 d1 d2 z0 z1 z2 m0 m1 m2 f0 f1 f2 ln hg6 hown K5;obtain⟨⟨n0,n1,n2⟩,_⟩:=N7.out.cells;obtain⟨⟨r0,r1,r2⟩,g0,g1,g2⟩:=R7.out.cells;have ln:=N7.out.lt;have lr:=R7.out.lt;go_wp2;refine zg (R7.out.put _ _ _) Tryz.results135 rfl rfl ?_;rw[<-HR.out];exact⟨⟨_,_,rfl,ND.out⟩,M7.out.put3 (q5 _) _ _ _,Q7.out⟩
theorem qec(E:PE)(q:Nat)(w:World)(h:PS E q w)(k:Int)(f:Nat)(hf:16*(E.ts.length - q)+1<=f)(l:List Nd)(q1:Nat)(hnm:Sx.names E.ts f q = .ok l q1)(hc:Sx.txt E.ts q1≠[58]) :
  Calls Tryz.prog 132 #[.pointer (some ⟨E.pb,0,none⟩),.int .i64 k] w (Gr E w (.bad q1)):=by
 have HP:=qh h;have hpl:=h.lt;have hfew:=h.g.few;have T2:=qh (fun w h=>q0e E q1 ⟨#[58]⟩ w h hc);have T1:=qh (fun w h=>q0f E q w h k f hf);rw[hnm]at T1;have Hsz:Hid (Sx.noS.size<=maxLen):=qh (by unfold maxLen;decide);have B0:=qh ((Below.refl w.heap.size w).alloc (q5 _) (.cells #[.int .i64 0,.string ⟨#[]⟩,.slice none 0 0] 25));have R0:=qh (Row3.new w (.int .i64 0) (.string ⟨#[]⟩) (.slice none 0 0));clear h hf hnm hc;obtain⟨R,hR⟩:∃ R,Gr E w (.bad q1)=R:=⟨_,rfl⟩;have HR:=qh hR;rw[hR];clear hR;go_enter Tryz.func132,Tryz.ntmps132
 go_wp2_with fail
 refine(T1.out _ (HP.out.later B0.out)).mono ?_;rintro e u1⟨⟨v1,rfl,hk1⟩,hm,hq1,hl1⟩;obtain⟨va,vcap,rfl,_⟩:=hk1.shape;have KS0:KidsS (fun b=>w.heap.size < b/\b < u1.heap.size) u1 (.slice va l.length vcap) l:=hk1.toS.keep fun b h1 _=>⟨rfl,by have:=h1.1;simp at this;omega,h1.2⟩
 have hp1:=(Mv.before HP.out B0.out hm).ps HP.out hq1;obtain⟨nb,hnb⟩:∃ nb,u1.heap.size=nb:=⟨_,rfl⟩;have hwn:w.heap.size < nb:=by rw[<-hnb];exact(R0.out.mv hm (by omega)).lt
 have M:=qh ((Mv.before HP.out B0.out hm).alloc (.cells #[.int .i64 k,.string ⟨#[]⟩,(.slice va l.length vcap)] 25));have P:=qh (hp1.later ((Below.refl _ u1).alloc (q5 _) (.cells #[.int .i64 k,.string ⟨#[]⟩,(.slice va l.length vcap)] 25)));have Rw:=qh ((R0.out.mv hm (by omega)).alloc (.cells #[.int .i64 k,.string ⟨#[]⟩,(.slice va l.length vcap)] 25));have Nw:=qh (Row3.newAt (W:=u1) (n:=nb) (v0:=.int .i64 k) (v1:=.string ⟨#[]⟩) (v2:=(.slice va l.length vcap)) hnb.symm);have KS:=qh (KS0.keep (S':=fun b=>w.heap.size < b/\b≠nb) (w':=u1.alloc (.cells #[.int .i64 k,.string ⟨#[]⟩,(.slice va l.length vcap)] 25)) fun b h1 h2=>⟨Below.heap_alloc _ _ _ h2,h1.1,by have:=h1.2;omega⟩);have hz:nb+1<=(u1.alloc (.cells #[.int .i64 k,.string ⟨#[]⟩,(.slice va l.length vcap)] 25)).heap.size:=by simp;omega
 have Hz:=qh hz;clear hm hp1 KS0 hz hk1
 go_wp2_with fail
 refine(T2.out _ P.out).mono ?_;rintro e u4⟨rfl,hb⟩;have M4:=M.out.later (hb.mono M.out.size);go_wp2;rw[<-HR.out];exact⟨rfl,rfl,M4,P.out.le⟩
theorem qed(E:PE)(q:Nat)(w:World)(h:PS E q w)(k:Int)(f:Nat)(hf:16*(E.ts.length - q)+1<=f)(l:List Nd)(q1:Nat)(hnm:Sx.names E.ts f q = .ok l q1)(hc:Sx.txt E.ts q1=[58])(qb:Nat)(CB:∀ w0,PS E (q1+1) w0->Calls Tryz.prog 44 #[.pointer (some ⟨E.pb,0,none⟩)] w0 (Gr E w0 (.bad qb))) :
  Calls Tryz.prog 132 #[.pointer (some ⟨E.pb,0,none⟩),.int .i64 k] w (Gr E w (.bad qb)):=by
 have HP:=qh h;have hpl:=h.lt;have hfew:=h.g.few;have T2:=qh (fun w h=>ka E q1 ⟨#[58]⟩ w h hc (by decide));have D2:=qh CB;have T1:=qh (fun w h=>q0f E q w h k f hf);rw[hnm]at T1;have Hsz:Hid (Sx.noS.size<=maxLen):=qh (by unfold maxLen;decide);have B0:=qh ((Below.refl w.heap.size w).alloc (q5 _) (.cells #[.int .i64 0,.string ⟨#[]⟩,.slice none 0 0] 25));have R0:=qh (Row3.new w (.int .i64 0) (.string ⟨#[]⟩) (.slice none 0 0));clear h hf hnm hc CB;obtain⟨R,hR⟩:∃ R,Gr E w (.bad qb)=R:=⟨_,rfl⟩;have HR:=qh hR;rw[hR];clear hR;go_enter Tryz.func132,Tryz.ntmps132
 go_wp2_with fail
 refine(T1.out _ (HP.out.later B0.out)).mono ?_;rintro e u1⟨⟨v1,rfl,hk1⟩,hm,hq1,hl1⟩;obtain⟨va,vcap,rfl,_⟩:=hk1.shape;have KS0:KidsS (fun b=>w.heap.size < b/\b < u1.heap.size) u1 (.slice va l.length vcap) l:=hk1.toS.keep fun b h1 _=>⟨rfl,by have:=h1.1;simp at this;omega,h1.2⟩
 have hp1:=(Mv.before HP.out B0.out hm).ps HP.out hq1;obtain⟨nb,hnb⟩:∃ nb,u1.heap.size=nb:=⟨_,rfl⟩;have hwn:w.heap.size < nb:=by rw[<-hnb];exact(R0.out.mv hm (by omega)).lt
 have M:=qh ((Mv.before HP.out B0.out hm).alloc (.cells #[.int .i64 k,.string ⟨#[]⟩,(.slice va l.length vcap)] 25));have P:=qh (hp1.later ((Below.refl _ u1).alloc (q5 _) (.cells #[.int .i64 k,.string ⟨#[]⟩,(.slice va l.length vcap)] 25)));have Rw:=qh ((R0.out.mv hm (by omega)).alloc (.cells #[.int .i64 k,.string ⟨#[]⟩,(.slice va l.length vcap)] 25));have Nw:=qh (Row3.newAt (W:=u1) (n:=nb) (v0:=.int .i64 k) (v1:=.string ⟨#[]⟩) (v2:=(.slice va l.length vcap)) hnb.symm);have KS:=qh (KS0.keep (S':=fun b=>w.heap.size < b/\b≠nb) (w':=u1.alloc (.cells #[.int .i64 k,.string ⟨#[]⟩,(.slice va l.length vcap)] 25)) fun b h1 h2=>⟨Below.heap_alloc _ _ _ h2,h1.1,by have:=h1.2;omega⟩);have hz:nb+1<=(u1.alloc (.cells #[.int .i64 k,.string ⟨#[]⟩,(.slice va l.length vcap)] 25)).heap.size:=by simp;omega
 have Hz:=qh hz;clear hm hp1 KS0 hz hk1
 go_wp2_with fail
 refine(T2.out _ P.out).mono ?_;rintro e u4⟨rfl,hm,hp⟩;have hz4:nb+1<=u4.heap.size:=ql Hz.out hm.size;have M4:=qh (Mv.trans HP.out M.out P.out.le hm);have P4:=qh hp;have R4:=qh (Rw.out.mv hm (by omega));have N4:=qh (Nw.out.mv hm (by omega));have K4:=qh (KS.out.keep (S':=fun b=>w.heap.size < b/\b≠nb) (w':=u4) fun b h1 h2=>⟨hm.blk b h2 (by omega),h1⟩);obtain⟨⟨m0,m1,m2⟩,f0,f1,f2⟩:=N4.out.cells;have ln:=N4.out.lt;clear hm hp
 have F:Hid (∀ w5,Mv E qb u4.drew w5->qb<=E.ts.length->R (.panicked [{ v:=xz E qb,recovered:=false }]) w5):=qh fun w5 hm5 hq5=>by
  rw[<-HR.out];exact⟨rfl,Mv.trans HP.out (M4.out.later (below_drewN (Below.refl _ _) 1)) P4.out.le hm5,hq5⟩
 go_wp2_with fail
 go_region_dies
 all_goals refine(D2.out _ (P4.out.later (Below.refl _ _).drew)).mono ?_
 all_goals rintro e w5 ⟨rfl,hm5,hq5⟩
 all_goals exact⟨rfl,F.out w5 hm5 hq5⟩
theorem qeb(E:PE)(q:Nat)(w:World)(h:PS E q w)(k:Int)(f:Nat)(hf:16*(E.ts.length - q)+1<=f)(l:List Nd)(q1:Nat)(hnm:Sx.names E.ts f q = .ok l q1)(hc:Sx.txt E.ts q1=[58])(k2:Int)(s2:ByteArray)(l2:List Nd)(qb:Nat)(CB:∀ w0,PS E (q1+1) w0->Calls Tryz.prog 44 #[.pointer (some ⟨E.pb,0,none⟩)] w0 (Gr E w0 (.ok (.mk k2 s2 l2) qb))) :
  Calls Tryz.prog 132 #[.pointer (some ⟨E.pb,0,none⟩),.int .i64 k] w (Gr E w (.ok (.mk k Sx.noS (l++[.mk k2 s2 l2])) qb)):=by
 have HP:=qh h;have hpl:=h.lt;have hfew:=h.g.few;have T2:=qh (fun w h=>ka E q1 ⟨#[58]⟩ w h hc (by decide));have D2:=qh CB;have T1:=qh (fun w h=>q0f E q w h k f hf);rw[hnm]at T1;have Hsz:Hid (Sx.noS.size<=maxLen):=qh (by unfold maxLen;decide);have B0:=qh ((Below.refl w.heap.size w).alloc (q5 _) (.cells #[.int .i64 0,.string ⟨#[]⟩,.slice none 0 0] 25));have R0:=qh (Row3.new w (.int .i64 0) (.string ⟨#[]⟩) (.slice none 0 0));clear h hf hnm hc CB;obtain⟨R,hR⟩:∃ R,Gr E w (.ok (.mk k Sx.noS (l++[.mk k2 s2 l2])) qb)=R:=⟨_,rfl⟩;have HR:=qh hR;rw[hR];clear hR;go_enter Tryz.func132,Tryz.ntmps132
 go_wp2_with fail
 refine(T1.out _ (HP.out.later B0.out)).mono ?_;rintro e u1⟨⟨v1,rfl,hk1⟩,hm,hq1,hl1⟩;obtain⟨va,vcap,rfl,_⟩:=hk1.shape;have KS0:KidsS (fun b=>w.heap.size < b/\b < u1.heap.size) u1 (.slice va l.length vcap) l:=hk1.toS.keep fun b h1 _=>⟨rfl,by have:=h1.1;simp at this;omega,h1.2⟩
 have hp1:=(Mv.before HP.out B0.out hm).ps HP.out hq1;obtain⟨nb,hnb⟩:∃ nb,u1.heap.size=nb:=⟨_,rfl⟩;have hwn:w.heap.size < nb:=by rw[<-hnb];exact(R0.out.mv hm (by omega)).lt
 have M:=qh ((Mv.before HP.out B0.out hm).alloc (.cells #[.int .i64 k,.string ⟨#[]⟩,(.slice va l.length vcap)] 25));have P:=qh (hp1.later ((Below.refl _ u1).alloc (q5 _) (.cells #[.int .i64 k,.string ⟨#[]⟩,(.slice va l.length vcap)] 25)));have Rw:=qh ((R0.out.mv hm (by omega)).alloc (.cells #[.int .i64 k,.string ⟨#[]⟩,(.slice va l.length vcap)] 25));have Nw:=qh (Row3.newAt (W:=u1) (n:=nb) (v0:=.int .i64 k) (v1:=.string ⟨#[]⟩) (v2:=(.slice va l.length vcap)) hnb.symm);have KS:=qh (KS0.keep (S':=fun b=>w.heap.size < b/\b≠nb) (w':=u1.alloc (.cells #[.int .i64 k,.string ⟨#[]⟩,(.slice va l.length vcap)] 25)) fun b h1 h2=>⟨Below.heap_alloc _ _ _ h2,h1.1,by have:=h1.2;omega⟩);have hz:nb+1<=(u1.alloc (.cells #[.int .i64 k,.string ⟨#[]⟩,(.slice va l.length vcap)] 25)).heap.size:=by simp;omega
 have Hz:=qh hz;clear hm hp1 KS0 hz hk1
 go_wp2_with fail
 refine(T2.out _ P.out).mono ?_;rintro e u4⟨rfl,hm,hp⟩;have hz4:nb+1<=u4.heap.size:=ql Hz.out hm.size;have M4:=qh (Mv.trans HP.out M.out P.out.le hm);have P4:=qh hp;have R4:=qh (Rw.out.mv hm (by omega));have N4:=qh (Nw.out.mv hm (by omega));have K4:=qh (KS.out.keep (S':=fun b=>w.heap.size < b/\b≠nb) (w':=u4) fun b h1 h2=>⟨hm.blk b h2 (by omega),h1⟩);obtain⟨⟨m0,m1,m2⟩,f0,f1,f2⟩:=N4.out.cells;have ln:=N4.out.lt;clear hm hp
 go_wp2_with fail
 go_region_law (first
  |(go_simp;go_at_call 44;refine(D2.out _ (P4.out.later (Below.refl _ _).drew)).mono ?_;rintro e w5 ⟨⟨a5,cap5,rfl,hn5⟩,hm5,hq5⟩;have hm5':=Mv.before P4.out (Below.refl _ _).drew hm5;have N5:=qh (N4.out.mv hm5' (by omega));have R5:=qh (R4.out.mv hm5' (by omega));have K5:=qh (K4.out.keep (S':=fun b=>w.heap.size < b/\b≠nb) (w':=w5) fun b h1 h2=>⟨hm5'.blk b h2 (by omega),h1⟩);have hz5:nb+1<=w5.heap.size:=ql hz4 hm5'.size;obtain⟨⟨c0,c1,c2⟩,y0,y1,y2⟩:=N5.out.cells;have l5:=N5.out.lt)
  |(refine q33 rfl _ _ rfl (fun b=>w.heap.size < b/\b≠nb) (.slice va l.length vcap) l rfl (K5.out.keep fun b h1 hb2=>⟨Below.heap_alloc _ _ _ hb2,h1⟩) ⟨w5.heap.size,0,none⟩ 1 (by rfl) (.mk k2 s2 l2) (.int .i64 k2) (.string s2) (.slice a5 l2.length cap5) (vz w5 _ _ _ _ _ rfl) (hn5.keep (fun b hb1 hb2=>by have hb1':u4.heap.size<=b:=hb1;exact⟨Below.heap_alloc _ _ _ hb2,⟨by omega,by omega⟩,fun e=>by have:=(K4.out.base0).own b e;omega⟩)) (by first|omega|simp) (by simp;omega) ?_;intro g6 cap6 w6 K6 G6 hg6;have hown:∀ g,(Value.slice none 0 0).ownBlock=some g\/((.slice va l.length vcap):Value).ownBlock=some g->w.heap.size < g/\g≠nb:=(fun g hg=>by obtain⟨_,_,hS,_⟩:=K5.out;rcases hg with hg|hg <;> first|exact hS g hg|cases hg);have N6:=qh ((N5.out.alloc _).grown' G6 (fun e=>by have:=(hown _ (.inr e.symm)).2;omega));have R6:=qh ((R5.out.alloc _).grown' G6 (fun e=>by have:=(hown _ (.inr e.symm)).1;omega));obtain⟨⟨d0,d1,d2⟩,z0,z1,z2⟩:=N6.out.cells))
 all_goals
  have hz6:nb+1<=w6.heap.size:=by have:=G6.size;simp at this;omega
  have M6:=Mv.later (Mv.trans HP.out M4.out P4.out.le hm5') ((((Below.refl w.heap.size w5).alloc (by omega) (.cells #[.int .i64 k2,.string s2,.slice a5 l2.length cap5] 25)).grown G6 (by simp;omega) (fun b hb=>by have:=(hown b (.inr hb)).1;omega)));obtain⟨V,hV⟩:∃ V,w6.setCell ⟨nb,2,none⟩ (.slice (some ⟨g6,0,none⟩) (l.length+1) cap6)=V:=⟨_,rfl⟩;have M7:=qh (show Mv E qb w V by rw[<-hV];exact M6.later ((Below.refl w.heap.size w6).setCell (p:=⟨nb,2,none⟩) (by simp only;omega) _));have N7:=qh (show Row3 V nb (.int .i64 k) (.string ⟨#[]⟩) (.slice (some ⟨g6,0,none⟩) (l.length+1) cap6)by rw[<-hV];exact N6.out.put2 _);have R7:=qh (show Row3 V w.heap.size (.int .i64 0) (.string ⟨#[]⟩) (.slice none 0 0)by rw[<-hV];exact R6.out.other _ (by simp only;omega));have ND:=qh ((K6.node k ⟨#[]⟩ Hsz.out (by unfold maxLen;simp;try omega)).keep (S':=fun b=>w.heap.size<=b) (w':=((V.setCell ⟨w.heap.size,0,none⟩ (.int .i64 k)).setCell ⟨w.heap.size,1,none⟩ (.string ⟨#[]⟩)).setCell ⟨w.heap.size,2,none⟩ (.slice (some ⟨g6,0,none⟩) (l.length+1) cap6)) fun b h1 h2=>⟨(((Kp.refl (w.heap.size+1) V).put3 (b:=w.heap.size) _ _ _ (by omega)).blk b (by omega) (by rw[<-hV,qq];exact h2)).trans (by rw[<-hV];exact Below.heap_setCell _ _ _ _ h1.2),by omega⟩);have Q7:=qh hq5
  try simp only[qo,qi,Nat.zero_add,Nat.reduceAdd]at hV N7 ND
  rw[hV];clear hV hn5 hm5 hm5' hq5 N5 R5 N6 R6 K6 G6 M6 c0 c1 c2 y0 y1 y2 l5 d0 d1 d2 z0 z1 z2 m0 m1 m2 f0 f1 f2 ln hg6 hown K5;obtain⟨⟨n0,n1,n2⟩,_⟩:=N7.out.cells;obtain⟨⟨r0,r1,r2⟩,g0,g1,g2⟩:=R7.out.cells;have ln:=N7.out.lt;have lr:=R7.out.lt;go_wp2;refine zg (R7.out.put _ _ _) Tryz.results132 rfl rfl ?_;rw[<-HR.out];exact⟨⟨_,_,by simp only[qc,List.length_singleton];rfl,by simp only[qc,List.length_singleton];exact ND.out⟩,M7.out.put3 (q5 _) _ _ _,Q7.out⟩
attribute [local go_sem] jn jm jk
theorem q6h(E:PE)(q:Nat)(w:World)(h:PS E q w)(r:Sx.PR Nd)(k:Int)(C:∀ w0,PS E q w0->Calls Tryz.prog 188 #[.pointer (some ⟨E.pb,0,none⟩),.int .i64 k,.func (.func 148) #[.pointer (some ⟨E.pb,0,none⟩)] #[]] w0 (Gr E w0 r)) :
  Calls Tryz.prog 133 #[.pointer (some ⟨E.pb,0,none⟩),.int .i64 k] w (Gr E w r):=by
 have HP:=qh h;have hpl:=h.lt;have D:=qh C;have B0:=qh ((Below.refl w.heap.size w).alloc (q5 _) (.cells #[.int .i64 0,.string ⟨#[]⟩,.slice none 0 0] 25));have R0:=qh (Row3.new w (.int .i64 0) (.string ⟨#[]⟩) (.slice none 0 0));have hmf:∀ (fn:Fn) (first cap:Array Value) (w:World),(Instr.makeFunc fn first cap).run Tryz.prog w = .ok (.func fn first cap) w:=fun _ _ _ _=>rfl
 clear h C;obtain⟨R,hR⟩:∃ R,Gr E w r=R:=⟨_,rfl⟩;have HR:=qh hR;rw[hR];clear hR
 cases r with
 |bad q' =>
  go_enter Tryz.func133,Tryz.ntmps133
  go_wp2_with fail
  refine(D.out _ (HP.out.later B0.out)).mono ?_;rintro e w1⟨rfl,hm,hq⟩;go_wp2;rw[<-HR.out];exact⟨rfl,rfl,Mv.before HP.out B0.out hm,hq⟩
 |ok t q1 =>
  obtain⟨k1,s1,l1⟩:=t;go_enter Tryz.func133,Tryz.ntmps133
  go_wp2_with fail
  refine(D.out _ (HP.out.later B0.out)).mono ?_;rintro e w1⟨⟨a,cap,rfl,hn⟩,hm,hq⟩;have M1:=qh (Mv.before HP.out B0.out hm);have N1:=qh hn;have R1:=qh (R0.out.mv hm (by omega));have Hq:=qh hq;obtain⟨⟨n0,n1,n2⟩,g0,g1,g2⟩:=R1.out.cells;have lr:=R1.out.lt;clear hm hn hq;go_wp2;refine zg (R1.out.put _ _ _) Tryz.results133 rfl rfl ?_;rw[<-HR.out];exact⟨⟨a,cap,rfl,N1.out.fin (by simp) (by simpa using (Kp.refl (w.heap.size+1) w1).put3 (b:=w.heap.size) _ _ _ (by omega))⟩,M1.out.put3 (q5 _) _ _ _,Hq.out⟩
theorem qi2(E:PE)(q:Nat)(w:World)(h:PS E q w)(r:Sx.PR Nd)(k:Int)(C:∀ w0,PS E q w0->Calls Tryz.prog 188 #[.pointer (some ⟨E.pb,0,none⟩),.int .i64 k,.func (.func 187) #[.pointer (some ⟨E.pb,0,none⟩)] #[]] w0 (Gr E w0 r)) :
  Calls Tryz.prog 134 #[.pointer (some ⟨E.pb,0,none⟩),.int .i64 k] w (Gr E w r):=by
 have HP:=qh h;have hpl:=h.lt;have D:=qh C;have B0:=qh ((Below.refl w.heap.size w).alloc (q5 _) (.cells #[.int .i64 0,.string ⟨#[]⟩,.slice none 0 0] 25));have R0:=qh (Row3.new w (.int .i64 0) (.string ⟨#[]⟩) (.slice none 0 0));have hmf:∀ (fn:Fn) (first cap:Array Value) (w:World),(Instr.makeFunc fn first cap).run Tryz.prog w = .ok (.func fn first cap) w:=fun _ _ _ _=>rfl
 clear h C;obtain⟨R,hR⟩:∃ R,Gr E w r=R:=⟨_,rfl⟩;have HR:=qh hR;rw[hR];clear hR
 cases r with
 |bad q' =>
  go_enter Tryz.func134,Tryz.ntmps134
  go_wp2_with fail
  refine(D.out _ (HP.out.later B0.out)).mono ?_;rintro e w1⟨rfl,hm,hq⟩;go_wp2;rw[<-HR.out];exact⟨rfl,rfl,Mv.before HP.out B0.out hm,hq⟩
 |ok t q1 =>
  obtain⟨k1,s1,l1⟩:=t;go_enter Tryz.func134,Tryz.ntmps134
  go_wp2_with fail
  refine(D.out _ (HP.out.later B0.out)).mono ?_;rintro e w1⟨⟨a,cap,rfl,hn⟩,hm,hq⟩;have M1:=qh (Mv.before HP.out B0.out hm);have N1:=qh hn;have R1:=qh (R0.out.mv hm (by omega));have Hq:=qh hq;obtain⟨⟨n0,n1,n2⟩,g0,g1,g2⟩:=R1.out.cells;have lr:=R1.out.lt;clear hm hn hq;go_wp2;refine zg (R1.out.put _ _ _) Tryz.results134 rfl rfl ?_;rw[<-HR.out];exact⟨⟨a,cap,rfl,N1.out.fin (by simp) (by simpa using (Kp.refl (w.heap.size+1) w1).put3 (b:=w.heap.size) _ _ _ (by omega))⟩,M1.out.put3 (q5 _) _ _ _,Hq.out⟩
theorem q8j:∀ args w,(callFunc 148 args).run Tryz.prog w = .ok (.enter 148 args) w:=enters_of Tryz.func148 (by kernel_rfl) rfl
theorem qpm:∀ args w,(callFunc 187 args).run Tryz.prog w = .ok (.enter 187 args) w:=enters_of Tryz.func187 (by kernel_rfl) rfl
theorem qgk:∀ args w,(callFunc 131 args).run Tryz.prog w = .ok (.enter 131 args) w:=enters_of Tryz.func131 (by kernel_rfl) rfl
theorem qnv:∀ args w,(callFunc 132 args).run Tryz.prog w = .ok (.enter 132 args) w:=enters_of Tryz.func132 (by kernel_rfl) rfl
theorem qe7:∀ args w,(callFunc 133 args).run Tryz.prog w = .ok (.enter 133 args) w:=enters_of Tryz.func133 (by kernel_rfl) rfl
theorem qpo:∀ args w,(callFunc 134 args).run Tryz.prog w = .ok (.enter 134 args) w:=enters_of Tryz.func134 (by kernel_rfl) rfl
theorem q5e:∀ args w,(callFunc 135 args).run Tryz.prog w = .ok (.enter 135 args) w:=enters_of Tryz.func135 (by kernel_rfl) rfl
theorem qgl:∀ args w,(callFunc 136 args).run Tryz.prog w = .ok (.enter 136 args) w:=enters_of Tryz.func136 (by kernel_rfl) rfl
def vh(ts:List Lx.Tok):Nat->Nat->Sx.PR Nd:=fun f p=>Sx.simple ts f p
def q0b(ts:List Lx.Tok):Nat->Nat->Sx.PR Nd:=fun _ p=>Sx.small ts p
def q3a(ts:List Lx.Tok)(f:Nat)(k:Int)(p:Nat):Sx.PR Nd :=
 match Sx.names ts f p with
 | .bad q=>.bad q
 | .ok l q=>if Sx.txt ts q=[58] then(match Sx.typed ts f (q+1)with
  | .bad r=>.bad r
  | .ok t r=>.ok (.mk k Sx.noS (l++[t])) r) else .bad q
def wm(ts:List Lx.Tok)(f:Nat)(k:Int)(p:Nat):Sx.PR Nd :=
 if Sx.knd ts p=1 then(if Sx.txt ts (p+1)=[58] then(match Sx.form ts f (p+1+1)with
  | .bad r=>.bad r
  | .ok t r=>.ok (.mk k (Sx.str (Sx.txt ts p)) ([]++[t])) r) else .bad (p+1)) else .bad p
def wv(rd:Nat->Nat->Sx.PR Nd)(ts:List Lx.Tok)(f:Nat)(k:Int)(p:Nat):Sx.PR Nd :=
 if Sx.knd ts p=1 then q06 k (Sx.str (Sx.txt ts p)) (kn rd ts f [] (p+1)) else .bad p
def xb(ts:List Lx.Tok)(f:Nat)(q:Nat):Sx.PR Nd :=
 if Sx.kindOf (Sx.txt ts q)=2\/Sx.kindOf (Sx.txt ts q)=14 then q06 (Sx.kindOf (Sx.txt ts q)) Sx.noS (Sx.names ts f (q+1))
 else if Sx.kindOf (Sx.txt ts q)=3 then q3a ts f 3 (q+1)
 else if Sx.kindOf (Sx.txt ts q)=4\/Sx.kindOf (Sx.txt ts q)=5\/Sx.kindOf (Sx.txt ts q)=6 then wv (vh ts) ts f (Sx.kindOf (Sx.txt ts q)) (q+1)
 else if Sx.kindOf (Sx.txt ts q)=7 then wv (q0b ts) ts f (Sx.kindOf (Sx.txt ts q)) (q+1)
 else if Sx.kindOf (Sx.txt ts q)=8\/Sx.kindOf (Sx.txt ts q)=9\/Sx.kindOf (Sx.txt ts q)=10\/Sx.kindOf (Sx.txt ts q)=11 then wm ts f (Sx.kindOf (Sx.txt ts q)) (q+1)
 else if Sx.kindOf (Sx.txt ts q)=12\/Sx.kindOf (Sx.txt ts q)=13 then q2j (Sx.kindOf (Sx.txt ts q)) (Sx.small ts (q+1))
 else .bad q
theorem qbg(E:PE)(q:Nat)(w:World)(h:PS E q w)(k:Int)(hk:Sx.knd E.ts q≠1):Calls Tryz.prog 136 #[.pointer (some ⟨E.pb,0,none⟩),.int .i64 k] w (Gr E w (.bad q)):=by
 have:=q4y E q w h k;rw[show q2j k (Sx.small E.ts q) = .bad q from by unfold Sx.small;rw[q7 hk];rfl]at this;exact this
theorem qfk(E:PE)(q:Nat)(w:World)(h:PS E q w)(k:Int)(hk:Sx.knd E.ts q≠1):Calls Tryz.prog 135 #[.pointer (some ⟨E.pb,0,none⟩),.int .i64 k] w (Gr E w (.bad q)):=by
 have HP:=qh h;have D:=qh (fun w h=>qbg E q w h k hk);have B0:=qh ((Below.refl w.heap.size w).alloc (q5 _) (.cells #[.int .i64 0,.string ⟨#[]⟩,.slice none 0 0] 25));clear h hk;go_enter Tryz.func135,Tryz.ntmps135
 go_wp2_with fail
 refine(D.out _ (HP.out.later B0.out)).mono ?_;rintro e w1⟨rfl,hm,hq⟩;go_wp2;exact⟨rfl,rfl,Mv.before HP.out B0.out hm,hq⟩
theorem qfb(E:PE)(q:Nat)(w:World)(h:PS E q w)(k:Int)(g:Nat)(hk:Sx.knd E.ts q≠1):Calls Tryz.prog 188 #[.pointer (some ⟨E.pb,0,none⟩),.int .i64 k,.func (.func g) #[.pointer (some ⟨E.pb,0,none⟩)] #[]] w (Gr E w (.bad q)):=by
 have HP:=qh h;have D:=qh (fun w h=>qbg E q w h k hk);have B0:=qh ((Below.refl w.heap.size w).alloc (q5 _) (.cells #[.int .i64 0,.string ⟨#[]⟩,.slice none 0 0] 25));clear h hk;go_enter Tryz.func188,Tryz.ntmps188
 go_wp2_with fail
 refine(D.out _ (HP.out.later B0.out)).mono ?_;rintro e w1⟨rfl,hm,hq⟩;go_wp2;exact⟨rfl,rfl,Mv.before HP.out B0.out hm,hq⟩
theorem qfi(E:PE)(q:Nat)(w:World)(h:PS E q w)(k:Int)(f:Nat)(hf:16*(E.ts.length - q)+1<=f)(qb:Nat)(hn:Sx.names E.ts f q = .bad qb):Calls Tryz.prog 132 #[.pointer (some ⟨E.pb,0,none⟩),.int .i64 k] w (Gr E w (.bad qb)):=by
 have HP:=qh h;have D:=qh (fun w h=>q0f E q w h k f hf);rw[hn]at D;have B0:=qh ((Below.refl w.heap.size w).alloc (q5 _) (.cells #[.int .i64 0,.string ⟨#[]⟩,.slice none 0 0] 25));clear h hf hn;go_enter Tryz.func132,Tryz.ntmps132
 go_wp2_with fail
 refine(D.out _ (HP.out.later B0.out)).mono ?_;rintro e w1⟨rfl,hm,hq⟩;go_wp2;exact⟨rfl,rfl,Mv.before HP.out B0.out hm,hq⟩
theorem ky(ts:List Lx.Tok):∀ f acc p,p<=ts.length->∀ l q,Sx.namesR ts f acc p = .ok l q->p<=q/\q<=ts.length
 |0,acc,p,_,l,q,h=>by simp only[Sx.namesR]at h;cases h
 |f+1,acc,p,hp,l,q,h=>by
  simp only[Sx.namesR]at h
  split at h
  ·split at h
   ·cases h
   ·rename_i a q1 e1
    have g1:=Sx.small_ok e1;have:=ky ts f _ q1 (by omega) _ _ h;omega
  ·cases h
   omega
theorem yq{ts:List Lx.Tok}{f p q:Nat}{l:List Nd}(h:Sx.names ts f p = .ok l q):p < q/\q<=ts.length:=by
 unfold Sx.names at h
 split at h
 ·cases h
 ·rename_i a q1 e1
  have g1:=Sx.small_ok e1;have:=ky ts f _ q1 (by omega) _ _ h;omega
theorem qlt(E:PE)(f q:Nat)(w:World)(h:PS E q w)(k:Int)(hf:16*(E.ts.length - q)+2<=f):Calls Tryz.prog 132 #[.pointer (some ⟨E.pb,0,none⟩),.int .i64 k] w (Gr E w (q3a E.ts f k q)):=by
 unfold q3a
 cases hn:Sx.names E.ts f q with
 |bad qb=>exact qfi E q w h k f (by omega) qb hn
 |ok l q1 =>
  have hgo:=yq hn;simp only
  by_cases hc:Sx.txt E.ts q1=[58]
  ·rw[qa hc]
   have CB:=fun w0 (h0:PS E (q1+1) w0)=>q2c E f (q1+1) w0 h0 (by omega)
   cases ht:Sx.typed E.ts f (q1+1)with
   |bad r=>rw[ht]at CB;exact qed E q w h k f (by omega) l q1 hn hc r CB
   |ok t r=>obtain⟨k2,s2,l2⟩:=t;rw[ht]at CB;exact qeb E q w h k f (by omega) l q1 hn hc k2 s2 l2 r CB
  ·rw[q7 hc]
   exact qec E q w h k f (by omega) l q1 hn hc
theorem q30(E:PE)(hsn:vt E.ts)(f q:Nat)(w:World)(h:PS E q w)(k:Int)(hf:16*(E.ts.length - (q+2))+10<=f):Calls Tryz.prog 135 #[.pointer (some ⟨E.pb,0,none⟩),.int .i64 k] w (Gr E w (wm E.ts f k q)):=by
 unfold wm
 by_cases hk:Sx.knd E.ts q=1
 ·rw[qa hk]
  by_cases hc:Sx.txt E.ts (q+1)=[58]
  ·rw[qa hc]
   have CB:=fun w0 (h0:PS E (q+1+1) w0)=>qe4 E hsn f (q+1+1) w0 h0 hf
   cases ht:Sx.form E.ts f (q+1+1)with
   |bad r=>rw[ht]at CB;exact qlx E q w h k hk hc r CB
   |ok t r=>obtain⟨k2,s2,l2⟩:=t;rw[ht]at CB;exact qlv E q w h k hk hc k2 s2 l2 r CB
  ·rw[q7 hc]
   exact qlw E q w h k hk hc
 ·rw[q7 hk]
  exact qfk E q w h k hk
theorem q55(E:PE)(f q:Nat)(w:World)(h:PS E q w)(k:Int)(hf:16*(E.ts.length - (q+1))+2<=f)(g:Nat)(eg:∀ args w,(callFunc g args).run Tryz.prog w = .ok (.enter g args) w)(rd:Nat->Nat->Sx.PR Nd)(hgo:∀ f1 p,Sx.Goes E.ts p (rd f1 p))
  (CR:∀ f1 p w0,f1 < f->q < p->16*(E.ts.length - p)+1<=f1->PS E p w0->Calls Tryz.prog g #[.pointer (some ⟨E.pb,0,none⟩)] w0 (Gr E w0 (rd f1 p))) :
  Calls Tryz.prog 188 #[.pointer (some ⟨E.pb,0,none⟩),.int .i64 k,.func (.func g) #[.pointer (some ⟨E.pb,0,none⟩)] #[]] w (Gr E w (wv rd E.ts f k q)):=by
 unfold wv
 by_cases hk:Sx.knd E.ts q=1
 ·rw[qa hk]
  exact qfa E q w h k hk f hf g eg rd hgo CR
 ·rw[q7 hk]
  exact qfb E q w h k g hk
theorem qid{t:Lx.Bs}(h0:t≠[116,121,112,101])(h1:t≠[101,120,112,111,114,116])(h2:t≠[99,111,110,115,116])(h3:t≠[112,114,101,100])(h4:t≠[102,97,99,116])(h5:t≠[108,97,115,116,105,110,103])(h6:t≠[109,111,100,101])(h7:t≠[114,117,108,101])(h8:t≠[111,110,99,101])(h9:t≠[109,111,115,116])(h10:t≠[113,117,101,114,121])(h11:t≠[109,111,100,117,108,101])(h12:t≠[117,115,101]):js ji t=none:=by
 unfold js ji;have f:∀ s:List UInt8,t≠s->(s==t)=false:=fun s h=>by rw[q9];exact fun e=>h e.symm
 simp[f _ h0,f _ h1,f _ h2,f _ h3,f _ h4,f _ h5,f _ h6,f _ h7,f _ h8,f _ h9,f _ h10,f _ h11,f _ h12]
theorem qff{t:Lx.Bs}(h0:t≠[116,121,112,101])(h1:t≠[101,120,112,111,114,116])(h2:t≠[99,111,110,115,116])(h3:t≠[112,114,101,100])(h4:t≠[102,97,99,116])(h5:t≠[108,97,115,116,105,110,103])(h6:t≠[109,111,100,101])(h7:t≠[114,117,108,101])(h8:t≠[111,110,99,101])(h9:t≠[109,111,115,116])(h10:t≠[113,117,101,114,121])(h11:t≠[109,111,100,117,108,101])(h12:t≠[117,115,101]):Sx.kindOf t=0:=by
 unfold Sx.kindOf;simp[h0,h1,h2,h3,h4,h5,h6,h7,h8,h9,h10,h11,h12]
theorem q0x(ts:List Lx.Tok)(f1 p:Nat):Sx.Goes ts p (vh ts f1 p):=(Sx.typed_goes ts f1).2 p
theorem q6d(ts:List Lx.Tok)(f1 p:Nat):Sx.Goes ts p (q0b ts f1 p):=fun a q h=>by
 have:=Sx.small_ok h;omega
theorem qng(E:PE)(hsn:vt E.ts)(f q:Nat)(w:World)(h:PS E q w)(hf:16*(E.ts.length - q)+10<=f):Calls Tryz.prog 82 #[.pointer (some ⟨E.pb,0,none⟩),.map (some E.mi)] w (Gr E w (xb E.ts f q)):=by
 have HM:∀ W,PS E q W->StrMap W E.mi ji:=fun W hW=>hW.g.mi
 have hfew:=h.g.few
 by_cases h0:Sx.txt E.ts q=[116,121,112,101]
 ·have hq:=Sx.txt_at h0
  have e:xb E.ts f q=q06 2 Sx.noS (Sx.names E.ts f (q+1)):=by unfold xb;rw[h0];rfl
  rw[e];exact zl E q w h E.mi ji HM _ qgk (by rw[h0];rfl) hq 2 (by rw[h0];rfl) _ fun w1 h1=>(q0f E (q+1) w1 h1 2 f (by omega)).mono fun e w' he=>GrK.gr (by unfold maxLen;decide) hfew he
 by_cases h1:Sx.txt E.ts q=[101,120,112,111,114,116]
 ·have hq:=Sx.txt_at h1
  have e:xb E.ts f q=q06 14 Sx.noS (Sx.names E.ts f (q+1)):=by unfold xb;rw[h1];rfl
  rw[e];exact zl E q w h E.mi ji HM _ qgk (by rw[h1];rfl) hq 14 (by rw[h1];rfl) _ fun w1 h1=>(q0f E (q+1) w1 h1 14 f (by omega)).mono fun e w' he=>GrK.gr (by unfold maxLen;decide) hfew he
 by_cases h2:Sx.txt E.ts q=[99,111,110,115,116]
 ·have hq:=Sx.txt_at h2
  have e:xb E.ts f q=q3a E.ts f 3 (q+1):=by unfold xb;rw[h2];rfl
  rw[e];exact zl E q w h E.mi ji HM _ qnv (by rw[h2];rfl) hq 3 (by rw[h2];rfl) _ fun w1 h1=>qlt E f (q+1) w1 h1 3 (by omega)
 by_cases h3:Sx.txt E.ts q=[112,114,101,100]
 ·have hq:=Sx.txt_at h3
  have e:xb E.ts f q=wv (vh E.ts) E.ts f 4 (q+1):=by unfold xb;rw[h3];rfl
  rw[e];exact zl E q w h E.mi ji HM _ qe7 (by rw[h3];rfl) hq 4 (by rw[h3];rfl) _ fun w1 h1=>q6h E (q+1) w1 h1 _ 4 fun w2 h2=>q55 E f (q+1) w2 h2 4 (by omega) _ q8j _ (q0x E.ts) fun f1 p w3 hf1 hp hm h3=>q4k E f1 p w3 h3 hm
 by_cases h4:Sx.txt E.ts q=[102,97,99,116]
 ·have hq:=Sx.txt_at h4
  have e:xb E.ts f q=wv (vh E.ts) E.ts f 5 (q+1):=by unfold xb;rw[h4];rfl
  rw[e];exact zl E q w h E.mi ji HM _ qe7 (by rw[h4];rfl) hq 5 (by rw[h4];rfl) _ fun w1 h1=>q6h E (q+1) w1 h1 _ 5 fun w2 h2=>q55 E f (q+1) w2 h2 5 (by omega) _ q8j _ (q0x E.ts) fun f1 p w3 hf1 hp hm h3=>q4k E f1 p w3 h3 hm
 by_cases h5:Sx.txt E.ts q=[108,97,115,116,105,110,103]
 ·have hq:=Sx.txt_at h5
  have e:xb E.ts f q=wv (vh E.ts) E.ts f 6 (q+1):=by unfold xb;rw[h5];rfl
  rw[e];exact zl E q w h E.mi ji HM _ qe7 (by rw[h5];rfl) hq 6 (by rw[h5];rfl) _ fun w1 h1=>q6h E (q+1) w1 h1 _ 6 fun w2 h2=>q55 E f (q+1) w2 h2 6 (by omega) _ q8j _ (q0x E.ts) fun f1 p w3 hf1 hp hm h3=>q4k E f1 p w3 h3 hm
 by_cases h6:Sx.txt E.ts q=[109,111,100,101]
 ·have hq:=Sx.txt_at h6
  have e:xb E.ts f q=wv (q0b E.ts) E.ts f 7 (q+1):=by unfold xb;rw[h6];rfl
  rw[e];exact zl E q w h E.mi ji HM _ qpo (by rw[h6];rfl) hq 7 (by rw[h6];rfl) _ fun w1 h1=>qi2 E (q+1) w1 h1 _ 7 fun w2 h2=>q55 E f (q+1) w2 h2 7 (by omega) _ qpm _ (q6d E.ts) fun f1 p w3 hf1 hp hm h3=>q4j E p w3 h3
 by_cases h7:Sx.txt E.ts q=[114,117,108,101]
 ·have hq:=Sx.txt_at h7
  have e:xb E.ts f q=wm E.ts f 8 (q+1):=by unfold xb;rw[h7];rfl
  rw[e];exact zl E q w h E.mi ji HM _ q5e (by rw[h7];rfl) hq 8 (by rw[h7];rfl) _ fun w1 h1=>q30 E hsn f (q+1) w1 h1 8 (by omega)
 by_cases h8:Sx.txt E.ts q=[111,110,99,101]
 ·have hq:=Sx.txt_at h8
  have e:xb E.ts f q=wm E.ts f 9 (q+1):=by unfold xb;rw[h8];rfl
  rw[e];exact zl E q w h E.mi ji HM _ q5e (by rw[h8];rfl) hq 9 (by rw[h8];rfl) _ fun w1 h1=>q30 E hsn f (q+1) w1 h1 9 (by omega)
 by_cases h9:Sx.txt E.ts q=[109,111,115,116]
 ·have hq:=Sx.txt_at h9
  have e:xb E.ts f q=wm E.ts f 10 (q+1):=by unfold xb;rw[h9];rfl
  rw[e];exact zl E q w h E.mi ji HM _ q5e (by rw[h9];rfl) hq 10 (by rw[h9];rfl) _ fun w1 h1=>q30 E hsn f (q+1) w1 h1 10 (by omega)
 by_cases h10:Sx.txt E.ts q=[113,117,101,114,121]
 ·have hq:=Sx.txt_at h10
  have e:xb E.ts f q=wm E.ts f 11 (q+1):=by unfold xb;rw[h10];rfl
  rw[e];exact zl E q w h E.mi ji HM _ q5e (by rw[h10];rfl) hq 11 (by rw[h10];rfl) _ fun w1 h1=>q30 E hsn f (q+1) w1 h1 11 (by omega)
 by_cases h11:Sx.txt E.ts q=[109,111,100,117,108,101]
 ·have hq:=Sx.txt_at h11
  have e:xb E.ts f q=q2j 12 (Sx.small E.ts (q+1)):=by unfold xb;rw[h11];rfl
  rw[e];exact zl E q w h E.mi ji HM _ qgl (by rw[h11];rfl) hq 12 (by rw[h11];rfl) _ fun w1 h1=>q4y E (q+1) w1 h1 12
 by_cases h12:Sx.txt E.ts q=[117,115,101]
 ·have hq:=Sx.txt_at h12
  have e:xb E.ts f q=q2j 13 (Sx.small E.ts (q+1)):=by unfold xb;rw[h12];rfl
  rw[e];exact zl E q w h E.mi ji HM _ qgl (by rw[h12];rfl) hq 13 (by rw[h12];rfl) _ fun w1 h1=>q4y E (q+1) w1 h1 13
 have e:xb E.ts f q = .bad q:=by unfold xb;rw[qff h0 h1 h2 h3 h4 h5 h6 h7 h8 h9 h10 h11 h12];rfl
 rw[e];refine(q7w E q w h E.mi ji HM (qid h0 h1 h2 h3 h4 h5 h6 h7 h8 h9 h10 h11 h12)).mono ?_;rintro e w'⟨rfl,hb⟩;exact⟨rfl,Mv.below h hb,h.le⟩
def q6x(ts:List Lx.Tok)(r:Sx.PR (List Nd)):Sx.PR (List Nd) :=
 match r with
 | .bad q=>.bad q
 | .ok l q=>if Sx.txt ts q=[46] then .ok l q else .bad q
theorem q7p{ts:List Lx.Tok}(hsn:vt ts):∀ f acc p,q6x ts (kn (vh ts) ts f acc p)=q6x ts (Sx.simples ts f acc p)
 |0,acc,p=>by simp only[kn,Sx.simples]
 |f+1,acc,p=>by
  by_cases hd:Sx.txt ts p=[46]
  ·have h1:Sx.knd ts p≠1:=fun e=>hsn p (.inl e) [46] (by decide) hd
   have h2:¬ (Sx.txt ts p=[40]\/Sx.knd ts p=1):=by
    rintro(e|e)
    ·rw[hd]at e;cases e
    ·exact h1 e
   simp only[Sx.simples];rw[q6s hd,q7 h2]
  ·by_cases hc:Sx.txt ts p=[40]\/Sx.knd ts p=1
   ·simp only[Sx.simples]
    rw[qa hc]
    cases hs:Sx.simple ts f p with
    |bad q=>rw[q3m hd (show vh ts f p = .bad q from hs)]
    |ok a q=>rw[q8e hd (show vh ts f p = .ok a q from hs)];exact q7p hsn f _ q
   ·simp only[Sx.simples]
    rw[q7 hc]
    have hs:vh ts f p = .bad p:=by
     unfold vh
     cases f with
     |zero=>rfl
     |succ f =>
      simp only[Sx.simple];rw[q7 (fun e=>hc (.inl e))];unfold Sx.small;rw[q7 (fun e=>hc (.inr e))]
    rw[q3m hd hs];simp only[q6x];rw[q7 hd]
theorem q91{ts:List Lx.Tok}(hsn:vt ts):∀ f acc p,q6x ts (kn (q0b ts) ts f acc p)=q6x ts (Sx.smalls ts f acc p)
 |0,acc,p=>by simp only[kn,Sx.smalls]
 |f+1,acc,p=>by
  by_cases hk:Sx.knd ts p=1
  ·have hd:Sx.txt ts p≠[46]:=hsn p (.inl hk) [46] (by decide)
   have hs:q0b ts f p = .ok (Sx.leaf 15 (Sx.txt ts p)) (p+1):=by unfold q0b Sx.small;rw[qa hk]
   simp only[Sx.smalls];rw[q8e hd hs,qa hk];exact q91 hsn f _ _
  ·simp only[Sx.smalls]
   rw[q7 hk]
   by_cases hd:Sx.txt ts p=[46]
   ·rw[q6s hd]
   ·have hs:q0b ts f p = .bad p:=by unfold q0b Sx.small;rw[q7 hk]
    rw[q3m hd hs];simp only[q6x];rw[q7 hd]
theorem q4x(E:PE)(k:Int)(s:ByteArray)(r:Sx.PR (List Nd)):zu E [46] (q06 k s r)=zu E [46] (q06 k s (q6x E.ts r)):=by
 cases r with
 |bad q=>rfl
 |ok l q =>
  simp only[q06,q6x,zu]
  by_cases hd:Sx.txt E.ts q=[46]
  ·rw[qa hd,qa hd];simp only;rw[qa hd]
  ·rw[q7 hd,q7 hd]
theorem qdv(t:Lx.Bs):Sx.kindOf t=0\/Sx.kindOf t=2\/Sx.kindOf t=3\/Sx.kindOf t=4\/Sx.kindOf t=5\/Sx.kindOf t=6\/Sx.kindOf t=7\/Sx.kindOf t=8\/Sx.kindOf t=9\/Sx.kindOf t=10\/Sx.kindOf t=11\/Sx.kindOf t=12\/Sx.kindOf t=13\/Sx.kindOf t=14:=by
 unfold Sx.kindOf
 by_cases h0:t=[116,121,112,101]
 ·subst h0;decide
 rw[q7 h0]
 by_cases h1:t=[99,111,110,115,116]
 ·subst h1;decide
 rw[q7 h1]
 by_cases h2:t=[112,114,101,100]
 ·subst h2;decide
 rw[q7 h2]
 by_cases h3:t=[102,97,99,116]
 ·subst h3;decide
 rw[q7 h3]
 by_cases h4:t=[108,97,115,116,105,110,103]
 ·subst h4;decide
 rw[q7 h4]
 by_cases h5:t=[109,111,100,101]
 ·subst h5;decide
 rw[q7 h5]
 by_cases h6:t=[114,117,108,101]
 ·subst h6;decide
 rw[q7 h6]
 by_cases h7:t=[111,110,99,101]
 ·subst h7;decide
 rw[q7 h7]
 by_cases h8:t=[109,111,115,116]
 ·subst h8;decide
 rw[q7 h8]
 by_cases h9:t=[113,117,101,114,121]
 ·subst h9;decide
 rw[q7 h9]
 by_cases h10:t=[109,111,100,117,108,101]
 ·subst h10;decide
 rw[q7 h10]
 by_cases h11:t=[117,115,101]
 ·subst h11;decide
 rw[q7 h11]
 by_cases h12:t=[101,120,112,111,114,116]
 ·subst h12;decide
 rw[q7 h12];exact .inl rfl
theorem qpa(E:PE)(f q:Nat):Sx.item E.ts f q=if Sx.kindOf (Sx.txt E.ts q)=0 then .bad q else zu E [46] (Sx.itemB E.ts f (Sx.kindOf (Sx.txt E.ts q)) (q+1)):=by
 unfold Sx.item
 by_cases h:Sx.kindOf (Sx.txt E.ts q)=0
 ·rw[qa h,qa h]
 ·rw[q7 h,q7 h]
  all_goals (cases Sx.itemB E.ts f (Sx.kindOf (Sx.txt E.ts q)) (q+1) <;> rfl)
theorem qie(E:PE)(hsn:vt E.ts)(f q:Nat):zu E [46] (xb E.ts f q)=Sx.item E.ts f q:=by
 rw[qpa];unfold xb;have hr:=qdv (Sx.txt E.ts q);generalize Sx.kindOf (Sx.txt E.ts q)=k at *
 have hnames:∀ k:Int,(k=2\/k=14)->q06 k Sx.noS (Sx.names E.ts f (q+1))=Sx.itemB E.ts f k (q+1):=fun k hk=>by
  unfold Sx.itemB;rw[qa hk]
  all_goals (cases Sx.names E.ts f (q+1) <;> rfl)
 have hlist:∀ k:Int,(k=4\/k=5\/k=6)->zu E [46] (wv (vh E.ts) E.ts f k (q+1))=zu E [46] (Sx.itemB E.ts f k (q+1)):=fun k hk=>by
  unfold wv Sx.itemB;rw[q7 (show ¬ ((k:Int)=2\/(k:Int)=14)by omega),q7 (show ¬ ((k:Int)=3)by omega)];unfold Sx.small
  by_cases h1:Sx.knd E.ts (q+1)=1
  ·rw[qa h1,qa h1,q4x,q7p hsn,<-q4x]
   simp only[Sx.leaf,Sx.behind];rw[qa hk]
   all_goals (cases Sx.simples E.ts f [] (q+1+1) <;> rfl)
  ·rw[q7 h1,q7 h1]
 have hmode:zu E [46] (wv (q0b E.ts) E.ts f 7 (q+1))=zu E [46] (Sx.itemB E.ts f 7 (q+1)):=by
  unfold wv Sx.itemB;rw[q7 (show ¬ ((7:Int)=2\/(7:Int)=14)by omega),q7 (show ¬ ((7:Int)=3)by omega)];unfold Sx.small
  by_cases h1:Sx.knd E.ts (q+1)=1
  ·rw[qa h1,qa h1,q4x,q91 hsn,<-q4x]
   simp only[Sx.leaf,Sx.behind];rw[q7 (show ¬ ((7:Int)=4\/(7:Int)=5\/(7:Int)=6)by omega),qa trivial]
   all_goals (cases Sx.smalls E.ts f [] (q+1+1) <;> rfl)
  ·rw[q7 h1,q7 h1]
 have hcl:∀ k:Int,(k=8\/k=9\/k=10\/k=11)->wm E.ts f k (q+1)=Sx.itemB E.ts f k (q+1):=fun k hk=>by
  unfold wm Sx.itemB;rw[q7 (show ¬ ((k:Int)=2\/(k:Int)=14)by omega),q7 (show ¬ ((k:Int)=3)by omega)];unfold Sx.small
  by_cases h1:Sx.knd E.ts (q+1)=1
  ·rw[qa h1,qa h1]
   simp only[Sx.leaf,Sx.behind];rw[q7 (show ¬ (k=4\/k=5\/k=6)by omega),q7 (show ¬ (k=7)by omega),qa hk]
   by_cases hc:Sx.txt E.ts (q+1+1)=[58]
   ·rw[qa hc,qa hc]
    all_goals (cases Sx.form E.ts f (q+1+1+1) <;> rfl)
   ·rw[q7 hc,q7 hc]
  ·rw[q7 h1,q7 h1]
 have hus:∀ k:Int,(k=12\/k=13)->q2j k (Sx.small E.ts (q+1))=Sx.itemB E.ts f k (q+1):=fun k hk=>by
  unfold Sx.itemB;rw[q7 (show ¬ ((k:Int)=2\/(k:Int)=14)by omega),q7 (show ¬ ((k:Int)=3)by omega)];unfold Sx.small
  by_cases h1:Sx.knd E.ts (q+1)=1
  ·rw[qa h1]
   simp only[Sx.leaf,Sx.behind,q2j];rw[q7 (show ¬ (k=4\/k=5\/k=6)by omega),q7 (show ¬ (k=7)by omega),q7 (show ¬ (k=8\/k=9\/k=10\/k=11)by omega)]
  ·rw[q7 h1];rfl
 have hcon:q3a E.ts f 3 (q+1)=Sx.itemB E.ts f 3 (q+1):=by
  unfold q3a Sx.itemB;rw[q7 (show ¬ ((3:Int)=2\/(3:Int)=14)by omega),qa rfl]
  cases Sx.names E.ts f (q+1)with
  |bad _=>rfl
  |ok l q1 =>
   simp only
   by_cases hc:Sx.txt E.ts q1=[58]
   ·rw[qa hc,qa hc]
    all_goals (cases Sx.typed E.ts f (q1+1) <;> rfl)
   ·rw[q7 hc,q7 hc]
 by_cases h0:k=0
 ·subst h0;rfl
 rw[q7 h0]
 by_cases h1:k=2\/k=14
 ·rw[qa h1,hnames k h1]
 rw[q7 h1]
 by_cases h2:k=3
 ·subst h2;rw[qa rfl,hcon]
 rw[q7 h2]
 by_cases h3:k=4\/k=5\/k=6
 ·rw[qa h3,hlist k h3]
 rw[q7 h3]
 by_cases h4:k=7
 ·subst h4;rw[qa rfl,hmode]
 rw[q7 h4]
 by_cases h5:k=8\/k=9\/k=10\/k=11
 ·rw[qa h5,hcl k h5]
 rw[q7 h5]
 by_cases h6:k=12\/k=13
 ·rw[qa h6,hus k h6]
 ·omega
theorem ql1{ts:List Lx.Tok}{f:Nat}{acc:List Nd}{p:Nat}(h:¬ p < ts.length):Sx.items ts (f+1) acc p = .ok acc p:=by simp only[Sx.items];rw[q7 h]
theorem qbn{ts:List Lx.Tok}{f:Nat}{acc:List Nd}{p q:Nat}(h:p < ts.length)(h2:Sx.item ts f p = .bad q):Sx.items ts (f+1) acc p = .bad q:=by simp only[Sx.items];rw[qa h,h2]
theorem qne{ts:List Lx.Tok}{f:Nat}{acc:List Nd}{p q:Nat}{a:Nd}(h:p < ts.length)(h2:Sx.item ts f p = .ok a q):Sx.items ts (f+1) acc p=Sx.items ts f (acc++[a]) q:=by simp only[Sx.items];rw[qa h,h2]
theorem qif(E:PE)(f q:Nat):Sx.Goes E.ts q (xb E.ts f q):=by
 intro a p h;have hs:∀ q1 a p,Sx.small E.ts q1 = .ok a p->p=q1+1/\p<=E.ts.length:=fun q1 a p h=>⟨(Sx.small_ok h).1,(Sx.small_ok h).2.1⟩
 have hl:∀ rd:Nat->Nat->Sx.PR Nd,(∀ f p,Sx.Goes E.ts p (rd f p))->∀ f acc p,p<=E.ts.length->∀ l q,kn rd E.ts f acc p = .ok l q->p<=q/\q<=E.ts.length:=by
  intro rd hrd f
  induction f with
  |zero=>intro acc p _ l q h;simp only[kn]at h;cases h
  |succ f ih =>
   intro acc p hp l q h;simp only[kn]at h
   split at h
   ·cases h;omega
   ·split at h
    ·cases h
    ·rename_i a q1 e1
     have g1:=hrd f p _ _ e1;have:=ih _ q1 g1.2 _ _ h;omega
 have hlr:∀ rd:Nat->Nat->Sx.PR Nd,(∀ f p,Sx.Goes E.ts p (rd f p))->∀ k q1 a p,wv rd E.ts f k q1 = .ok a p->q1 < p/\p<=E.ts.length:=by
  intro rd hrd k q1 a p h;unfold wv at h
  split at h
  ·rename_i hk
   have hk2:=Sx.knd_lt (ts:=E.ts) (p:=q1) (by omega)
   cases hL:kn rd E.ts f [] (q1+1)with
   |bad _=>rw[hL]at h;cases h
   |ok l q2 =>
    rw[hL]at h;have:=hl rd hrd f [] (q1+1) (by omega) _ _ hL
    cases h;omega
  ·cases h
 unfold xb at h
 repeat' (split at h)
 ·cases hn:Sx.names E.ts f (q+1)with
  |bad _=>rw[hn]at h;cases h
  |ok l q1=>rw[hn]at h;have:=yq hn;cases h;omega
 ·unfold q3a at h
  split at h
  ·cases h
  ·rename_i l q1 hn
   have:=yq hn
   split at h
   ·split at h
    ·cases h
    ·rename_i t r ht
     have:=(Sx.typed_goes E.ts f).1 _ _ _ ht
     cases h;omega
   ·cases h
 ·have:=hlr _ (q0x E.ts) _ _ _ _ h;omega
 ·have:=hlr _ (q6d E.ts) _ _ _ _ h;omega
 ·unfold wm at h
  split at h
  ·split at h
   ·split at h
    ·cases h
    ·rename_i t r ht
     have:=(Sx.form_goes E.ts f).2.2.1 _ _ _ ht
     cases h;omega
   ·cases h
  ·cases h
 ·cases hn:Sx.small E.ts (q+1)with
  |bad _=>rw[hn]at h;cases h
  |ok x q1=>obtain⟨k1,s1,l1⟩:=x;rw[hn]at h;have:=hs _ _ _ hn;cases h;omega
 ·cases h
theorem qjj(E:PE)(hsn:vt E.ts)(q:Nat)(w:World)(h:PS E q w)(f:Nat)(hf:16*(E.ts.length - q)+11<=f) :
  Calls Tryz.prog 40 #[.pointer (some ⟨E.pb,0,none⟩)] w (Gr E w (q06 1 Sx.noS (Sx.items E.ts f [] q))):=by
 have HP:=qh h;have hpl:=h.lt;have hfew:=h.g.few;have Hf:=qh hf;have D:=qh (fun f p w h hf=>qng E hsn f p w h hf);have Hsn:=qh hsn;have B0:=qh ((Below.refl w.heap.size w).alloc (q5 _) (.cells #[.int .i64 0,.string ⟨#[]⟩,.slice none 0 0] 25));obtain⟨A,hA⟩:∃ A,Sx.items E.ts f [] q=A:=⟨_,rfl⟩;have HA:=qh hA;obtain⟨R,hR⟩:∃ R,Gr E w (q06 1 Sx.noS A)=R:=⟨_,rfl⟩;have HR:=qh hR;rw[hA,hR];clear h hA hR hf hsn;go_enter Tryz.func40,Tryz.ntmps40
 go_wp2_with fail
 obtain⟨W0,hW0⟩:∃ W,(w.alloc (.cells #[.int .i64 0,.string ⟨#[]⟩,.slice none 0 0] 25)).alloc (.cells #[.int .i64 1,.string ⟨#[]⟩,.slice none 0 0] 25)=W:=⟨_,rfl⟩;have M0:=qh (show Mv E q w W0 by rw[<-hW0];exact Mv.below HP.out (B0.out.alloc (by simp) _));have P0:=qh (M0.out.ps HP.out HP.out.le);have R0:=qh (show Row3 W0 w.heap.size (.int .i64 0) (.string ⟨#[]⟩) (.slice none 0 0)by rw[<-hW0];exact(Row3.new w _ _ _).alloc _);have N0:=qh (show Row3 W0 (w.heap.size+1) (.int .i64 1) (.string ⟨#[]⟩) (.slice none 0 0)by rw[<-hW0];exact Row3.newAt (by simp));have z0:w.heap.size+1+1<=W0.heap.size:=by rw[<-hW0];simp
 have Hz0:=qh z0;rw[hW0];clear hW0 z0
 go_loopw [] (fun W=>∃ (f1 p:Nat) (acc:List Nd) (v:Value),q<=p/\16*(E.ts.length - p)+11<=f1/\acc.length<=p/\Hid (Sx.items E.ts f1 acc p=A)/\Hid (Mv E p w W)/\Hid (PS E p W)/\Hid (Row3 W w.heap.size (.int .i64 0) (.string ⟨#[]⟩) (.slice none 0 0))/\Hid (Row3 W (w.heap.size+1) (.int .i64 1) (.string ⟨#[]⟩) v)/\Hid (Kids (w.heap.size+1+1) W v acc)/\Hid (w.heap.size+1+1<=W.heap.size)) (fun W=>E.ts.length+1 - nxt E W)
 case atStart =>
  exact⟨f,q,[],.slice none 0 0,q5 _,Hf.out,qp _,HA,M0,P0,R0,N0,Kids.nil _ _,Hz0⟩
 case round =>
  obtain⟨f1,p,acc,v,hqp,hf1,hacc,hrun,hM,hP,hRw,hN,hK,hz⟩:=hrel;clear M0 P0 R0 N0 Hz0 HA;obtain⟨va,vcap,rfl,_⟩:=hK.out.shape;obtain⟨f2,rfl⟩:∃ f2,f1=f2+1:=⟨f1 - 1,by omega⟩;have hple:=hP.out.le;have hnl:=hN.out.lt;have hrl:=hRw.out.lt;have Hmeas:=qh hP.out.nxt;obtain⟨pc0,pc1,_,pc3,_⟩:=hP.out.cells;have hpw:=hP.out.lt;obtain⟨nt,hnt⟩:∃ nt,E.ts.length=nt:=⟨_,rfl⟩;have Hnt:=qh hnt
  by_cases hlt:p < E.ts.length
  ·have hlt2:(p:Int) < (nt:Int):=by omega
   have DB:=qh (fun w0 h0=>D.out f2 p w0 h0 (by omega));obtain⟨⟨n0,n1,n2⟩,g0,g1,g2⟩:=hN.out.cells;have hit:=qie E Hsn.out f2 p;rw[hnt]at pc0;clear hnt
   cases hs:xb E.ts f2 p with
   |bad qb =>
    have HA':=qh (hrun.out.symm.trans (qbn hlt (by rw[<-hit,hs];rfl)));rw[hs]at DB;clear hs D hrun hit hlt
    go_wp2_with fail
    go_quiet (fail)
    have F:Hid (∀ u w5,Below wr.heap.size wr u->Mv E qb u w5->qb<=E.ts.length->R (.panicked [{ v:=xz E qb,recovered:=false }]) w5):=qh fun u w5 hu hm5 hq5=>by
     rw[<-HR.out,HA'.out];exact⟨rfl,Mv.trans HP.out (hM.out.later (hu.mono hM.out.size)) hple hm5,hq5⟩
    go_wp2_with fail
    go_region_dies
    all_goals refine(DB.out _ (hP.out.later (below_drewN (Below.refl _ _) _))).mono ?_
    all_goals rintro e w5 ⟨rfl,hm5,hq5⟩
    all_goals exact⟨rfl,F.out _ w5 (below_drewN (Below.refl _ _) _) hm5 hq5⟩
   |ok x p1 =>
    obtain⟨k2,s2,l2⟩:=x;have hgo:=qif E f2 p _ _ hs;rw[hs]at DB;have Hgo:=qh hgo;have Hlt:=qh hlt;have hP2:=qh (show ∀ hd:Sx.txt E.ts p1=[46],Sx.items E.ts f2 (acc++[.mk k2 s2 l2]) (p1+1)=A from fun hd=>(qne hlt (by rw[<-hit,hs];simp only[zu];rw[qa hd])).symm.trans hrun.out);have hP3:=qh (show ∀ hd:Sx.txt E.ts p1≠[46],A = .bad p1 from fun hd=>hrun.out.symm.trans (qbn hlt (by rw[<-hit,hs];simp only[zu];rw[q7 hd])));clear hs D hrun hit hlt hgo
    go_wp2_with fail
    go_quiet (fail)
    generalize hW1:wr.drewN _=W1;have hb1:Below wr.heap.size wr W1:=by rw[<-hW1];exact below_drewN (Below.refl _ _) _
    clear hW1 n0 n1 n2 g0 g1 g2 pc0 pc1 pc3 hlt2;have M1:=qh (hM.out.later (hb1.mono hM.out.size));have P1:=qh (hP.out.later hb1);have R1:=qh (hRw.out.below hb1 hrl);have N1:=qh (hN.out.below hb1 hnl);have K1:=qh (hK.out.keep fun b _ h2=>hb1.block b h2);have hz1:=qh (ql hz.out hb1.size);obtain⟨⟨n0,n1,n2⟩,g0,g1,g2⟩:=N1.out.cells;obtain⟨_,_,_,pc3,_⟩:=P1.out.cells;have hpw1:=P1.out.lt;have ln1:=N1.out.lt;clear hb1
    go_wp2_with fail
    go_region_law (first
     |(go_simp;go_at_call 82;refine(DB.out _ (P1.out.later (Below.refl _ _).drew)).mono ?_;rintro e w5 ⟨⟨a5,cap5,rfl,hn5⟩,hm5,hq5⟩;have hm5':=Mv.before P1.out (Below.refl _ _).drew hm5;have N5:=qh (N1.out.mv hm5' (by omega));have R5:=qh (R1.out.mv hm5' (by omega));have K5:=qh (Kids.step hm5' (by omega) K1.out);have hz5:w.heap.size+1+1<=w5.heap.size:=ql hz1.out hm5'.size;obtain⟨⟨c0,c1,c2⟩,y0,y1,y2⟩:=N5.out.cells;have l5:=N5.out.lt)
     |(refine xw rfl _ _ rfl (w.heap.size+1+1) (.slice va acc.length vcap) acc rfl (Kids.keep K5.out fun b _ hb2=>Below.heap_alloc _ _ _ hb2) ⟨w5.heap.size,0,none⟩ 1 (by rfl) (.mk k2 s2 l2) (.int .i64 k2) (.string s2) (.slice a5 l2.length cap5) (vz w5 _ _ _ _ _ rfl) (hn5.keep (fun b hb1 hb2=>⟨Below.heap_alloc _ _ _ hb2,ql hz1.out hb1,fun e=>by have:=K1.out.own b e;have hb1':W1.heap.size<=b:=hb1;omega⟩)) (by omega) (by simp;omega) _ rfl ?_;intro g6 cap6 w6 K6 G6 _ hg6;have hown:=K5.out.own;have N6:=qh ((N5.out.alloc _).grown' G6 (fun e=>by have:=hown _ e.symm;omega));have R6:=qh ((R5.out.alloc _).grown' G6 (fun e=>by have:=hown _ e.symm;omega));obtain⟨⟨d0,d1,d2⟩,z0,z1,z2⟩:=N6.out.cells))
    all_goals
     have hz6:w.heap.size+1+1<=w6.heap.size:=by have:=G6.size;simp at this;omega
     have M6:=Mv.later (Mv.trans HP.out M1.out hple hm5') ((((Below.refl w.heap.size w5).alloc (by omega) (.cells #[.int .i64 k2,.string s2,.slice a5 l2.length cap5] 25)).grown G6 (by simp;omega) (fun b hb=>by have:=hown b hb;omega)));obtain⟨V,hV⟩:∃ V,w6.setCell ⟨w.heap.size+1,2,none⟩ (.slice (some ⟨g6,0,none⟩) (acc.length+1) cap6)=V:=⟨_,rfl⟩;have M7:=qh (show Mv E p1 w V by rw[<-hV];exact M6.later ((Below.refl w.heap.size w6).setCell (p:=⟨w.heap.size+1,2,none⟩) (by simp only;omega) _));have N7:=qh (show Row3 V (w.heap.size+1) (.int .i64 1) (.string ⟨#[]⟩) (.slice (some ⟨g6,0,none⟩) (acc.length+1) cap6)by rw[<-hV];exact N6.out.put2 _);have R7:=qh (show Row3 V w.heap.size (.int .i64 0) (.string ⟨#[]⟩) (.slice none 0 0)by rw[<-hV];exact R6.out.other _ (by simp only;omega));have K7:=qh (show Kids (w.heap.size+1+1) V (.slice (some ⟨g6,0,none⟩) (acc.length+1) cap6) (acc++[.mk k2 s2 l2])by rw[<-hV];exact K6.keep fun b hb1 _=>Below.heap_setCell _ _ _ _ (by simp only;omega));have P7:=qh (M7.out.ps HP.out hq5);have z7:w.heap.size+1+1<=V.heap.size:=by rw[<-hV,qq];exact hz6
     rw[hV];clear hV hn5 hm5 hm5' hq5 N5 R5 N6 R6 K6 G6 M6 c0 c1 c2 y0 y1 y2 d0 d1 d2 z0 z1 z2 n0 n1 n2 g0 g1 g2 l5 hg6 hown K5 DB pc3 hpw1 ln1
     by_cases hc:Sx.txt E.ts p1=[46]
     ·have HA2:=qh (hP2.out hc)
      have T:=qh (fun w h=>ka E p1 ⟨#[46]⟩ w h hc (by decide));have hlt1:=Sx.txt_at hc;clear hc
      go_wp2_with fail
      refine(T.out _ P7.out).mono ?_;rintro e w8⟨rfl,hm8,hp8⟩;have M8:=qh (Mv.trans HP.out M7.out P7.out.le hm8);have P8:=qh hp8;have N8:=qh (N7.out.mv hm8 (by omega));have R8:=qh (R7.out.mv hm8 (by omega));have K8:=qh (Kids.step hm8 (by omega) K7.out);have z8:=qh (ql z7 hm8.size);have Hm8:=qh hp8.nxt;clear hm8 hp8 T
      go_wp2_with fail
      go_roundw
      case rel=>exact⟨f2,p1+1,acc++[Nd.mk k2 s2 l2],_,by have:=Hgo.out;omega,by have:=Hgo.out;have:=Hlt.out;omega,by have:=Hgo.out;simp;omega,HA2,M8,P8,R8,N8,K8,z8⟩
      case measure=>rw[Hm8.out,Hmeas.out];have:=Hgo.out;have:=Hlt.out;omega
     ·have HA2:=qh (hP3.out hc)
      have T:=qh (fun w h=>q0e E p1 ⟨#[46]⟩ w h hc);clear hc
      go_wp2_with fail
      refine(T.out _ P7.out).mono ?_;rintro e w8⟨rfl,hb8⟩;have M8:=M7.out.later (hb8.mono M7.out.size);go_wp2;rw[<-HR.out,HA2.out];exact⟨rfl,rfl,M8,P7.out.le⟩
  ·have hlt2:¬ ((p:Int) < (nt:Int)):=by omega
   have hlt3:decide ((p:Int) < (nt:Int))=false:=decide_eq_false hlt2;have HA':=qh (hrun.out.symm.trans (ql1 hlt));rw[hnt]at pc0;clear hnt D hrun hlt;obtain⟨⟨n0,n1,n2⟩,_⟩:=hN.out.cells;obtain⟨⟨r0,r1,r2⟩,g0,g1,g2⟩:=hRw.out.cells;have Hple:=qh hple
   go_wp2_with fail
   go_quiet (fail)
   generalize hW1:wr.drewN _=W1;have hb1:Below wr.heap.size wr W1:=by rw[<-hW1];exact below_drewN (Below.refl _ _) _
   clear hW1 n0 n1 n2 g0 g1 g2 pc0 pc1 pc3 r0 r1 r2;have M1:=qh (hM.out.later (hb1.mono hM.out.size));have R1:=qh (hRw.out.below hb1 hrl);have N1:=qh (hN.out.below hb1 hnl);have K1:=qh (hK.out.keep fun b _ h2=>hb1.block b h2);obtain⟨⟨n0,n1,n2⟩,_⟩:=N1.out.cells;obtain⟨⟨r0,r1,r2⟩,g0,g1,g2⟩:=R1.out.cells;have ln:=N1.out.lt;have lr:=R1.out.lt;have ND:=qh (((K1.out.kp ((Kp.refl (w.heap.size+1+1) W1).put3 (b:=w.heap.size) (.int .i64 1) (.string Sx.noS) (.slice va acc.length vcap) (by omega))).node 1 Sx.noS (by unfold maxLen;decide) (by unfold maxLen;have:=Hple.out;omega)).from (h':=w.heap.size) (by omega));clear hb1;go_wp2;refine zg (R1.out.put _ _ _) Tryz.results40 rfl rfl ?_;rw[<-HR.out,HA'.out];exact⟨⟨va,vcap,rfl,ND.out⟩,M1.out.put3 (q5 _) _ _ _,Hple.out⟩
theorem zk{W:World}{B:Nat}{t:TypeId}{v u:Value}(h:Boxed W B t v)(p:Addr)(hne:B≠p.block):Boxed (W.setCell p u) B t v:=(Below.heap_setCell _ _ _ _ hne).trans h
theorem q0p{W:World}{B h:Nat}{t:TypeId}{v u0 u1 u2:Value}(hb:Boxed W B t v)(hne:B≠h):Boxed (((W.setCell ⟨h,0,none⟩ u0).setCell ⟨h,1,none⟩ u1).setCell ⟨h,2,none⟩ u2) B t v :=
 zk (zk (zk hb ⟨h,0,none⟩ hne) ⟨h,1,none⟩ hne) ⟨h,2,none⟩ hne
theorem qa0{W:World}{B:Nat}{t:TypeId}{v:Value}(hb:Boxed W B t v):Boxed W.drew B t v:=hb
theorem qjw{W:World}{b:Nat}{u0 u1 u2:Value}(h:Row3 W b u0 u1 u2):Row3 W.drew b u0 u1 u2:=h
theorem q2v(s:ByteArray)(l:List Lx.Tok)(hl:Lx.scan (bs s) = .toks l)(w:World)(hs:s.size<=maxLen) :
  Calls Tryz.prog 77 #[.string s] w fun e w'=>∃ v,e = .returned (.tuple #[v,.int .i64 0,.int .i64 0])/\Toks w.heap.size v l w'/\Below w.heap.size w w':=by
 refine(q86 s w hs).mono ?_;rintro e w'⟨hb,h⟩;rw[hl]at h;obtain⟨v,h1,h2⟩:=h;exact⟨v,h1,h2,hb⟩
theorem q93(s:ByteArray)(i er:Nat)(hl:Lx.scan (bs s) = .bad i er)(w:World)(hs:s.size<=maxLen) :
  Calls Tryz.prog 77 #[.string s] w fun e w'=>e = .returned (.tuple #[.slice none 0 0,.int .i64 i,.int .i64 er])/\Below w.heap.size w w':=by
 refine(q86 s w hs).mono ?_;rintro e w'⟨hb,h⟩;rw[hl]at h;exact⟨h,hb⟩
theorem qki(s:ByteArray)(i er:Nat)(hl:Lx.scan (bs s) = .bad i er)(her:er≠0)(w:World)(hs:s.size<=maxLen)(fn:Value) :
  Calls Tryz.prog 39 #[.string s,fn] w fun e w'=>e = .returned (.tuple #[.agg #[.int .i64 0,.string ⟨#[]⟩,.slice none 0 0],.int .i64 i,.int .i64 er])/\Below w.heap.size w w':=by
 have C:=qh (fun w=>q93 s i er hl w hs);have he:((er:Int)==0)=false:=by rw[q9];omega
 clear hl her hs;have c0:=vz w (.int .i64 0) (.string ⟨#[]⟩) (.slice none 0 0) 25 _ rfl;have hb0:=qh (((Below.refl w.heap.size w).alloc (q5 _) (.cells #[.int .i64 0,.string ⟨#[]⟩,.slice none 0 0] 25)).alloc (by simp) (.cells #[.int .i64 0] 3)|>.alloc (by simp;omega) (.cells #[.int .i64 0] 26));clear c0
 go_enter_defers Tryz.func39,Tryz.ntmps39
 go_wp2_with fail
 refine(C.out _).mono ?_;rintro e w1⟨rfl,hb⟩;have z1:=hb.size;simp only[q6]at z1;have bx0:Row3 w1 w.heap.size (.int .i64 0) (.string ⟨#[]⟩) (.slice none 0 0):=(hb.block w.heap.size (by simp only[q6];omega)).trans (q1f w _ _ _);have bx1:Boxed w1 (w.heap.size+1) 3 (.int .i64 0):=(hb.block (w.heap.size+1) (by simp only[q6];omega)).trans (q0m w _ _ _);have bx2:Boxed w1 (w.heap.size+1+1) 26 (.int .i64 0):=(hb.block (w.heap.size+1+1) (by simp only[q6];omega)).trans (q0l w _ _ _);have B1:=qh (hb0.out.trans (hb.mono (by simp only[q6];omega)));obtain⟨⟨r0,r1,r2⟩,g0,g1,g2⟩:=bx0.cells;have d1:=bx1.cell;have d2:=bx2.cell;have f1:=bx1.frozen;have f2:=bx2.frozen;have l0:=bx0.lt;have l1:=bx1.lt;have l2:=bx2.lt;have R0:=qh bx0;have X1:=qh bx1;have X2:=qh bx2;clear hb bx0 bx1 bx2 z1 hb0
 go_wp2_with fail
 go_region
 generalize hV:World.drew _=V
 have RV:=qh (show Row3 V w.heap.size (.int .i64 0) (.string ⟨#[]⟩) (.slice none 0 0)by
  rw[<-hV]
  exact qjw (((((R0.out.other (p:=⟨w.heap.size+1,0,none⟩) _ (by simp)).other (p:=⟨w.heap.size+1+1,0,none⟩) _ (by simp only;omega)).put _ _ _).other (p:=⟨w.heap.size+1,0,none⟩) _ (by simp)).other (p:=⟨w.heap.size+1+1,0,none⟩) _ (by simp only;omega)))
 have V1:=qh (show Boxed V (w.heap.size+1) 3 (.int .i64 i)by
  rw[<-hV]
  exact qa0 (zk (Boxed.set _ (q0p (zk (Boxed.set _ X1.out) ⟨w.heap.size+1+1,0,none⟩ (by simp only;omega)) (by omega))) ⟨w.heap.size+1+1,0,none⟩ (by simp only;omega)))
 have V2:=qh (show Boxed V (w.heap.size+1+1) 26 (.int .i64 er)by
  rw[<-hV]
  exact qa0 (Boxed.set _ (zk (q0p (Boxed.set _ (zk X2.out ⟨w.heap.size+1,0,none⟩ (by simp only;omega))) (by omega)) ⟨w.heap.size+1,0,none⟩ (by simp only;omega))))
 have BV:=qh (show Below w.heap.size w V by
  rw[<-hV]
  exact(((y4 ((B1.out.setCell (p:=⟨w.heap.size+1,0,none⟩) (by simp) _).setCell (p:=⟨w.heap.size+1+1,0,none⟩) (by simp only;omega) _) (q5 _) _ _ _).setCell (p:=⟨w.heap.size+1,0,none⟩) (by simp) _).setCell (p:=⟨w.heap.size+1+1,0,none⟩) (by simp only;omega) _).drew)
 clear hV r0 r1 r2 g0 g1 g2 d1 d2 f1 f2 R0 X1 X2 B1 C;go_wp2;obtain⟨⟨r0,r1,r2⟩,_⟩:=RV.out.cells;have d1:=V1.out.cell;have d2:=V2.out.cell;refine⟨.tuple #[.agg #[.int .i64 0,.string ⟨#[]⟩,.slice none 0 0],.int .i64 i,.int .i64 er],by simp[results,Tryz.results39,go_sem,r0,r1,r2,d1,d2],rfl,BV.out⟩
structure AT where
 k:Int
 t:ByteArray
 p:Int
def wu(t:Lx.Tok):AT:=⟨t.kind,⟨t.text.toArray⟩,t.pos⟩
def qof(w:World)(b o:Nat)(a:AT):Prop :=
 w.cell? ⟨b,o,none⟩=some (.int .i64 a.k)/\w.cell? ⟨b,o+1,none⟩=some (.string a.t)/\w.cell? ⟨b,o+2,none⟩=some (.int .i64 a.p)
def qrj(w:World)(v:Value)(l:List AT):Prop :=
 ∃ a cap,v = .slice a l.length cap/\(l≠[]->∃ b o,a=some ⟨b,o,none⟩/\∀ i,(h:i < l.length)->qof w b (o+i*3) l[i])
def yc:List AT->List AT->Bool
 |[],[]=>true
 |a :: l,b :: m=>(a.k==b.k && (a.t.toList==b.t.toList)) && yc l m
 |_,_=>false
theorem qb9(l:Lx.Bs):∀ (f:Nat) (pre:List Lx.Tok) (i p er:Nat),Lx.scanT l f pre i = .bad p er->(er=2\/er=10\/er=11)/\p<=l.length
 |0,_,_,_,_,h=>by simp[Lx.scanT]at h
 |f+1,pre,i,p,er,h=>by
  unfold Lx.scanT at h
  split at h
  ·simp at h
  ·split at h
   ·simp at h;obtain⟨rfl,rfl⟩:=h;exact⟨.inr (.inl rfl),by omega⟩
   ·split at h
    ·simp at h;obtain⟨rfl,rfl⟩:=h;exact⟨.inl rfl,by omega⟩
    ·split at h
     ·simp at h;obtain⟨rfl,rfl⟩:=h;exact⟨.inr (.inr rfl),by omega⟩
     ·exact qb9 l f _ _ _ _ h
theorem qcy{l:Lx.Bs}{p er:Nat}(h:Lx.scan l = .bad p er):er=2\/er=10\/er=11:=by
 unfold Lx.scan at h
 split at h
 ·simp at h;exact .inl h.2.symm
 ·exact(qb9 _ _ _ _ _ _ h).1
theorem qb8(l:Lx.Bs):∀ (f:Nat) (pre:List Lx.Tok) (i:Nat) (ts:List Lx.Tok),pre.length<=6000->Lx.scanT l f pre i = .toks ts->ts.length<=6000
 |0,_,_,_,hp,h=>by simp[Lx.scanT]at h;subst h;exact hp
 |f+1,pre,i,ts,hp,h=>by
  unfold Lx.scanT at h
  split at h
  ·simp at h;subst h;exact hp
  ·split at h
   ·simp at h
   ·split at h
    ·simp at h
    ·split at h
     ·simp at h
     ·exact qb8 l f _ _ _ (by rw[qc,List.length_singleton];omega) h
theorem qcx{l:Lx.Bs}{ts:List Lx.Tok}(h:Lx.scan l = .toks ts):ts.length<=6000:=by
 unfold Lx.scan at h
 split at h
 ·simp at h
 ·exact qb8 _ _ _ _ _ (qp _) h
theorem qns(l:List Lx.Tok):∀ (i:Nat) (h:i < l.length),(q13 l)[i*3]?=some (.int .i64 l[i].kind)/\(q13 l)[i*3+1]?=some (.string ⟨l[i].text.toArray⟩)/\(q13 l)[i*3+2]?=some (.int .i64 l[i].pos):=by
 induction l with
 |nil=>intro i h;simp at h
 |cons t l ih =>
  intro i h;have e:q13 (t :: l)=[.int .i64 t.kind,.string ⟨t.text.toArray⟩,.int .i64 t.pos]++q13 l:=rfl;rw[e]
  cases i with
  |zero=>exact⟨rfl,rfl,rfl⟩
  |succ i =>
   obtain⟨h0,h1,h2⟩:=ih i (by simpa using h);rw[show(i+1)*3=i*3+3 from by omega,show i*3+3+1=i*3+1+3 from by omega,show i*3+3+2=i*3+2+3 from by omega];exact⟨h0,h1,h2⟩
theorem Toks.sl{B:Nat}{v:Value}{l:List Lx.Tok}{w:World}(h:Toks B v l w):qrj w v (l.map wu):=by
 obtain⟨h1,h2⟩:=h;rcases h2 with ⟨rfl,hn⟩|⟨g,cap,cur,rfl,hg,hh,r⟩
 ·have:l=[]:=List.length_eq_zero_iff.1 hn
  subst this;exact⟨none,0,rfl,fun hne=>absurd rfl hne⟩
 ·refine⟨some ⟨g,0,none⟩,cap,by rw[qv],fun _=>⟨g,0,rfl,fun i hi=>?_⟩⟩
  have hi':i < l.length:=by simpa using hi
  have hk:∀ j,j < l.length*3->cur[j]?=(q13 l)[j]?:=fun j hj=>by
   rw[<-r.2.2.2,List.getElem?_take_of_lt hj,Array.getElem?_toList]
  obtain⟨f0,f1,f2⟩:=qns l i hi';have he:(l.map wu)[i]=wu l[i]:=List.getElem_map _;rw[he];refine⟨?_,?_,?_⟩
  ·rw[qk _ _ _ _ _ _ hh,hk _ (by omega),show 0+i*3=i*3 from by omega,f0];rfl
  ·rw[qk _ _ _ _ _ _ hh,hk _ (by omega),show 0+i*3+1=i*3+1 from by omega,f1];rfl
  ·rw[qk _ _ _ _ _ _ hh,hk _ (by omega),show 0+i*3+2=i*3+2 from by omega,f2];rfl
def q3x(s:ByteArray)(l:List AT):Bool:=match Lx.scan (bs s)with
 | .toks t=>yc (t.map wu) l
 | .bad _ _=>false
def xg(a:AT):Bool:=q3x a.t [a]
theorem xj{a b:Bool}(h:a=b):Ending.returned (.bool a)=Ending.returned (.bool b):=by rw[h]
theorem q98(c:UInt8)(w:World):Calls Tryz.prog 169 #[.int .u8 c.toNat] w fun e w'=>e = .returned (.bool (Lx.small c))/\w=w':=by
 have hby:=xh c;obtain⟨V,hV⟩:∃ V,Lx.small c=V:=⟨_,rfl⟩;rw[hV];unfold Lx.small at hV;have HV:=qh hV;clear hV
 by_cases h1:(97:Int)<=(c.toNat:Int)
 ·by_cases h2:(c.toNat:Int)<=122
  ·go_enter Tryz.func169,Tryz.ntmps169
   go_wp2;go_ret
   exact ⟨xj       (by rw [<- HV.out]; have : 97 <= c.toNat := by omega
                       have : c.toNat <= 122 := by omega
                       simp[*]), rfl⟩
  ·go_enter Tryz.func169,Tryz.ntmps169
   go_wp2;go_ret
   exact ⟨xj       (by rw [<- HV.out]; have : ¬ c.toNat <= 122 := by omega
                       simp; omega), rfl⟩
 ·go_enter Tryz.func169,Tryz.ntmps169
  go_wp2;go_ret;exact⟨xj (by rw[<-HV.out];simp;omega),rfl⟩
theorem q4r(c:UInt8)(w:World):Calls Tryz.prog 167 #[.int .u8 c.toNat] w fun e w'=>e = .returned (.bool (Lx.capital c))/\w=w':=by
 have hby:=xh c;obtain⟨V,hV⟩:∃ V,Lx.capital c=V:=⟨_,rfl⟩;rw[hV];unfold Lx.capital at hV;have HV:=qh hV;clear hV
 by_cases h1:(65:Int)<=(c.toNat:Int)
 ·by_cases h2:(c.toNat:Int)<=90
  ·go_enter Tryz.func167,Tryz.ntmps167
   go_wp2;go_ret;exact⟨xj (by rw[<-HV.out];simp;omega),rfl⟩
  ·go_enter Tryz.func167,Tryz.ntmps167
   go_wp2;go_ret;exact⟨xj (by rw[<-HV.out];simp;omega),rfl⟩
 ·go_enter Tryz.func167,Tryz.ntmps167
  go_wp2;go_ret;exact⟨xj (by rw[<-HV.out];simp;omega),rfl⟩
theorem qov(c:UInt8):∀ b:Bool,b=(Lx.small c||Lx.capital c||(decide (48<=c.toNat) && decide (c.toNat<=57))||decide (c.toNat=95)||decide (c.toNat=39))->b=Lx.part c:=fun _ h=>h
theorem qo5(c:UInt8)(w:World):Calls Tryz.prog 172 #[.int .u8 c.toNat] w fun e w'=>e = .returned (.bool (Lx.part c))/\w=w':=by
 have hby:=xh c;have CS:=qh (fun w=>q98 c w);have CC:=qh (fun w=>q4r c w);have HV:=qh (qov c);obtain⟨V,hV⟩:∃ V,Lx.part c=V:=⟨_,rfl⟩;obtain⟨S,hS⟩:∃ S,Lx.small c=S:=⟨_,rfl⟩;obtain⟨C,hC⟩:∃ C,Lx.capital c=C:=⟨_,rfl⟩;rw[hV]at HV ⊢;simp only[hS,hC]at HV CS CC;clear hV hS hC;go_enter Tryz.func172,Tryz.ntmps172
 go_wp2_with fail
 refine(CS.out _).mono ?_;rintro e w1⟨rfl,rfl⟩;clear CS
 cases S
 ·go_wp2_with fail
  refine(CC.out _).mono ?_;rintro e w1⟨rfl,rfl⟩;clear CC
  cases C
  ·by_cases h3:c.toNat=95
   ·have HN:=qh h3
    have h1:(48:Int)<=(c.toNat:Int):=by omega
    have h2:¬ ((c.toNat:Int)<=57):=by omega
    have h3':((c.toNat:Int)==95)=true:=by rw[h3];rfl
    clear h3;go_wp2;go_ret;exact⟨xj (HV.out _ (by rw[HN.out];rfl)),rfl⟩
   ·have h3':((c.toNat:Int)==95)=false:=by rw[q9];omega
    by_cases h4:c.toNat=39
    ·have HN:=qh h4
     have h1:¬ ((48:Int)<=(c.toNat:Int)):=by omega
     have h4':((c.toNat:Int)==39)=true:=by rw[h4];rfl
     clear h3 h4;go_wp2;go_ret;exact⟨xj (HV.out _ (by rw[HN.out];rfl)),rfl⟩
    ·have h4':((c.toNat:Int)==39)=false:=by rw[q9];omega
     have HN:=qh (And.intro h3 h4)
     by_cases h1:48<=c.toNat
     ·have h1':(48:Int)<=(c.toNat:Int):=by omega
      by_cases h2:c.toNat<=57
      ·have h2':(c.toNat:Int)<=57:=by omega
       have HM:=qh (And.intro h1 h2);clear h1 h2 h3 h4;go_wp2;go_ret;exact⟨xj (HV.out _ (by rw[decide_eq_true HM.out.1,decide_eq_true HM.out.2];rfl)),rfl⟩
      ·have h2':¬ ((c.toNat:Int)<=57):=by omega
       have HM:=qh h2;clear h1 h2 h3 h4;go_wp2;go_ret;exact⟨xj (HV.out _ ((decide_eq_false (show ¬ ((c.toNat:Int)<=57)by omega)).trans (by rw[decide_eq_false HM.out,decide_eq_false HN.out.1,decide_eq_false HN.out.2,Bool.and_false];rfl))),rfl⟩
     ·have h1':¬ ((48:Int)<=(c.toNat:Int)):=by omega
      have HM:=qh h1;clear h1 h3 h4;go_wp2;go_ret;exact⟨xj (HV.out _ (by rw[decide_eq_false HM.out,decide_eq_false HN.out.1,decide_eq_false HN.out.2];rfl)),rfl⟩
  ·go_wp2
   go_ret;exact⟨xj (HV.out _ (by simp)),rfl⟩
 ·go_wp2
  go_ret;exact⟨xj (HV.out _ (by simp)),rfl⟩
end Go.Proofs.YtkckddojlignpaaGreatDoor
