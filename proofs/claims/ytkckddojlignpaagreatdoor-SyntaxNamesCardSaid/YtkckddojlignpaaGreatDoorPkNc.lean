/- A part of the proof, packed: see the last text of this claim. -/
import Derived.Test.YtkckddojlignpaaGreatDoorPkNa
import Derived.Test.YtkckddojlignpaaGreatDoorPkNb
import Derived.RegionDies
import Derived.BigQuiet
set_option maxHeartbeats 20000000
set_option maxRecDepth 100000
namespace Go.Proofs.YtkckddojlignpaaGreatDoor
open Go.RowKit
theorem Row3.grown{W W':World}{b:Nat}{v0 v1 v2:Value}{row:Option Nat}(h:Row3 W b v0 v1 v2)(hg:W.grownBy W' row)(hne:some b≠row):Row3 W' b v0 v1 v2:=(hg.block b h.lt hne).trans h
theorem qdf(E:PE)(q:Nat)(w:World)(h:PS E q w)(k:Int)(g:Nat)(q1:Nat)(hn:Sx.nameA E.ts q = .bad q1) :
  Calls Tryz.prog 88 #[.pointer (some ⟨E.pb,0,none⟩),.int .i64 k,.func (.func g) #[] #[]] w fun e w'=>e = .panicked [{ v:=je E q,recovered:=false }]/\Below w.heap.size w w':=by
 have HP:=qh h;have T1:=qh (fun w h=>(q2n E q w h q1 hn).2);have T2:=qh (fun w h=>q03 E q w h);have B0:=qh ((Below.refl w.heap.size w).alloc (q9 _) (.cells #[.int .i64 0,.string ⟨#[]⟩,.slice none 0 0] 25));clear h hn;go_enter Tryz.func88,Tryz.ntmps88
 go_wp2_with fail
 refine(T1.out _ (HP.out.later B0.out)).mono ?_;rintro e u1⟨rfl,hb⟩;have B1:=qh ((B0.out.trans (hb.mono B0.out.size)).alloc (by have:=B0.out.size;have:=hb.size;omega) (.cells #[.int .i64 0,.string ⟨#[]⟩,.slice none 0 0] 25));clear hb
 go_wp2_with fail
 refine(T2.out _ (HP.out.later B1.out)).mono ?_;rintro e u2⟨rfl,hb⟩;go_wp2;exact⟨rfl,rfl,B1.out.trans (hb.mono B1.out.size)⟩
theorem qde(E:PE)(q:Nat)(w:World)(h:PS E q w)(k:Int)(g:Nat)(_eg:∀ args w,(callFunc g args).run Tryz.prog w = .ok (.enter g args) w)(nk:Int)(s:ByteArray)(q1:Nat)(hn:Sx.nameA E.ts q = .ok (.mk nk s []) q1)(ht:Sx.txt E.ts q1=[58])(qb:Nat)(CT:∀ w0,PS E (q1+1) w0->Calls Tryz.prog 44 #[.pointer (some ⟨E.pb,0,none⟩)] w0 (Gr E w0 (.bad qb))) :
  Calls Tryz.prog 88 #[.pointer (some ⟨E.pb,0,none⟩),.int .i64 k,.func (.func g) #[] #[]] w (Gr E w (.bad qb)):=by
 have HP:=qh h;have hpl:=h.lt;have hsz:=(vy E h.g hn).1;have T1:=qh (fun w h=>q07 E q w h nk s [] q1 hn);have B0:=qh ((Below.refl w.heap.size w).alloc (q9 _) (.cells #[.int .i64 0,.string ⟨#[]⟩,.slice none 0 0] 25));have R0:=qh (Row3.new w (.int .i64 0) (.string ⟨#[]⟩) (.slice none 0 0));have T2:=qh (fun w h=>yd E q1 ⟨#[58]⟩ w h ht (by decide));have D:=qh CT;have HS:=qh hsz;clear h hn hsz ht CT;obtain⟨R,hR⟩:∃ R,Gr E w (.bad qb)=R:=⟨_,rfl⟩;have HR:=qh hR;rw[hR];clear hR;go_enter Tryz.func88,Tryz.ntmps88
 go_wp2_with fail
 refine(T1.out _ (HP.out.later B0.out)).mono ?_;rintro e u1⟨rfl,hm,hp⟩;have M:=qh (((Mv.before HP.out B0.out hm).alloc (.cells #[.int .i64 nk,.string s,.slice none 0 0] 25)).alloc (.cells #[.int .i64 k,.string s,.slice none 0 0] 25));have P:=qh (hp.later (((Below.refl _ u1).alloc (q9 _) (.cells #[.int .i64 nk,.string s,.slice none 0 0] 25)).alloc (by simp) (.cells #[.int .i64 k,.string s,.slice none 0 0] 25)));have Rw:=qh (((R0.out.mv hm (by omega)).alloc (.cells #[.int .i64 nk,.string s,.slice none 0 0] 25)).alloc (.cells #[.int .i64 k,.string s,.slice none 0 0] 25));have Nw:=qh (Row3.newAt (W:=u1.alloc (.cells #[.int .i64 nk,.string s,.slice none 0 0] 25)) (n:=u1.heap.size+1) (v0:=.int .i64 k) (v1:=.string s) (v2:=.slice none 0 0) (by simp));have hwu:w.heap.size < u1.heap.size:=(R0.out.mv hm (by omega)).lt;have hz:u1.heap.size+1+1<=((u1.alloc (.cells #[.int .i64 nk,.string s,.slice none 0 0] 25)).alloc (.cells #[.int .i64 k,.string s,.slice none 0 0] 25)).heap.size:=by simp
 have Hz:=qh hz;clear hm hp hz
 go_wp2_with fail
 refine(T2.out _ P.out).mono ?_;rintro e u2⟨rfl,hm,hp⟩;have hz2:u1.heap.size+1+1<=u2.heap.size:=qo Hz.out hm.size;have M2:=qh (Mv.trans HP.out M.out P.out.le hm);have P2:=qh hp;have R2:=qh (Rw.out.mv hm (by omega));have N2:=qh (Nw.out.mv hm (by omega));obtain⟨⟨m0,m1,m2⟩,f0,f1,f2⟩:=N2.out.cells;have ln:=N2.out.lt;clear hm hp
 have F:Hid (∀ w5,Mv E qb u2.drew w5->qb<=E.ts.length->R (.panicked [{ v:=je E qb,recovered:=false }]) w5):=qh fun w5 hm5 hq5=>by
  rw[<-HR.out];exact⟨rfl,Mv.trans HP.out (M2.out.later (below_drewN (Below.refl _ _) 1)) P2.out.le hm5,hq5⟩
 go_wp2_with fail
 go_region_dies
 all_goals refine(D.out _ (P2.out.later (Below.refl _ _).drew)).mono ?_
 all_goals rintro e w5 ⟨rfl,hm5,hq5⟩
 all_goals exact⟨rfl,F.out w5 hm5 hq5⟩
theorem qgf(E:PE)(q:Nat)(w:World)(h:PS E q w)(k:Int)(g:Nat)(_eg:∀ args w,(callFunc g args).run Tryz.prog w = .ok (.enter g args) w)(nk:Int)(s:ByteArray)(q1:Nat)(hn:Sx.nameA E.ts q = .ok (.mk nk s []) q1)(ht:Sx.txt E.ts q1=[58])(k1:Int)(s1:ByteArray)(l1:List Nd)(r:Nat)(CT:∀ w0,PS E (q1+1) w0->Calls Tryz.prog 44 #[.pointer (some ⟨E.pb,0,none⟩)] w0 (Gr E w0 (.ok (.mk k1 s1 l1) r)))(hd:Sx.txt E.ts r≠[46]) :
  Calls Tryz.prog 88 #[.pointer (some ⟨E.pb,0,none⟩),.int .i64 k,.func (.func g) #[] #[]] w (Gr E w (.bad r)):=by
 have HP:=qh h;have hpl:=h.lt;have hsz:=(vy E h.g hn).1;have T1:=qh (fun w h=>q07 E q w h nk s [] q1 hn);have B0:=qh ((Below.refl w.heap.size w).alloc (q9 _) (.cells #[.int .i64 0,.string ⟨#[]⟩,.slice none 0 0] 25));have R0:=qh (Row3.new w (.int .i64 0) (.string ⟨#[]⟩) (.slice none 0 0));have T2:=qh (fun w h=>yd E q1 ⟨#[58]⟩ w h ht (by decide));have D:=qh CT;have T3:=qh (fun w h=>q05 E r ⟨#[46]⟩ w h hd);have HS:=qh hsz;clear h hn hsz ht CT hd;obtain⟨R,hR⟩:∃ R,Gr E w (.bad r)=R:=⟨_,rfl⟩;have HR:=qh hR;rw[hR];clear hR;go_enter Tryz.func88,Tryz.ntmps88
 go_wp2_with fail
 refine(T1.out _ (HP.out.later B0.out)).mono ?_;rintro e u1⟨rfl,hm,hp⟩;have M:=qh (((Mv.before HP.out B0.out hm).alloc (.cells #[.int .i64 nk,.string s,.slice none 0 0] 25)).alloc (.cells #[.int .i64 k,.string s,.slice none 0 0] 25));have P:=qh (hp.later (((Below.refl _ u1).alloc (q9 _) (.cells #[.int .i64 nk,.string s,.slice none 0 0] 25)).alloc (by simp) (.cells #[.int .i64 k,.string s,.slice none 0 0] 25)));have Rw:=qh (((R0.out.mv hm (by omega)).alloc (.cells #[.int .i64 nk,.string s,.slice none 0 0] 25)).alloc (.cells #[.int .i64 k,.string s,.slice none 0 0] 25));have Nw:=qh (Row3.newAt (W:=u1.alloc (.cells #[.int .i64 nk,.string s,.slice none 0 0] 25)) (n:=u1.heap.size+1) (v0:=.int .i64 k) (v1:=.string s) (v2:=.slice none 0 0) (by simp));have hwu:w.heap.size < u1.heap.size:=(R0.out.mv hm (by omega)).lt;have hz:u1.heap.size+1+1<=((u1.alloc (.cells #[.int .i64 nk,.string s,.slice none 0 0] 25)).alloc (.cells #[.int .i64 k,.string s,.slice none 0 0] 25)).heap.size:=by simp
 have Hz:=qh hz;clear hm hp hz
 go_wp2_with fail
 refine(T2.out _ P.out).mono ?_;rintro e u2⟨rfl,hm,hp⟩;have hz2:u1.heap.size+1+1<=u2.heap.size:=qo Hz.out hm.size;have M2:=qh (Mv.trans HP.out M.out P.out.le hm);have P2:=qh hp;have R2:=qh (Rw.out.mv hm (by omega));have N2:=qh (Nw.out.mv hm (by omega));obtain⟨⟨m0,m1,m2⟩,f0,f1,f2⟩:=N2.out.cells;have ln:=N2.out.lt;clear hm hp
 go_wp2_with fail
 go_region_law (first
  |(go_simp;go_at_call 44;refine(D.out _ (P2.out.later (Below.refl _ _).drew)).mono ?_;rintro e w5 ⟨⟨a,cap,rfl,hn5⟩,hm5,hq5⟩;have hm5':=Mv.before P2.out (Below.refl _ _).drew hm5;have N5:=qh (N2.out.mv hm5' (by omega));have R5:=qh (R2.out.mv hm5' (by omega));have hz5:u1.heap.size+1+1<=w5.heap.size:=qo hz2 hm5'.size;obtain⟨⟨c0,c1,c2⟩,y0,y1,y2⟩:=N5.out.cells;have l5:=N5.out.lt)
  |(refine xd rfl _ _ rfl (u1.heap.size+1+1) (.slice none 0 0) [] rfl (Kids.nil _ _) ⟨w5.heap.size,0,none⟩ 1 (by rfl) (.mk k1 s1 l1) (.int .i64 k1) (.string s1) (.slice a l1.length cap) (xu w5 _ _ _ _ _ rfl) (hn5.keep (fun b hb1 hb2=>⟨Below.heap_alloc _ _ _ hb2,qo hz2 hb1,fun e=>by cases e⟩)) (by simp) (by simp;omega) _ rfl ?_;intro g6 cap6 w6 K6 G6 _ hg6;have N6:=qh ((N5.out.alloc _).grown G6 (by simp[Value.ownBlock]));have R6:=qh ((R5.out.alloc _).grown G6 (by simp[Value.ownBlock]));obtain⟨⟨d0,d1,d2⟩,z0,z1,z2⟩:=N6.out.cells))
 all_goals
  have hz6:u1.heap.size+1+1<=w6.heap.size:=by have:=G6.size;simp at this;omega
  have M6:=Mv.later (Mv.trans HP.out M2.out P2.out.le hm5') ((((Below.refl w.heap.size w5).alloc (by omega) (.cells #[.int .i64 k1,.string s1,.slice a l1.length cap] 25)).grown G6 (by simp;omega) (by intro b hb;simp[Value.ownBlock]at hb)));obtain⟨W,hW⟩:∃ W,w6.setCell ⟨u1.heap.size+1,2,none⟩ (.slice (some ⟨g6,0,none⟩) 1 cap6)=W:=⟨_,rfl⟩;have M3:=qh (show Mv E r w W by rw[<-hW];exact M6.later ((Below.refl w.heap.size w6).setCell (p:=⟨u1.heap.size+1,2,none⟩) (by simp only;omega) _));have N3:=qh (show Row3 W (u1.heap.size+1) (.int .i64 k) (.string s) (.slice (some ⟨g6,0,none⟩) 1 cap6)by rw[<-hW];exact N6.out.put2 _);have R3:=qh (show Row3 W w.heap.size (.int .i64 0) (.string ⟨#[]⟩) (.slice none 0 0)by rw[<-hW];exact R6.out.other _ (by simp only;omega));have K3:=qh (show Kids (u1.heap.size+1+1) W (.slice (some ⟨g6,0,none⟩) 1 cap6) [.mk k1 s1 l1] by rw[<-hW];exact K6.keep fun b hb1 _=>Below.heap_setCell _ _ _ _ (by simp only;omega));have P3:=qh (M3.out.ps HP.out hq5);have hz3:u1.heap.size+1+1<=W.heap.size:=by rw[<-hW,qs];exact hz6
  rw[hW];clear hW hn5 hm5 hm5' hq5 N5 R5 N6 R6 K6 G6 M6 c0 c1 c2 y0 y1 y2 l5 d0 d1 d2 z0 z1 z2 m0 m1 m2 f0 f1 f2 ln hg6 M2 P2 R2 N2
  go_wp2_with fail
  refine(T3.out _ P3.out).mono ?_;rintro e u4⟨rfl,hb⟩;have M4:=M3.out.later (hb.mono M3.out.size);go_wp2;rw[<-HR.out];exact⟨rfl,rfl,M4,P3.out.le⟩
theorem qgg(E:PE)(q:Nat)(w:World)(h:PS E q w)(k:Int)(g:Nat)(eg:∀ args w,(callFunc g args).run Tryz.prog w = .ok (.enter g args) w)(nk:Int)(s:ByteArray)(q1:Nat)(hn:Sx.nameA E.ts q = .ok (.mk nk s []) q1)(ht:Sx.txt E.ts q1=[58])(k1:Int)(s1:ByteArray)(l1:List Nd)(r:Nat)(CT:∀ w0,PS E (q1+1) w0->Calls Tryz.prog 44 #[.pointer (some ⟨E.pb,0,none⟩)] w0 (Gr E w0 (.ok (.mk k1 s1 l1) r)))(hd:Sx.txt E.ts r=[46])(qb:Nat)(CB:∀ w0,PS E (r+1) w0->Calls Tryz.prog g #[.pointer (some ⟨E.pb,0,none⟩)] w0 (Gr E w0 (.bad qb))) :
  Calls Tryz.prog 88 #[.pointer (some ⟨E.pb,0,none⟩),.int .i64 k,.func (.func g) #[] #[]] w (Gr E w (.bad qb)):=by
 have HP:=qh h;have hpl:=h.lt;have hsz:=(vy E h.g hn).1;have T1:=qh (fun w h=>q07 E q w h nk s [] q1 hn);have B0:=qh ((Below.refl w.heap.size w).alloc (q9 _) (.cells #[.int .i64 0,.string ⟨#[]⟩,.slice none 0 0] 25));have R0:=qh (Row3.new w (.int .i64 0) (.string ⟨#[]⟩) (.slice none 0 0));have T2:=qh (fun w h=>yd E q1 ⟨#[58]⟩ w h ht (by decide));have D:=qh CT;have D2:=qh CB;have T3:=qh (fun w h=>kh E r ⟨#[46]⟩ w h hd (by decide));have HS:=qh hsz;clear h hn hsz ht CT hd CB;obtain⟨R,hR⟩:∃ R,Gr E w (.bad qb)=R:=⟨_,rfl⟩;have HR:=qh hR;rw[hR];clear hR;go_enter Tryz.func88,Tryz.ntmps88
 go_wp2_with fail
 refine(T1.out _ (HP.out.later B0.out)).mono ?_;rintro e u1⟨rfl,hm,hp⟩;have M:=qh (((Mv.before HP.out B0.out hm).alloc (.cells #[.int .i64 nk,.string s,.slice none 0 0] 25)).alloc (.cells #[.int .i64 k,.string s,.slice none 0 0] 25));have P:=qh (hp.later (((Below.refl _ u1).alloc (q9 _) (.cells #[.int .i64 nk,.string s,.slice none 0 0] 25)).alloc (by simp) (.cells #[.int .i64 k,.string s,.slice none 0 0] 25)));have Rw:=qh (((R0.out.mv hm (by omega)).alloc (.cells #[.int .i64 nk,.string s,.slice none 0 0] 25)).alloc (.cells #[.int .i64 k,.string s,.slice none 0 0] 25));have Nw:=qh (Row3.newAt (W:=u1.alloc (.cells #[.int .i64 nk,.string s,.slice none 0 0] 25)) (n:=u1.heap.size+1) (v0:=.int .i64 k) (v1:=.string s) (v2:=.slice none 0 0) (by simp));have hwu:w.heap.size < u1.heap.size:=(R0.out.mv hm (by omega)).lt;have hz:u1.heap.size+1+1<=((u1.alloc (.cells #[.int .i64 nk,.string s,.slice none 0 0] 25)).alloc (.cells #[.int .i64 k,.string s,.slice none 0 0] 25)).heap.size:=by simp
 have Hz:=qh hz;clear hm hp hz
 go_wp2_with fail
 refine(T2.out _ P.out).mono ?_;rintro e u2⟨rfl,hm,hp⟩;have hz2:u1.heap.size+1+1<=u2.heap.size:=qo Hz.out hm.size;have M2:=qh (Mv.trans HP.out M.out P.out.le hm);have P2:=qh hp;have R2:=qh (Rw.out.mv hm (by omega));have N2:=qh (Nw.out.mv hm (by omega));obtain⟨⟨m0,m1,m2⟩,f0,f1,f2⟩:=N2.out.cells;have ln:=N2.out.lt;clear hm hp
 go_wp2_with fail
 go_region_law (first
  |(go_simp;go_at_call 44;refine(D.out _ (P2.out.later (Below.refl _ _).drew)).mono ?_;rintro e w5 ⟨⟨a,cap,rfl,hn5⟩,hm5,hq5⟩;have hm5':=Mv.before P2.out (Below.refl _ _).drew hm5;have N5:=qh (N2.out.mv hm5' (by omega));have R5:=qh (R2.out.mv hm5' (by omega));have hz5:u1.heap.size+1+1<=w5.heap.size:=qo hz2 hm5'.size;obtain⟨⟨c0,c1,c2⟩,y0,y1,y2⟩:=N5.out.cells;have l5:=N5.out.lt)
  |(refine xd rfl _ _ rfl (u1.heap.size+1+1) (.slice none 0 0) [] rfl (Kids.nil _ _) ⟨w5.heap.size,0,none⟩ 1 (by rfl) (.mk k1 s1 l1) (.int .i64 k1) (.string s1) (.slice a l1.length cap) (xu w5 _ _ _ _ _ rfl) (hn5.keep (fun b hb1 hb2=>⟨Below.heap_alloc _ _ _ hb2,qo hz2 hb1,fun e=>by cases e⟩)) (by simp) (by simp;omega) _ rfl ?_;intro g6 cap6 w6 K6 G6 _ hg6;have N6:=qh ((N5.out.alloc _).grown G6 (by simp[Value.ownBlock]));have R6:=qh ((R5.out.alloc _).grown G6 (by simp[Value.ownBlock]));obtain⟨⟨d0,d1,d2⟩,z0,z1,z2⟩:=N6.out.cells))
 all_goals
  have hz6:u1.heap.size+1+1<=w6.heap.size:=by have:=G6.size;simp at this;omega
  have M6:=Mv.later (Mv.trans HP.out M2.out P2.out.le hm5') ((((Below.refl w.heap.size w5).alloc (by omega) (.cells #[.int .i64 k1,.string s1,.slice a l1.length cap] 25)).grown G6 (by simp;omega) (by intro b hb;simp[Value.ownBlock]at hb)));obtain⟨W,hW⟩:∃ W,w6.setCell ⟨u1.heap.size+1,2,none⟩ (.slice (some ⟨g6,0,none⟩) 1 cap6)=W:=⟨_,rfl⟩;have M3:=qh (show Mv E r w W by rw[<-hW];exact M6.later ((Below.refl w.heap.size w6).setCell (p:=⟨u1.heap.size+1,2,none⟩) (by simp only;omega) _));have N3:=qh (show Row3 W (u1.heap.size+1) (.int .i64 k) (.string s) (.slice (some ⟨g6,0,none⟩) 1 cap6)by rw[<-hW];exact N6.out.put2 _);have R3:=qh (show Row3 W w.heap.size (.int .i64 0) (.string ⟨#[]⟩) (.slice none 0 0)by rw[<-hW];exact R6.out.other _ (by simp only;omega));have K3:=qh (show Kids (u1.heap.size+1+1) W (.slice (some ⟨g6,0,none⟩) 1 cap6) [.mk k1 s1 l1] by rw[<-hW];exact K6.keep fun b hb1 _=>Below.heap_setCell _ _ _ _ (by simp only;omega));have P3:=qh (M3.out.ps HP.out hq5);have hz3:u1.heap.size+1+1<=W.heap.size:=by rw[<-hW,qs];exact hz6
  rw[hW];clear hW hn5 hm5 hm5' hq5 N5 R5 N6 R6 K6 G6 M6 c0 c1 c2 y0 y1 y2 l5 d0 d1 d2 z0 z1 z2 m0 m1 m2 f0 f1 f2 ln hg6 M2 P2 R2 N2
  go_wp2_with fail
  refine(T3.out _ P3.out).mono ?_;rintro e u4⟨rfl,hm,hp⟩;have hz4:u1.heap.size+1+1<=u4.heap.size:=qo hz3 hm.size;have M4:=qh (Mv.trans HP.out M3.out P3.out.le hm);have P4:=qh hp;have R4:=qh (R3.out.mv hm (by omega));have N4:=qh (N3.out.mv hm (by omega));have K4:=qh (Kids.step hm (by omega) K3.out);obtain⟨⟨m0,m1,m2⟩,f0,f1,f2⟩:=N4.out.cells;have ln:=N4.out.lt;clear hm hp
  have F:Hid (∀ w5,Mv E qb u4.drew w5->qb<=E.ts.length->R (.panicked [{ v:=je E qb,recovered:=false }]) w5):=qh fun w5 hm5 hq5=>by
   rw[<-HR.out];exact⟨rfl,Mv.trans HP.out (M4.out.later (below_drewN (Below.refl _ _) 1)) P4.out.le hm5,hq5⟩
  go_wp2_with fail
  go_region_dies
  all_goals refine(D2.out _ (P4.out.later (Below.refl _ _).drew)).mono ?_
  all_goals rintro e w5 ⟨rfl,hm5,hq5⟩
  all_goals exact⟨rfl,F.out w5 hm5 hq5⟩
theorem qge(E:PE)(q:Nat)(w:World)(h:PS E q w)(k:Int)(g:Nat)(eg:∀ args w,(callFunc g args).run Tryz.prog w = .ok (.enter g args) w)(nk:Int)(s:ByteArray)(q1:Nat)(hn:Sx.nameA E.ts q = .ok (.mk nk s []) q1)(ht:Sx.txt E.ts q1=[58])(k1:Int)(s1:ByteArray)(l1:List Nd)(r:Nat)(CT:∀ w0,PS E (q1+1) w0->Calls Tryz.prog 44 #[.pointer (some ⟨E.pb,0,none⟩)] w0 (Gr E w0 (.ok (.mk k1 s1 l1) r)))(hd:Sx.txt E.ts r=[46])(k2:Int)(s2:ByteArray)(l2:List Nd)(qb:Nat)(CB:∀ w0,PS E (r+1) w0->Calls Tryz.prog g #[.pointer (some ⟨E.pb,0,none⟩)] w0 (Gr E w0 (.ok (.mk k2 s2 l2) qb))) :
  Calls Tryz.prog 88 #[.pointer (some ⟨E.pb,0,none⟩),.int .i64 k,.func (.func g) #[] #[]] w (Gr E w (.ok (.mk k s [.mk k1 s1 l1,.mk k2 s2 l2]) qb)):=by
 have HP:=qh h;have hpl:=h.lt;have hsz:=(vy E h.g hn).1;have T1:=qh (fun w h=>q07 E q w h nk s [] q1 hn);have B0:=qh ((Below.refl w.heap.size w).alloc (q9 _) (.cells #[.int .i64 0,.string ⟨#[]⟩,.slice none 0 0] 25));have R0:=qh (Row3.new w (.int .i64 0) (.string ⟨#[]⟩) (.slice none 0 0));have T2:=qh (fun w h=>yd E q1 ⟨#[58]⟩ w h ht (by decide));have D:=qh CT;have D2:=qh CB;have T3:=qh (fun w h=>kh E r ⟨#[46]⟩ w h hd (by decide));have HS:=qh hsz;clear h hn hsz ht CT hd CB;obtain⟨R,hR⟩:∃ R,Gr E w (.ok (.mk k s [.mk k1 s1 l1,.mk k2 s2 l2]) qb)=R:=⟨_,rfl⟩;have HR:=qh hR;rw[hR];clear hR;go_enter Tryz.func88,Tryz.ntmps88
 go_wp2_with fail
 refine(T1.out _ (HP.out.later B0.out)).mono ?_;rintro e u1⟨rfl,hm,hp⟩;have M:=qh (((Mv.before HP.out B0.out hm).alloc (.cells #[.int .i64 nk,.string s,.slice none 0 0] 25)).alloc (.cells #[.int .i64 k,.string s,.slice none 0 0] 25));have P:=qh (hp.later (((Below.refl _ u1).alloc (q9 _) (.cells #[.int .i64 nk,.string s,.slice none 0 0] 25)).alloc (by simp) (.cells #[.int .i64 k,.string s,.slice none 0 0] 25)));have Rw:=qh (((R0.out.mv hm (by omega)).alloc (.cells #[.int .i64 nk,.string s,.slice none 0 0] 25)).alloc (.cells #[.int .i64 k,.string s,.slice none 0 0] 25));have Nw:=qh (Row3.newAt (W:=u1.alloc (.cells #[.int .i64 nk,.string s,.slice none 0 0] 25)) (n:=u1.heap.size+1) (v0:=.int .i64 k) (v1:=.string s) (v2:=.slice none 0 0) (by simp));have hwu:w.heap.size < u1.heap.size:=(R0.out.mv hm (by omega)).lt;have hz:u1.heap.size+1+1<=((u1.alloc (.cells #[.int .i64 nk,.string s,.slice none 0 0] 25)).alloc (.cells #[.int .i64 k,.string s,.slice none 0 0] 25)).heap.size:=by simp
 have Hz:=qh hz;clear hm hp hz
 go_wp2_with fail
 refine(T2.out _ P.out).mono ?_;rintro e u2⟨rfl,hm,hp⟩;have hz2:u1.heap.size+1+1<=u2.heap.size:=qo Hz.out hm.size;have M2:=qh (Mv.trans HP.out M.out P.out.le hm);have P2:=qh hp;have R2:=qh (Rw.out.mv hm (by omega));have N2:=qh (Nw.out.mv hm (by omega));obtain⟨⟨m0,m1,m2⟩,f0,f1,f2⟩:=N2.out.cells;have ln:=N2.out.lt;clear hm hp
 go_wp2_with fail
 go_region_law (first
  |(go_simp;go_at_call 44;refine(D.out _ (P2.out.later (Below.refl _ _).drew)).mono ?_;rintro e w5 ⟨⟨a,cap,rfl,hn5⟩,hm5,hq5⟩;have hm5':=Mv.before P2.out (Below.refl _ _).drew hm5;have N5:=qh (N2.out.mv hm5' (by omega));have R5:=qh (R2.out.mv hm5' (by omega));have hz5:u1.heap.size+1+1<=w5.heap.size:=qo hz2 hm5'.size;obtain⟨⟨c0,c1,c2⟩,y0,y1,y2⟩:=N5.out.cells;have l5:=N5.out.lt)
  |(refine xd rfl _ _ rfl (u1.heap.size+1+1) (.slice none 0 0) [] rfl (Kids.nil _ _) ⟨w5.heap.size,0,none⟩ 1 (by rfl) (.mk k1 s1 l1) (.int .i64 k1) (.string s1) (.slice a l1.length cap) (xu w5 _ _ _ _ _ rfl) (hn5.keep (fun b hb1 hb2=>⟨Below.heap_alloc _ _ _ hb2,qo hz2 hb1,fun e=>by cases e⟩)) (by simp) (by simp;omega) _ rfl ?_;intro g6 cap6 w6 K6 G6 _ hg6;have N6:=qh ((N5.out.alloc _).grown G6 (by simp[Value.ownBlock]));have R6:=qh ((R5.out.alloc _).grown G6 (by simp[Value.ownBlock]));obtain⟨⟨d0,d1,d2⟩,z0,z1,z2⟩:=N6.out.cells))
 all_goals
  have hz6:u1.heap.size+1+1<=w6.heap.size:=by have:=G6.size;simp at this;omega
  have M6:=Mv.later (Mv.trans HP.out M2.out P2.out.le hm5') ((((Below.refl w.heap.size w5).alloc (by omega) (.cells #[.int .i64 k1,.string s1,.slice a l1.length cap] 25)).grown G6 (by simp;omega) (by intro b hb;simp[Value.ownBlock]at hb)));obtain⟨W,hW⟩:∃ W,w6.setCell ⟨u1.heap.size+1,2,none⟩ (.slice (some ⟨g6,0,none⟩) 1 cap6)=W:=⟨_,rfl⟩;have M3:=qh (show Mv E r w W by rw[<-hW];exact M6.later ((Below.refl w.heap.size w6).setCell (p:=⟨u1.heap.size+1,2,none⟩) (by simp only;omega) _));have N3:=qh (show Row3 W (u1.heap.size+1) (.int .i64 k) (.string s) (.slice (some ⟨g6,0,none⟩) 1 cap6)by rw[<-hW];exact N6.out.put2 _);have R3:=qh (show Row3 W w.heap.size (.int .i64 0) (.string ⟨#[]⟩) (.slice none 0 0)by rw[<-hW];exact R6.out.other _ (by simp only;omega));have K3:=qh (show Kids (u1.heap.size+1+1) W (.slice (some ⟨g6,0,none⟩) 1 cap6) [.mk k1 s1 l1] by rw[<-hW];exact K6.keep fun b hb1 _=>Below.heap_setCell _ _ _ _ (by simp only;omega));have P3:=qh (M3.out.ps HP.out hq5);have hz3:u1.heap.size+1+1<=W.heap.size:=by rw[<-hW,qs];exact hz6
  rw[hW];clear hW hn5 hm5 hm5' hq5 N5 R5 N6 R6 K6 G6 M6 c0 c1 c2 y0 y1 y2 l5 d0 d1 d2 z0 z1 z2 m0 m1 m2 f0 f1 f2 ln hg6 M2 P2 R2 N2
  go_wp2_with fail
  refine(T3.out _ P3.out).mono ?_;rintro e u4⟨rfl,hm,hp⟩;have hz4:u1.heap.size+1+1<=u4.heap.size:=qo hz3 hm.size;have M4:=qh (Mv.trans HP.out M3.out P3.out.le hm);have P4:=qh hp;have R4:=qh (R3.out.mv hm (by omega));have N4:=qh (N3.out.mv hm (by omega));have K4:=qh (Kids.step hm (by omega) K3.out);obtain⟨⟨m0,m1,m2⟩,f0,f1,f2⟩:=N4.out.cells;have ln:=N4.out.lt;clear hm hp
  go_wp2_with fail
  go_region_law (first
   |(go_simp;refine(D2.out _ (P4.out.later (Below.refl _ _).drew)).mono ?_;rintro e w5 ⟨⟨a5,cap5,rfl,hn5⟩,hm5,hq5⟩;have hm5':=Mv.before P4.out (Below.refl _ _).drew hm5;have N5:=qh (N4.out.mv hm5' (by omega));have R5:=qh (R4.out.mv hm5' (by omega));have K5:=qh (Kids.step hm5' (by omega) K4.out);have hz5:u1.heap.size+1+1<=w5.heap.size:=qo hz4 hm5'.size;obtain⟨⟨c0,c1,c2⟩,y0,y1,y2⟩:=N5.out.cells;have l5:=N5.out.lt)
   |(refine xd rfl _ _ rfl (u1.heap.size+1+1) _ [Nd.mk k1 s1 l1] rfl (Kids.keep K5.out fun b _ hb2=>Below.heap_alloc _ _ _ hb2) ⟨w5.heap.size,0,none⟩ 1 (by rfl) (.mk k2 s2 l2) (.int .i64 k2) (.string s2) (.slice a5 l2.length cap5) (xu w5 _ _ _ _ _ rfl) (hn5.keep (fun b hb1 hb2=>⟨Below.heap_alloc _ _ _ hb2,qo hz4 hb1,fun e=>by have:=K4.out.own b e;have hb1':u4.heap.size<=b:=hb1;omega⟩)) (by simp) (by simp;omega) _ rfl ?_;intro g6 cap6 w6 K6 G6 _ hg6;have hown:=K5.out.own;have N6:=qh ((N5.out.alloc _).grown G6 (fun e=>by have:=hown _ e.symm;omega));have R6:=qh ((R5.out.alloc _).grown G6 (fun e=>by have:=hown _ e.symm;omega));obtain⟨⟨d0,d1,d2⟩,z0,z1,z2⟩:=N6.out.cells))
  all_goals
   have hz6:u1.heap.size+1+1<=w6.heap.size:=by have:=G6.size;simp at this;omega
   have M6:=Mv.later (Mv.trans HP.out M4.out P4.out.le hm5') ((((Below.refl w.heap.size w5).alloc (by omega) (.cells #[.int .i64 k2,.string s2,.slice a5 l2.length cap5] 25)).grown G6 (by simp;omega) (fun b hb=>by have:=hown b hb;omega)));obtain⟨V,hV⟩:∃ V,w6.setCell ⟨u1.heap.size+1,2,none⟩ (.slice (some ⟨g6,0,none⟩) ([Nd.mk k1 s1 l1].length+1) cap6)=V:=⟨_,rfl⟩;have M7:=qh (show Mv E qb w V by rw[<-hV];exact M6.later ((Below.refl w.heap.size w6).setCell (p:=⟨u1.heap.size+1,2,none⟩) (by simp only;omega) _));have N7:=qh (show Row3 V (u1.heap.size+1) (.int .i64 k) (.string s) (.slice (some ⟨g6,0,none⟩) ([Nd.mk k1 s1 l1].length+1) cap6)by rw[<-hV];exact N6.out.put2 _);have R7:=qh (show Row3 V w.heap.size (.int .i64 0) (.string ⟨#[]⟩) (.slice none 0 0)by rw[<-hV];exact R6.out.other _ (by simp only;omega));have K7:=show Kids (u1.heap.size+1+1) V (.slice (some ⟨g6,0,none⟩) ([Nd.mk k1 s1 l1].length+1) cap6) ([Nd.mk k1 s1 l1]++[.mk k2 s2 l2])by rw[<-hV];exact K6.keep fun b hb1 _=>Below.heap_setCell _ _ _ _ (by simp only;omega)
   have Q7:=qh hq5;have hz7:u1.heap.size+1+1<=V.heap.size:=by rw[<-hV,qs];exact hz6
   have N8:=qh ((K7.node k s HS.out (by unfold maxLen;simp)).fin (h:=w.heap.size) (by omega) ((Kp.refl (u1.heap.size+1+1) V).put3 (b:=w.heap.size) (.int .i64 k) (.string s) (.slice (some ⟨g6,0,none⟩) ([Nd.mk k1 s1 l1].length+1) cap6) (by omega)));simp only[qz,qr,Nat.zero_add,Nat.reduceAdd]at hV N7 N8;rw[hV];clear hV hn5 hm5 hm5' hq5 N5 R5 N6 R6 K6 G6 M6 c0 c1 c2 y0 y1 y2 l5 d0 d1 d2 z0 z1 z2 m0 m1 m2 f0 f1 f2 ln hg6 hown K5 K7;obtain⟨⟨n0,n1,n2⟩,_⟩:=N7.out.cells;obtain⟨⟨r0,r1,r2⟩,g0,g1,g2⟩:=R7.out.cells;have ln:=N7.out.lt;have lr:=R7.out.lt;go_wp2;refine zh (R7.out.put _ _ _) Tryz.results88 rfl rfl ?_;rw[<-HR.out];exact⟨⟨_,_,rfl,N8.out⟩,M7.out.put3 (q9 _) _ _ _,Q7.out⟩
theorem qgi(E:PE)(q:Nat)(w:World)(h:PS E q w)(k:Int)(g:Nat)(_eg:∀ args w,(callFunc g args).run Tryz.prog w = .ok (.enter g args) w)(nk:Int)(s:ByteArray)(q1:Nat)(hn:Sx.nameA E.ts q = .ok (.mk nk s []) q1)(ht:Sx.txt E.ts q1≠[58])(hd:Sx.txt E.ts q1≠[46]) :
  Calls Tryz.prog 88 #[.pointer (some ⟨E.pb,0,none⟩),.int .i64 k,.func (.func g) #[] #[]] w (Gr E w (.bad q1)):=by
 have HP:=qh h;have hpl:=h.lt;have hsz:=(vy E h.g hn).1;have T1:=qh (fun w h=>q07 E q w h nk s [] q1 hn);have B0:=qh ((Below.refl w.heap.size w).alloc (q9 _) (.cells #[.int .i64 0,.string ⟨#[]⟩,.slice none 0 0] 25));have R0:=qh (Row3.new w (.int .i64 0) (.string ⟨#[]⟩) (.slice none 0 0));have T2:=qh (fun w h=>yt E q1 ⟨#[58]⟩ w h ht);have T3:=qh (fun w h=>q05 E q1 ⟨#[46]⟩ w h hd);have HS:=qh hsz;clear h hn hsz ht hd;obtain⟨R,hR⟩:∃ R,Gr E w (.bad q1)=R:=⟨_,rfl⟩;have HR:=qh hR;rw[hR];clear hR;go_enter Tryz.func88,Tryz.ntmps88
 go_wp2_with fail
 refine(T1.out _ (HP.out.later B0.out)).mono ?_;rintro e u1⟨rfl,hm,hp⟩;have M:=qh (((Mv.before HP.out B0.out hm).alloc (.cells #[.int .i64 nk,.string s,.slice none 0 0] 25)).alloc (.cells #[.int .i64 k,.string s,.slice none 0 0] 25));have P:=qh (hp.later (((Below.refl _ u1).alloc (q9 _) (.cells #[.int .i64 nk,.string s,.slice none 0 0] 25)).alloc (by simp) (.cells #[.int .i64 k,.string s,.slice none 0 0] 25)));have Rw:=qh (((R0.out.mv hm (by omega)).alloc (.cells #[.int .i64 nk,.string s,.slice none 0 0] 25)).alloc (.cells #[.int .i64 k,.string s,.slice none 0 0] 25));have Nw:=qh (Row3.newAt (W:=u1.alloc (.cells #[.int .i64 nk,.string s,.slice none 0 0] 25)) (n:=u1.heap.size+1) (v0:=.int .i64 k) (v1:=.string s) (v2:=.slice none 0 0) (by simp));have hwu:w.heap.size < u1.heap.size:=(R0.out.mv hm (by omega)).lt;have hz:u1.heap.size+1+1<=((u1.alloc (.cells #[.int .i64 nk,.string s,.slice none 0 0] 25)).alloc (.cells #[.int .i64 k,.string s,.slice none 0 0] 25)).heap.size:=by simp
 have Hz:=qh hz;clear hm hp hz
 go_wp2_with fail
 refine(T2.out _ P.out).mono ?_;rintro e W⟨rfl,hb⟩;have hz3:u1.heap.size+1+1<=W.heap.size:=qo Hz.out hb.size;have M3:=qh (M.out.later (hb.mono M.out.size));have P3:=qh (P.out.later hb);have R3:=qh (Rw.out.below hb Rw.out.lt);have N3:=qh (Nw.out.below hb Nw.out.lt);have K3:=qh (Kids.nil (u1.heap.size+1+1) W);clear hb
 go_wp2_with fail
 refine(T3.out _ P3.out).mono ?_;rintro e u4⟨rfl,hb⟩;have M4:=M3.out.later (hb.mono M3.out.size);go_wp2;rw[<-HR.out];exact⟨rfl,rfl,M4,P3.out.le⟩
theorem qgj(E:PE)(q:Nat)(w:World)(h:PS E q w)(k:Int)(g:Nat)(eg:∀ args w,(callFunc g args).run Tryz.prog w = .ok (.enter g args) w)(nk:Int)(s:ByteArray)(q1:Nat)(hn:Sx.nameA E.ts q = .ok (.mk nk s []) q1)(ht:Sx.txt E.ts q1≠[58])(hd:Sx.txt E.ts q1=[46])(qb:Nat)(CB:∀ w0,PS E (q1+1) w0->Calls Tryz.prog g #[.pointer (some ⟨E.pb,0,none⟩)] w0 (Gr E w0 (.bad qb))) :
  Calls Tryz.prog 88 #[.pointer (some ⟨E.pb,0,none⟩),.int .i64 k,.func (.func g) #[] #[]] w (Gr E w (.bad qb)):=by
 have HP:=qh h;have hpl:=h.lt;have hsz:=(vy E h.g hn).1;have T1:=qh (fun w h=>q07 E q w h nk s [] q1 hn);have B0:=qh ((Below.refl w.heap.size w).alloc (q9 _) (.cells #[.int .i64 0,.string ⟨#[]⟩,.slice none 0 0] 25));have R0:=qh (Row3.new w (.int .i64 0) (.string ⟨#[]⟩) (.slice none 0 0));have T2:=qh (fun w h=>yt E q1 ⟨#[58]⟩ w h ht);have D2:=qh CB;have T3:=qh (fun w h=>kh E q1 ⟨#[46]⟩ w h hd (by decide));have HS:=qh hsz;clear h hn hsz ht hd CB;obtain⟨R,hR⟩:∃ R,Gr E w (.bad qb)=R:=⟨_,rfl⟩;have HR:=qh hR;rw[hR];clear hR;go_enter Tryz.func88,Tryz.ntmps88
 go_wp2_with fail
 refine(T1.out _ (HP.out.later B0.out)).mono ?_;rintro e u1⟨rfl,hm,hp⟩;have M:=qh (((Mv.before HP.out B0.out hm).alloc (.cells #[.int .i64 nk,.string s,.slice none 0 0] 25)).alloc (.cells #[.int .i64 k,.string s,.slice none 0 0] 25));have P:=qh (hp.later (((Below.refl _ u1).alloc (q9 _) (.cells #[.int .i64 nk,.string s,.slice none 0 0] 25)).alloc (by simp) (.cells #[.int .i64 k,.string s,.slice none 0 0] 25)));have Rw:=qh (((R0.out.mv hm (by omega)).alloc (.cells #[.int .i64 nk,.string s,.slice none 0 0] 25)).alloc (.cells #[.int .i64 k,.string s,.slice none 0 0] 25));have Nw:=qh (Row3.newAt (W:=u1.alloc (.cells #[.int .i64 nk,.string s,.slice none 0 0] 25)) (n:=u1.heap.size+1) (v0:=.int .i64 k) (v1:=.string s) (v2:=.slice none 0 0) (by simp));have hwu:w.heap.size < u1.heap.size:=(R0.out.mv hm (by omega)).lt;have hz:u1.heap.size+1+1<=((u1.alloc (.cells #[.int .i64 nk,.string s,.slice none 0 0] 25)).alloc (.cells #[.int .i64 k,.string s,.slice none 0 0] 25)).heap.size:=by simp
 have Hz:=qh hz;clear hm hp hz
 go_wp2_with fail
 refine(T2.out _ P.out).mono ?_;rintro e W⟨rfl,hb⟩;have hz3:u1.heap.size+1+1<=W.heap.size:=qo Hz.out hb.size;have M3:=qh (M.out.later (hb.mono M.out.size));have P3:=qh (P.out.later hb);have R3:=qh (Rw.out.below hb Rw.out.lt);have N3:=qh (Nw.out.below hb Nw.out.lt);have K3:=qh (Kids.nil (u1.heap.size+1+1) W);clear hb
 go_wp2_with fail
 refine(T3.out _ P3.out).mono ?_;rintro e u4⟨rfl,hm,hp⟩;have hz4:u1.heap.size+1+1<=u4.heap.size:=qo hz3 hm.size;have M4:=qh (Mv.trans HP.out M3.out P3.out.le hm);have P4:=qh hp;have R4:=qh (R3.out.mv hm (by omega));have N4:=qh (N3.out.mv hm (by omega));have K4:=qh (Kids.step hm (by omega) K3.out);obtain⟨⟨m0,m1,m2⟩,f0,f1,f2⟩:=N4.out.cells;have ln:=N4.out.lt;clear hm hp
 have F:Hid (∀ w5,Mv E qb u4.drew w5->qb<=E.ts.length->R (.panicked [{ v:=je E qb,recovered:=false }]) w5):=qh fun w5 hm5 hq5=>by
  rw[<-HR.out];exact⟨rfl,Mv.trans HP.out (M4.out.later (below_drewN (Below.refl _ _) 1)) P4.out.le hm5,hq5⟩
 go_wp2_with fail
 go_region_dies
 all_goals refine(D2.out _ (P4.out.later (Below.refl _ _).drew)).mono ?_
 all_goals rintro e w5 ⟨rfl,hm5,hq5⟩
 all_goals exact⟨rfl,F.out w5 hm5 hq5⟩
theorem qgh(E:PE)(q:Nat)(w:World)(h:PS E q w)(k:Int)(g:Nat)(eg:∀ args w,(callFunc g args).run Tryz.prog w = .ok (.enter g args) w)(nk:Int)(s:ByteArray)(q1:Nat)(hn:Sx.nameA E.ts q = .ok (.mk nk s []) q1)(ht:Sx.txt E.ts q1≠[58])(hd:Sx.txt E.ts q1=[46])(k2:Int)(s2:ByteArray)(l2:List Nd)(qb:Nat)(CB:∀ w0,PS E (q1+1) w0->Calls Tryz.prog g #[.pointer (some ⟨E.pb,0,none⟩)] w0 (Gr E w0 (.ok (.mk k2 s2 l2) qb))) :
  Calls Tryz.prog 88 #[.pointer (some ⟨E.pb,0,none⟩),.int .i64 k,.func (.func g) #[] #[]] w (Gr E w (.ok (.mk k s [.mk k2 s2 l2]) qb)):=by
 have HP:=qh h;have hpl:=h.lt;have hsz:=(vy E h.g hn).1;have T1:=qh (fun w h=>q07 E q w h nk s [] q1 hn);have B0:=qh ((Below.refl w.heap.size w).alloc (q9 _) (.cells #[.int .i64 0,.string ⟨#[]⟩,.slice none 0 0] 25));have R0:=qh (Row3.new w (.int .i64 0) (.string ⟨#[]⟩) (.slice none 0 0));have T2:=qh (fun w h=>yt E q1 ⟨#[58]⟩ w h ht);have D2:=qh CB;have T3:=qh (fun w h=>kh E q1 ⟨#[46]⟩ w h hd (by decide));have HS:=qh hsz;clear h hn hsz ht hd CB;obtain⟨R,hR⟩:∃ R,Gr E w (.ok (.mk k s [.mk k2 s2 l2]) qb)=R:=⟨_,rfl⟩;have HR:=qh hR;rw[hR];clear hR;go_enter Tryz.func88,Tryz.ntmps88
 go_wp2_with fail
 refine(T1.out _ (HP.out.later B0.out)).mono ?_;rintro e u1⟨rfl,hm,hp⟩;have M:=qh (((Mv.before HP.out B0.out hm).alloc (.cells #[.int .i64 nk,.string s,.slice none 0 0] 25)).alloc (.cells #[.int .i64 k,.string s,.slice none 0 0] 25));have P:=qh (hp.later (((Below.refl _ u1).alloc (q9 _) (.cells #[.int .i64 nk,.string s,.slice none 0 0] 25)).alloc (by simp) (.cells #[.int .i64 k,.string s,.slice none 0 0] 25)));have Rw:=qh (((R0.out.mv hm (by omega)).alloc (.cells #[.int .i64 nk,.string s,.slice none 0 0] 25)).alloc (.cells #[.int .i64 k,.string s,.slice none 0 0] 25));have Nw:=qh (Row3.newAt (W:=u1.alloc (.cells #[.int .i64 nk,.string s,.slice none 0 0] 25)) (n:=u1.heap.size+1) (v0:=.int .i64 k) (v1:=.string s) (v2:=.slice none 0 0) (by simp));have hwu:w.heap.size < u1.heap.size:=(R0.out.mv hm (by omega)).lt;have hz:u1.heap.size+1+1<=((u1.alloc (.cells #[.int .i64 nk,.string s,.slice none 0 0] 25)).alloc (.cells #[.int .i64 k,.string s,.slice none 0 0] 25)).heap.size:=by simp
 have Hz:=qh hz;clear hm hp hz
 go_wp2_with fail
 refine(T2.out _ P.out).mono ?_;rintro e W⟨rfl,hb⟩;have hz3:u1.heap.size+1+1<=W.heap.size:=qo Hz.out hb.size;have M3:=qh (M.out.later (hb.mono M.out.size));have P3:=qh (P.out.later hb);have R3:=qh (Rw.out.below hb Rw.out.lt);have N3:=qh (Nw.out.below hb Nw.out.lt);have K3:=qh (Kids.nil (u1.heap.size+1+1) W);clear hb
 go_wp2_with fail
 refine(T3.out _ P3.out).mono ?_;rintro e u4⟨rfl,hm,hp⟩;have hz4:u1.heap.size+1+1<=u4.heap.size:=qo hz3 hm.size;have M4:=qh (Mv.trans HP.out M3.out P3.out.le hm);have P4:=qh hp;have R4:=qh (R3.out.mv hm (by omega));have N4:=qh (N3.out.mv hm (by omega));have K4:=qh (Kids.step hm (by omega) K3.out);obtain⟨⟨m0,m1,m2⟩,f0,f1,f2⟩:=N4.out.cells;have ln:=N4.out.lt;clear hm hp
 go_wp2_with fail
 go_region_law (first
  |(go_simp;refine(D2.out _ (P4.out.later (Below.refl _ _).drew)).mono ?_;rintro e w5 ⟨⟨a5,cap5,rfl,hn5⟩,hm5,hq5⟩;have hm5':=Mv.before P4.out (Below.refl _ _).drew hm5;have N5:=qh (N4.out.mv hm5' (by omega));have R5:=qh (R4.out.mv hm5' (by omega));have K5:=qh (Kids.step hm5' (by omega) K4.out);have hz5:u1.heap.size+1+1<=w5.heap.size:=qo hz4 hm5'.size;obtain⟨⟨c0,c1,c2⟩,y0,y1,y2⟩:=N5.out.cells;have l5:=N5.out.lt)
  |(refine xd rfl _ _ rfl (u1.heap.size+1+1) _ ([]:List Nd) rfl (Kids.keep K5.out fun b _ hb2=>Below.heap_alloc _ _ _ hb2) ⟨w5.heap.size,0,none⟩ 1 (by rfl) (.mk k2 s2 l2) (.int .i64 k2) (.string s2) (.slice a5 l2.length cap5) (xu w5 _ _ _ _ _ rfl) (hn5.keep (fun b hb1 hb2=>⟨Below.heap_alloc _ _ _ hb2,qo hz4 hb1,fun e=>by have:=K4.out.own b e;have hb1':u4.heap.size<=b:=hb1;omega⟩)) (by simp) (by simp;omega) _ rfl ?_;intro g6 cap6 w6 K6 G6 _ hg6;have hown:=K5.out.own;have N6:=qh ((N5.out.alloc _).grown G6 (fun e=>by have:=hown _ e.symm;omega));have R6:=qh ((R5.out.alloc _).grown G6 (fun e=>by have:=hown _ e.symm;omega));obtain⟨⟨d0,d1,d2⟩,z0,z1,z2⟩:=N6.out.cells))
 all_goals
  have hz6:u1.heap.size+1+1<=w6.heap.size:=by have:=G6.size;simp at this;omega
  have M6:=Mv.later (Mv.trans HP.out M4.out P4.out.le hm5') ((((Below.refl w.heap.size w5).alloc (by omega) (.cells #[.int .i64 k2,.string s2,.slice a5 l2.length cap5] 25)).grown G6 (by simp;omega) (fun b hb=>by have:=hown b hb;omega)));obtain⟨V,hV⟩:∃ V,w6.setCell ⟨u1.heap.size+1,2,none⟩ (.slice (some ⟨g6,0,none⟩) (([]:List Nd).length+1) cap6)=V:=⟨_,rfl⟩;have M7:=qh (show Mv E qb w V by rw[<-hV];exact M6.later ((Below.refl w.heap.size w6).setCell (p:=⟨u1.heap.size+1,2,none⟩) (by simp only;omega) _));have N7:=qh (show Row3 V (u1.heap.size+1) (.int .i64 k) (.string s) (.slice (some ⟨g6,0,none⟩) (([]:List Nd).length+1) cap6)by rw[<-hV];exact N6.out.put2 _);have R7:=qh (show Row3 V w.heap.size (.int .i64 0) (.string ⟨#[]⟩) (.slice none 0 0)by rw[<-hV];exact R6.out.other _ (by simp only;omega));have K7:=show Kids (u1.heap.size+1+1) V (.slice (some ⟨g6,0,none⟩) (([]:List Nd).length+1) cap6) (([]:List Nd)++[.mk k2 s2 l2])by rw[<-hV];exact K6.keep fun b hb1 _=>Below.heap_setCell _ _ _ _ (by simp only;omega)
  have Q7:=qh hq5;have hz7:u1.heap.size+1+1<=V.heap.size:=by rw[<-hV,qs];exact hz6
  have N8:=qh ((K7.node k s HS.out (by unfold maxLen;simp)).fin (h:=w.heap.size) (by omega) ((Kp.refl (u1.heap.size+1+1) V).put3 (b:=w.heap.size) (.int .i64 k) (.string s) (.slice (some ⟨g6,0,none⟩) (([]:List Nd).length+1) cap6) (by omega)));simp only[qz,Nat.zero_add]at hV N7 N8;rw[hV];clear hV hn5 hm5 hm5' hq5 N5 R5 N6 R6 K6 G6 M6 c0 c1 c2 y0 y1 y2 l5 d0 d1 d2 z0 z1 z2 m0 m1 m2 f0 f1 f2 ln hg6 hown K5 K7;obtain⟨⟨n0,n1,n2⟩,_⟩:=N7.out.cells;obtain⟨⟨r0,r1,r2⟩,g0,g1,g2⟩:=R7.out.cells;have ln:=N7.out.lt;have lr:=R7.out.lt;go_wp2;refine zh (R7.out.put _ _ _) Tryz.results88 rfl rfl ?_;rw[<-HR.out];exact⟨⟨_,_,rfl,N8.out⟩,M7.out.put3 (q9 _) _ _ _,Q7.out⟩
theorem q4p(E:PE)(q:Nat)(w:World)(h:PS E q w)(k:Int)(g:Nat)(eg:∀ args w,(callFunc g args).run Tryz.prog w = .ok (.enter g args) w)(ty body:Nat->Sx.PR Nd)(hty:∀ p,Sx.Goes E.ts p (ty p))
  (CT:∀ p w0,q < p->PS E p w0->Calls Tryz.prog 44 #[.pointer (some ⟨E.pb,0,none⟩)] w0 (Gr E w0 (ty p)))
  (CB:∀ p w0,q < p->PS E p w0->Calls Tryz.prog g #[.pointer (some ⟨E.pb,0,none⟩)] w0 (Gr E w0 (body p))) :
  Calls Tryz.prog 88 #[.pointer (some ⟨E.pb,0,none⟩),.int .i64 k,.func (.func g) #[] #[]] w (Gr E w (Sx.binder ty body E.ts k q)):=by
 unfold Sx.binder
 cases hn:Sx.nameA E.ts q with
 |bad q1 =>
  obtain rfl:q1=q:=(q2n E q w h q1 hn).1;refine(qdf E q1 w h k g q1 hn).mono ?_;rintro e w'⟨rfl,hb⟩;exact⟨rfl,Mv.below h hb,h.le⟩
 |ok x q1 =>
  obtain⟨nk,s,l⟩:=x;obtain⟨_,rfl⟩:=vy E h.g hn;have hq1:=Sx.nameA_ok hn;simp only
  by_cases ht:Sx.txt E.ts q1=[58]
  ·rw[qj ht]
   have CT':=fun w0 (h0:PS E (q1+1) w0)=>CT (q1+1) w0 (by omega) h0
   cases hr:ty (q1+1)with
   |bad r =>
    rw[hr]at CT';exact qde E q w h k g eg nk s q1 hn ht r CT'
   |ok t r =>
    rw[hr]at CT';have hgo:=hty _ _ _ hr;obtain⟨k1,s1,l1⟩:=t;simp only
    by_cases hd:Sx.txt E.ts r=[46]
    ·rw[qj hd]
     have CB':=fun w0 (h0:PS E (r+1) w0)=>CB (r+1) w0 (by omega) h0
     cases hb:body (r+1)with
     |bad u =>
      rw[hb]at CB';exact qgg E q w h k g eg nk s q1 hn ht k1 s1 l1 r CT' hd u CB'
     |ok b u =>
      rw[hb]at CB';obtain⟨k2,s2,l2⟩:=b;exact qge E q w h k g eg nk s q1 hn ht k1 s1 l1 r CT' hd k2 s2 l2 u CB'
    ·rw[qd hd]
     exact qgf E q w h k g eg nk s q1 hn ht k1 s1 l1 r CT' hd
  ·rw[qd ht]
   by_cases hd:Sx.txt E.ts q1=[46]
   ·rw[qj hd]
    have CB':=fun w0 (h0:PS E (q1+1) w0)=>CB (q1+1) w0 (by omega) h0
    cases hb:body (q1+1)with
    |bad u =>
     rw[hb]at CB';exact qgj E q w h k g eg nk s q1 hn ht hd u CB'
    |ok b u =>
     rw[hb]at CB';obtain⟨k2,s2,l2⟩:=b;exact qgh E q w h k g eg nk s q1 hn ht hd k2 s2 l2 u CB'
   ·rw[qd hd]
    exact qgi E q w h k g eg nk s q1 hn ht hd
theorem qnn:∀ args w,(callFunc 43 args).run Tryz.prog w = .ok (.enter 43 args) w:=enters_of Tryz.func43 (by kernel_rfl) rfl
theorem qio:∀ args w,(callFunc 42 args).run Tryz.prog w = .ok (.enter 42 args) w:=enters_of Tryz.func42 (by kernel_rfl) rfl
theorem q8l(E:PE)(f q:Nat):Sx.applied E.ts f q=(match Sx.nameA E.ts q with| .bad q1=>.bad q1| .ok (.mk k s _) q1=>wy k s (Sx.args E.ts f [] q1)):=by
 unfold Sx.applied
 cases Sx.nameA E.ts q with
 |bad _=>rfl
 |ok x q1 =>
  obtain⟨k,s,l⟩:=x;simp only
  all_goals (cases Sx.args E.ts f [] q1 <;> rfl)
theorem q8k(E:PE)(hsn:yc E.ts)(f:Nat)(ih:∀ f1,f1 < f->∀ q w,PS E q w->16*(E.ts.length - q)+4<=f1->Calls Tryz.prog 43 #[.pointer (some ⟨E.pb,0,none⟩)] w (Gr E w (Sx.term E.ts f1 q)))
  (q:Nat) (w:World) (h:PS E q w) (hf:16*(E.ts.length - q)+3<=f):Calls Tryz.prog 90 #[.pointer (some ⟨E.pb,0,none⟩)] w (Gr E w (Sx.applied E.ts f q)):=by
 rw[q8l]
 cases hn:Sx.nameA E.ts q with
 |bad q1 =>
  obtain rfl:q1=q:=(q2n E q w h q1 hn).1;refine(qcb E q1 w h q1 hn).mono ?_;rintro e w'⟨rfl,hb⟩;exact⟨rfl,Mv.below h hb,h.le⟩
 |ok x q1 =>
  obtain⟨nk,s,l⟩:=x;obtain⟨_,rfl⟩:=vy E h.g hn;have hq1:=Sx.nameA_ok hn;refine qca E hsn q w h f nk s q1 hn (by omega) fun f1 p w0 hf1 hp hm h0 ht=>?_
  have hlt:=Sx.txt_at ht;exact q6w E p w0 h0 ht _ fun w1 h1=>ih f1 hf1 (p+1) w1 h1 (by omega)
theorem qjf(E:PE)(hsn:yc E.ts)(f:Nat):∀ q w,PS E q w->16*(E.ts.length - q)+4<=f->Calls Tryz.prog 43 #[.pointer (some ⟨E.pb,0,none⟩)] w (Gr E w (Sx.term E.ts f q)):=by
 induction f using Nat.strongRecOn with
 |_ f ih =>
  intro q w h hf;obtain⟨f,rfl⟩:∃ f',f=f'+1:=⟨f - 1,by omega⟩
  by_cases hl:Sx.txt E.ts q=[92]
  ·have e:Sx.term E.ts (f+1) q=Sx.binder (Sx.typed E.ts f) (Sx.term E.ts f) E.ts 17 (q+1):=by
    simp only[Sx.term];rw[qj hl]
   have hlt:=Sx.txt_at hl;rw[e];refine qjd E q w h hl _ fun w0 h0=>?_
   exact q4p E (q+1) w0 h0 17 _ qnn _ _ (Sx.typed_goes E.ts f).1 (fun p w1 hp h1=>q2v E f p w1 h1 (by omega)) (fun p w1 hp h1=>ih f (by omega) p w1 h1 (by omega))
  ·by_cases ht:Sx.txt E.ts q=[40]
   ·have hlt:=Sx.txt_at ht
    have e:Sx.term E.ts (f+1) q=xb E [41] (Sx.term E.ts f (q+1)):=by
     simp only[Sx.term,xb];rw[qd hl,qj ht]
     all_goals (cases Sx.term E.ts f (q+1) <;> rfl)
    rw[e];refine qem E q w h hl _ fun w0 h0=>?_
    exact q6w E q w0 h0 ht _ fun w1 h1=>ih f (by omega) (q+1) w1 h1 (by omega)
   ·have e:Sx.term E.ts (f+1) q=Sx.applied E.ts f q:=by
     rw[q8l];simp only[Sx.term];rw[qd hl,qd ht]
     cases Sx.nameA E.ts q with
     |bad _=>rfl
     |ok x q1 =>
      obtain⟨k,s,l⟩:=x;simp only
      all_goals (cases Sx.args E.ts f [] q1 <;> rfl)
    rw[e];exact qje E q w h hl ht _ fun w0 h0=>q8k E hsn f (fun f1 hf1=>ih f1 (by omega)) q w0 h0 (by omega)
theorem qdi(E:PE)(hsn:yc E.ts)(f q:Nat)(w:World)(h:PS E q w)(hf:16*(E.ts.length - q)+3<=f):Calls Tryz.prog 90 #[.pointer (some ⟨E.pb,0,none⟩)] w (Gr E w (Sx.applied E.ts f q)) :=
 q8k E hsn f (fun f1 _ q w h hf=>qjf E hsn f1 q w h hf) q w h hf
theorem qkh(E:PE)(q:Nat)(w:World)(h:PS E q w)(q':Nat)(C1:∀ w0,PS E q w0->Calls Tryz.prog 85 #[.pointer (some ⟨E.pb,0,none⟩),.int .i64 1] w0 (Gr E w0 (.bad q'))) :
  Calls Tryz.prog 42 #[.pointer (some ⟨E.pb,0,none⟩)] w (Gr E w (.bad q')):=by
 have HP:=qh h;have D:=qh C1;have B0:=qh ((Below.refl w.heap.size w).alloc (q9 _) (.cells #[.int .i64 0,.string ⟨#[]⟩,.slice none 0 0] 25));clear h C1;go_enter Tryz.func42,Tryz.ntmps42
 go_wp2_with fail
 refine(D.out _ (HP.out.later B0.out)).mono ?_;rintro e w1⟨rfl,hm,hq⟩;go_wp2;exact⟨rfl,rfl,Mv.before HP.out B0.out hm,hq⟩
theorem qg4{ts:List Lx.Tok}{f:Nat}{a:Nd}{p:Nat}(h:Sx.sgn ts 0 p=none):Sx.formR ts (f+1) a p = .ok a p:=by simp only[Sx.formR,h]
theorem qig{ts:List Lx.Tok}{f:Nat}{a:Nd}{p:Nat}{k:Int}{r:Nat}(h:Sx.sgn ts 0 p=some k)(h2:Sx.right ts f 1 (p+1) = .bad r):Sx.formR ts (f+1) a p = .bad r:=by simp only[Sx.formR,h,h2]
theorem qki{ts:List Lx.Tok}{f:Nat}{a c:Nd}{p:Nat}{k:Int}{r:Nat}(h:Sx.sgn ts 0 p=some k)(h2:Sx.right ts f 1 (p+1) = .ok c r):Sx.formR ts (f+1) a p=Sx.formR ts f (.mk k Sx.noS [a,c]) r:=by simp only[Sx.formR,h,h2]
theorem qif(E:PE)(q:Nat)(w:World)(h:PS E q w)(f:Nat)(k0:Int)(s0:ByteArray)(l0:List Nd)(q1:Nat)(hq1:q < q1)(hf:16*(E.ts.length - q1)+1<=f)
  (C1:∀ w0,PS E q w0->Calls Tryz.prog 85 #[.pointer (some ⟨E.pb,0,none⟩),.int .i64 1] w0 (Gr E w0 (.ok (.mk k0 s0 l0) q1)))
  (C2:∀ f1 p w0,f1 < f->q < p->16*(E.ts.length - p)+9<=f1->PS E p w0->Calls Tryz.prog 85 #[.pointer (some ⟨E.pb,0,none⟩),.int .i64 1] w0 (Gr E w0 (Sx.right E.ts f1 1 p))) :
  Calls Tryz.prog 42 #[.pointer (some ⟨E.pb,0,none⟩)] w (Gr E w (Sx.formR E.ts f (.mk k0 s0 l0) q1)):=by
 have HP:=qh h;have hpl:=h.lt;have D1:=qh C1;have D2:=qh C2;have Hf:=qh hf;have Hq1:=qh hq1;have CO:=qh (fun p w h=>q5g E p 0 w h (by omega));have B0:=qh ((Below.refl w.heap.size w).alloc (q9 _) (.cells #[.int .i64 0,.string ⟨#[]⟩,.slice none 0 0] 25));have R0:=qh (Row3.new w (.int .i64 0) (.string ⟨#[]⟩) (.slice none 0 0));obtain⟨A,hA⟩:∃ A,Sx.formR E.ts f (.mk k0 s0 l0) q1=A:=⟨_,rfl⟩;have HA:=qh hA;obtain⟨R,hR⟩:∃ R,Gr E w A=R:=⟨_,rfl⟩;have HR:=qh hR;rw[hA,hR];clear h C1 C2 hA hR hf hq1;go_enter Tryz.func42,Tryz.ntmps42
 go_wp2_with fail
 refine(D1.out _ (HP.out.later B0.out)).mono ?_;rintro e w1⟨⟨a0,cap0,rfl,hn⟩,hm,hq⟩;obtain⟨nb,hnb⟩:∃ nb,w1.heap.size=nb:=⟨_,rfl⟩;have hwn:w.heap.size < nb:=by rw[<-hnb];exact(R0.out.mv hm (by omega)).lt
 have M0:=qh ((Mv.before HP.out B0.out hm).alloc (.cells #[.int .i64 k0,.string s0,.slice a0 l0.length cap0] 25));have P0:=qh (((Mv.before HP.out B0.out hm).ps HP.out hq).later ((Below.refl _ w1).alloc (q9 _) (.cells #[.int .i64 k0,.string s0,.slice a0 l0.length cap0] 25)));have R1:=qh ((R0.out.mv hm (by omega)).alloc (.cells #[.int .i64 k0,.string s0,.slice a0 l0.length cap0] 25));have N0:=qh (Row3.newAt (W:=w1) (n:=nb) (v0:=.int .i64 k0) (v1:=.string s0) (v2:=.slice a0 l0.length cap0) hnb.symm);have T0:=qh (NdS.keep (S':=fun b=>w.heap.size < b/\b≠nb) (w':=w1.alloc (.cells #[.int .i64 k0,.string s0,.slice a0 l0.length cap0] 25)) (fun b h1 h2=>⟨Below.heap_alloc _ _ _ h2,by simp at h1;omega,by omega⟩) hn);clear hm hq hn
 go_wp2_with fail
 go_loopw [] (fun W=>∃ (f1 p:Nat) (k:Int) (s:ByteArray) (l:List Nd) (a:Option Addr) (cap:Nat),q < p/\f1<=f/\16*(E.ts.length - p)+1<=f1/\Hid (Sx.formR E.ts f1 (.mk k s l) p=A)/\Hid (Mv E p w W)/\Hid (PS E p W)/\Hid (Row3 W w.heap.size (.int .i64 0) (.string ⟨#[]⟩) (.slice none 0 0))/\Hid (Row3 W nb (.int .i64 k) (.string s) (.slice a l.length cap))/\Hid (NdS (fun b=>w.heap.size < b/\b≠nb) W (.mk k s l) (.int .i64 k) (.string s) (.slice a l.length cap))) (fun W=>E.ts.length+1 - nxt E W)
 case atStart =>
  exact⟨f,q1,k0,s0,l0,a0,cap0,Hq1.out,q9 _,Hf.out,HA,M0.out,P0.out,R1.out,N0.out,T0.out⟩
 case round =>
  obtain⟨f1,p,k,s,l,a,cap,hqp,hff,hf1,hrun,hM,hP,hRw,hN,hT⟩:=hrel;clear D1 N0 M0 P0 R1 T0;obtain⟨f2,rfl⟩:∃ f2,f1=f2+1:=⟨f1 - 1,by omega⟩;have hple:=hP.out.le;have hnl:=hN.out.lt;have hrl:=hRw.out.lt;have hpbn:E.pb < nb:=by omega
  have Hmeas:=qh hP.out.nxt;obtain⟨o,ho⟩:∃ o,jk (Sx.txt E.ts p) 0 opsL=o:=⟨_,rfl⟩;have CP:=qh (CO.out p);rw[ho]at CP;have ho':Sx.sgn E.ts 0 p=o:=by rw[<-q83 E.ts p 0 (by omega)];exact ho
  cases o with
  |none =>
   have HA':=qh (hrun.out.symm.trans (qg4 ho'));clear ho ho' CO hrun
   go_wp2_with fail
   refine(CP.out _ hP.out).mono ?_;rintro e W1⟨h0,_⟩;obtain⟨rfl,hb⟩:=h0 rfl;have M1:=qh (hM.out.later (hb.mono hM.out.size));have R1:=qh (hRw.out.below hb hrl);have N1:=qh (hN.out.below hb hnl);have T1:=qh (NdS.keep (S':=fun b=>w.heap.size < b/\b≠nb) (w':=W1) (fun b h1 h2=>⟨hb.block b h2,h1⟩) hT.out);obtain⟨⟨r0,r1,r2⟩,t0,t1,t2⟩:=R1.out.cells;obtain⟨⟨n0,n1,n2⟩,g0,g1,g2⟩:=N1.out.cells;have ln:=N1.out.lt;have lr:=R1.out.lt;have Hple:=qh hple;have TF:=qh (NdS.keep (S':=fun b=>w.heap.size<=b) (w':=((W1.setCell ⟨w.heap.size,0,none⟩ (.int .i64 k)).setCell ⟨w.heap.size,1,none⟩ (.string s)).setCell ⟨w.heap.size,2,none⟩ (.slice a l.length cap)) (fun b h1 h2=>⟨((Kp.refl (w.heap.size+1) W1).put3 (b:=w.heap.size) _ _ _ (by omega)).blk b (by omega) h2,by omega⟩) T1.out);clear hb CP h0;go_wp2;refine zh (R1.out.put _ _ _) Tryz.results42 rfl rfl ?_;rw[<-HR.out,HA'.out];exact⟨⟨a,cap,rfl,TF.out⟩,M1.out.put3 (q9 _) _ _ _,Hple.out⟩
  |some kk =>
   have hlt:=Sx.sgn_lt ho';obtain⟨r2,hr2⟩:∃ r,Sx.right E.ts f2 1 (p+1)=r:=⟨_,rfl⟩;have DB:=qh (fun w0 h0=>D2.out f2 (p+1) w0 (by omega) (by omega) (by omega) h0);rw[hr2]at DB
   cases r2 with
   |bad qb =>
    have HA':=qh (hrun.out.symm.trans (qig ho' hr2));clear ho ho' CO hrun hr2
    go_wp2_with fail
    refine(CP.out _ hP.out).mono ?_;rintro e W1⟨_,h0⟩;obtain⟨rfl,hm,hp⟩:=h0 kk rfl;have M1:=qh (Mv.trans HP.out hM.out hple hm);have P1:=qh hp;have N1:=qh (hN.out.mv hm (by omega));obtain⟨⟨n0,n1,n2⟩,g0,g1,g2⟩:=N1.out.cells;have ln:=N1.out.lt;clear hm hp CP h0
    have F:Hid (∀ w5,Mv E qb W1.drew w5->qb<=E.ts.length->R (.panicked [{ v:=je E qb,recovered:=false }]) w5):=qh fun w5 hm5 hq5=>by
     rw[<-HR.out,HA'.out];exact⟨rfl,Mv.trans HP.out (M1.out.later (below_drewN (Below.refl _ _) 1)) P1.out.le hm5,hq5⟩
    go_wp2_with fail
    go_region_dies
    all_goals refine(DB.out _ (P1.out.later (Below.refl _ _).drew)).mono ?_
    all_goals rintro e w5 ⟨rfl,hm5,hq5⟩
    all_goals exact⟨rfl,F.out w5 hm5 hq5⟩
   |ok c p2 =>
    obtain⟨k2,s2,l2⟩:=c;have HA':=qh ((qki ho' hr2).symm.trans hrun.out);have hgo:=(Sx.form_goes E.ts f2).2.1 1 _ _ _ hr2;clear ho ho' CO hrun hr2
    go_wp2_with fail
    refine(CP.out _ hP.out).mono ?_;rintro e W1⟨_,h0⟩;obtain⟨rfl,hm,hp⟩:=h0 kk rfl;have M1:=qh (Mv.trans HP.out hM.out hple hm);have P1:=qh hp;have N1:=qh (hN.out.mv hm (by omega));have R1:=qh (hRw.out.mv hm (by omega));have T1:=qh (NdS.keep (S':=fun b=>w.heap.size < b/\b≠nb) (w':=W1) (fun b h1 h2=>⟨hm.blk b h2 (by omega),h1⟩) hT.out);obtain⟨⟨n0,n1,n2⟩,g0,g1,g2⟩:=N1.out.cells;have ln:=N1.out.lt;have Hgo:=qh hgo;clear hm hp CP h0 hgo
    go_wp2_with fail
    go_region_law (first
     |(go_simp;go_at_call 85;refine(DB.out _ (P1.out.later (Below.refl _ _).drew)).mono ?_;rintro e w5 ⟨⟨a5,cap5,rfl,hn5⟩,hm5,hq5⟩;have hm5':=Mv.before P1.out (Below.refl _ _).drew hm5;have N5:=qh (N1.out.mv hm5' (by omega));have R5:=qh (R1.out.mv hm5' (by omega));obtain⟨⟨c0,c1,c2⟩,y0,y1,y2⟩:=N5.out.cells;have l5:=N5.out.lt)
     |(go_simp;go_at_call 70;refine(q48 kk k k2 s s2 a a5 l.length l2.length cap cap5 w5).mono ?_;rintro e w6 ⟨g,rfl,hg,htw,hb6⟩;have N6:=qh (N5.out.below hb6 N5.out.lt);have R6:=qh (R5.out.below hb6 R5.out.lt);obtain⟨⟨d0,d1,d2⟩,z0,z1,z2⟩:=N6.out.cells))
    all_goals
     have hs5:=hm5'.size;have hgw:nb < g:=by omega
     obtain⟨V,hV⟩:∃ V,((w6.setCell ⟨nb,0,none⟩ (.int .i64 kk)).setCell ⟨nb,1,none⟩ (.string ⟨#[]⟩)).setCell ⟨nb,2,none⟩ (.slice (some ⟨g,0,none⟩) 2 2)=V:=⟨_,rfl⟩
     have hkv:∀ b,b≠nb->V.heap[b]?=w6.heap[b]?:=fun b hb=>by
      rw[<-hV];exact(Below.heap_setCell _ _ _ _ hb).trans ((Below.heap_setCell _ _ _ _ hb).trans (Below.heap_setCell _ _ _ _ hb))
     have hb6s:=hb6.size;have TL:=NdS.keep (S':=fun b=>w.heap.size < b/\b≠nb) (w':=V) (fun b h1 h2=>⟨(hkv b h1.2).trans ((hb6.block b (by omega)).trans (hm5'.blk b h2 (by omega))),h1⟩) T1.out;have TR:=NdS.keep (S':=fun b=>w.heap.size < b/\b≠nb) (w':=V) (fun b h1 h2=>⟨(hkv b (by have:W1.heap.size<=b:=h1;omega)).trans (hb6.block b h2),by have:W1.heap.size<=b:=h1;omega,by have:W1.heap.size<=b:=h1;omega⟩) hn5
     have TW:Two V g (.int .i64 k) (.string s) (.slice a l.length cap) (.int .i64 k2) (.string s2) (.slice a5 l2.length cap5):=by
      obtain⟨t,ht⟩:=htw;exact⟨t,(hkv g (by omega)).trans ht⟩
     have NN:=qh (NdS.two TW ⟨by omega,by omega⟩ TL TR kk 2 (q9 _));have M7:=qh (show Mv E p2 w V by rw[<-hV];exact((Mv.trans HP.out M1.out P1.out.le hm5').later (hb6.mono (by omega))).put3 (b:=nb) (by omega) _ _ _);have P7:=qh (M7.out.ps HP.out hq5);have N7:=qh (show Row3 V nb (.int .i64 kk) (.string Sx.noS) (.slice (some ⟨g,0,none⟩) 2 2)by rw[<-hV];exact N6.out.put _ _ _);have R7:=qh (show Row3 V w.heap.size (.int .i64 0) (.string ⟨#[]⟩) (.slice none 0 0)by rw[<-hV];exact R6.out.put3o (by omega) _ _ _);have Hm7:=qh P7.out.nxt;rw[hV];clear TL TR TW hV hkv htw hb6 hm5 hm5' hn5 hs5 hq5 N5 R5 N6 R6 c0 c1 c2 y0 y1 y2 l5 d0 d1 d2 z0 z1 z2 n0 n1 n2 g0 g1 g2
     go_wp2_with fail
     go_roundw
     case rel=>exact⟨f2,p2,kk,Sx.noS,[Nd.mk k s l,Nd.mk k2 s2 l2],some ⟨g,0,none⟩,2,by have:=Hgo.out;omega,by omega,by have:=Hgo.out;omega,HA',M7,P7,R7,N7,NN⟩
     case measure=>rw[Hm7.out,Hmeas.out];have:=Hgo.out;omega
attribute [local go_sem] jr jp jo
theorem q9x(i:Nat)(hi:i < 20)(w:World):∃ s k,openL[i]?=some (s,k)/\(Instr.index 161 (.agg openArr) (.int .i64 (i:Nat))).run Tryz.prog w = .ok (.agg #[S_ s,.int .i64 k]) w:=by
 match i,hi with
 |0,_=>exact⟨_,_,rfl,by kernel_rfl⟩
 |1,_=>exact⟨_,_,rfl,by kernel_rfl⟩
 |2,_=>exact⟨_,_,rfl,by kernel_rfl⟩
 |3,_=>exact⟨_,_,rfl,by kernel_rfl⟩
 |4,_=>exact⟨_,_,rfl,by kernel_rfl⟩
 |5,_=>exact⟨_,_,rfl,by kernel_rfl⟩
 |6,_=>exact⟨_,_,rfl,by kernel_rfl⟩
 |7,_=>exact⟨_,_,rfl,by kernel_rfl⟩
 |8,_=>exact⟨_,_,rfl,by kernel_rfl⟩
 |9,_=>exact⟨_,_,rfl,by kernel_rfl⟩
 |10,_=>exact⟨_,_,rfl,by kernel_rfl⟩
 |11,_=>exact⟨_,_,rfl,by kernel_rfl⟩
 |12,_=>exact⟨_,_,rfl,by kernel_rfl⟩
 |13,_=>exact⟨_,_,rfl,by kernel_rfl⟩
 |14,_=>exact⟨_,_,rfl,by kernel_rfl⟩
 |15,_=>exact⟨_,_,rfl,by kernel_rfl⟩
 |16,_=>exact⟨_,_,rfl,by kernel_rfl⟩
 |17,_=>exact⟨_,_,rfl,by kernel_rfl⟩
 |18,_=>exact⟨_,_,rfl,by kernel_rfl⟩
 |19,_=>exact⟨_,_,rfl,by kernel_rfl⟩
 |i+20,h=>exact absurd h (by omega)
theorem qdt{w:World}(h:GLw w):(loadVar 161 ⟨0,0,none⟩).run Tryz.prog w = .ok (.agg openArr) w:=by
 obtain⟨t,fr,h1⟩:=h.g0;exact run_loadVar_row w 0 t _ openArr fr _ h1 Tryz.underlying161 rfl (by kernel_rfl)
theorem qkv:∃ z,∀ w,(zeroValue 157).run Tryz.prog w = .ok z w:=⟨_,fun w=>by rfl⟩
def q88(t:Lx.Bs)(l:List (List UInt8×Int)):Int:=l.foldl (fun acc o=>if o.1=t then o.2 else acc) 0
theorem qfr{t:Lx.Bs}{i:Nat}{s:List UInt8}{k:Int}(h:openL[i]?=some (s,k)):q88 t (openL.take (i+1))=if s=t then k else q88 t (openL.take i):=by
 have hi:i < openL.length:=(List.getElem?_eq_some_iff.1 h).1;unfold q88;rw[zc hi,List.foldl_append,(List.getElem?_eq_some_iff.1 h).2];rfl
theorem q6s(E:PE)(q:Nat)(w:World)(h:PS E q w)(mb:Nat)(L:List (List UInt8×Value))(hm:∀ W,PS E q W->StrMap W mb L)(hf:jv L (Sx.txt E.ts q)=none) :
  Calls Tryz.prog 82 #[.pointer (some ⟨E.pb,0,none⟩),.map (some mb)] w fun e w'=>e = .panicked [{ v:=je E q,recovered:=false }]/\Below w.heap.size w w':=by
 have HP:=qh h;have C:=qh (fun w h=>kg E q w h);have D:=qh (fun w h=>q03 E q w h);unfold yy at C;have B0:=qh ((Below.refl w.heap.size w).alloc (q9 _) (.cells #[.int .i64 0,.string ⟨#[]⟩,.slice none 0 0] 25));have HM:=qh hm;have HF:=qh hf;obtain⟨z,hz⟩:=qkv;have HZ:=qh hz;clear h hm hf hz;go_enter Tryz.func82,Tryz.ntmps82
 go_wp2_with fail
 refine(C.out _ (HP.out.later B0.out)).mono ?_;rintro e w1⟨rfl,hb⟩;have B1:=qh (B0.out.trans (hb.mono B0.out.size));have P1:=qh (HP.out.later B1.out);have SM:=qh (HM.out w1 P1.out);clear hb
 go_wp2_with (refine q22 rfl _ _ _ rfl Tryz.underlying100 Tryz.underlying9 (HZ.out _) rfl SM.out (Sx.txt E.ts q) rfl ?_;rw[HF.out];simp only[Option.getD_none,Option.isSome_none])
 refine(D.out _ P1.out).mono ?_;rintro e w2⟨rfl,hb⟩;go_wp2;exact⟨rfl,rfl,B1.out.trans (hb.mono B1.out.size)⟩
theorem zy(E:PE)(q:Nat)(w:World)(h:PS E q w)(mb:Nat)(L:List (List UInt8×Value))(hm:∀ W,PS E q W->StrMap W mb L)(g:Nat)(eg:∀ args w,(callFunc g args).run Tryz.prog w = .ok (.enter g args) w)(hf:jv L (Sx.txt E.ts q)=some (F_ g))(hq:q < E.ts.length)
  (k:Int) (hk:q88 (Sx.txt E.ts q) openL=k) (r:Sx.PR Nd) (CG:∀ w0,PS E (q+1) w0->Calls Tryz.prog g #[.pointer (some ⟨E.pb,0,none⟩),.int .i64 k] w0 (Gr E w0 r)) :
  Calls Tryz.prog 82 #[.pointer (some ⟨E.pb,0,none⟩),.map (some mb)] w (Gr E w r):=by
 have HP:=qh h;have hpl:=h.lt;have hfew:=h.g.few;have C:=qh (fun w h=>kg E q w h);unfold yy at C;have B0:=qh ((Below.refl w.heap.size w).alloc (q9 _) (.cells #[.int .i64 0,.string ⟨#[]⟩,.slice none 0 0] 25));have R0:=qh (Row3.new w (.int .i64 0) (.string ⟨#[]⟩) (.slice none 0 0));have HM:=qh hm;have HF:=qh hf;have HK:=qh hk;have DG:=qh CG;have Hq:=qh hq;obtain⟨z,hz⟩:=qkv;have HZ:=qh hz;obtain⟨t,ht⟩:∃ t,Sx.txt E.ts q=t:=⟨_,rfl⟩;rw[ht]at HF HK C;obtain⟨y,hy⟩:∃ y,Sx.str t=y:=⟨_,rfl⟩;rw[hy]at C;have HY:Hid (Value.string y=S_ t):=qh (by rw[<-hy];rfl);have Hy:=qh hy;clear hy;have HT:=qh ht;obtain⟨R,hR⟩:∃ R,Gr E w r=R:=⟨_,rfl⟩;have HR:=qh hR;rw[hR];clear h hm hf hz hk CG ht hR;go_enter Tryz.func82,Tryz.ntmps82
 go_wp2_with fail
 refine(C.out _ (HP.out.later B0.out)).mono ?_;rintro e w1⟨rfl,hb⟩;have B1:=qh (B0.out.trans (hb.mono B0.out.size));have P1:=qh (HP.out.later B1.out);have R1:=qh (R0.out.below hb (by simp));have SM:=qh (HM.out w1 P1.out);obtain⟨_,c1,_⟩:=P1.out.cells;have f1:=P1.out.frozen 1;have lp:=P1.out.lt
 have M2:=qh (show Mv E (q+1) w (w1.setCell ⟨E.pb,1,none⟩ (.int .i64 ((q:Int)+1)))by
  have:=Mv.step (q':=q+1) HP.out B1.out;push_cast at this
  exact this)
 have HGL:=qh (qdt (M2.out.ps HP.out Hq.out).g.gl);clear hb C
 go_wp2_with (first
  |(refine q22 rfl _ _ _ rfl Tryz.underlying100 Tryz.underlying9 (HZ.out _) rfl SM.out t HY.out ?_;rw[HF.out];simp only[Option.getD_some,Option.isSome_some,F_])
  |(refine ym rfl _ _ rfl HGL.out ?_))
 obtain⟨W,hW⟩:∃ W,w1.setCell ⟨E.pb,1,none⟩ (.int .i64 ((q:Int)+1))=W:=⟨_,rfl⟩;rw[hW]at M2;rw[hW];have R2:=qh (show Row3 W w.heap.size (.int .i64 0) (.string ⟨#[]⟩) (.slice none 0 0)by rw[<-hW];exact R1.out.other _ (by simp only;omega));clear hW HGL c1 f1
 go_loopw [8,32] (fun v8 v32 wr=>∃ (i:Nat) (kk:Int),i<=20/\v32 = .int .i64 i/\v8 = .int .i64 kk/\Hid (q88 t (openL.take i)=kk)/\Hid (Below W.heap.size W wr)) (fun _ v32 _=>20 - (intOf v32).toNat)
 case atStart=>exact⟨0,0,qv _,rfl,rfl,rfl,Below.refl _ _⟩
 case round =>
  obtain⟨i,kk,hi,rfl,rfl,hrun,hbl⟩:=hrel
  by_cases hlt:i < 20
  ·have hlt':(i:Int) < 20:=by omega
   obtain⟨s,k3,hget,hidx⟩:=q9x i hlt wr;have Hidx:=qh hidx;have Hst:=qh (qfr (t:=t) hget);unfold S_ at Hidx;obtain⟨xs,hxs⟩:∃ xs,(⟨s.toArray⟩:ByteArray)=xs:=⟨_,rfl⟩;rw[hxs]at Hidx;have Hxs:=qh hxs;have hm1:(i:Int)+1<=20:=by omega
   clear hidx hget
   by_cases hs:s=t
   ·have HF2:=qh (Hst.out.trans (qj hs))
    obtain rfl:xs=y:=by rw[<-hxs,<-Hy.out,hs];rfl
    clear hs hxs
    go_wp2_with (refine xm rfl _ _ _ rfl rfl rfl Hidx.out ?_)
    go_roundw
    case rel=>exact⟨i+1,k3,hlt,by push_cast;rfl,rfl,HF2,hbl.out.alloc hbl.out.size _⟩
    case measure=>simp[intOf];omega
   ·have HF2:=qh (Hst.out.trans ((qd hs).trans hrun.out))
    have e1:(xs.toList==y.toList)=false:=qc7 (fun e=>hs (by
     rw[<-hxs,<-Hy.out]at e;have:=congrArg (fun x:ByteArray=>x.data.toList) e
     simpa[Sx.str]using this))
    clear hs hxs
    go_wp2_with (refine xm rfl _ _ _ rfl rfl rfl Hidx.out ?_)
    go_roundw
    case rel=>exact⟨i+1,kk,hlt,by push_cast;rfl,rfl,HF2,hbl.out.alloc hbl.out.size _⟩
    case measure=>simp[intOf];omega
  ·have hlt':¬ ((i:Int) < 20):=by omega
   obtain rfl:i=20:=by omega
   have hkk:kk=k:=hrun.out.symm.trans HK.out;subst hkk;have M3:=qh (M2.out.later (hbl.out.mono M2.out.size));have P3:=qh (M3.out.ps HP.out Hq.out);have R3:=qh (R2.out.below hbl.out R2.out.lt)
   cases r with
   |bad q' =>
    go_wp2_with fail
    refine(DG.out _ P3.out).mono ?_;rintro e w5⟨rfl,hm,hq5⟩;have M5:=Mv.trans HP.out M3.out P3.out.le hm;go_wp2;rw[<-HR.out];exact⟨rfl,rfl,M5,hq5⟩
   |ok x q1 =>
    obtain⟨k1,s1,l1⟩:=x
    go_wp2_with fail
    refine(DG.out _ P3.out).mono ?_;rintro e w5⟨⟨a,cap,rfl,hn⟩,hm,hq5⟩;have M5:=qh (Mv.trans HP.out M3.out P3.out.le hm);have N5:=qh (hn.from R3.out.lt);have R5:=qh (R3.out.mv hm (by omega));have Hq5:=qh hq5;obtain⟨⟨n0,n1,n2⟩,g0,g1,g2⟩:=R5.out.cells;have lr:=R5.out.lt;clear hm hn hq5;go_wp2;refine zh (R5.out.put _ _ _) Tryz.results82 rfl rfl ?_;rw[<-HR.out];exact⟨⟨a,cap,rfl,N5.out.fin (Nat.le_succ _) ((Kp.refl (w.heap.size+1) w5).put3 (b:=w.heap.size) _ _ _ (by omega))⟩,M5.out.put3 (q9 _) _ _ _,Hq5.out⟩
attribute [local go_sem] jr jp jo
theorem q8e(k:Int)(s:ByteArray)(v:Value)(w:World):(Instr.field 25 (.agg #[.int .i64 k,.string s,v]) 1).run Tryz.prog w = .ok (.string s) w:=by rfl
attribute [local go_sem] q8e
theorem q9s(E:PE)(q:Nat)(w:World)(h:PS E q w)(k:Int):Calls Tryz.prog 139 #[.pointer (some ⟨E.pb,0,none⟩),.int .i64 k] w (Gr E w (.ok (.mk k Sx.noS []) q)):=by
 have HP:=qh h;obtain⟨R,hR⟩:∃ R,Gr E w (.ok (.mk k Sx.noS []) q)=R:=⟨_,rfl⟩;have HR:=qh hR;rw[hR];clear h hR;go_enter Tryz.func139,Tryz.ntmps139;go_wp2;refine zh (Row3.new w _ _ _) Tryz.results139 rfl rfl ?_;rw[<-HR.out];exact⟨⟨none,0,rfl,.leaf _ _ _ _ (by unfold maxLen;decide) _ _⟩,Mv.below HP.out ((Below.refl _ w).alloc (q9 _) _),HP.out.le⟩
def q1x(k:Int):Sx.PR Nd->Sx.PR Nd
 | .bad q=>.bad q
 | .ok (.mk _ s _) q=>.ok (.mk k s []) q
theorem q4d(E:PE)(q:Nat)(w:World)(h:PS E q w)(k:Int):Calls Tryz.prog 136 #[.pointer (some ⟨E.pb,0,none⟩),.int .i64 k] w (Gr E w (q1x k (Sx.small E.ts q))):=by
 have HP:=qh h;have hpl:=h.lt;have D:=qh (fun w h=>q3w E q w h);have B0:=qh ((Below.refl w.heap.size w).alloc (q9 _) (.cells #[.int .i64 0,.string ⟨#[]⟩,.slice none 0 0] 25));have R0:=qh (Row3.new w (.int .i64 0) (.string ⟨#[]⟩) (.slice none 0 0));generalize Sx.small E.ts q=r at *;obtain⟨R,hR⟩:∃ R,Gr E w (q1x k r)=R:=⟨_,rfl⟩;have HR:=qh hR;rw[hR];clear h hR
 cases r with
 |bad q' =>
  go_enter Tryz.func136,Tryz.ntmps136
  go_wp2_with fail
  refine(D.out _ (HP.out.later B0.out)).mono ?_;rintro e w1⟨rfl,hm,hq⟩;go_wp2;rw[<-HR.out];exact⟨rfl,rfl,Mv.before HP.out B0.out hm,hq⟩
 |ok t q1 =>
  obtain⟨k1,s1,l1⟩:=t;go_enter Tryz.func136,Tryz.ntmps136
  go_wp2_with fail
  refine(D.out _ (HP.out.later B0.out)).mono ?_;rintro e w1⟨⟨a,cap,rfl,hn⟩,hm,hq⟩;have M1:=qh (Mv.before HP.out B0.out hm);have R1:=qh (R0.out.mv hm (by omega));have Hq:=qh hq;have HS:Hid (s1.size<=maxLen):=qh (by obtain⟨k',s',l',a',c',e1,_,e3,_,h5,_⟩:=hn.form;cases e1;exact h5);obtain⟨⟨n0,n1,n2⟩,g0,g1,g2⟩:=R1.out.cells;have lr:=R1.out.lt;clear hm hn hq D;go_wp2;refine zh (R1.out.put _ _ _) Tryz.results136 rfl rfl ?_;rw[<-HR.out];exact⟨⟨none,0,rfl,.leaf _ _ _ _ HS.out _ _⟩,M1.out.put3 (q9 _) _ _ _,Hq.out⟩
def q8z(k:Int):Sx.PR Nd->Sx.PR Nd
 | .bad q=>.bad q
 | .ok a q=>.ok (.mk k Sx.noS [a]) q
theorem NdS.one{S:Nat->Prop}{w':World}{g:Nat}{a:Nd}{u0 u1 u2:Value}{t:TypeId}(ht:w'.heap[g]?=some (.cells #[u0,u1,u2] t (0,0)))(hg:S g)(ha:NdS S w' a u0 u1 u2)(k:Int) :
  NdS S w' (.mk k Sx.noS [a]) (.int .i64 k) (.string ⟨#[]⟩) (.slice (some ⟨g,0,none⟩) 1 1):=by
 have hx:=fun j=>qm w' g j _ _ _ ht
 refine .mk k Sx.noS [a] (some ⟨g,0,none⟩) 1 g 0 (fun _=>u0) (fun _=>u1) (fun _=>u2) (by unfold maxLen;decide) (by unfold maxLen;simp) (q9 _) (fun _=>rfl) (fun _=>hg) ?_ ?_ ?_ ?_
 ·intro i hi
  match i,hi with
  |0,_=>exact(hx 0).trans rfl
 ·intro i hi
  match i,hi with
  |0,_=>exact(hx 1).trans rfl
 ·intro i hi
  match i,hi with
  |0,_=>exact(hx 2).trans rfl
 ·intro i hi
  match i,hi with
  |0,_=>exact ha
theorem qiy(E:PE)(q:Nat)(w:World)(h:PS E q w)(k:Int)(r:Sx.PR Nd)(C:∀ w0,PS E q w0->Calls Tryz.prog 147 #[.pointer (some ⟨E.pb,0,none⟩)] w0 (Gr E w0 r)) :
  Calls Tryz.prog 137 #[.pointer (some ⟨E.pb,0,none⟩),.int .i64 k] w (Gr E w (q8z k r)):=by
 have HP:=qh h;have hpl:=h.lt;have D:=qh C;have B0:=qh ((Below.refl w.heap.size w).alloc (q9 _) (.cells #[.int .i64 0,.string ⟨#[]⟩,.slice none 0 0] 25));have R0:=qh (Row3.new w (.int .i64 0) (.string ⟨#[]⟩) (.slice none 0 0));obtain⟨R,hR⟩:∃ R,Gr E w (q8z k r)=R:=⟨_,rfl⟩;have HR:=qh hR;rw[hR];clear h hR C
 cases r with
 |bad q' =>
  go_enter Tryz.func137,Tryz.ntmps137
  go_wp2_with fail
  refine(D.out _ (HP.out.later B0.out)).mono ?_;rintro e w1⟨rfl,hm,hq⟩;go_wp2;rw[<-HR.out];exact⟨rfl,rfl,Mv.before HP.out B0.out hm,hq⟩
 |ok t q1 =>
  obtain⟨k1,s1,l1⟩:=t;go_enter Tryz.func137,Tryz.ntmps137
  go_wp2_with fail
  refine(D.out _ (HP.out.later B0.out)).mono ?_;rintro e w1⟨⟨a,cap,rfl,hn⟩,hm,hq⟩;have M1:=qh (Mv.before HP.out B0.out hm);have R1:=qh (R0.out.mv hm (by omega));have N1:=qh hn;have Hq:=qh hq;obtain⟨⟨n0,n1,n2⟩,g0,g1,g2⟩:=R1.out.cells;have lr:=R1.out.lt;clear hm hn hq D;go_wp2;refine zh ((R1.out.put _ _ _).alloc _) Tryz.results137 rfl rfl ?_;rw[<-HR.out];refine⟨⟨some ⟨w1.heap.size,0,none⟩,1,rfl,NdS.one (za (by simp only[qs])) (by show w.heap.size<=w1.heap.size;omega) (N1.out.fin (by simp) (((Kp.refl _ w1).put3 (b:=w.heap.size) _ _ _ (by simp)).alloc _)) k⟩,(M1.out.put3 (q9 _) _ _ _).alloc _,Hq.out⟩
theorem qfn(E:PE)(q:Nat)(w:World)(h:PS E q w)(k:Int)(r:Sx.PR Nd)(C:∀ w0,PS E q w0->Calls Tryz.prog 42 #[.pointer (some ⟨E.pb,0,none⟩)] w0 (Gr E w0 r)) :
  Calls Tryz.prog 140 #[.pointer (some ⟨E.pb,0,none⟩),.int .i64 k] w (Gr E w (q8z k (xb E [125] r))):=by
 have HP:=qh h;have hpl:=h.lt;have D:=qh C;have B0:=qh ((Below.refl w.heap.size w).alloc (q9 _) (.cells #[.int .i64 0,.string ⟨#[]⟩,.slice none 0 0] 25));have R0:=qh (Row3.new w (.int .i64 0) (.string ⟨#[]⟩) (.slice none 0 0));obtain⟨R,hR⟩:∃ R,Gr E w (q8z k (xb E [125] r))=R:=⟨_,rfl⟩;clear h C
 cases r with
 |bad q' =>
  have HR:Hid (Gr E w (.bad q')=R):=qh hR;rw[hR];clear hR;go_enter Tryz.func140,Tryz.ntmps140
  go_wp2_with fail
  refine(D.out _ (HP.out.later B0.out)).mono ?_;rintro e w1⟨rfl,hm,hq⟩;go_wp2;rw[<-HR.out];exact⟨rfl,rfl,Mv.before HP.out B0.out hm,hq⟩
 |ok t q1 =>
  obtain⟨k1,s1,l1⟩:=t
  by_cases hc:Sx.txt E.ts q1=[125]
  ·have HR:Hid (Gr E w (.ok (.mk k Sx.noS [.mk k1 s1 l1]) (q1+1))=R):=qh (by rw[<-hR];simp only[xb];rw[qj hc];rfl)
   have NY:=qh (fun w h=>kh E q1 ⟨#[125]⟩ w h hc (by decide));have hlt:=Sx.txt_at hc;rw[hR];clear hR hc;go_enter Tryz.func140,Tryz.ntmps140
   go_wp2_with fail
   refine(D.out _ (HP.out.later B0.out)).mono ?_;rintro e w1⟨⟨a,cap,rfl,hn⟩,hm,hq⟩;obtain⟨W,hW⟩:∃ W,(w1.alloc (.cells #[.int .i64 k1,.string s1,.slice a l1.length cap] 25)).alloc (.cells #[.int .i64 k,.string ⟨#[]⟩,.slice (some ⟨w1.heap.size,0,none⟩) 1 1] 25)=W:=⟨_,rfl⟩;have M1:=qh (show Mv E q1 w W by rw[<-hW];exact((Mv.before HP.out B0.out hm).alloc _).alloc _);have R1:=qh (show Row3 W w.heap.size (.int .i64 0) (.string ⟨#[]⟩) (.slice none 0 0)by rw[<-hW];exact((R0.out.mv hm (by omega)).alloc _).alloc _);have X1:=qh (show Row3 W (w1.heap.size+1) (.int .i64 k) (.string ⟨#[]⟩) (.slice (some ⟨w1.heap.size,0,none⟩) 1 1)by rw[<-hW];exact Row3.newAt (by simp));have G1:∃ t,W.heap[w1.heap.size]?=some (.cells #[.int .i64 k1,.string s1,.slice a l1.length cap] t (0,0)):=⟨_,by rw[<-hW];exact(Below.heap_alloc _ _ _ (by simp)).trans (qk _ _)⟩;have N1:=qh (show NdS (fun b=>w.heap.size < b/\b≠w1.heap.size+1) W (.mk k1 s1 l1) _ _ _ by rw[<-hW];exact hn.keep fun b h1 h2=>⟨(Below.heap_alloc _ _ _ (by simp;omega)).trans (Below.heap_alloc _ _ _ h2),by simp at h1;omega,by omega⟩);have P1:=qh (M1.out.ps HP.out hq);have Hq:=qh hq;have hw1:w.heap.size < w1.heap.size:=(R0.out.mv hm (by omega)).lt;have HG1:=qh G1;clear hm hn hq D G1
   go_wp2_with fail
   (try rw[hW])
   clear hW;refine(NY.out _ P1.out).mono ?_;rintro e w2⟨rfl,hm2,hp2⟩;have M2:=qh (Mv.trans HP.out M1.out Hq.out hm2);have R2:=qh (R1.out.mv hm2 (by omega));have X2:=qh (X1.out.mv hm2 (by omega));obtain⟨⟨n0,n1,n2⟩,g0,g1,g2⟩:=R2.out.cells;obtain⟨⟨x0,x1,x2⟩,_⟩:=X2.out.cells;have lx:=X2.out.lt;have lr:=R2.out.lt;have ll:w.heap.size≠w1.heap.size+1:=by omega
   obtain⟨V,hV⟩:∃ V,((w2.setCell ⟨w.heap.size,0,none⟩ (.int .i64 k)).setCell ⟨w.heap.size,1,none⟩ (.string ⟨#[]⟩)).setCell ⟨w.heap.size,2,none⟩ (.slice (some ⟨w1.heap.size,0,none⟩) 1 1)=V:=⟨_,rfl⟩
   have hkv:∀ b,w.heap.size < b->b < W.heap.size->V.heap[b]?=W.heap[b]?:=fun b h1 h2=>by
    rw[<-hV];exact(((Kp.refl (w.heap.size+1) w2).put3 (b:=w.heap.size) _ _ _ (by omega)).blk b (by omega) (qu h2 hm2.size)).trans (hm2.blk b h2 (by omega))
   have NF:=qh (show NdS (fun b=>w.heap.size<=b) V (.mk k Sx.noS [.mk k1 s1 l1]) (.int .i64 k) (.string ⟨#[]⟩) (.slice (some ⟨w1.heap.size,0,none⟩) 1 1)by
    obtain⟨t,ht⟩:=HG1.out
    exact NdS.one ((hkv _ hw1 (zg ht)).trans ht) (Nat.le_of_lt hw1) (N1.out.keep fun b h1 h2=>⟨hkv b h1.1 h2,Nat.le_of_lt h1.1⟩) k)
   have MF:=qh (show Mv E (q1+1) w V by rw[<-hV];exact M2.out.put3 (q9 _) _ _ _);have RF:=qh (show Row3 V w.heap.size (.int .i64 k) (.string ⟨#[]⟩) (.slice (some ⟨w1.heap.size,0,none⟩) 1 1)by rw[<-hV];exact R2.out.put _ _ _);clear hm2 hp2 hkv;go_wp2
   try rw[hV]
   refine zh RF.out Tryz.results140 rfl rfl ?_;rw[<-HR.out];exact⟨⟨_,_,rfl,NF.out⟩,MF.out,hlt⟩
  ·have HR:Hid (Gr E w (.bad q1)=R):=qh (by rw[<-hR];simp only[xb];rw[qd hc];rfl)
   have NN:=qh (fun w h=>q05 E q1 ⟨#[125]⟩ w h hc);rw[hR];clear hR hc;go_enter Tryz.func140,Tryz.ntmps140
   go_wp2_with fail
   refine(D.out _ (HP.out.later B0.out)).mono ?_;rintro e w1⟨⟨a,cap,rfl,hn⟩,hm,hq⟩;obtain⟨W,hW⟩:∃ W,(w1.alloc (.cells #[.int .i64 k1,.string s1,.slice a l1.length cap] 25)).alloc (.cells #[.int .i64 k,.string ⟨#[]⟩,.slice (some ⟨w1.heap.size,0,none⟩) 1 1] 25)=W:=⟨_,rfl⟩;have M1:=qh (show Mv E q1 w W by rw[<-hW];exact((Mv.before HP.out B0.out hm).alloc _).alloc _);have P1:=qh (M1.out.ps HP.out hq);have Hq:=qh hq;clear hm hn hq D
   go_wp2_with fail
   (try rw[hW])
   clear hW;refine(NN.out _ P1.out).mono ?_;rintro e w2⟨rfl,hb2⟩;have M2:=M1.out.later (hb2.mono M1.out.size);go_wp2;rw[<-HR.out];exact⟨rfl,rfl,M2,Hq.out⟩
attribute [local go_sem] jr jp jo
theorem qno:∀ args w,(callFunc 137 args).run Tryz.prog w = .ok (.enter 137 args) w:=enters_of Tryz.func137 (by kernel_rfl) rfl
theorem qe8:∀ args w,(callFunc 138 args).run Tryz.prog w = .ok (.enter 138 args) w:=enters_of Tryz.func138 (by kernel_rfl) rfl
theorem qin:∀ args w,(callFunc 139 args).run Tryz.prog w = .ok (.enter 139 args) w:=enters_of Tryz.func139 (by kernel_rfl) rfl
theorem qm8:∀ args w,(callFunc 140 args).run Tryz.prog w = .ok (.enter 140 args) w:=enters_of Tryz.func140 (by kernel_rfl) rfl
theorem qma:∀ args w,(callFunc 141 args).run Tryz.prog w = .ok (.enter 141 args) w:=enters_of Tryz.func141 (by kernel_rfl) rfl
theorem qhq(E:PE)(q:Nat)(w:World)(h:PS E q w)(hk:Sx.knd E.ts q=1)(r:Sx.PR Nd)(CA:∀ w0,PS E q w0->Calls Tryz.prog 90 #[.pointer (some ⟨E.pb,0,none⟩)] w0 (Gr E w0 r)) :
  Calls Tryz.prog 147 #[.pointer (some ⟨E.pb,0,none⟩)] w (Gr E w r):=by
 have HP:=qh h;have hpl:=h.lt;have C:=qh (fun w h=>kg E q w h);unfold yy at C;rw[hk]at C;have C':Hid (∀ w,PS E q w->Calls Tryz.prog 142 #[.pointer (some ⟨E.pb,0,none⟩)] w fun e w'=>e = .returned (.agg #[.int .i64 1,.string (Sx.str (Sx.txt E.ts q)),.int .i64 (E.pos q:Nat)])/\Below w.heap.size w w'):=C;have D:=qh CA;have B0:=qh ((Below.refl w.heap.size w).alloc (q9 _) (.cells #[.int .i64 0,.string ⟨#[]⟩,.slice none 0 0] 25));have R0:=qh (Row3.new w (.int .i64 0) (.string ⟨#[]⟩) (.slice none 0 0));obtain⟨R,hR⟩:∃ R,Gr E w r=R:=⟨_,rfl⟩;have HR:=qh hR;rw[hR];clear h hR CA hk C;go_enter Tryz.func147,Tryz.ntmps147
 go_wp2_with fail
 refine(C'.out _ (HP.out.later B0.out)).mono ?_;rintro e w1⟨rfl,hb⟩;have B1:=qh (B0.out.trans (hb.mono B0.out.size));have P1:=qh (HP.out.later B1.out);have R1:=qh (R0.out.below hb (by simp));clear hb C'
 cases r with
 |bad q' =>
  go_wp2_with fail
  refine(D.out _ P1.out).mono ?_;rintro e w5⟨rfl,hm,hq⟩;go_wp2;rw[<-HR.out];exact⟨rfl,rfl,Mv.before HP.out B1.out hm,hq⟩
 |ok x q1 =>
  obtain⟨k1,s1,l1⟩:=x
  go_wp2_with fail
  refine(D.out _ P1.out).mono ?_;rintro e w5⟨⟨a,cap,rfl,hn⟩,hm,hq⟩;have M5:=qh (Mv.before HP.out B1.out hm);have N5:=qh (hn.from R1.out.lt);have R5:=qh (R1.out.mv hm (by omega));have Hq5:=qh hq;obtain⟨⟨n0,n1,n2⟩,g0,g1,g2⟩:=R5.out.cells;have lr:=R5.out.lt;clear hm hn hq;go_wp2;refine zh (R5.out.put _ _ _) Tryz.results147 rfl rfl ?_;rw[<-HR.out];exact⟨⟨a,cap,rfl,N5.out.fin (Nat.le_succ _) ((Kp.refl (w.heap.size+1) w5).put3 (b:=w.heap.size) _ _ _ (by omega))⟩,M5.out.put3 (q9 _) _ _ _,Hq5.out⟩
theorem qhp(E:PE)(q:Nat)(w:World)(h:PS E q w)(hk:Sx.knd E.ts q≠1)(r:Sx.PR Nd)(CA:∀ w0,PS E q w0->Calls Tryz.prog 82 #[.pointer (some ⟨E.pb,0,none⟩),.map (some E.mp)] w0 (Gr E w0 r)) :
  Calls Tryz.prog 147 #[.pointer (some ⟨E.pb,0,none⟩)] w (Gr E w r):=by
 have HP:=qh h;have hpl:=h.lt;have C:=qh (fun w h=>kg E q w h);unfold yy at C;have e1:(((Sx.knd E.ts q:Nat):Int)==1)=false:=by rw[qc];omega
 obtain⟨k,hk2⟩:∃ k,((Sx.knd E.ts q:Nat):Int)=k:=⟨_,rfl⟩;rw[hk2]at C e1;have D:=qh CA;have B0:=qh ((Below.refl w.heap.size w).alloc (q9 _) (.cells #[.int .i64 0,.string ⟨#[]⟩,.slice none 0 0] 25));have R0:=qh (Row3.new w (.int .i64 0) (.string ⟨#[]⟩) (.slice none 0 0));obtain⟨R,hR⟩:∃ R,Gr E w r=R:=⟨_,rfl⟩;have HR:=qh hR;rw[hR];clear h hR CA hk hk2;go_enter Tryz.func147,Tryz.ntmps147
 go_wp2_with fail
 refine(C.out _ (HP.out.later B0.out)).mono ?_;rintro e w1⟨rfl,hb⟩;have B1:=qh (B0.out.trans (hb.mono B0.out.size));have P1:=qh (HP.out.later B1.out);have R1:=qh (R0.out.below hb (by simp));obtain⟨_,_,_,_,c4⟩:=P1.out.cells;clear hb C
 cases r with
 |bad q' =>
  go_wp2_with fail
  refine(D.out _ P1.out).mono ?_;rintro e w5⟨rfl,hm,hq⟩;go_wp2;rw[<-HR.out];exact⟨rfl,rfl,Mv.before HP.out B1.out hm,hq⟩
 |ok x q1 =>
  obtain⟨k1,s1,l1⟩:=x
  go_wp2_with fail
  refine(D.out _ P1.out).mono ?_;rintro e w5⟨⟨a,cap,rfl,hn⟩,hm,hq⟩;have M5:=qh (Mv.before HP.out B1.out hm);have N5:=qh (hn.from R1.out.lt);have R5:=qh (R1.out.mv hm (by omega));have Hq5:=qh hq;obtain⟨⟨n0,n1,n2⟩,g0,g1,g2⟩:=R5.out.cells;have lr:=R5.out.lt;clear hm hn hq c4;go_wp2;refine zh (R5.out.put _ _ _) Tryz.results147 rfl rfl ?_;rw[<-HR.out];exact⟨⟨a,cap,rfl,N5.out.fin (Nat.le_succ _) ((Kp.refl (w.heap.size+1) w5).put3 (b:=w.heap.size) _ _ _ (by omega))⟩,M5.out.put3 (q9 _) _ _ _,Hq5.out⟩
theorem qf8{t:Lx.Bs}(h1:t≠[33])(h2:t≠[97,108,108])(h3:t≠[101,120])(h4:t≠[111,110,101])(h5:t≠[116,111,112])(h6:t≠[123])(h7:t≠[40]):jv y9 t=none:=by
 unfold jv y9;have f:∀ s:List UInt8,t≠s->(s==t)=false:=fun s h=>by rw[qc];exact fun e=>h e.symm
 simp[f _ h1,f _ h2,f _ h3,f _ h4,f _ h5,f _ h6,f _ h7]
theorem qk0(E:PE)(hsn:yc E.ts)(f:Nat)
  (ihp:∀ q w,PS E q w->16*(E.ts.length - q)+4<=f->Calls Tryz.prog 147 #[.pointer (some ⟨E.pb,0,none⟩)] w (Gr E w (Sx.part E.ts f q)))
  (ihf:∀ q w,PS E q w->16*(E.ts.length - q)+10<=f->Calls Tryz.prog 42 #[.pointer (some ⟨E.pb,0,none⟩)] w (Gr E w (Sx.form E.ts f q)))
  (q:Nat) (w:World) (h:PS E q w) (hf:16*(E.ts.length - q)+4<=f+1):Calls Tryz.prog 147 #[.pointer (some ⟨E.pb,0,none⟩)] w (Gr E w (Sx.part E.ts (f+1) q)):=by
 by_cases hk:Sx.knd E.ts q=1
 ·have e:Sx.part E.ts (f+1) q=Sx.applied E.ts f q:=by simp only[Sx.part];rw[qj hk]
  rw[e];exact qhq E q w h hk _ fun w0 h0=>qdi E hsn f q w0 h0 (by omega)
 refine qhp E q w h hk _ fun w0 h0=>?_
 have HM:∀ W,PS E q W->StrMap W E.mp y9:=fun W hW=>hW.g.mp
 by_cases h1:Sx.txt E.ts q=[33]
 ·have hq:=Sx.txt_at h1
  have e:Sx.part E.ts (f+1) q=q8z 29 (Sx.part E.ts f (q+1)):=by
   simp only[Sx.part];rw[qd hk,qj h1]
   all_goals (cases Sx.part E.ts f (q+1) <;> rfl)
  rw[e];exact zy E q w0 h0 E.mp y9 HM _ qno (by rw[h1];rfl) hq 29 (by rw[h1];rfl) _ fun w1 h2=>qiy E (q+1) w1 h2 29 _ fun w2 h3=>ihp (q+1) w2 h3 (by omega)
 by_cases h2:Sx.txt E.ts q=[97,108,108]
 ·have hq:=Sx.txt_at h2
  have e:Sx.part E.ts (f+1) q=Sx.binder (Sx.typed E.ts f) (Sx.form E.ts f) E.ts 18 (q+1):=by
   simp only[Sx.part];rw[qd hk,qd h1,qj h2]
  rw[e];exact zy E q w0 h0 E.mp y9 HM _ qe8 (by rw[h2];rfl) hq 18 (by rw[h2];rfl) _ fun w1 h3=>q7z E (q+1) w1 h3 _ 18 fun w2 h4=>q4p E (q+1) w2 h4 18 _ qio _ _ (Sx.typed_goes E.ts f).1 (fun p w3 hp h5=>q2v E f p w3 h5 (by omega)) (fun p w3 hp h5=>ihf p w3 h5 (by omega))
 by_cases h3:Sx.txt E.ts q=[101,120]
 ·have hq:=Sx.txt_at h3
  have e:Sx.part E.ts (f+1) q=Sx.binder (Sx.typed E.ts f) (Sx.form E.ts f) E.ts 19 (q+1):=by
   simp only[Sx.part];rw[qd hk,qd h1,qd h2,qj h3]
  rw[e];exact zy E q w0 h0 E.mp y9 HM _ qe8 (by rw[h3];rfl) hq 19 (by rw[h3];rfl) _ fun w1 h4=>q7z E (q+1) w1 h4 _ 19 fun w2 h4=>q4p E (q+1) w2 h4 19 _ qio _ _ (Sx.typed_goes E.ts f).1 (fun p w3 hp h5=>q2v E f p w3 h5 (by omega)) (fun p w3 hp h5=>ihf p w3 h5 (by omega))
 by_cases h4:Sx.txt E.ts q=[111,110,101]
 ·have hq:=Sx.txt_at h4
  have e:Sx.part E.ts (f+1) q = .ok (.mk 20 Sx.noS []) (q+1):=by
   simp only[Sx.part];rw[qd hk,qd h1,qd h2,qd h3,qj h4]
  rw[e];exact zy E q w0 h0 E.mp y9 HM _ qin (by rw[h4];rfl) hq 20 (by rw[h4];rfl) _ fun w1 h5=>q9s E (q+1) w1 h5 20
 by_cases h5:Sx.txt E.ts q=[116,111,112]
 ·have hq:=Sx.txt_at h5
  have e:Sx.part E.ts (f+1) q = .ok (.mk 21 Sx.noS []) (q+1):=by
   simp only[Sx.part];rw[qd hk,qd h1,qd h2,qd h3,qd h4,qj h5]
  rw[e];exact zy E q w0 h0 E.mp y9 HM _ qin (by rw[h5];rfl) hq 21 (by rw[h5];rfl) _ fun w1 h6=>q9s E (q+1) w1 h6 21
 by_cases h6:Sx.txt E.ts q=[123]
 ·have hq:=Sx.txt_at h6
  have e:Sx.part E.ts (f+1) q=q8z 30 (xb E [125] (Sx.form E.ts f (q+1))):=by
   simp only[Sx.part];rw[qd hk,qd h1,qd h2,qd h3,qd h4,qd h5,qj h6]
   cases Sx.form E.ts f (q+1)with
   |bad _=>rfl
   |ok a q1 =>
    simp only[xb]
    by_cases hc:Sx.txt E.ts q1=[125]
    ·rw[qj hc,qj hc];rfl
    ·rw[qd hc,qd hc];rfl
  rw[e];exact zy E q w0 h0 E.mp y9 HM _ qm8 (by rw[h6];rfl) hq 30 (by rw[h6];rfl) _ fun w1 h7=>qfn E (q+1) w1 h7 30 _ fun w2 h8=>ihf (q+1) w2 h8 (by omega)
 by_cases h7:Sx.txt E.ts q=[40]
 ·have hq:=Sx.txt_at h7
  have e:Sx.part E.ts (f+1) q=xb E [41] (Sx.form E.ts f (q+1)):=by
   simp only[Sx.part];rw[qd hk,qd h1,qd h2,qd h3,qd h4,qd h5,qd h6,qj h7]
   all_goals (cases Sx.form E.ts f (q+1) <;> rfl)
  rw[e];exact zy E q w0 h0 E.mp y9 HM _ qma (by rw[h7];rfl) hq 0 (by rw[h7];rfl) _ fun w1 h8=>qg2 E (q+1) w1 h8 0 _ fun w2 h9=>ihf (q+1) w2 h9 (by omega)
 have e:Sx.part E.ts (f+1) q = .bad q:=by
  simp only[Sx.part];rw[qd hk,qd h1,qd h2,qd h3,qd h4,qd h5,qd h6,qd h7]
 rw[e];refine(q6s E q w0 h0 E.mp y9 HM (qf8 h1 h2 h3 h4 h5 h6 h7)).mono ?_;rintro e w'⟨rfl,hb⟩;exact⟨rfl,Mv.below h0 hb,h0.le⟩
theorem qg0(E:PE)(f b q:Nat)(hb:b<=4):q20 E b (Sx.right E.ts f (b+1) q) (Sx.right E.ts f b)=Sx.right E.ts (f+1) b q:=by
 simp only[q20,Sx.right];rw[qd (by omega)]
 cases Sx.right E.ts f (b+1) q with
 |bad q'=>rfl
 |ok a q' =>
  simp only[q83 E.ts q' b hb]
  all_goals (cases Sx.sgn E.ts b q' with
   |none=>rfl
   |some k=>cases Sx.right E.ts f b (q'+1) <;> rfl)
theorem qie(E:PE)(hsn:yc E.ts)(f:Nat) :
  (∀ q w,PS E q w->16*(E.ts.length - q)+4<=f->Calls Tryz.prog 147 #[.pointer (some ⟨E.pb,0,none⟩)] w (Gr E w (Sx.part E.ts f q))) /\
  (∀ b q w,1<=b->b<=5->PS E q w->16*(E.ts.length - q)+(10 - b)<=f->Calls Tryz.prog 85 #[.pointer (some ⟨E.pb,0,none⟩),.int .i64 (b:Nat)] w (Gr E w (Sx.right E.ts f b q))) /\
  (∀ q w,PS E q w->16*(E.ts.length - q)+10<=f->Calls Tryz.prog 42 #[.pointer (some ⟨E.pb,0,none⟩)] w (Gr E w (Sx.form E.ts f q))):=by
 induction f using Nat.strongRecOn with
 |_ f ih =>
  cases f with
  |zero=>exact⟨fun q w _ h=>by omega,fun b q w _ _ _ h=>by omega,fun q w _ h=>by omega⟩
  |succ f =>
   obtain⟨ih1,ih2,ih3⟩:=ih f (by omega);refine⟨fun q w h hf=>qk0 E hsn f ih1 ih3 q w h hf,fun b q w hb1 hb5 h hf=>?_,fun q w h hf=>?_⟩
   ·by_cases hb:b=5
    ·subst hb
     have e:Sx.right E.ts (f+1) 5 q=Sx.part E.ts f q:=by simp only[Sx.right];rw[qj (by omega)]
     rw[e];exact qni E q w h _ fun w0 h0=>ih1 q w0 h0 (by omega)
    ·rw[<-qg0 E f b q (by omega)]
     refine q8c E q b w h (by omega) hb _ _ (fun w0 h0=>?_) (fun q1 a e hq w0 h0=>?_)
     ·have:=ih2 (b+1) q w0 (by omega) (by omega) h0 (by omega)
      push_cast at this;exact this
     ·have:=(Sx.form_goes E.ts f).2.1 (b+1) q a q1 e
      exact ih2 b (q1+1) w0 hb1 hb5 h0 (by omega)
   ·simp only[Sx.form]
    have C1:=fun w0 (h0:PS E q w0)=>ih2 1 q w0 (by omega) (by omega) h0 (by omega)
    cases hr:Sx.right E.ts f 1 q with
    |bad q' =>
     rw[hr]at C1;exact qkh E q w h q' C1
    |ok a q1 =>
     rw[hr]at C1;have hgo:=(Sx.form_goes E.ts f).2.1 1 q a q1 hr;obtain⟨k0,s0,l0⟩:=a;exact qif E q w h f k0 s0 l0 q1 hgo.1 (by omega) C1 fun f1 p w0 hf1 hp hm h0=>(ih f1 (by omega)).2.1 1 p w0 (by omega) (by omega) h0 (by omega)
theorem qbw(E:PE)(hsn:yc E.ts)(f q:Nat)(w:World)(h:PS E q w)(hf:16*(E.ts.length - q)+10<=f):Calls Tryz.prog 42 #[.pointer (some ⟨E.pb,0,none⟩)] w (Gr E w (Sx.form E.ts f q)) :=
 (qie E hsn f).2.2 q w h hf
attribute [local go_sem] jr jp jo
def GrK(E:PE)(w:World)(k:Int)(s:ByteArray)(r:Sx.PR (List Nd))(e:Ending)(w':World):Prop :=
 match r with
 | .ok l q=>(∃ v,e = .returned (.agg #[.int .i64 k,.string s,v])/\Kids w.heap.size w' v l)/\Mv E q w w'/\q<=E.ts.length/\l.length<=q
 | .bad q=>e = .panicked [{ v:=je E q,recovered:=false }]/\Mv E q w w'/\q<=E.ts.length
theorem GrK.gr{E:PE}{w:World}{k:Int}{s:ByteArray}{r:Sx.PR (List Nd)}{e:Ending}{w':World}(hs:s.size<=maxLen)(hf:E.ts.length<=6000)(h:GrK E w k s r e w'):Gr E w (wy k s r) e w':=by
 cases r with
 |bad q=>exact h
 |ok l q =>
  obtain⟨⟨v,rfl,hk⟩,hm,hq,hl⟩:=h;obtain⟨a,cap,rfl,_⟩:=hk.shape;exact⟨⟨a,cap,rfl,hk.node k s hs (by unfold maxLen;omega)⟩,hm,hq⟩
def q1w(ts:List Lx.Tok)(f:Nat)(acc:List Nd)(p:Nat):Sx.PR (List Nd) :=
 match Sx.small ts p with
 | .bad q=>.bad q
 | .ok a q=>Sx.namesR ts f (acc++[a]) q
theorem qfh{ts:List Lx.Tok}{f:Nat}{acc:List Nd}{p q:Nat}(h:Sx.small ts p = .bad q):q1w ts f acc p = .bad q:=by unfold q1w;rw[h]
theorem qi1{ts:List Lx.Tok}{f:Nat}{acc:List Nd}{p q:Nat}{a:Nd}(h:Sx.small ts p = .ok a q):q1w ts f acc p=Sx.namesR ts f (acc++[a]) q:=by unfold q1w;rw[h]
theorem qi0{ts:List Lx.Tok}{f:Nat}{acc:List Nd}{p:Nat}(h:Sx.txt ts p=[44]):Sx.namesR ts (f+1) acc p=q1w ts f acc (p+1):=by simp only[Sx.namesR,q1w];rw[qj h];cases Sx.small ts (p+1) <;> rfl
theorem qfg{ts:List Lx.Tok}{f:Nat}{acc:List Nd}{p:Nat}(h:Sx.txt ts p≠[44]):Sx.namesR ts (f+1) acc p = .ok acc p:=by simp only[Sx.namesR];rw[qd h]
theorem q06(E:PE)(q:Nat)(w:World)(h:PS E q w)(k:Int)(f:Nat)(hf:16*(E.ts.length - q)+1<=f) :
  Calls Tryz.prog 131 #[.pointer (some ⟨E.pb,0,none⟩),.int .i64 k] w (GrK E w k Sx.noS (Sx.names E.ts f q)):=by
 have HP:=qh h;have hpl:=h.lt;have hfew:=h.g.few;have Hf:=qh hf;have D:=qh (fun p w h=>q3w E p w h);have B0:=qh ((Below.refl w.heap.size w).alloc (q9 _) (.cells #[.int .i64 0,.string ⟨#[]⟩,.slice none 0 0] 25));obtain⟨A,hA⟩:∃ A,Sx.names E.ts f q=A:=⟨_,rfl⟩;have HA:Hid (q1w E.ts f [] q=A):=qh (by rw[<-hA];rfl);obtain⟨R,hR⟩:∃ R,GrK E w k Sx.noS A=R:=⟨_,rfl⟩;have HR:=qh hR;rw[hA,hR];have HPP:=qh h;clear h hA hR hf;go_enter Tryz.func131,Tryz.ntmps131
 go_wp2_with fail
 obtain⟨W0,hW0⟩:∃ W,(w.alloc (.cells #[.int .i64 0,.string ⟨#[]⟩,.slice none 0 0] 25)).alloc (.cells #[.int .i64 k,.string ⟨#[]⟩,.slice none 0 0] 25)=W:=⟨_,rfl⟩;have M0:=qh (show Mv E q w W0 by rw[<-hW0];exact Mv.below HPP.out (B0.out.alloc (by simp) _));have P0:=qh (M0.out.ps HPP.out HPP.out.le);have R0:=qh (show Row3 W0 w.heap.size (.int .i64 0) (.string ⟨#[]⟩) (.slice none 0 0)by rw[<-hW0];exact(Row3.new w _ _ _).alloc _);have N0:=qh (show Row3 W0 (w.heap.size+1) (.int .i64 k) (.string ⟨#[]⟩) (.slice none 0 0)by rw[<-hW0];exact Row3.newAt (by simp));have z0:w.heap.size+1+1<=W0.heap.size:=by rw[<-hW0];simp
 have Hz0:=qh z0;rw[hW0];clear hW0 z0
 go_loopw [] (fun W=>∃ (f1 p:Nat) (acc:List Nd) (v:Value),q<=p/\16*(E.ts.length - p)+1<=f1/\acc.length<=p/\Hid (q1w E.ts f1 acc p=A)/\Hid (Mv E p w W)/\Hid (PS E p W)/\Hid (Row3 W w.heap.size (.int .i64 0) (.string ⟨#[]⟩) (.slice none 0 0))/\Hid (Row3 W (w.heap.size+1) (.int .i64 k) (.string ⟨#[]⟩) v)/\Hid (Kids (w.heap.size+1+1) W v acc)/\Hid (w.heap.size+1+1<=W.heap.size)) (fun W=>E.ts.length+1 - nxt E W)
 case atStart =>
  exact⟨f,q,[],.slice none 0 0,q9 _,Hf.out,qv _,HA,M0,P0,R0,N0,Kids.nil _ _,Hz0⟩
 case round =>
  obtain⟨f1,p,acc,v,hqp,hf1,hacc,hrun,hM,hP,hRw,hN,hK,hz⟩:=hrel;clear M0 P0 R0 N0 Hz0 HA;obtain⟨va,vcap,rfl,_⟩:=hK.out.shape;have hple:=hP.out.le;have hnl:=hN.out.lt;have Hmeas:=qh hP.out.nxt;obtain⟨⟨n0,n1,n2⟩,g0,g1,g2⟩:=hN.out.cells;have DB:=qh (D.out p)
  cases hs:Sx.small E.ts p with
  |bad qb =>
   have HA':=qh (hrun.out.symm.trans (qfh hs));rw[hs]at DB
   have F:Hid (∀ w5,Mv E qb wr.drew w5->qb<=E.ts.length->R (.panicked [{ v:=je E qb,recovered:=false }]) w5):=qh fun w5 hm5 hq5=>by
    rw[<-HR.out,HA'.out];exact⟨rfl,Mv.trans HP.out (hM.out.later (below_drewN (Below.refl _ _) 1)) hple hm5,hq5⟩
   clear hs D hrun
   go_wp2_with fail
   go_region_dies
   all_goals refine(DB.out _ (hP.out.later (Below.refl _ _).drew)).mono ?_
   all_goals rintro e w5 ⟨rfl,hm5,hq5⟩
   all_goals exact⟨rfl,F.out w5 hm5 hq5⟩
  |ok x p1 =>
   obtain⟨k2,s2,l2⟩:=x;obtain⟨hp1,hp1l,hlf,_⟩:=Sx.small_ok hs;have hrun2:=qh ((qi1 hs).symm.trans hrun.out);rw[hs]at DB;have Hp1:=qh (And.intro hp1 hp1l);obtain⟨f2,hf2⟩:∃ f2,f1=f2+1:=⟨f1 - 1,by omega⟩;have hlt:p < E.ts.length:=by omega
   clear hs D hrun hlf hp1 hp1l
   go_wp2_with fail
   go_region_law (first
    |(go_simp;go_at_call 187;refine(DB.out _ (hP.out.later (Below.refl _ _).drew)).mono ?_;rintro e w5 ⟨⟨a5,cap5,rfl,hn5⟩,hm5,hq5⟩;have hm5':=Mv.before hP.out (Below.refl _ _).drew hm5;have N5:=qh (hN.out.mv hm5' (by omega));have R5:=qh (hRw.out.mv hm5' (by omega));have K5:=qh (Kids.step hm5' (by omega) hK.out);have hz5:w.heap.size+1+1<=w5.heap.size:=qo hz.out hm5'.size;obtain⟨⟨c0,c1,c2⟩,y0,y1,y2⟩:=N5.out.cells;have l5:=N5.out.lt)
    |(refine xd rfl _ _ rfl (w.heap.size+1+1) (.slice va acc.length vcap) acc rfl (Kids.keep K5.out fun b _ hb2=>Below.heap_alloc _ _ _ hb2) ⟨w5.heap.size,0,none⟩ 1 (by rfl) (.mk k2 s2 l2) (.int .i64 k2) (.string s2) (.slice a5 l2.length cap5) (xu w5 _ _ _ _ _ rfl) (hn5.keep (fun b hb1 hb2=>⟨Below.heap_alloc _ _ _ hb2,qo hz.out hb1,fun e=>by have:=hK.out.own b e;have hb1':wr.heap.size<=b:=hb1;omega⟩)) (by omega) (by simp;omega) _ rfl ?_;intro g6 cap6 w6 K6 G6 _ hg6;have hown:=K5.out.own;have N6:=qh ((N5.out.alloc _).grown' G6 (fun e=>by have:=hown _ e.symm;omega));have R6:=qh ((R5.out.alloc _).grown' G6 (fun e=>by have:=hown _ e.symm;omega));obtain⟨⟨d0,d1,d2⟩,z0,z1,z2⟩:=N6.out.cells))
   all_goals
    have hz6:w.heap.size+1+1<=w6.heap.size:=by have:=G6.size;simp at this;omega
    have M6:=Mv.later (Mv.trans HP.out hM.out hple hm5') ((((Below.refl w.heap.size w5).alloc (by omega) (.cells #[.int .i64 k2,.string s2,.slice a5 l2.length cap5] 25)).grown G6 (by simp;omega) (fun b hb=>by have:=hown b hb;omega)));obtain⟨V,hV⟩:∃ V,w6.setCell ⟨w.heap.size+1,2,none⟩ (.slice (some ⟨g6,0,none⟩) (acc.length+1) cap6)=V:=⟨_,rfl⟩;have M7:=qh (show Mv E p1 w V by rw[<-hV];exact M6.later ((Below.refl w.heap.size w6).setCell (p:=⟨w.heap.size+1,2,none⟩) (by simp only;omega) _));have N7:=qh (show Row3 V (w.heap.size+1) (.int .i64 k) (.string ⟨#[]⟩) (.slice (some ⟨g6,0,none⟩) (acc.length+1) cap6)by rw[<-hV];exact N6.out.put2 _);have R7:=qh (show Row3 V w.heap.size (.int .i64 0) (.string ⟨#[]⟩) (.slice none 0 0)by rw[<-hV];exact R6.out.other _ (by simp only;omega));have K7:=qh (show Kids (w.heap.size+1+1) V (.slice (some ⟨g6,0,none⟩) (acc.length+1) cap6) (acc++[.mk k2 s2 l2])by rw[<-hV];exact K6.keep fun b hb1 _=>Below.heap_setCell _ _ _ _ (by simp only;omega));have P7:=qh (M7.out.ps HP.out hq5);have z7:w.heap.size+1+1<=V.heap.size:=by rw[<-hV,qs];exact hz6
    have Hz7:=qh z7;rw[hV];clear hV hn5 hm5 hm5' hq5 N5 R5 N6 R6 K6 G6 M6 c0 c1 c2 y0 y1 y2 d0 d1 d2 z0 z1 z2 n0 n1 n2 g0 g1 g2 l5 hg6 hown K5 DB
    by_cases hc:Sx.txt E.ts p1=[44]
    ·have HA2:=qh ((qi0 hc).symm.trans (hf2▸hrun2.out))
     have T:=qh (fun w h=>yd E p1 ⟨#[44]⟩ w h hc (by decide));have hlt1:=Sx.txt_at hc;clear hc
     go_wp2_with fail
     refine(T.out _ P7.out).mono ?_;rintro e w8⟨rfl,hm8,hp8⟩;have M8:=qh (Mv.trans HP.out M7.out P7.out.le hm8);have P8:=qh hp8;have N8:=qh (N7.out.mv hm8 (by omega));have R8:=qh (R7.out.mv hm8 (by omega));have K8:=qh (Kids.step hm8 (by omega) K7.out);have z8:=qh (qo z7 hm8.size);have Hm8:=qh hp8.nxt;clear hm8 hp8 T
     go_wp2_with fail
     go_roundw
     case rel=>exact⟨f2,p1+1,acc++[Nd.mk k2 s2 l2],_,by have:=Hp1.out;omega,by have:=Hp1.out;omega,by have:=Hp1.out;simp;omega,HA2,M8,P8,R8,N8,K8,z8⟩
     case measure=>rw[Hm8.out,Hmeas.out];have:=Hp1.out;omega
    ·have HA2:=qh ((qfg hc).symm.trans (hf2▸hrun2.out))
     have T:=qh (fun w h=>yt E p1 ⟨#[44]⟩ w h hc);clear hc
     go_wp2_with fail
     refine(T.out _ P7.out).mono ?_;rintro e w8⟨rfl,hb8⟩;have M8:=qh (M7.out.later (hb8.mono M7.out.size));have R8:=qh (R7.out.below hb8 R7.out.lt);have N8:=qh (N7.out.below hb8 N7.out.lt);have K8:=qh (K7.out.keep fun b _ h2=>hb8.block b h2);obtain⟨⟨r0,r1,r2⟩,t0,t1,t2⟩:=R8.out.cells;obtain⟨⟨x0,x1,x2⟩,_⟩:=N8.out.cells;have ln:=N8.out.lt;have lr:=R8.out.lt;have KF:=qh ((K8.out.kp ((Kp.refl (w.heap.size+1+1) w8).put3 (b:=w.heap.size) (.int .i64 k) (.string ⟨#[]⟩) (.slice (some ⟨g6,0,none⟩) (acc.length+1) cap6) (by omega))).base (h':=w.heap.size) (by omega));have Hle:=qh P7.out.le;clear hb8 T;go_wp2;refine zh (R8.out.put _ _ _) Tryz.results131 rfl rfl ?_;rw[<-HR.out,<-HA2.out];exact⟨⟨_,rfl,KF.out⟩,M8.out.put3 (q9 _) _ _ _,Hle.out,by have:=Hp1.out;simp;omega⟩
attribute [local go_sem] jr jp jo q8e
theorem q4e(E:PE)(q:Nat)(w:World)(h:PS E q w)(k:Int)(hk:Sx.knd E.ts q=1):Calls Tryz.prog 136 #[.pointer (some ⟨E.pb,0,none⟩),.int .i64 k] w fun e w'=>e = .returned (.agg #[.int .i64 k,.string (Sx.str (Sx.txt E.ts q)),.slice none 0 0])/\Mv E (q+1) w w'/\PS E (q+1) w':=by
 have HP:=qh h;have hpl:=h.lt;have D:=qh (fun w h=>q9a E q w h hk);unfold qkz at D;generalize Sx.str (Sx.txt E.ts q)=x at *;have B0:=qh ((Below.refl w.heap.size w).alloc (q9 _) (.cells #[.int .i64 0,.string ⟨#[]⟩,.slice none 0 0] 25));have R0:=qh (Row3.new w (.int .i64 0) (.string ⟨#[]⟩) (.slice none 0 0));clear h hk;go_enter Tryz.func136,Tryz.ntmps136
 go_wp2_with fail
 refine(D.out _ (HP.out.later B0.out)).mono ?_;rintro e w1⟨rfl,hm,hp⟩;have M1:=qh (Mv.before HP.out B0.out hm);have R1:=qh (R0.out.mv hm (by omega));have Hq:=qh hp.le;obtain⟨⟨n0,n1,n2⟩,g0,g1,g2⟩:=R1.out.cells;have lr:=R1.out.lt;clear hm hp D;go_wp2;have hM:=M1.out.put3 (b:=w.heap.size) (q9 _) (.int .i64 k) (.string x) (.slice none 0 0);exact zh (R1.out.put _ _ _) Tryz.results136 rfl rfl ⟨rfl,hM,hM.ps HP.out Hq.out⟩
def vd(rd:Nat->Nat->Sx.PR Nd)(ts:List Lx.Tok):Nat->List Nd->Nat->Sx.PR (List Nd)
 |0,_,p=>.bad p
 |f+1,acc,p=>if Sx.txt ts p=[46] then .ok acc p else(match rd f p with
  | .bad q=>.bad q
  | .ok a q=>vd rd ts f (acc++[a]) q)
section
variable {rd:Nat->Nat->Sx.PR Nd} {ts:List Lx.Tok} {f:Nat} {acc:List Nd} {p q:Nat} {a:Nd}
theorem q5n(h:Sx.txt ts p=[46]):vd rd ts (f+1) acc p = .ok acc p:=by simp only[vd];rw[qj h]
theorem q2z(h:Sx.txt ts p≠[46])(h2:rd f p = .bad q):vd rd ts (f+1) acc p = .bad q:=by simp only[vd];rw[qd h,h2]
theorem q7b(h:Sx.txt ts p≠[46])(h2:rd f p = .ok a q):vd rd ts (f+1) acc p=vd rd ts f (acc++[a]) q:=by simp only[vd];rw[qd h,h2]
end
theorem qd0(E:PE)(q:Nat)(w:World)(h:PS E q w)(k:Int)(hk:Sx.knd E.ts q=1)(f:Nat)(hf:16*(E.ts.length - (q+1))+2<=f)(g:Nat)(eg:∀ args w,(callFunc g args).run Tryz.prog w = .ok (.enter g args) w)(rd:Nat->Nat->Sx.PR Nd)(hgo:∀ f1 p,Sx.Goes E.ts p (rd f1 p))
  (CR:∀ f1 p w0,f1 < f->q < p->16*(E.ts.length - p)+1<=f1->PS E p w0->Calls Tryz.prog g #[.pointer (some ⟨E.pb,0,none⟩)] w0 (Gr E w0 (rd f1 p))) :
  Calls Tryz.prog 188 #[.pointer (some ⟨E.pb,0,none⟩),.int .i64 k,.func (.func g) #[.pointer (some ⟨E.pb,0,none⟩)] #[]] w (Gr E w (wy k (Sx.str (Sx.txt E.ts q)) (vd rd E.ts f [] (q+1)))):=by
 have HP:=qh h;have hpl:=h.lt;have hfew:=h.g.few;have Hf:=qh hf;have D:=qh CR;have HG:=qh hgo;have C:=qh (fun p w h=>kg E p w h);unfold yy at C;have T1:=qh (fun w h=>q4e E q w h k hk);have Hsz:=qh (q1c E h.g q);generalize Sx.str (Sx.txt E.ts q)=s at *;have B0:=qh ((Below.refl w.heap.size w).alloc (q9 _) (.cells #[.int .i64 0,.string ⟨#[]⟩,.slice none 0 0] 25));have R0:=qh (Row3.new w (.int .i64 0) (.string ⟨#[]⟩) (.slice none 0 0));obtain⟨A,hA⟩:∃ A,vd rd E.ts f [] (q+1)=A:=⟨_,rfl⟩;have HA:=qh hA;obtain⟨R,hR⟩:∃ R,Gr E w (wy k s A)=R:=⟨_,rfl⟩;have HR:=qh hR;rw[hA,hR];clear h hA hR hf CR hgo hk;go_enter Tryz.func188,Tryz.ntmps188
 go_wp2_with fail
 refine(T1.out _ (HP.out.later B0.out)).mono ?_;rintro e u1⟨rfl,hm,hp⟩;obtain⟨nb,hnb⟩:∃ nb,u1.heap.size=nb:=⟨_,rfl⟩;have hwn:w.heap.size < nb:=by rw[<-hnb];exact(R0.out.mv hm (by omega)).lt
 have M0:=qh ((Mv.before HP.out B0.out hm).alloc (.cells #[.int .i64 k,.string s,.slice none 0 0] 25));have P0:=qh (hp.later ((Below.refl _ u1).alloc (q9 _) (.cells #[.int .i64 k,.string s,.slice none 0 0] 25)));have R1:=qh ((R0.out.mv hm (by omega)).alloc (.cells #[.int .i64 k,.string s,.slice none 0 0] 25));have N0:=qh (Row3.newAt (W:=u1) (n:=nb) (v0:=.int .i64 k) (v1:=.string s) (v2:=.slice none 0 0) hnb.symm);have Z0:Hid (nb+1<=(u1.alloc (.cells #[.int .i64 k,.string s,.slice none 0 0] 25)).heap.size):=qh (by simp;omega);clear hm hp
 go_wp2_with fail
 go_loopw [] (fun W=>∃ (f1 p:Nat) (acc:List Nd) (v:Value),q < p/\f1<=f/\16*(E.ts.length - p)+2<=f1/\acc.length<=p/\Hid (vd rd E.ts f1 acc p=A)/\Hid (Mv E p w W)/\Hid (PS E p W)/\Hid (Row3 W w.heap.size (.int .i64 0) (.string ⟨#[]⟩) (.slice none 0 0))/\Hid (Row3 W nb (.int .i64 k) (.string s) v)/\Hid (Kids (nb+1) W v acc)/\Hid (nb+1<=W.heap.size)) (fun W=>E.ts.length+1 - nxt E W)
 case atStart =>
  exact⟨f,q+1,[],.slice none 0 0,by omega,q9 _,Hf.out,qv _,HA,M0.out,P0.out,R1.out,N0.out,Kids.nil _ _,Z0.out⟩
 case round =>
  obtain⟨f1,p,acc,v,hqp,hff,hf1,hacc,hrun,hM,hP,hRw,hN,hK,hz⟩:=hrel;clear M0 P0 R1 N0 HA T1;obtain⟨va,vcap,rfl,_⟩:=hK.out.shape;obtain⟨f2,rfl⟩:∃ f2,f1=f2+1:=⟨f1 - 1,by omega⟩;have hple:=hP.out.le;have hnl:=hN.out.lt;have Hmeas:=qh hP.out.nxt;have CP:=qh (C.out p)
  by_cases hd:Sx.txt E.ts p=[46]
  ·have HA2:=qh (hrun.out.symm.trans (q5n hd))
   rw[hd]at CP;have CP':Hid (∀ w,PS E p w->Calls Tryz.prog 142 #[.pointer (some ⟨E.pb,0,none⟩)] w fun e w'=>e = .returned (.agg #[.int .i64 (Sx.knd E.ts p:Nat),.string ⟨#[46]⟩,.int .i64 (E.pos p:Nat)])/\Below w.heap.size w w'):=CP;clear hd C hrun CP
   go_wp2_with fail
   refine(CP'.out _ hP.out).mono ?_;rintro e w8⟨rfl,hb8⟩;have M8:=qh (hM.out.later (hb8.mono hM.out.size));have R8:=qh (hRw.out.below hb8 hRw.out.lt);have N8:=qh (hN.out.below hb8 hnl);have K8:=qh (hK.out.keep fun b _ h2=>hb8.block b h2);obtain⟨⟨r0,r1,r2⟩,t0,t1,t2⟩:=R8.out.cells;obtain⟨⟨x0,x1,x2⟩,_⟩:=N8.out.cells;have ln:=N8.out.lt;have lr:=R8.out.lt;have ND:=qh (((K8.out.kp ((Kp.refl (nb+1) w8).put3 (b:=w.heap.size) (.int .i64 k) (.string s) (.slice va acc.length vcap) (by omega))).node k s Hsz.out (by unfold maxLen;omega)).from (h':=w.heap.size) (by omega));have Hle:=qh hple;clear hb8 CP';go_wp2;refine zh (R8.out.put _ _ _) Tryz.results188 rfl rfl ?_;rw[<-HR.out,HA2.out];exact⟨⟨va,vcap,rfl,ND.out⟩,M8.out.put3 (q9 _) _ _ _,Hle.out⟩
  ·obtain⟨x,hx⟩:∃ x,Sx.str (Sx.txt E.ts p)=x:=⟨_,rfl⟩
   rw[hx]at CP
   have hxn:x≠⟨#[46]⟩:=fun e=>hd (by
    rw[<-hx]at e;have:=congrArg (fun y:ByteArray=>y.data.toList) e
    simpa[Sx.str]using this)
   have e1:(!(x.toList==[46]))=true:=by
    rw[show([46]:List UInt8)=(⟨#[46]⟩:ByteArray).toList from by decide +kernel,qc7 hxn];rfl
   have DB:=qh (fun w0 h0=>D.out f2 p w0 (by omega) hqp (by omega) h0);clear hx hxn C
   go_wp2_with fail
   refine(CP.out _ hP.out).mono ?_;rintro e W1⟨rfl,hb⟩;have M1:=qh (hM.out.later (hb.mono hM.out.size));have P1:=qh (hP.out.later hb);have R1:=qh (hRw.out.below hb hRw.out.lt);have N1:=qh (hN.out.below hb hnl);have K1:=qh (hK.out.keep fun b _ h2=>hb.block b h2);have hz1:=qh (qo hz.out hb.size);obtain⟨⟨n0,n1,n2⟩,g0,g1,g2⟩:=N1.out.cells;have ln1:=N1.out.lt;clear hb CP
   cases hs:rd f2 p with
   |bad qb =>
    have HA':=qh (hrun.out.symm.trans (q2z hd hs));rw[hs]at DB
    have F:Hid (∀ w5,Mv E qb W1.drew w5->qb<=E.ts.length->R (.panicked [{ v:=je E qb,recovered:=false }]) w5):=qh fun w5 hm5 hq5=>by
     rw[<-HR.out,HA'.out];exact⟨rfl,Mv.trans HP.out (M1.out.later (below_drewN (Below.refl _ _) 1)) hple hm5,hq5⟩
    clear hs D hrun hd
    go_wp2_with fail
    go_region_dies
    all_goals refine(DB.out _ (P1.out.later (Below.refl _ _).drew)).mono ?_
    all_goals rintro e w5 ⟨rfl,hm5,hq5⟩
    all_goals exact⟨rfl,F.out w5 hm5 hq5⟩
   |ok y p1 =>
    obtain⟨k2,s2,l2⟩:=y;have HA':=qh ((q7b (acc:=acc) hd hs).symm.trans hrun.out);have Hp1:=qh (HG.out f2 p _ _ hs);rw[hs]at DB;clear hs D hrun hd
    go_wp2_with fail
    go_region_law (first
     |(go_simp;refine(DB.out _ (P1.out.later (Below.refl _ _).drew)).mono ?_;rintro e w5 ⟨⟨a5,cap5,rfl,hn5⟩,hm5,hq5⟩;have hm5':=Mv.before P1.out (Below.refl _ _).drew hm5;have N5:=qh (N1.out.mv hm5' (by omega));have R5:=qh (R1.out.mv hm5' (by omega));have K5:=qh (Kids.step hm5' (by omega) K1.out);have hz5:nb+1<=w5.heap.size:=qo hz1.out hm5'.size;obtain⟨⟨c0,c1,c2⟩,y0,y1,y2⟩:=N5.out.cells;have l5:=N5.out.lt)
     |(refine xd rfl _ _ rfl (nb+1) (.slice va acc.length vcap) acc rfl (Kids.keep K5.out fun b _ hb2=>Below.heap_alloc _ _ _ hb2) ⟨w5.heap.size,0,none⟩ 1 (by rfl) (.mk k2 s2 l2) (.int .i64 k2) (.string s2) (.slice a5 l2.length cap5) (xu w5 _ _ _ _ _ rfl) (hn5.keep (fun b hb1 hb2=>⟨Below.heap_alloc _ _ _ hb2,qo hz1.out hb1,fun e=>by have:=K1.out.own b e;have hb1':W1.heap.size<=b:=hb1;omega⟩)) (by omega) (by simp;omega) _ rfl ?_;intro g6 cap6 w6 K6 G6 _ hg6;have hown:=K5.out.own;have N6:=qh ((N5.out.alloc _).grown' G6 (fun e=>by have:=hown _ e.symm;omega));have R6:=qh ((R5.out.alloc _).grown' G6 (fun e=>by have:=hown _ e.symm;omega));obtain⟨⟨d0,d1,d2⟩,z0,z1,z2⟩:=N6.out.cells))
    all_goals
     have hz6:nb+1<=w6.heap.size:=by have:=G6.size;simp at this;omega
     have M6:=Mv.later (Mv.trans HP.out M1.out hple hm5') ((((Below.refl w.heap.size w5).alloc (by omega) (.cells #[.int .i64 k2,.string s2,.slice a5 l2.length cap5] 25)).grown G6 (by simp;omega) (fun b hb=>by have:=hown b hb;omega)));obtain⟨V,hV⟩:∃ V,w6.setCell ⟨nb,2,none⟩ (.slice (some ⟨g6,0,none⟩) (acc.length+1) cap6)=V:=⟨_,rfl⟩;have M7:=qh (show Mv E p1 w V by rw[<-hV];exact M6.later ((Below.refl w.heap.size w6).setCell (p:=⟨nb,2,none⟩) (by simp only;omega) _));have N7:=qh (show Row3 V nb (.int .i64 k) (.string s) (.slice (some ⟨g6,0,none⟩) (acc.length+1) cap6)by rw[<-hV];exact N6.out.put2 _);have R7:=qh (show Row3 V w.heap.size (.int .i64 0) (.string ⟨#[]⟩) (.slice none 0 0)by rw[<-hV];exact R6.out.other _ (by simp only;omega));have K7:=qh (show Kids (nb+1) V (.slice (some ⟨g6,0,none⟩) (acc.length+1) cap6) (acc++[.mk k2 s2 l2])by rw[<-hV];exact K6.keep fun b hb1 _=>Below.heap_setCell _ _ _ _ (by simp only;omega));have P7:=qh (M7.out.ps HP.out hq5);have z7:=qh (show nb+1<=V.heap.size by rw[<-hV,qs];exact hz6);have Hm7:=qh P7.out.nxt;rw[hV];clear hV hn5 hm5 hm5' hq5 N5 R5 N6 R6 K6 G6 M6 c0 c1 c2 y0 y1 y2 d0 d1 d2 z0 z1 z2 n0 n1 n2 g0 g1 g2 l5 hg6 hown K5 DB
     go_wp2_with fail
     go_roundw
     case rel=>exact⟨f2,p1,acc++[Nd.mk k2 s2 l2],_,by have:=Hp1.out;omega,by omega,by have:=Hp1.out;omega,by have:=Hp1.out;simp;omega,HA',M7,P7,R7,N7,K7,z7⟩
     case measure=>rw[Hm7.out,Hmeas.out];have:=Hp1.out;omega
def KidsS(S:Nat->Prop)(w:World)(v:Value)(l:List Nd):Prop :=
 ∃ xs,w.ownsRow 0 25 3 v l.length xs/\(∀ g,v.ownBlock=some g->S g)/\∀ i (hi:i < l.length),∃ v0 v1 v2,xs[i*3]?=some v0/\xs[i*3+1]?=some v1/\xs[i*3+2]?=some v2/\NdS (fun b=>S b/\v.ownBlock≠some b) w l[i] v0 v1 v2
theorem Kids.toS{h:Nat}{w:World}{v:Value}{l:List Nd}(hk:Kids h w v l):KidsS (fun b=>h<=b/\b < w.heap.size) w v l:=by
 have ho:=hk.own;obtain⟨xs,h1,h2⟩:=hk;refine⟨xs,ju h1 (qv _),ho,fun i hi=>?_⟩;obtain⟨v0,v1,v2,e0,e1,e2,hn⟩:=h2 i hi;exact⟨v0,v1,v2,e0,e1,e2,hn.mono fun b hb hl=>⟨⟨hb.1,hl⟩,hb.2⟩⟩
theorem KidsS.keep{S S':Nat->Prop}{w w':World}{v:Value}{l:List Nd}(hk:KidsS S w v l)(he:∀ b,S b->b < w.heap.size->w'.heap[b]?=w.heap[b]?/\S' b):KidsS S' w' v l:=by
 obtain⟨xs,h1,h2,h3⟩:=hk;refine⟨xs,x6 h1 fun k _ hl ho=>(he k (h2 k ho) hl).1,fun g hg=>(he g (h2 g hg) (h1.lt g hg).2).2,fun i hi=>?_⟩;obtain⟨v0,v1,v2,e0,e1,e2,hn⟩:=h3 i hi;exact⟨v0,v1,v2,e0,e1,e2,hn.keep fun b hb hl=>⟨(he b hb.1 hl).1,(he b hb.1 hl).2,hb.2⟩⟩
theorem KidsS.base0{S:Nat->Prop}{w:World}{v:Value}{l:List Nd}(hk:KidsS S w v l):Kids 0 w v l:=by
 obtain⟨xs,h1,h2,h3⟩:=hk;refine⟨xs,h1,fun i hi=>?_⟩;obtain⟨v0,v1,v2,e0,e1,e2,hn⟩:=h3 i hi;exact⟨v0,v1,v2,e0,e1,e2,hn.mono fun b hb _=>⟨qv _,hb.2⟩⟩
theorem KidsS.node{S:Nat->Prop}{w:World}{v:Value}{l:List Nd}(hk:KidsS S w v l)(k:Int)(s:ByteArray)(hs:s.size<=maxLen)(hl:l.length<=maxLen):NdS S w (.mk k s l) (.int .i64 k) (.string s) v:=by
 obtain⟨xs,h1,hS,h2⟩:=hk;rcases h1.2 with ⟨rfl,h0⟩|⟨g,cap,cur,rfl,hg,hh,hle,_,_,htake⟩
 ·obtain rfl:l=[]:=List.eq_nil_of_length_eq_zero h0
  exact .leaf _ _ _ _ hs _ _
 ·have hx:∀ j u,xs[j]?=some u->w.cell? ⟨g,j,none⟩=some u:=fun j u hj=>by
   have:=h1.cells (g:=g) rfl j u hj;have hadd:(⟨g,0,none⟩:Addr).add j=⟨g,j,none⟩:=by unfold Addr.add;split <;> simp_all
   rwa [hadd]at this
  refine .mk k s l (some ⟨g,0,none⟩) cap g 0 (fun i=>(xs[i*3]?).getD undef) (fun i=>(xs[i*3+1]?).getD undef) (fun i=>(xs[i*3+2]?).getD undef) hs hl hle (fun _=>rfl) (fun _=>hS g rfl) ?_ ?_ ?_ ?_
  ·intro i hi
   obtain⟨v0,v1,v2,e0,e1,e2,hn⟩:=h2 i hi;rw[Nat.zero_add,e0];exact hx _ _ e0
  ·intro i hi
   obtain⟨v0,v1,v2,e0,e1,e2,hn⟩:=h2 i hi;rw[Nat.zero_add,e1];exact hx _ _ e1
  ·intro i hi
   obtain⟨v0,v1,v2,e0,e1,e2,hn⟩:=h2 i hi;rw[Nat.zero_add,e2];exact hx _ _ e2
  ·intro i hi
   obtain⟨v0,v1,v2,e0,e1,e2,hn⟩:=h2 i hi;simp only[e0,e1,e2,Option.getD_some];exact hn.mono fun b hb _=>hb.1
theorem KidsS.snoc{S:Nat->Prop}{w w':World}{v:Value}{l:List Nd}{xs:List Value}{v0 v1 v2:Value}{x:Nd}{g cap:Nat}
  (h1:w.ownsRow 0 25 3 v l.length xs) (h2:∀ i (hi:i < l.length),∃ v0 v1 v2,xs[i*3]?=some v0/\xs[i*3+1]?=some v1/\xs[i*3+2]?=some v2/\NdS (fun b=>S b/\v.ownBlock≠some b) w l[i] v0 v1 v2)
  (hS:∀ g,v.ownBlock=some g->S g) (hx:NdS (fun b=>S b/\v.ownBlock≠some b) w x v0 v1 v2)
  (ho:w'.ownsRow 0 25 3 (.slice (some ⟨g,0,none⟩) (l.length+1) cap) (l.length+1) (xs++[v0,v1,v2])) (hg:w.grownBy w' v.ownBlock) (hw:v.ownBlock=some g\/g=w.heap.size) (hSn:S w.heap.size) :
  KidsS S w' (.slice (some ⟨g,0,none⟩) (l.length+1) cap) (l++[x]):=by
 have hk:∀ b,(S b/\v.ownBlock≠some b)->b < w.heap.size->w'.heap[b]?=w.heap[b]?/\(S b/\(Value.slice (some ⟨g,0,none⟩) (l.length+1) cap).ownBlock≠some b):=by
  rintro b⟨hb1,hb2⟩hb3;refine⟨hg.block b hb3 (fun e=>hb2 e.symm),hb1,?_⟩;intro e;have e':g=b:=by simpa[Value.ownBlock]using e
  rcases hw with hw|hw
  ·exact hb2 (by rw[hw,e'])
  ·omega
 have hxl:xs.length=l.length*3:=h1.1;refine⟨xs++[v0,v1,v2],by rw[qg];exact ho,fun g' hg'=>?_,fun i hi=>?_⟩
 ·have e':g=g':=by simpa[Value.ownBlock]using hg'
  rcases hw with hw|hw
  ·exact hS g' (by rw[hw,e'])
  ·rw[<-e',hw];exact hSn
 by_cases hlt:i < l.length
 ·obtain⟨u0,u1,u2,e0,e1,e2,hn⟩:=h2 i hlt
  refine⟨u0,u1,u2,?_,?_,?_,?_⟩
  ·rw[List.getElem?_append_left (by omega)];exact e0
  ·rw[List.getElem?_append_left (by omega)];exact e1
  ·rw[List.getElem?_append_left (by omega)];exact e2
  ·rw[List.getElem_append_left hlt]
   exact hn.keep hk
 ·have hi':i=l.length:=by simp only[qg,List.length_singleton]at hi;omega
  subst hi';refine⟨v0,v1,v2,?_,?_,?_,?_⟩
  ·rw[List.getElem?_append_right (by omega),show l.length*3 - xs.length=0 from by omega];rfl
  ·rw[List.getElem?_append_right (by omega),show l.length*3+1 - xs.length=1 from by omega];rfl
  ·rw[List.getElem?_append_right (by omega),show l.length*3+2 - xs.length=2 from by omega];rfl
  ·simp only[List.getElem_append_right (q9 _),Nat.sub_self,zk]
   exact hx.keep hk
section
variable {ops:Array Oper} {rest:List Oper} {o:Oper} {a:Act} {Q:Exit->Act->World->Prop} {w:World}
theorem q2f{K:Act->World->Prop}{Ex:Prop}(hgd:o.guard=none)(s x:Operand)
  (ho:o.op = .call { callee:=.builtin .append,args:=#[s,x],argTypes:=#[23,23] })
  (S:Nat->Prop) (v:Value) (l:List Nd) (hs:a.eval s=v) (hk:KidsS S w v l) (ad:Addr) (c:Nat) (hx:a.eval x = .slice (some ad) 1 c) (t:Nd) (v0 v1 v2:Value)
  (hnews:∀ j u,[v0,v1,v2][j]?=some u->w.cell? (ad.add j)=some u) (hn:NdS (fun b=>S b/\v.ownBlock≠some b) w t v0 v1 v2) (hlen:l.length<=1000000) (hSn:S w.heap.size)
  (hK:∀ g cap w',KidsS S w' (.slice (some ⟨g,0,none⟩) (l.length+1) cap) (l++[t])->w.grownBy w' v.ownBlock->g < w'.heap.size->K (a.put o.dst (.slice (some ⟨g,0,none⟩) (l.length+1) cap)) w') :
  if Region.wanted o (yielded ops a.tmps)=true then Oper.wp Tryz.prog o a w K Q else Ex:=by
 obtain⟨i0,hi0,hz0,hz1,hz2⟩:=info_parts q2p;obtain⟨xs,h1,hS,h2⟩:=hk;refine step_append_lies w hgd s x 23 ho 0 25 i0 _ 3 48 Tryz.underlying23 hi0 hz0 hz1 hz2 rfl (by decide) v l.length xs hs h1 ad 1 c [v0,v1,v2] hx rfl hnews hn.ones (by decide) (by unfold maxLen;omega) (by omega) (qv _) _ rfl ?_;intro g cap w' h3 h4 h5 h6;exact hK g cap w' (KidsS.snoc h1 h2 hS hn h3 h4 h5 hSn) h4 h6
end
theorem qis(E:PE)(q:Nat)(w:World)(h:PS E q w)(k:Int)(hk:Sx.knd E.ts q=1)(hc:Sx.txt E.ts (q+1)≠[58]) :
  Calls Tryz.prog 135 #[.pointer (some ⟨E.pb,0,none⟩),.int .i64 k] w (Gr E w (.bad (q+1))):=by
 have HP:=qh h;have hpl:=h.lt;have hfew:=h.g.few;have T2:=qh (fun w h=>q05 E (q+1) ⟨#[58]⟩ w h hc);have T1:=qh (fun w h=>q4e E q w h k hk);have Hsz:=qh (q1c E h.g q);generalize Sx.str (Sx.txt E.ts q)=s at *;have B0:=qh ((Below.refl w.heap.size w).alloc (q9 _) (.cells #[.int .i64 0,.string ⟨#[]⟩,.slice none 0 0] 25));have R0:=qh (Row3.new w (.int .i64 0) (.string ⟨#[]⟩) (.slice none 0 0));clear h hk hc;obtain⟨R,hR⟩:∃ R,Gr E w (.bad (q+1))=R:=⟨_,rfl⟩;have HR:=qh hR;rw[hR];clear hR;go_enter Tryz.func135,Tryz.ntmps135
 go_wp2_with fail
 refine(T1.out _ (HP.out.later B0.out)).mono ?_;rintro e u1⟨rfl,hm,hp⟩;have KS0:KidsS (fun b=>w.heap.size < b/\b < u1.heap.size) u1 (.slice none 0 0) []:=⟨[],World.ownsRow_nil _ _ _ _,fun g hg=>(by cases hg),fun i hi=>absurd hi (Nat.not_lt_zero i)⟩;have hp1:=hp;obtain⟨nb,hnb⟩:∃ nb,u1.heap.size=nb:=⟨_,rfl⟩;have hwn:w.heap.size < nb:=by rw[<-hnb];exact(R0.out.mv hm (by omega)).lt
 have M:=qh ((Mv.before HP.out B0.out hm).alloc (.cells #[.int .i64 k,.string s,(.slice none 0 0)] 25));have P:=qh (hp1.later ((Below.refl _ u1).alloc (q9 _) (.cells #[.int .i64 k,.string s,(.slice none 0 0)] 25)));have Rw:=qh ((R0.out.mv hm (by omega)).alloc (.cells #[.int .i64 k,.string s,(.slice none 0 0)] 25));have Nw:=qh (Row3.newAt (W:=u1) (n:=nb) (v0:=.int .i64 k) (v1:=.string s) (v2:=(.slice none 0 0)) hnb.symm);have KS:=qh (KS0.keep (S':=fun b=>w.heap.size < b/\b≠nb) (w':=u1.alloc (.cells #[.int .i64 k,.string s,(.slice none 0 0)] 25)) fun b h1 h2=>⟨Below.heap_alloc _ _ _ h2,h1.1,by have:=h1.2;omega⟩);have hz:nb+1<=(u1.alloc (.cells #[.int .i64 k,.string s,(.slice none 0 0)] 25)).heap.size:=by simp;omega
 have Hz:=qh hz;clear hm hp1 KS0 hz hp
 go_wp2_with fail
 refine(T2.out _ P.out).mono ?_;rintro e u4⟨rfl,hb⟩;have M4:=M.out.later (hb.mono M.out.size);go_wp2;rw[<-HR.out];exact⟨rfl,rfl,M4,P.out.le⟩
theorem qit(E:PE)(q:Nat)(w:World)(h:PS E q w)(k:Int)(hk:Sx.knd E.ts q=1)(hc:Sx.txt E.ts (q+1)=[58])(qb:Nat)(CB:∀ w0,PS E ((q+1)+1) w0->Calls Tryz.prog 42 #[.pointer (some ⟨E.pb,0,none⟩)] w0 (Gr E w0 (.bad qb))) :
  Calls Tryz.prog 135 #[.pointer (some ⟨E.pb,0,none⟩),.int .i64 k] w (Gr E w (.bad qb)):=by
 have HP:=qh h;have hpl:=h.lt;have hfew:=h.g.few;have T2:=qh (fun w h=>kh E (q+1) ⟨#[58]⟩ w h hc (by decide));have D2:=qh CB;have T1:=qh (fun w h=>q4e E q w h k hk);have Hsz:=qh (q1c E h.g q);generalize Sx.str (Sx.txt E.ts q)=s at *;have B0:=qh ((Below.refl w.heap.size w).alloc (q9 _) (.cells #[.int .i64 0,.string ⟨#[]⟩,.slice none 0 0] 25));have R0:=qh (Row3.new w (.int .i64 0) (.string ⟨#[]⟩) (.slice none 0 0));clear h hk hc CB;obtain⟨R,hR⟩:∃ R,Gr E w (.bad qb)=R:=⟨_,rfl⟩;have HR:=qh hR;rw[hR];clear hR;go_enter Tryz.func135,Tryz.ntmps135
 go_wp2_with fail
 refine(T1.out _ (HP.out.later B0.out)).mono ?_;rintro e u1⟨rfl,hm,hp⟩;have KS0:KidsS (fun b=>w.heap.size < b/\b < u1.heap.size) u1 (.slice none 0 0) []:=⟨[],World.ownsRow_nil _ _ _ _,fun g hg=>(by cases hg),fun i hi=>absurd hi (Nat.not_lt_zero i)⟩;have hp1:=hp;obtain⟨nb,hnb⟩:∃ nb,u1.heap.size=nb:=⟨_,rfl⟩;have hwn:w.heap.size < nb:=by rw[<-hnb];exact(R0.out.mv hm (by omega)).lt
 have M:=qh ((Mv.before HP.out B0.out hm).alloc (.cells #[.int .i64 k,.string s,(.slice none 0 0)] 25));have P:=qh (hp1.later ((Below.refl _ u1).alloc (q9 _) (.cells #[.int .i64 k,.string s,(.slice none 0 0)] 25)));have Rw:=qh ((R0.out.mv hm (by omega)).alloc (.cells #[.int .i64 k,.string s,(.slice none 0 0)] 25));have Nw:=qh (Row3.newAt (W:=u1) (n:=nb) (v0:=.int .i64 k) (v1:=.string s) (v2:=(.slice none 0 0)) hnb.symm);have KS:=qh (KS0.keep (S':=fun b=>w.heap.size < b/\b≠nb) (w':=u1.alloc (.cells #[.int .i64 k,.string s,(.slice none 0 0)] 25)) fun b h1 h2=>⟨Below.heap_alloc _ _ _ h2,h1.1,by have:=h1.2;omega⟩);have hz:nb+1<=(u1.alloc (.cells #[.int .i64 k,.string s,(.slice none 0 0)] 25)).heap.size:=by simp;omega
 have Hz:=qh hz;clear hm hp1 KS0 hz hp
 go_wp2_with fail
 refine(T2.out _ P.out).mono ?_;rintro e u4⟨rfl,hm,hp⟩;have hz4:nb+1<=u4.heap.size:=qo Hz.out hm.size;have M4:=qh (Mv.trans HP.out M.out P.out.le hm);have P4:=qh hp;have R4:=qh (Rw.out.mv hm (by omega));have N4:=qh (Nw.out.mv hm (by omega));have K4:=qh (KS.out.keep (S':=fun b=>w.heap.size < b/\b≠nb) (w':=u4) fun b h1 h2=>⟨hm.blk b h2 (by omega),h1⟩);obtain⟨⟨m0,m1,m2⟩,f0,f1,f2⟩:=N4.out.cells;have ln:=N4.out.lt;clear hm hp
 have F:Hid (∀ w5,Mv E qb u4.drew w5->qb<=E.ts.length->R (.panicked [{ v:=je E qb,recovered:=false }]) w5):=qh fun w5 hm5 hq5=>by
  rw[<-HR.out];exact⟨rfl,Mv.trans HP.out (M4.out.later (below_drewN (Below.refl _ _) 1)) P4.out.le hm5,hq5⟩
 go_wp2_with fail
 go_region_dies
 all_goals refine(D2.out _ (P4.out.later (Below.refl _ _).drew)).mono ?_
 all_goals rintro e w5 ⟨rfl,hm5,hq5⟩
 all_goals exact⟨rfl,F.out w5 hm5 hq5⟩
theorem qir(E:PE)(q:Nat)(w:World)(h:PS E q w)(k:Int)(hk:Sx.knd E.ts q=1)(hc:Sx.txt E.ts (q+1)=[58])(k2:Int)(s2:ByteArray)(l2:List Nd)(qb:Nat)(CB:∀ w0,PS E ((q+1)+1) w0->Calls Tryz.prog 42 #[.pointer (some ⟨E.pb,0,none⟩)] w0 (Gr E w0 (.ok (.mk k2 s2 l2) qb))) :
  Calls Tryz.prog 135 #[.pointer (some ⟨E.pb,0,none⟩),.int .i64 k] w (Gr E w (.ok (.mk k (Sx.str (Sx.txt E.ts q)) (([]:List Nd)++[.mk k2 s2 l2])) qb)):=by
 have HP:=qh h;have hpl:=h.lt;have hfew:=h.g.few;have T2:=qh (fun w h=>kh E (q+1) ⟨#[58]⟩ w h hc (by decide));have D2:=qh CB;have T1:=qh (fun w h=>q4e E q w h k hk);have Hsz:=qh (q1c E h.g q);generalize Sx.str (Sx.txt E.ts q)=s at *;have B0:=qh ((Below.refl w.heap.size w).alloc (q9 _) (.cells #[.int .i64 0,.string ⟨#[]⟩,.slice none 0 0] 25));have R0:=qh (Row3.new w (.int .i64 0) (.string ⟨#[]⟩) (.slice none 0 0));clear h hk hc CB;obtain⟨R,hR⟩:∃ R,Gr E w (.ok (.mk k s (([]:List Nd)++[.mk k2 s2 l2])) qb)=R:=⟨_,rfl⟩;have HR:=qh hR;rw[hR];clear hR;go_enter Tryz.func135,Tryz.ntmps135
 go_wp2_with fail
 refine(T1.out _ (HP.out.later B0.out)).mono ?_;rintro e u1⟨rfl,hm,hp⟩;have KS0:KidsS (fun b=>w.heap.size < b/\b < u1.heap.size) u1 (.slice none 0 0) []:=⟨[],World.ownsRow_nil _ _ _ _,fun g hg=>(by cases hg),fun i hi=>absurd hi (Nat.not_lt_zero i)⟩;have hp1:=hp;obtain⟨nb,hnb⟩:∃ nb,u1.heap.size=nb:=⟨_,rfl⟩;have hwn:w.heap.size < nb:=by rw[<-hnb];exact(R0.out.mv hm (by omega)).lt
 have M:=qh ((Mv.before HP.out B0.out hm).alloc (.cells #[.int .i64 k,.string s,(.slice none 0 0)] 25));have P:=qh (hp1.later ((Below.refl _ u1).alloc (q9 _) (.cells #[.int .i64 k,.string s,(.slice none 0 0)] 25)));have Rw:=qh ((R0.out.mv hm (by omega)).alloc (.cells #[.int .i64 k,.string s,(.slice none 0 0)] 25));have Nw:=qh (Row3.newAt (W:=u1) (n:=nb) (v0:=.int .i64 k) (v1:=.string s) (v2:=(.slice none 0 0)) hnb.symm);have KS:=qh (KS0.keep (S':=fun b=>w.heap.size < b/\b≠nb) (w':=u1.alloc (.cells #[.int .i64 k,.string s,(.slice none 0 0)] 25)) fun b h1 h2=>⟨Below.heap_alloc _ _ _ h2,h1.1,by have:=h1.2;omega⟩);have hz:nb+1<=(u1.alloc (.cells #[.int .i64 k,.string s,(.slice none 0 0)] 25)).heap.size:=by simp;omega
 have Hz:=qh hz;clear hm hp1 KS0 hz hp
 go_wp2_with fail
 refine(T2.out _ P.out).mono ?_;rintro e u4⟨rfl,hm,hp⟩;have hz4:nb+1<=u4.heap.size:=qo Hz.out hm.size;have M4:=qh (Mv.trans HP.out M.out P.out.le hm);have P4:=qh hp;have R4:=qh (Rw.out.mv hm (by omega));have N4:=qh (Nw.out.mv hm (by omega));have K4:=qh (KS.out.keep (S':=fun b=>w.heap.size < b/\b≠nb) (w':=u4) fun b h1 h2=>⟨hm.blk b h2 (by omega),h1⟩);obtain⟨⟨m0,m1,m2⟩,f0,f1,f2⟩:=N4.out.cells;have ln:=N4.out.lt;clear hm hp
 go_wp2_with fail
 go_region_law (first
  |(go_simp;go_at_call 42;refine(D2.out _ (P4.out.later (Below.refl _ _).drew)).mono ?_;rintro e w5 ⟨⟨a5,cap5,rfl,hn5⟩,hm5,hq5⟩;have hm5':=Mv.before P4.out (Below.refl _ _).drew hm5;have N5:=qh (N4.out.mv hm5' (by omega));have R5:=qh (R4.out.mv hm5' (by omega));have K5:=qh (K4.out.keep (S':=fun b=>w.heap.size < b/\b≠nb) (w':=w5) fun b h1 h2=>⟨hm5'.blk b h2 (by omega),h1⟩);have hz5:nb+1<=w5.heap.size:=qo hz4 hm5'.size;obtain⟨⟨c0,c1,c2⟩,y0,y1,y2⟩:=N5.out.cells;have l5:=N5.out.lt)
  |(refine q2f rfl _ _ rfl (fun b=>w.heap.size < b/\b≠nb) (.slice none 0 0) ([]:List Nd) rfl (K5.out.keep fun b h1 hb2=>⟨Below.heap_alloc _ _ _ hb2,h1⟩) ⟨w5.heap.size,0,none⟩ 1 (by rfl) (.mk k2 s2 l2) (.int .i64 k2) (.string s2) (.slice a5 l2.length cap5) (xu w5 _ _ _ _ _ rfl) (hn5.keep (fun b hb1 hb2=>by have hb1':u4.heap.size<=b:=hb1;exact⟨Below.heap_alloc _ _ _ hb2,⟨by omega,by omega⟩,fun e=>by have:=(K4.out.base0).own b e;omega⟩)) (by first|omega|simp) (by simp;omega) ?_;intro g6 cap6 w6 K6 G6 hg6;have hown:∀ g,(Value.slice none 0 0).ownBlock=some g\/((.slice none 0 0):Value).ownBlock=some g->w.heap.size < g/\g≠nb:=(fun g hg=>by obtain⟨_,_,hS,_⟩:=K5.out;rcases hg with hg|hg <;> first|exact hS g hg|cases hg);have N6:=qh ((N5.out.alloc _).grown' G6 (fun e=>by have:=(hown _ (.inr e.symm)).2;omega));have R6:=qh ((R5.out.alloc _).grown' G6 (fun e=>by have:=(hown _ (.inr e.symm)).1;omega));obtain⟨⟨d0,d1,d2⟩,z0,z1,z2⟩:=N6.out.cells))
 all_goals
  have hz6:nb+1<=w6.heap.size:=by have:=G6.size;simp at this;omega
  have M6:=Mv.later (Mv.trans HP.out M4.out P4.out.le hm5') ((((Below.refl w.heap.size w5).alloc (by omega) (.cells #[.int .i64 k2,.string s2,.slice a5 l2.length cap5] 25)).grown G6 (by simp;omega) (fun b hb=>by have:=(hown b (.inr hb)).1;omega)));obtain⟨V,hV⟩:∃ V,w6.setCell ⟨nb,2,none⟩ (.slice (some ⟨g6,0,none⟩) (([]:List Nd).length+1) cap6)=V:=⟨_,rfl⟩;have M7:=qh (show Mv E qb w V by rw[<-hV];exact M6.later ((Below.refl w.heap.size w6).setCell (p:=⟨nb,2,none⟩) (by simp only;omega) _));have N7:=qh (show Row3 V nb (.int .i64 k) (.string s) (.slice (some ⟨g6,0,none⟩) (([]:List Nd).length+1) cap6)by rw[<-hV];exact N6.out.put2 _);have R7:=qh (show Row3 V w.heap.size (.int .i64 0) (.string ⟨#[]⟩) (.slice none 0 0)by rw[<-hV];exact R6.out.other _ (by simp only;omega));have ND:=qh ((K6.node k s Hsz.out (by unfold maxLen;simp;try omega)).keep (S':=fun b=>w.heap.size<=b) (w':=((V.setCell ⟨w.heap.size,0,none⟩ (.int .i64 k)).setCell ⟨w.heap.size,1,none⟩ (.string s)).setCell ⟨w.heap.size,2,none⟩ (.slice (some ⟨g6,0,none⟩) (([]:List Nd).length+1) cap6)) fun b h1 h2=>⟨(((Kp.refl (w.heap.size+1) V).put3 (b:=w.heap.size) _ _ _ (by omega)).blk b (by omega) (by rw[<-hV,qs];exact h2)).trans (by rw[<-hV];exact Below.heap_setCell _ _ _ _ h1.2),by omega⟩);have Q7:=qh hq5
  try simp only[qz,Nat.zero_add]at hV N7 ND
  rw[hV];clear hV hn5 hm5 hm5' hq5 N5 R5 N6 R6 K6 G6 M6 c0 c1 c2 y0 y1 y2 l5 d0 d1 d2 z0 z1 z2 m0 m1 m2 f0 f1 f2 ln hg6 hown K5;obtain⟨⟨n0,n1,n2⟩,_⟩:=N7.out.cells;obtain⟨⟨r0,r1,r2⟩,g0,g1,g2⟩:=R7.out.cells;have ln:=N7.out.lt;have lr:=R7.out.lt;go_wp2;refine zh (R7.out.put _ _ _) Tryz.results135 rfl rfl ?_;rw[<-HR.out];exact⟨⟨_,_,rfl,ND.out⟩,M7.out.put3 (q9 _) _ _ _,Q7.out⟩
theorem qc2(E:PE)(q:Nat)(w:World)(h:PS E q w)(k:Int)(f:Nat)(hf:16*(E.ts.length - q)+1<=f)(l:List Nd)(q1:Nat)(hnm:Sx.names E.ts f q = .ok l q1)(hc:Sx.txt E.ts q1≠[58]) :
  Calls Tryz.prog 132 #[.pointer (some ⟨E.pb,0,none⟩),.int .i64 k] w (Gr E w (.bad q1)):=by
 have HP:=qh h;have hpl:=h.lt;have hfew:=h.g.few;have T2:=qh (fun w h=>q05 E q1 ⟨#[58]⟩ w h hc);have T1:=qh (fun w h=>q06 E q w h k f hf);rw[hnm]at T1;have Hsz:Hid (Sx.noS.size<=maxLen):=qh (by unfold maxLen;decide);have B0:=qh ((Below.refl w.heap.size w).alloc (q9 _) (.cells #[.int .i64 0,.string ⟨#[]⟩,.slice none 0 0] 25));have R0:=qh (Row3.new w (.int .i64 0) (.string ⟨#[]⟩) (.slice none 0 0));clear h hf hnm hc;obtain⟨R,hR⟩:∃ R,Gr E w (.bad q1)=R:=⟨_,rfl⟩;have HR:=qh hR;rw[hR];clear hR;go_enter Tryz.func132,Tryz.ntmps132
 go_wp2_with fail
 refine(T1.out _ (HP.out.later B0.out)).mono ?_;rintro e u1⟨⟨v1,rfl,hk1⟩,hm,hq1,hl1⟩;obtain⟨va,vcap,rfl,_⟩:=hk1.shape;have KS0:KidsS (fun b=>w.heap.size < b/\b < u1.heap.size) u1 (.slice va l.length vcap) l:=hk1.toS.keep fun b h1 _=>⟨rfl,by have:=h1.1;simp at this;omega,h1.2⟩
 have hp1:=(Mv.before HP.out B0.out hm).ps HP.out hq1;obtain⟨nb,hnb⟩:∃ nb,u1.heap.size=nb:=⟨_,rfl⟩;have hwn:w.heap.size < nb:=by rw[<-hnb];exact(R0.out.mv hm (by omega)).lt
 have M:=qh ((Mv.before HP.out B0.out hm).alloc (.cells #[.int .i64 k,.string ⟨#[]⟩,(.slice va l.length vcap)] 25));have P:=qh (hp1.later ((Below.refl _ u1).alloc (q9 _) (.cells #[.int .i64 k,.string ⟨#[]⟩,(.slice va l.length vcap)] 25)));have Rw:=qh ((R0.out.mv hm (by omega)).alloc (.cells #[.int .i64 k,.string ⟨#[]⟩,(.slice va l.length vcap)] 25));have Nw:=qh (Row3.newAt (W:=u1) (n:=nb) (v0:=.int .i64 k) (v1:=.string ⟨#[]⟩) (v2:=(.slice va l.length vcap)) hnb.symm);have KS:=qh (KS0.keep (S':=fun b=>w.heap.size < b/\b≠nb) (w':=u1.alloc (.cells #[.int .i64 k,.string ⟨#[]⟩,(.slice va l.length vcap)] 25)) fun b h1 h2=>⟨Below.heap_alloc _ _ _ h2,h1.1,by have:=h1.2;omega⟩);have hz:nb+1<=(u1.alloc (.cells #[.int .i64 k,.string ⟨#[]⟩,(.slice va l.length vcap)] 25)).heap.size:=by simp;omega
 have Hz:=qh hz;clear hm hp1 KS0 hz hk1
 go_wp2_with fail
 refine(T2.out _ P.out).mono ?_;rintro e u4⟨rfl,hb⟩;have M4:=M.out.later (hb.mono M.out.size);go_wp2;rw[<-HR.out];exact⟨rfl,rfl,M4,P.out.le⟩
theorem qc3(E:PE)(q:Nat)(w:World)(h:PS E q w)(k:Int)(f:Nat)(hf:16*(E.ts.length - q)+1<=f)(l:List Nd)(q1:Nat)(hnm:Sx.names E.ts f q = .ok l q1)(hc:Sx.txt E.ts q1=[58])(qb:Nat)(CB:∀ w0,PS E (q1+1) w0->Calls Tryz.prog 44 #[.pointer (some ⟨E.pb,0,none⟩)] w0 (Gr E w0 (.bad qb))) :
  Calls Tryz.prog 132 #[.pointer (some ⟨E.pb,0,none⟩),.int .i64 k] w (Gr E w (.bad qb)):=by
 have HP:=qh h;have hpl:=h.lt;have hfew:=h.g.few;have T2:=qh (fun w h=>kh E q1 ⟨#[58]⟩ w h hc (by decide));have D2:=qh CB;have T1:=qh (fun w h=>q06 E q w h k f hf);rw[hnm]at T1;have Hsz:Hid (Sx.noS.size<=maxLen):=qh (by unfold maxLen;decide);have B0:=qh ((Below.refl w.heap.size w).alloc (q9 _) (.cells #[.int .i64 0,.string ⟨#[]⟩,.slice none 0 0] 25));have R0:=qh (Row3.new w (.int .i64 0) (.string ⟨#[]⟩) (.slice none 0 0));clear h hf hnm hc CB;obtain⟨R,hR⟩:∃ R,Gr E w (.bad qb)=R:=⟨_,rfl⟩;have HR:=qh hR;rw[hR];clear hR;go_enter Tryz.func132,Tryz.ntmps132
 go_wp2_with fail
 refine(T1.out _ (HP.out.later B0.out)).mono ?_;rintro e u1⟨⟨v1,rfl,hk1⟩,hm,hq1,hl1⟩;obtain⟨va,vcap,rfl,_⟩:=hk1.shape;have KS0:KidsS (fun b=>w.heap.size < b/\b < u1.heap.size) u1 (.slice va l.length vcap) l:=hk1.toS.keep fun b h1 _=>⟨rfl,by have:=h1.1;simp at this;omega,h1.2⟩
 have hp1:=(Mv.before HP.out B0.out hm).ps HP.out hq1;obtain⟨nb,hnb⟩:∃ nb,u1.heap.size=nb:=⟨_,rfl⟩;have hwn:w.heap.size < nb:=by rw[<-hnb];exact(R0.out.mv hm (by omega)).lt
 have M:=qh ((Mv.before HP.out B0.out hm).alloc (.cells #[.int .i64 k,.string ⟨#[]⟩,(.slice va l.length vcap)] 25));have P:=qh (hp1.later ((Below.refl _ u1).alloc (q9 _) (.cells #[.int .i64 k,.string ⟨#[]⟩,(.slice va l.length vcap)] 25)));have Rw:=qh ((R0.out.mv hm (by omega)).alloc (.cells #[.int .i64 k,.string ⟨#[]⟩,(.slice va l.length vcap)] 25));have Nw:=qh (Row3.newAt (W:=u1) (n:=nb) (v0:=.int .i64 k) (v1:=.string ⟨#[]⟩) (v2:=(.slice va l.length vcap)) hnb.symm);have KS:=qh (KS0.keep (S':=fun b=>w.heap.size < b/\b≠nb) (w':=u1.alloc (.cells #[.int .i64 k,.string ⟨#[]⟩,(.slice va l.length vcap)] 25)) fun b h1 h2=>⟨Below.heap_alloc _ _ _ h2,h1.1,by have:=h1.2;omega⟩);have hz:nb+1<=(u1.alloc (.cells #[.int .i64 k,.string ⟨#[]⟩,(.slice va l.length vcap)] 25)).heap.size:=by simp;omega
 have Hz:=qh hz;clear hm hp1 KS0 hz hk1
 go_wp2_with fail
 refine(T2.out _ P.out).mono ?_;rintro e u4⟨rfl,hm,hp⟩;have hz4:nb+1<=u4.heap.size:=qo Hz.out hm.size;have M4:=qh (Mv.trans HP.out M.out P.out.le hm);have P4:=qh hp;have R4:=qh (Rw.out.mv hm (by omega));have N4:=qh (Nw.out.mv hm (by omega));have K4:=qh (KS.out.keep (S':=fun b=>w.heap.size < b/\b≠nb) (w':=u4) fun b h1 h2=>⟨hm.blk b h2 (by omega),h1⟩);obtain⟨⟨m0,m1,m2⟩,f0,f1,f2⟩:=N4.out.cells;have ln:=N4.out.lt;clear hm hp
 have F:Hid (∀ w5,Mv E qb u4.drew w5->qb<=E.ts.length->R (.panicked [{ v:=je E qb,recovered:=false }]) w5):=qh fun w5 hm5 hq5=>by
  rw[<-HR.out];exact⟨rfl,Mv.trans HP.out (M4.out.later (below_drewN (Below.refl _ _) 1)) P4.out.le hm5,hq5⟩
 go_wp2_with fail
 go_region_dies
 all_goals refine(D2.out _ (P4.out.later (Below.refl _ _).drew)).mono ?_
 all_goals rintro e w5 ⟨rfl,hm5,hq5⟩
 all_goals exact⟨rfl,F.out w5 hm5 hq5⟩
theorem qc1(E:PE)(q:Nat)(w:World)(h:PS E q w)(k:Int)(f:Nat)(hf:16*(E.ts.length - q)+1<=f)(l:List Nd)(q1:Nat)(hnm:Sx.names E.ts f q = .ok l q1)(hc:Sx.txt E.ts q1=[58])(k2:Int)(s2:ByteArray)(l2:List Nd)(qb:Nat)(CB:∀ w0,PS E (q1+1) w0->Calls Tryz.prog 44 #[.pointer (some ⟨E.pb,0,none⟩)] w0 (Gr E w0 (.ok (.mk k2 s2 l2) qb))) :
  Calls Tryz.prog 132 #[.pointer (some ⟨E.pb,0,none⟩),.int .i64 k] w (Gr E w (.ok (.mk k Sx.noS (l++[.mk k2 s2 l2])) qb)):=by
 have HP:=qh h;have hpl:=h.lt;have hfew:=h.g.few;have T2:=qh (fun w h=>kh E q1 ⟨#[58]⟩ w h hc (by decide));have D2:=qh CB;have T1:=qh (fun w h=>q06 E q w h k f hf);rw[hnm]at T1;have Hsz:Hid (Sx.noS.size<=maxLen):=qh (by unfold maxLen;decide);have B0:=qh ((Below.refl w.heap.size w).alloc (q9 _) (.cells #[.int .i64 0,.string ⟨#[]⟩,.slice none 0 0] 25));have R0:=qh (Row3.new w (.int .i64 0) (.string ⟨#[]⟩) (.slice none 0 0));clear h hf hnm hc CB;obtain⟨R,hR⟩:∃ R,Gr E w (.ok (.mk k Sx.noS (l++[.mk k2 s2 l2])) qb)=R:=⟨_,rfl⟩;have HR:=qh hR;rw[hR];clear hR;go_enter Tryz.func132,Tryz.ntmps132
 go_wp2_with fail
 refine(T1.out _ (HP.out.later B0.out)).mono ?_;rintro e u1⟨⟨v1,rfl,hk1⟩,hm,hq1,hl1⟩;obtain⟨va,vcap,rfl,_⟩:=hk1.shape;have KS0:KidsS (fun b=>w.heap.size < b/\b < u1.heap.size) u1 (.slice va l.length vcap) l:=hk1.toS.keep fun b h1 _=>⟨rfl,by have:=h1.1;simp at this;omega,h1.2⟩
 have hp1:=(Mv.before HP.out B0.out hm).ps HP.out hq1;obtain⟨nb,hnb⟩:∃ nb,u1.heap.size=nb:=⟨_,rfl⟩;have hwn:w.heap.size < nb:=by rw[<-hnb];exact(R0.out.mv hm (by omega)).lt
 have M:=qh ((Mv.before HP.out B0.out hm).alloc (.cells #[.int .i64 k,.string ⟨#[]⟩,(.slice va l.length vcap)] 25));have P:=qh (hp1.later ((Below.refl _ u1).alloc (q9 _) (.cells #[.int .i64 k,.string ⟨#[]⟩,(.slice va l.length vcap)] 25)));have Rw:=qh ((R0.out.mv hm (by omega)).alloc (.cells #[.int .i64 k,.string ⟨#[]⟩,(.slice va l.length vcap)] 25));have Nw:=qh (Row3.newAt (W:=u1) (n:=nb) (v0:=.int .i64 k) (v1:=.string ⟨#[]⟩) (v2:=(.slice va l.length vcap)) hnb.symm);have KS:=qh (KS0.keep (S':=fun b=>w.heap.size < b/\b≠nb) (w':=u1.alloc (.cells #[.int .i64 k,.string ⟨#[]⟩,(.slice va l.length vcap)] 25)) fun b h1 h2=>⟨Below.heap_alloc _ _ _ h2,h1.1,by have:=h1.2;omega⟩);have hz:nb+1<=(u1.alloc (.cells #[.int .i64 k,.string ⟨#[]⟩,(.slice va l.length vcap)] 25)).heap.size:=by simp;omega
 have Hz:=qh hz;clear hm hp1 KS0 hz hk1
 go_wp2_with fail
 refine(T2.out _ P.out).mono ?_;rintro e u4⟨rfl,hm,hp⟩;have hz4:nb+1<=u4.heap.size:=qo Hz.out hm.size;have M4:=qh (Mv.trans HP.out M.out P.out.le hm);have P4:=qh hp;have R4:=qh (Rw.out.mv hm (by omega));have N4:=qh (Nw.out.mv hm (by omega));have K4:=qh (KS.out.keep (S':=fun b=>w.heap.size < b/\b≠nb) (w':=u4) fun b h1 h2=>⟨hm.blk b h2 (by omega),h1⟩);obtain⟨⟨m0,m1,m2⟩,f0,f1,f2⟩:=N4.out.cells;have ln:=N4.out.lt;clear hm hp
 go_wp2_with fail
 go_region_law (first
  |(go_simp;go_at_call 44;refine(D2.out _ (P4.out.later (Below.refl _ _).drew)).mono ?_;rintro e w5 ⟨⟨a5,cap5,rfl,hn5⟩,hm5,hq5⟩;have hm5':=Mv.before P4.out (Below.refl _ _).drew hm5;have N5:=qh (N4.out.mv hm5' (by omega));have R5:=qh (R4.out.mv hm5' (by omega));have K5:=qh (K4.out.keep (S':=fun b=>w.heap.size < b/\b≠nb) (w':=w5) fun b h1 h2=>⟨hm5'.blk b h2 (by omega),h1⟩);have hz5:nb+1<=w5.heap.size:=qo hz4 hm5'.size;obtain⟨⟨c0,c1,c2⟩,y0,y1,y2⟩:=N5.out.cells;have l5:=N5.out.lt)
  |(refine q2f rfl _ _ rfl (fun b=>w.heap.size < b/\b≠nb) (.slice va l.length vcap) l rfl (K5.out.keep fun b h1 hb2=>⟨Below.heap_alloc _ _ _ hb2,h1⟩) ⟨w5.heap.size,0,none⟩ 1 (by rfl) (.mk k2 s2 l2) (.int .i64 k2) (.string s2) (.slice a5 l2.length cap5) (xu w5 _ _ _ _ _ rfl) (hn5.keep (fun b hb1 hb2=>by have hb1':u4.heap.size<=b:=hb1;exact⟨Below.heap_alloc _ _ _ hb2,⟨by omega,by omega⟩,fun e=>by have:=(K4.out.base0).own b e;omega⟩)) (by first|omega|simp) (by simp;omega) ?_;intro g6 cap6 w6 K6 G6 hg6;have hown:∀ g,(Value.slice none 0 0).ownBlock=some g\/((.slice va l.length vcap):Value).ownBlock=some g->w.heap.size < g/\g≠nb:=(fun g hg=>by obtain⟨_,_,hS,_⟩:=K5.out;rcases hg with hg|hg <;> first|exact hS g hg|cases hg);have N6:=qh ((N5.out.alloc _).grown' G6 (fun e=>by have:=(hown _ (.inr e.symm)).2;omega));have R6:=qh ((R5.out.alloc _).grown' G6 (fun e=>by have:=(hown _ (.inr e.symm)).1;omega));obtain⟨⟨d0,d1,d2⟩,z0,z1,z2⟩:=N6.out.cells))
 all_goals
  have hz6:nb+1<=w6.heap.size:=by have:=G6.size;simp at this;omega
  have M6:=Mv.later (Mv.trans HP.out M4.out P4.out.le hm5') ((((Below.refl w.heap.size w5).alloc (by omega) (.cells #[.int .i64 k2,.string s2,.slice a5 l2.length cap5] 25)).grown G6 (by simp;omega) (fun b hb=>by have:=(hown b (.inr hb)).1;omega)));obtain⟨V,hV⟩:∃ V,w6.setCell ⟨nb,2,none⟩ (.slice (some ⟨g6,0,none⟩) (l.length+1) cap6)=V:=⟨_,rfl⟩;have M7:=qh (show Mv E qb w V by rw[<-hV];exact M6.later ((Below.refl w.heap.size w6).setCell (p:=⟨nb,2,none⟩) (by simp only;omega) _));have N7:=qh (show Row3 V nb (.int .i64 k) (.string ⟨#[]⟩) (.slice (some ⟨g6,0,none⟩) (l.length+1) cap6)by rw[<-hV];exact N6.out.put2 _);have R7:=qh (show Row3 V w.heap.size (.int .i64 0) (.string ⟨#[]⟩) (.slice none 0 0)by rw[<-hV];exact R6.out.other _ (by simp only;omega));have ND:=qh ((K6.node k ⟨#[]⟩ Hsz.out (by unfold maxLen;simp;try omega)).keep (S':=fun b=>w.heap.size<=b) (w':=((V.setCell ⟨w.heap.size,0,none⟩ (.int .i64 k)).setCell ⟨w.heap.size,1,none⟩ (.string ⟨#[]⟩)).setCell ⟨w.heap.size,2,none⟩ (.slice (some ⟨g6,0,none⟩) (l.length+1) cap6)) fun b h1 h2=>⟨(((Kp.refl (w.heap.size+1) V).put3 (b:=w.heap.size) _ _ _ (by omega)).blk b (by omega) (by rw[<-hV,qs];exact h2)).trans (by rw[<-hV];exact Below.heap_setCell _ _ _ _ h1.2),by omega⟩);have Q7:=qh hq5
  try simp only[qz,qr,Nat.zero_add,Nat.reduceAdd]at hV N7 ND
  rw[hV];clear hV hn5 hm5 hm5' hq5 N5 R5 N6 R6 K6 G6 M6 c0 c1 c2 y0 y1 y2 l5 d0 d1 d2 z0 z1 z2 m0 m1 m2 f0 f1 f2 ln hg6 hown K5;obtain⟨⟨n0,n1,n2⟩,_⟩:=N7.out.cells;obtain⟨⟨r0,r1,r2⟩,g0,g1,g2⟩:=R7.out.cells;have ln:=N7.out.lt;have lr:=R7.out.lt;go_wp2;refine zh (R7.out.put _ _ _) Tryz.results132 rfl rfl ?_;rw[<-HR.out];exact⟨⟨_,_,by simp only[qg,List.length_singleton];rfl,by simp only[qg,List.length_singleton];exact ND.out⟩,M7.out.put3 (q9 _) _ _ _,Q7.out⟩
attribute [local go_sem] jr jp jo
theorem q5e(E:PE)(q:Nat)(w:World)(h:PS E q w)(r:Sx.PR Nd)(k:Int)(C:∀ w0,PS E q w0->Calls Tryz.prog 188 #[.pointer (some ⟨E.pb,0,none⟩),.int .i64 k,.func (.func 148) #[.pointer (some ⟨E.pb,0,none⟩)] #[]] w0 (Gr E w0 r)) :
  Calls Tryz.prog 133 #[.pointer (some ⟨E.pb,0,none⟩),.int .i64 k] w (Gr E w r):=by
 have HP:=qh h;have hpl:=h.lt;have D:=qh C;have B0:=qh ((Below.refl w.heap.size w).alloc (q9 _) (.cells #[.int .i64 0,.string ⟨#[]⟩,.slice none 0 0] 25));have R0:=qh (Row3.new w (.int .i64 0) (.string ⟨#[]⟩) (.slice none 0 0));have hmf:∀ (fn:Fn) (first cap:Array Value) (w:World),(Instr.makeFunc fn first cap).run Tryz.prog w = .ok (.func fn first cap) w:=fun _ _ _ _=>rfl
 clear h C;obtain⟨R,hR⟩:∃ R,Gr E w r=R:=⟨_,rfl⟩;have HR:=qh hR;rw[hR];clear hR
 cases r with
 |bad q' =>
  go_enter Tryz.func133,Tryz.ntmps133
  go_wp2_with fail
  refine(D.out _ (HP.out.later B0.out)).mono ?_;rintro e w1⟨rfl,hm,hq⟩;go_wp2;rw[<-HR.out];exact⟨rfl,rfl,Mv.before HP.out B0.out hm,hq⟩
 |ok t q1 =>
  obtain⟨k1,s1,l1⟩:=t;go_enter Tryz.func133,Tryz.ntmps133
  go_wp2_with fail
  refine(D.out _ (HP.out.later B0.out)).mono ?_;rintro e w1⟨⟨a,cap,rfl,hn⟩,hm,hq⟩;have M1:=qh (Mv.before HP.out B0.out hm);have N1:=qh hn;have R1:=qh (R0.out.mv hm (by omega));have Hq:=qh hq;obtain⟨⟨n0,n1,n2⟩,g0,g1,g2⟩:=R1.out.cells;have lr:=R1.out.lt;clear hm hn hq;go_wp2;refine zh (R1.out.put _ _ _) Tryz.results133 rfl rfl ?_;rw[<-HR.out];exact⟨⟨a,cap,rfl,N1.out.fin (by simp) (by simpa using (Kp.refl (w.heap.size+1) w1).put3 (b:=w.heap.size) _ _ _ (by omega))⟩,M1.out.put3 (q9 _) _ _ _,Hq.out⟩
theorem qfo(E:PE)(q:Nat)(w:World)(h:PS E q w)(r:Sx.PR Nd)(k:Int)(C:∀ w0,PS E q w0->Calls Tryz.prog 188 #[.pointer (some ⟨E.pb,0,none⟩),.int .i64 k,.func (.func 187) #[.pointer (some ⟨E.pb,0,none⟩)] #[]] w0 (Gr E w0 r)) :
  Calls Tryz.prog 134 #[.pointer (some ⟨E.pb,0,none⟩),.int .i64 k] w (Gr E w r):=by
 have HP:=qh h;have hpl:=h.lt;have D:=qh C;have B0:=qh ((Below.refl w.heap.size w).alloc (q9 _) (.cells #[.int .i64 0,.string ⟨#[]⟩,.slice none 0 0] 25));have R0:=qh (Row3.new w (.int .i64 0) (.string ⟨#[]⟩) (.slice none 0 0));have hmf:∀ (fn:Fn) (first cap:Array Value) (w:World),(Instr.makeFunc fn first cap).run Tryz.prog w = .ok (.func fn first cap) w:=fun _ _ _ _=>rfl
 clear h C;obtain⟨R,hR⟩:∃ R,Gr E w r=R:=⟨_,rfl⟩;have HR:=qh hR;rw[hR];clear hR
 cases r with
 |bad q' =>
  go_enter Tryz.func134,Tryz.ntmps134
  go_wp2_with fail
  refine(D.out _ (HP.out.later B0.out)).mono ?_;rintro e w1⟨rfl,hm,hq⟩;go_wp2;rw[<-HR.out];exact⟨rfl,rfl,Mv.before HP.out B0.out hm,hq⟩
 |ok t q1 =>
  obtain⟨k1,s1,l1⟩:=t;go_enter Tryz.func134,Tryz.ntmps134
  go_wp2_with fail
  refine(D.out _ (HP.out.later B0.out)).mono ?_;rintro e w1⟨⟨a,cap,rfl,hn⟩,hm,hq⟩;have M1:=qh (Mv.before HP.out B0.out hm);have N1:=qh hn;have R1:=qh (R0.out.mv hm (by omega));have Hq:=qh hq;obtain⟨⟨n0,n1,n2⟩,g0,g1,g2⟩:=R1.out.cells;have lr:=R1.out.lt;clear hm hn hq;go_wp2;refine zh (R1.out.put _ _ _) Tryz.results134 rfl rfl ?_;rw[<-HR.out];exact⟨⟨a,cap,rfl,N1.out.fin (by simp) (by simpa using (Kp.refl (w.heap.size+1) w1).put3 (b:=w.heap.size) _ _ _ (by omega))⟩,M1.out.put3 (q9 _) _ _ _,Hq.out⟩
theorem q7d:∀ args w,(callFunc 148 args).run Tryz.prog w = .ok (.enter 148 args) w:=enters_of Tryz.func148 (by kernel_rfl) rfl
theorem qm7:∀ args w,(callFunc 187 args).run Tryz.prog w = .ok (.enter 187 args) w:=enters_of Tryz.func187 (by kernel_rfl) rfl
theorem qe9:∀ args w,(callFunc 131 args).run Tryz.prog w = .ok (.enter 131 args) w:=enters_of Tryz.func131 (by kernel_rfl) rfl
theorem qkl:∀ args w,(callFunc 132 args).run Tryz.prog w = .ok (.enter 132 args) w:=enters_of Tryz.func132 (by kernel_rfl) rfl
theorem qby:∀ args w,(callFunc 133 args).run Tryz.prog w = .ok (.enter 133 args) w:=enters_of Tryz.func133 (by kernel_rfl) rfl
theorem qm9:∀ args w,(callFunc 134 args).run Tryz.prog w = .ok (.enter 134 args) w:=enters_of Tryz.func134 (by kernel_rfl) rfl
theorem q4m:∀ args w,(callFunc 135 args).run Tryz.prog w = .ok (.enter 135 args) w:=enters_of Tryz.func135 (by kernel_rfl) rfl
theorem qea:∀ args w,(callFunc 136 args).run Tryz.prog w = .ok (.enter 136 args) w:=enters_of Tryz.func136 (by kernel_rfl) rfl
def vw(ts:List Lx.Tok):Nat->Nat->Sx.PR Nd:=fun f p=>Sx.simple ts f p
def q04(ts:List Lx.Tok):Nat->Nat->Sx.PR Nd:=fun _ p=>Sx.small ts p
def q2s(ts:List Lx.Tok)(f:Nat)(k:Int)(p:Nat):Sx.PR Nd :=
 match Sx.names ts f p with
 | .bad q=>.bad q
 | .ok l q=>if Sx.txt ts q=[58] then(match Sx.typed ts f (q+1)with
  | .bad r=>.bad r
  | .ok t r=>.ok (.mk k Sx.noS (l++[t])) r) else .bad q
def yv(ts:List Lx.Tok)(f:Nat)(k:Int)(p:Nat):Sx.PR Nd :=
 if Sx.knd ts p=1 then(if Sx.txt ts (p+1)=[58] then(match Sx.form ts f (p+1+1)with
  | .bad r=>.bad r
  | .ok t r=>.ok (.mk k (Sx.str (Sx.txt ts p)) ([]++[t])) r) else .bad (p+1)) else .bad p
def yz(rd:Nat->Nat->Sx.PR Nd)(ts:List Lx.Tok)(f:Nat)(k:Int)(p:Nat):Sx.PR Nd :=
 if Sx.knd ts p=1 then wy k (Sx.str (Sx.txt ts p)) (vd rd ts f [] (p+1)) else .bad p
def xi(ts:List Lx.Tok)(f:Nat)(q:Nat):Sx.PR Nd :=
 if Sx.kindOf (Sx.txt ts q)=2\/Sx.kindOf (Sx.txt ts q)=14 then wy (Sx.kindOf (Sx.txt ts q)) Sx.noS (Sx.names ts f (q+1))
 else if Sx.kindOf (Sx.txt ts q)=3 then q2s ts f 3 (q+1)
 else if Sx.kindOf (Sx.txt ts q)=4\/Sx.kindOf (Sx.txt ts q)=5\/Sx.kindOf (Sx.txt ts q)=6 then yz (vw ts) ts f (Sx.kindOf (Sx.txt ts q)) (q+1)
 else if Sx.kindOf (Sx.txt ts q)=7 then yz (q04 ts) ts f (Sx.kindOf (Sx.txt ts q)) (q+1)
 else if Sx.kindOf (Sx.txt ts q)=8\/Sx.kindOf (Sx.txt ts q)=9\/Sx.kindOf (Sx.txt ts q)=10\/Sx.kindOf (Sx.txt ts q)=11 then yv ts f (Sx.kindOf (Sx.txt ts q)) (q+1)
 else if Sx.kindOf (Sx.txt ts q)=12\/Sx.kindOf (Sx.txt ts q)=13 then q1x (Sx.kindOf (Sx.txt ts q)) (Sx.small ts (q+1))
 else .bad q
theorem q9r(E:PE)(q:Nat)(w:World)(h:PS E q w)(k:Int)(hk:Sx.knd E.ts q≠1):Calls Tryz.prog 136 #[.pointer (some ⟨E.pb,0,none⟩),.int .i64 k] w (Gr E w (.bad q)):=by
 have:=q4d E q w h k;rw[show q1x k (Sx.small E.ts q) = .bad q from by unfold Sx.small;rw[qd hk];rfl]at this;exact this
theorem qdc(E:PE)(q:Nat)(w:World)(h:PS E q w)(k:Int)(hk:Sx.knd E.ts q≠1):Calls Tryz.prog 135 #[.pointer (some ⟨E.pb,0,none⟩),.int .i64 k] w (Gr E w (.bad q)):=by
 have HP:=qh h;have D:=qh (fun w h=>q9r E q w h k hk);have B0:=qh ((Below.refl w.heap.size w).alloc (q9 _) (.cells #[.int .i64 0,.string ⟨#[]⟩,.slice none 0 0] 25));clear h hk;go_enter Tryz.func135,Tryz.ntmps135
 go_wp2_with fail
 refine(D.out _ (HP.out.later B0.out)).mono ?_;rintro e w1⟨rfl,hm,hq⟩;go_wp2;exact⟨rfl,rfl,Mv.before HP.out B0.out hm,hq⟩
theorem qd1(E:PE)(q:Nat)(w:World)(h:PS E q w)(k:Int)(g:Nat)(hk:Sx.knd E.ts q≠1):Calls Tryz.prog 188 #[.pointer (some ⟨E.pb,0,none⟩),.int .i64 k,.func (.func g) #[.pointer (some ⟨E.pb,0,none⟩)] #[]] w (Gr E w (.bad q)):=by
 have HP:=qh h;have D:=qh (fun w h=>q9r E q w h k hk);have B0:=qh ((Below.refl w.heap.size w).alloc (q9 _) (.cells #[.int .i64 0,.string ⟨#[]⟩,.slice none 0 0] 25));clear h hk;go_enter Tryz.func188,Tryz.ntmps188
 go_wp2_with fail
 refine(D.out _ (HP.out.later B0.out)).mono ?_;rintro e w1⟨rfl,hm,hq⟩;go_wp2;exact⟨rfl,rfl,Mv.before HP.out B0.out hm,hq⟩
theorem qda(E:PE)(q:Nat)(w:World)(h:PS E q w)(k:Int)(f:Nat)(hf:16*(E.ts.length - q)+1<=f)(qb:Nat)(hn:Sx.names E.ts f q = .bad qb):Calls Tryz.prog 132 #[.pointer (some ⟨E.pb,0,none⟩),.int .i64 k] w (Gr E w (.bad qb)):=by
 have HP:=qh h;have D:=qh (fun w h=>q06 E q w h k f hf);rw[hn]at D;have B0:=qh ((Below.refl w.heap.size w).alloc (q9 _) (.cells #[.int .i64 0,.string ⟨#[]⟩,.slice none 0 0] 25));clear h hf hn;go_enter Tryz.func132,Tryz.ntmps132
 go_wp2_with fail
 refine(D.out _ (HP.out.later B0.out)).mono ?_;rintro e w1⟨rfl,hm,hq⟩;go_wp2;exact⟨rfl,rfl,Mv.before HP.out B0.out hm,hq⟩
theorem q6t(ts:List Lx.Tok):∀ f acc p,p<=ts.length->∀ l q,Sx.namesR ts f acc p = .ok l q->p<=q/\q<=ts.length
 |0,acc,p,_,l,q,h=>by simp only[Sx.namesR]at h;cases h
 |f+1,acc,p,hp,l,q,h=>by
  simp only[Sx.namesR]at h
  split at h
  ·split at h
   ·cases h
   ·rename_i a q1 e1
    have g1:=Sx.small_ok e1;have:=q6t ts f _ q1 (by omega) _ _ h;omega
  ·cases h
   omega
theorem q4c{ts:List Lx.Tok}{f p q:Nat}{l:List Nd}(h:Sx.names ts f p = .ok l q):p < q/\q<=ts.length:=by
 unfold Sx.names at h
 split at h
 ·cases h
 ·rename_i a q1 e1
  have g1:=Sx.small_ok e1;have:=q6t ts f _ q1 (by omega) _ _ h;omega
theorem qip(E:PE)(f q:Nat)(w:World)(h:PS E q w)(k:Int)(hf:16*(E.ts.length - q)+2<=f):Calls Tryz.prog 132 #[.pointer (some ⟨E.pb,0,none⟩),.int .i64 k] w (Gr E w (q2s E.ts f k q)):=by
 unfold q2s
 cases hn:Sx.names E.ts f q with
 |bad qb=>exact qda E q w h k f (by omega) qb hn
 |ok l q1 =>
  have hgo:=q4c hn;simp only
  by_cases hc:Sx.txt E.ts q1=[58]
  ·rw[qj hc]
   have CB:=fun w0 (h0:PS E (q1+1) w0)=>q2v E f (q1+1) w0 h0 (by omega)
   cases ht:Sx.typed E.ts f (q1+1)with
   |bad r=>rw[ht]at CB;exact qc3 E q w h k f (by omega) l q1 hn hc r CB
   |ok t r=>obtain⟨k2,s2,l2⟩:=t;rw[ht]at CB;exact qc1 E q w h k f (by omega) l q1 hn hc k2 s2 l2 r CB
  ·rw[qd hc]
   exact qc2 E q w h k f (by omega) l q1 hn hc
theorem q2d(E:PE)(hsn:yc E.ts)(f q:Nat)(w:World)(h:PS E q w)(k:Int)(hf:16*(E.ts.length - (q+2))+10<=f):Calls Tryz.prog 135 #[.pointer (some ⟨E.pb,0,none⟩),.int .i64 k] w (Gr E w (yv E.ts f k q)):=by
 unfold yv
 by_cases hk:Sx.knd E.ts q=1
 ·rw[qj hk]
  by_cases hc:Sx.txt E.ts (q+1)=[58]
  ·rw[qj hc]
   have CB:=fun w0 (h0:PS E (q+1+1) w0)=>qbw E hsn f (q+1+1) w0 h0 hf
   cases ht:Sx.form E.ts f (q+1+1)with
   |bad r=>rw[ht]at CB;exact qit E q w h k hk hc r CB
   |ok t r=>obtain⟨k2,s2,l2⟩:=t;rw[ht]at CB;exact qir E q w h k hk hc k2 s2 l2 r CB
  ·rw[qd hc]
   exact qis E q w h k hk hc
 ·rw[qd hk]
  exact qdc E q w h k hk
theorem q4h(E:PE)(f q:Nat)(w:World)(h:PS E q w)(k:Int)(hf:16*(E.ts.length - (q+1))+2<=f)(g:Nat)(eg:∀ args w,(callFunc g args).run Tryz.prog w = .ok (.enter g args) w)(rd:Nat->Nat->Sx.PR Nd)(hgo:∀ f1 p,Sx.Goes E.ts p (rd f1 p))
  (CR:∀ f1 p w0,f1 < f->q < p->16*(E.ts.length - p)+1<=f1->PS E p w0->Calls Tryz.prog g #[.pointer (some ⟨E.pb,0,none⟩)] w0 (Gr E w0 (rd f1 p))) :
  Calls Tryz.prog 188 #[.pointer (some ⟨E.pb,0,none⟩),.int .i64 k,.func (.func g) #[.pointer (some ⟨E.pb,0,none⟩)] #[]] w (Gr E w (yz rd E.ts f k q)):=by
 unfold yz
 by_cases hk:Sx.knd E.ts q=1
 ·rw[qj hk]
  exact qd0 E q w h k hk f hf g eg rd hgo CR
 ·rw[qd hk]
  exact qd1 E q w h k g hk
theorem qft{t:Lx.Bs}(h0:t≠[116,121,112,101])(h1:t≠[101,120,112,111,114,116])(h2:t≠[99,111,110,115,116])(h3:t≠[112,114,101,100])(h4:t≠[102,97,99,116])(h5:t≠[108,97,115,116,105,110,103])(h6:t≠[109,111,100,101])(h7:t≠[114,117,108,101])(h8:t≠[111,110,99,101])(h9:t≠[109,111,115,116])(h10:t≠[113,117,101,114,121])(h11:t≠[109,111,100,117,108,101])(h12:t≠[117,115,101]):jv jn t=none:=by
 unfold jv jn;have f:∀ s:List UInt8,t≠s->(s==t)=false:=fun s h=>by rw[qc];exact fun e=>h e.symm
 simp[f _ h0,f _ h1,f _ h2,f _ h3,f _ h4,f _ h5,f _ h6,f _ h7,f _ h8,f _ h9,f _ h10,f _ h11,f _ h12]
theorem qd7{t:Lx.Bs}(h0:t≠[116,121,112,101])(h1:t≠[101,120,112,111,114,116])(h2:t≠[99,111,110,115,116])(h3:t≠[112,114,101,100])(h4:t≠[102,97,99,116])(h5:t≠[108,97,115,116,105,110,103])(h6:t≠[109,111,100,101])(h7:t≠[114,117,108,101])(h8:t≠[111,110,99,101])(h9:t≠[109,111,115,116])(h10:t≠[113,117,101,114,121])(h11:t≠[109,111,100,117,108,101])(h12:t≠[117,115,101]):Sx.kindOf t=0:=by
 unfold Sx.kindOf;simp[h0,h1,h2,h3,h4,h5,h6,h7,h8,h9,h10,h11,h12]
theorem q0i(ts:List Lx.Tok)(f1 p:Nat):Sx.Goes ts p (vw ts f1 p):=(Sx.typed_goes ts f1).2 p
theorem q59(ts:List Lx.Tok)(f1 p:Nat):Sx.Goes ts p (q04 ts f1 p):=fun a q h=>by
 have:=Sx.small_ok h;omega
theorem qk9(E:PE)(hsn:yc E.ts)(f q:Nat)(w:World)(h:PS E q w)(hf:16*(E.ts.length - q)+10<=f):Calls Tryz.prog 82 #[.pointer (some ⟨E.pb,0,none⟩),.map (some E.mi)] w (Gr E w (xi E.ts f q)):=by
 have HM:∀ W,PS E q W->StrMap W E.mi jn:=fun W hW=>hW.g.mi
 have hfew:=h.g.few
 by_cases h0:Sx.txt E.ts q=[116,121,112,101]
 ·have hq:=Sx.txt_at h0
  have e:xi E.ts f q=wy 2 Sx.noS (Sx.names E.ts f (q+1)):=by unfold xi;rw[h0];rfl
  rw[e];exact zy E q w h E.mi jn HM _ qe9 (by rw[h0];rfl) hq 2 (by rw[h0];rfl) _ fun w1 h1=>(q06 E (q+1) w1 h1 2 f (by omega)).mono fun e w' he=>GrK.gr (by unfold maxLen;decide) hfew he
 by_cases h1:Sx.txt E.ts q=[101,120,112,111,114,116]
 ·have hq:=Sx.txt_at h1
  have e:xi E.ts f q=wy 14 Sx.noS (Sx.names E.ts f (q+1)):=by unfold xi;rw[h1];rfl
  rw[e];exact zy E q w h E.mi jn HM _ qe9 (by rw[h1];rfl) hq 14 (by rw[h1];rfl) _ fun w1 h1=>(q06 E (q+1) w1 h1 14 f (by omega)).mono fun e w' he=>GrK.gr (by unfold maxLen;decide) hfew he
 by_cases h2:Sx.txt E.ts q=[99,111,110,115,116]
 ·have hq:=Sx.txt_at h2
  have e:xi E.ts f q=q2s E.ts f 3 (q+1):=by unfold xi;rw[h2];rfl
  rw[e];exact zy E q w h E.mi jn HM _ qkl (by rw[h2];rfl) hq 3 (by rw[h2];rfl) _ fun w1 h1=>qip E f (q+1) w1 h1 3 (by omega)
 by_cases h3:Sx.txt E.ts q=[112,114,101,100]
 ·have hq:=Sx.txt_at h3
  have e:xi E.ts f q=yz (vw E.ts) E.ts f 4 (q+1):=by unfold xi;rw[h3];rfl
  rw[e];exact zy E q w h E.mi jn HM _ qby (by rw[h3];rfl) hq 4 (by rw[h3];rfl) _ fun w1 h1=>q5e E (q+1) w1 h1 _ 4 fun w2 h2=>q4h E f (q+1) w2 h2 4 (by omega) _ q7d _ (q0i E.ts) fun f1 p w3 hf1 hp hm h3=>q3x E f1 p w3 h3 hm
 by_cases h4:Sx.txt E.ts q=[102,97,99,116]
 ·have hq:=Sx.txt_at h4
  have e:xi E.ts f q=yz (vw E.ts) E.ts f 5 (q+1):=by unfold xi;rw[h4];rfl
  rw[e];exact zy E q w h E.mi jn HM _ qby (by rw[h4];rfl) hq 5 (by rw[h4];rfl) _ fun w1 h1=>q5e E (q+1) w1 h1 _ 5 fun w2 h2=>q4h E f (q+1) w2 h2 5 (by omega) _ q7d _ (q0i E.ts) fun f1 p w3 hf1 hp hm h3=>q3x E f1 p w3 h3 hm
 by_cases h5:Sx.txt E.ts q=[108,97,115,116,105,110,103]
 ·have hq:=Sx.txt_at h5
  have e:xi E.ts f q=yz (vw E.ts) E.ts f 6 (q+1):=by unfold xi;rw[h5];rfl
  rw[e];exact zy E q w h E.mi jn HM _ qby (by rw[h5];rfl) hq 6 (by rw[h5];rfl) _ fun w1 h1=>q5e E (q+1) w1 h1 _ 6 fun w2 h2=>q4h E f (q+1) w2 h2 6 (by omega) _ q7d _ (q0i E.ts) fun f1 p w3 hf1 hp hm h3=>q3x E f1 p w3 h3 hm
 by_cases h6:Sx.txt E.ts q=[109,111,100,101]
 ·have hq:=Sx.txt_at h6
  have e:xi E.ts f q=yz (q04 E.ts) E.ts f 7 (q+1):=by unfold xi;rw[h6];rfl
  rw[e];exact zy E q w h E.mi jn HM _ qm9 (by rw[h6];rfl) hq 7 (by rw[h6];rfl) _ fun w1 h1=>qfo E (q+1) w1 h1 _ 7 fun w2 h2=>q4h E f (q+1) w2 h2 7 (by omega) _ qm7 _ (q59 E.ts) fun f1 p w3 hf1 hp hm h3=>q3w E p w3 h3
 by_cases h7:Sx.txt E.ts q=[114,117,108,101]
 ·have hq:=Sx.txt_at h7
  have e:xi E.ts f q=yv E.ts f 8 (q+1):=by unfold xi;rw[h7];rfl
  rw[e];exact zy E q w h E.mi jn HM _ q4m (by rw[h7];rfl) hq 8 (by rw[h7];rfl) _ fun w1 h1=>q2d E hsn f (q+1) w1 h1 8 (by omega)
 by_cases h8:Sx.txt E.ts q=[111,110,99,101]
 ·have hq:=Sx.txt_at h8
  have e:xi E.ts f q=yv E.ts f 9 (q+1):=by unfold xi;rw[h8];rfl
  rw[e];exact zy E q w h E.mi jn HM _ q4m (by rw[h8];rfl) hq 9 (by rw[h8];rfl) _ fun w1 h1=>q2d E hsn f (q+1) w1 h1 9 (by omega)
 by_cases h9:Sx.txt E.ts q=[109,111,115,116]
 ·have hq:=Sx.txt_at h9
  have e:xi E.ts f q=yv E.ts f 10 (q+1):=by unfold xi;rw[h9];rfl
  rw[e];exact zy E q w h E.mi jn HM _ q4m (by rw[h9];rfl) hq 10 (by rw[h9];rfl) _ fun w1 h1=>q2d E hsn f (q+1) w1 h1 10 (by omega)
 by_cases h10:Sx.txt E.ts q=[113,117,101,114,121]
 ·have hq:=Sx.txt_at h10
  have e:xi E.ts f q=yv E.ts f 11 (q+1):=by unfold xi;rw[h10];rfl
  rw[e];exact zy E q w h E.mi jn HM _ q4m (by rw[h10];rfl) hq 11 (by rw[h10];rfl) _ fun w1 h1=>q2d E hsn f (q+1) w1 h1 11 (by omega)
 by_cases h11:Sx.txt E.ts q=[109,111,100,117,108,101]
 ·have hq:=Sx.txt_at h11
  have e:xi E.ts f q=q1x 12 (Sx.small E.ts (q+1)):=by unfold xi;rw[h11];rfl
  rw[e];exact zy E q w h E.mi jn HM _ qea (by rw[h11];rfl) hq 12 (by rw[h11];rfl) _ fun w1 h1=>q4d E (q+1) w1 h1 12
 by_cases h12:Sx.txt E.ts q=[117,115,101]
 ·have hq:=Sx.txt_at h12
  have e:xi E.ts f q=q1x 13 (Sx.small E.ts (q+1)):=by unfold xi;rw[h12];rfl
  rw[e];exact zy E q w h E.mi jn HM _ qea (by rw[h12];rfl) hq 13 (by rw[h12];rfl) _ fun w1 h1=>q4d E (q+1) w1 h1 13
 have e:xi E.ts f q = .bad q:=by unfold xi;rw[qd7 h0 h1 h2 h3 h4 h5 h6 h7 h8 h9 h10 h11 h12];rfl
 rw[e];refine(q6s E q w h E.mi jn HM (qft h0 h1 h2 h3 h4 h5 h6 h7 h8 h9 h10 h11 h12)).mono ?_;rintro e w'⟨rfl,hb⟩;exact⟨rfl,Mv.below h hb,h.le⟩
def q5q(ts:List Lx.Tok)(r:Sx.PR (List Nd)):Sx.PR (List Nd) :=
 match r with
 | .bad q=>.bad q
 | .ok l q=>if Sx.txt ts q=[46] then .ok l q else .bad q
theorem q6n{ts:List Lx.Tok}(hsn:yc ts):∀ f acc p,q5q ts (vd (vw ts) ts f acc p)=q5q ts (Sx.simples ts f acc p)
 |0,acc,p=>by simp only[vd,Sx.simples]
 |f+1,acc,p=>by
  by_cases hd:Sx.txt ts p=[46]
  ·have h1:Sx.knd ts p≠1:=fun e=>hsn p (.inl e) [46] (by decide) hd
   have h2:¬ (Sx.txt ts p=[40]\/Sx.knd ts p=1):=by
    rintro(e|e)
    ·rw[hd]at e;cases e
    ·exact h1 e
   simp only[Sx.simples];rw[q5n hd,qd h2]
  ·by_cases hc:Sx.txt ts p=[40]\/Sx.knd ts p=1
   ·simp only[Sx.simples]
    rw[qj hc]
    cases hs:Sx.simple ts f p with
    |bad q=>rw[q2z hd (show vw ts f p = .bad q from hs)]
    |ok a q=>rw[q7b hd (show vw ts f p = .ok a q from hs)];exact q6n hsn f _ q
   ·simp only[Sx.simples]
    rw[qd hc]
    have hs:vw ts f p = .bad p:=by
     unfold vw
     cases f with
     |zero=>rfl
     |succ f =>
      simp only[Sx.simple];rw[qd (fun e=>hc (.inl e))];unfold Sx.small;rw[qd (fun e=>hc (.inr e))]
    rw[q2z hd hs];simp only[q5q];rw[qd hd]
theorem q7q{ts:List Lx.Tok}(hsn:yc ts):∀ f acc p,q5q ts (vd (q04 ts) ts f acc p)=q5q ts (Sx.smalls ts f acc p)
 |0,acc,p=>by simp only[vd,Sx.smalls]
 |f+1,acc,p=>by
  by_cases hk:Sx.knd ts p=1
  ·have hd:Sx.txt ts p≠[46]:=hsn p (.inl hk) [46] (by decide)
   have hs:q04 ts f p = .ok (Sx.leaf 15 (Sx.txt ts p)) (p+1):=by unfold q04 Sx.small;rw[qj hk]
   simp only[Sx.smalls];rw[q7b hd hs,qj hk];exact q7q hsn f _ _
  ·simp only[Sx.smalls]
   rw[qd hk]
   by_cases hd:Sx.txt ts p=[46]
   ·rw[q5n hd]
   ·have hs:q04 ts f p = .bad p:=by unfold q04 Sx.small;rw[qd hk]
    rw[q2z hd hs];simp only[q5q];rw[qd hd]
theorem q4b(E:PE)(k:Int)(s:ByteArray)(r:Sx.PR (List Nd)):xb E [46] (wy k s r)=xb E [46] (wy k s (q5q E.ts r)):=by
 cases r with
 |bad q=>rfl
 |ok l q =>
  simp only[wy,q5q,xb]
  by_cases hd:Sx.txt E.ts q=[46]
  ·rw[qj hd,qj hd];simp only;rw[qj hd]
  ·rw[qd hd,qd hd]
theorem qbo(t:Lx.Bs):Sx.kindOf t=0\/Sx.kindOf t=2\/Sx.kindOf t=3\/Sx.kindOf t=4\/Sx.kindOf t=5\/Sx.kindOf t=6\/Sx.kindOf t=7\/Sx.kindOf t=8\/Sx.kindOf t=9\/Sx.kindOf t=10\/Sx.kindOf t=11\/Sx.kindOf t=12\/Sx.kindOf t=13\/Sx.kindOf t=14:=by
 unfold Sx.kindOf
 by_cases h0:t=[116,121,112,101]
 ·subst h0;decide
 rw[qd h0]
 by_cases h1:t=[99,111,110,115,116]
 ·subst h1;decide
 rw[qd h1]
 by_cases h2:t=[112,114,101,100]
 ·subst h2;decide
 rw[qd h2]
 by_cases h3:t=[102,97,99,116]
 ·subst h3;decide
 rw[qd h3]
 by_cases h4:t=[108,97,115,116,105,110,103]
 ·subst h4;decide
 rw[qd h4]
 by_cases h5:t=[109,111,100,101]
 ·subst h5;decide
 rw[qd h5]
 by_cases h6:t=[114,117,108,101]
 ·subst h6;decide
 rw[qd h6]
 by_cases h7:t=[111,110,99,101]
 ·subst h7;decide
 rw[qd h7]
 by_cases h8:t=[109,111,115,116]
 ·subst h8;decide
 rw[qd h8]
 by_cases h9:t=[113,117,101,114,121]
 ·subst h9;decide
 rw[qd h9]
 by_cases h10:t=[109,111,100,117,108,101]
 ·subst h10;decide
 rw[qd h10]
 by_cases h11:t=[117,115,101]
 ·subst h11;decide
 rw[qd h11]
 by_cases h12:t=[101,120,112,111,114,116]
 ·subst h12;decide
 rw[qd h12];exact .inl rfl
theorem qlv(E:PE)(f q:Nat):Sx.item E.ts f q=if Sx.kindOf (Sx.txt E.ts q)=0 then .bad q else xb E [46] (Sx.itemB E.ts f (Sx.kindOf (Sx.txt E.ts q)) (q+1)):=by
 unfold Sx.item
 by_cases h:Sx.kindOf (Sx.txt E.ts q)=0
 ·rw[qj h,qj h]
 ·rw[qd h,qd h]
  all_goals (cases Sx.itemB E.ts f (Sx.kindOf (Sx.txt E.ts q)) (q+1) <;> rfl)
theorem qfu(E:PE)(hsn:yc E.ts)(f q:Nat):xb E [46] (xi E.ts f q)=Sx.item E.ts f q:=by
 rw[qlv];unfold xi;have hr:=qbo (Sx.txt E.ts q);generalize Sx.kindOf (Sx.txt E.ts q)=k at *
 have hnames:∀ k:Int,(k=2\/k=14)->wy k Sx.noS (Sx.names E.ts f (q+1))=Sx.itemB E.ts f k (q+1):=fun k hk=>by
  unfold Sx.itemB;rw[qj hk]
  all_goals (cases Sx.names E.ts f (q+1) <;> rfl)
 have hlist:∀ k:Int,(k=4\/k=5\/k=6)->xb E [46] (yz (vw E.ts) E.ts f k (q+1))=xb E [46] (Sx.itemB E.ts f k (q+1)):=fun k hk=>by
  unfold yz Sx.itemB;rw[qd (show ¬ ((k:Int)=2\/(k:Int)=14)by omega),qd (show ¬ ((k:Int)=3)by omega)];unfold Sx.small
  by_cases h1:Sx.knd E.ts (q+1)=1
  ·rw[qj h1,qj h1,q4b,q6n hsn,<-q4b]
   simp only[Sx.leaf,Sx.behind];rw[qj hk]
   all_goals (cases Sx.simples E.ts f [] (q+1+1) <;> rfl)
  ·rw[qd h1,qd h1]
 have hmode:xb E [46] (yz (q04 E.ts) E.ts f 7 (q+1))=xb E [46] (Sx.itemB E.ts f 7 (q+1)):=by
  unfold yz Sx.itemB;rw[qd (show ¬ ((7:Int)=2\/(7:Int)=14)by omega),qd (show ¬ ((7:Int)=3)by omega)];unfold Sx.small
  by_cases h1:Sx.knd E.ts (q+1)=1
  ·rw[qj h1,qj h1,q4b,q7q hsn,<-q4b]
   simp only[Sx.leaf,Sx.behind];rw[qd (show ¬ ((7:Int)=4\/(7:Int)=5\/(7:Int)=6)by omega),qj trivial]
   all_goals (cases Sx.smalls E.ts f [] (q+1+1) <;> rfl)
  ·rw[qd h1,qd h1]
 have hcl:∀ k:Int,(k=8\/k=9\/k=10\/k=11)->yv E.ts f k (q+1)=Sx.itemB E.ts f k (q+1):=fun k hk=>by
  unfold yv Sx.itemB;rw[qd (show ¬ ((k:Int)=2\/(k:Int)=14)by omega),qd (show ¬ ((k:Int)=3)by omega)];unfold Sx.small
  by_cases h1:Sx.knd E.ts (q+1)=1
  ·rw[qj h1,qj h1]
   simp only[Sx.leaf,Sx.behind];rw[qd (show ¬ (k=4\/k=5\/k=6)by omega),qd (show ¬ (k=7)by omega),qj hk]
   by_cases hc:Sx.txt E.ts (q+1+1)=[58]
   ·rw[qj hc,qj hc]
    all_goals (cases Sx.form E.ts f (q+1+1+1) <;> rfl)
   ·rw[qd hc,qd hc]
  ·rw[qd h1,qd h1]
 have hus:∀ k:Int,(k=12\/k=13)->q1x k (Sx.small E.ts (q+1))=Sx.itemB E.ts f k (q+1):=fun k hk=>by
  unfold Sx.itemB;rw[qd (show ¬ ((k:Int)=2\/(k:Int)=14)by omega),qd (show ¬ ((k:Int)=3)by omega)];unfold Sx.small
  by_cases h1:Sx.knd E.ts (q+1)=1
  ·rw[qj h1]
   simp only[Sx.leaf,Sx.behind,q1x];rw[qd (show ¬ (k=4\/k=5\/k=6)by omega),qd (show ¬ (k=7)by omega),qd (show ¬ (k=8\/k=9\/k=10\/k=11)by omega)]
  ·rw[qd h1];rfl
 have hcon:q2s E.ts f 3 (q+1)=Sx.itemB E.ts f 3 (q+1):=by
  unfold q2s Sx.itemB;rw[qd (show ¬ ((3:Int)=2\/(3:Int)=14)by omega),qj rfl]
  cases Sx.names E.ts f (q+1)with
  |bad _=>rfl
  |ok l q1 =>
   simp only
   by_cases hc:Sx.txt E.ts q1=[58]
   ·rw[qj hc,qj hc]
    all_goals (cases Sx.typed E.ts f (q1+1) <;> rfl)
   ·rw[qd hc,qd hc]
 by_cases h0:k=0
 ·subst h0;rfl
 rw[qd h0]
 by_cases h1:k=2\/k=14
 ·rw[qj h1,hnames k h1]
 rw[qd h1]
 by_cases h2:k=3
 ·subst h2;rw[qj rfl,hcon]
 rw[qd h2]
 by_cases h3:k=4\/k=5\/k=6
 ·rw[qj h3,hlist k h3]
 rw[qd h3]
 by_cases h4:k=7
 ·subst h4;rw[qj rfl,hmode]
 rw[qd h4]
 by_cases h5:k=8\/k=9\/k=10\/k=11
 ·rw[qj h5,hcl k h5]
 rw[qd h5]
 by_cases h6:k=12\/k=13
 ·rw[qj h6,hus k h6]
 ·omega
theorem qi4{ts:List Lx.Tok}{f:Nat}{acc:List Nd}{p:Nat}(h:¬ p < ts.length):Sx.items ts (f+1) acc p = .ok acc p:=by simp only[Sx.items];rw[qd h]
theorem q9u{ts:List Lx.Tok}{f:Nat}{acc:List Nd}{p q:Nat}(h:p < ts.length)(h2:Sx.item ts f p = .bad q):Sx.items ts (f+1) acc p = .bad q:=by simp only[Sx.items];rw[qj h,h2]
theorem qk8{ts:List Lx.Tok}{f:Nat}{acc:List Nd}{p q:Nat}{a:Nd}(h:p < ts.length)(h2:Sx.item ts f p = .ok a q):Sx.items ts (f+1) acc p=Sx.items ts f (acc++[a]) q:=by simp only[Sx.items];rw[qj h,h2]
theorem qfv(E:PE)(f q:Nat):Sx.Goes E.ts q (xi E.ts f q):=by
 intro a p h;have hs:∀ q1 a p,Sx.small E.ts q1 = .ok a p->p=q1+1/\p<=E.ts.length:=fun q1 a p h=>⟨(Sx.small_ok h).1,(Sx.small_ok h).2.1⟩
 have hl:∀ rd:Nat->Nat->Sx.PR Nd,(∀ f p,Sx.Goes E.ts p (rd f p))->∀ f acc p,p<=E.ts.length->∀ l q,vd rd E.ts f acc p = .ok l q->p<=q/\q<=E.ts.length:=by
  intro rd hrd f
  induction f with
  |zero=>intro acc p _ l q h;simp only[vd]at h;cases h
  |succ f ih =>
   intro acc p hp l q h;simp only[vd]at h
   split at h
   ·cases h;omega
   ·split at h
    ·cases h
    ·rename_i a q1 e1
     have g1:=hrd f p _ _ e1;have:=ih _ q1 g1.2 _ _ h;omega
 have hlr:∀ rd:Nat->Nat->Sx.PR Nd,(∀ f p,Sx.Goes E.ts p (rd f p))->∀ k q1 a p,yz rd E.ts f k q1 = .ok a p->q1 < p/\p<=E.ts.length:=by
  intro rd hrd k q1 a p h;unfold yz at h
  split at h
  ·rename_i hk
   have hk2:=Sx.knd_lt (ts:=E.ts) (p:=q1) (by omega)
   cases hL:vd rd E.ts f [] (q1+1)with
   |bad _=>rw[hL]at h;cases h
   |ok l q2 =>
    rw[hL]at h;have:=hl rd hrd f [] (q1+1) (by omega) _ _ hL
    cases h;omega
  ·cases h
 unfold xi at h
 repeat' (split at h)
 ·cases hn:Sx.names E.ts f (q+1)with
  |bad _=>rw[hn]at h;cases h
  |ok l q1=>rw[hn]at h;have:=q4c hn;cases h;omega
 ·unfold q2s at h
  split at h
  ·cases h
  ·rename_i l q1 hn
   have:=q4c hn
   split at h
   ·split at h
    ·cases h
    ·rename_i t r ht
     have:=(Sx.typed_goes E.ts f).1 _ _ _ ht
     cases h;omega
   ·cases h
 ·have:=hlr _ (q0i E.ts) _ _ _ _ h;omega
 ·have:=hlr _ (q59 E.ts) _ _ _ _ h;omega
 ·unfold yv at h
  split at h
  ·split at h
   ·split at h
    ·cases h
    ·rename_i t r ht
     have:=(Sx.form_goes E.ts f).2.2.1 _ _ _ ht
     cases h;omega
   ·cases h
  ·cases h
 ·cases hn:Sx.small E.ts (q+1)with
  |bad _=>rw[hn]at h;cases h
  |ok x q1=>obtain⟨k1,s1,l1⟩:=x;rw[hn]at h;have:=hs _ _ _ hn;cases h;omega
 ·cases h
theorem qgv(E:PE)(hsn:yc E.ts)(q:Nat)(w:World)(h:PS E q w)(f:Nat)(hf:16*(E.ts.length - q)+11<=f) :
  Calls Tryz.prog 40 #[.pointer (some ⟨E.pb,0,none⟩)] w (Gr E w (wy 1 Sx.noS (Sx.items E.ts f [] q))):=by
 have HP:=qh h;have hpl:=h.lt;have hfew:=h.g.few;have Hf:=qh hf;have D:=qh (fun f p w h hf=>qk9 E hsn f p w h hf);have Hsn:=qh hsn;have B0:=qh ((Below.refl w.heap.size w).alloc (q9 _) (.cells #[.int .i64 0,.string ⟨#[]⟩,.slice none 0 0] 25));obtain⟨A,hA⟩:∃ A,Sx.items E.ts f [] q=A:=⟨_,rfl⟩;have HA:=qh hA;obtain⟨R,hR⟩:∃ R,Gr E w (wy 1 Sx.noS A)=R:=⟨_,rfl⟩;have HR:=qh hR;rw[hA,hR];clear h hA hR hf hsn;go_enter Tryz.func40,Tryz.ntmps40
 go_wp2_with fail
 obtain⟨W0,hW0⟩:∃ W,(w.alloc (.cells #[.int .i64 0,.string ⟨#[]⟩,.slice none 0 0] 25)).alloc (.cells #[.int .i64 1,.string ⟨#[]⟩,.slice none 0 0] 25)=W:=⟨_,rfl⟩;have M0:=qh (show Mv E q w W0 by rw[<-hW0];exact Mv.below HP.out (B0.out.alloc (by simp) _));have P0:=qh (M0.out.ps HP.out HP.out.le);have R0:=qh (show Row3 W0 w.heap.size (.int .i64 0) (.string ⟨#[]⟩) (.slice none 0 0)by rw[<-hW0];exact(Row3.new w _ _ _).alloc _);have N0:=qh (show Row3 W0 (w.heap.size+1) (.int .i64 1) (.string ⟨#[]⟩) (.slice none 0 0)by rw[<-hW0];exact Row3.newAt (by simp));have z0:w.heap.size+1+1<=W0.heap.size:=by rw[<-hW0];simp
 have Hz0:=qh z0;rw[hW0];clear hW0 z0
 go_loopw [] (fun W=>∃ (f1 p:Nat) (acc:List Nd) (v:Value),q<=p/\16*(E.ts.length - p)+11<=f1/\acc.length<=p/\Hid (Sx.items E.ts f1 acc p=A)/\Hid (Mv E p w W)/\Hid (PS E p W)/\Hid (Row3 W w.heap.size (.int .i64 0) (.string ⟨#[]⟩) (.slice none 0 0))/\Hid (Row3 W (w.heap.size+1) (.int .i64 1) (.string ⟨#[]⟩) v)/\Hid (Kids (w.heap.size+1+1) W v acc)/\Hid (w.heap.size+1+1<=W.heap.size)) (fun W=>E.ts.length+1 - nxt E W)
 case atStart =>
  exact⟨f,q,[],.slice none 0 0,q9 _,Hf.out,qv _,HA,M0,P0,R0,N0,Kids.nil _ _,Hz0⟩
 case round =>
  obtain⟨f1,p,acc,v,hqp,hf1,hacc,hrun,hM,hP,hRw,hN,hK,hz⟩:=hrel;clear M0 P0 R0 N0 Hz0 HA;obtain⟨va,vcap,rfl,_⟩:=hK.out.shape;obtain⟨f2,rfl⟩:∃ f2,f1=f2+1:=⟨f1 - 1,by omega⟩;have hple:=hP.out.le;have hnl:=hN.out.lt;have hrl:=hRw.out.lt;have Hmeas:=qh hP.out.nxt;obtain⟨pc0,pc1,_,pc3,_⟩:=hP.out.cells;have hpw:=hP.out.lt;obtain⟨nt,hnt⟩:∃ nt,E.ts.length=nt:=⟨_,rfl⟩;have Hnt:=qh hnt
  by_cases hlt:p < E.ts.length
  ·have hlt2:(p:Int) < (nt:Int):=by omega
   have DB:=qh (fun w0 h0=>D.out f2 p w0 h0 (by omega));obtain⟨⟨n0,n1,n2⟩,g0,g1,g2⟩:=hN.out.cells;have hit:=qfu E Hsn.out f2 p;rw[hnt]at pc0;clear hnt
   cases hs:xi E.ts f2 p with
   |bad qb =>
    have HA':=qh (hrun.out.symm.trans (q9u hlt (by rw[<-hit,hs];rfl)));rw[hs]at DB;clear hs D hrun hit hlt
    go_wp2_with fail
    go_quiet (fail)
    have F:Hid (∀ u w5,Below wr.heap.size wr u->Mv E qb u w5->qb<=E.ts.length->R (.panicked [{ v:=je E qb,recovered:=false }]) w5):=qh fun u w5 hu hm5 hq5=>by
     rw[<-HR.out,HA'.out];exact⟨rfl,Mv.trans HP.out (hM.out.later (hu.mono hM.out.size)) hple hm5,hq5⟩
    go_wp2_with fail
    go_region_dies
    all_goals refine(DB.out _ (hP.out.later (below_drewN (Below.refl _ _) _))).mono ?_
    all_goals rintro e w5 ⟨rfl,hm5,hq5⟩
    all_goals exact⟨rfl,F.out _ w5 (below_drewN (Below.refl _ _) _) hm5 hq5⟩
   |ok x p1 =>
    obtain⟨k2,s2,l2⟩:=x;have hgo:=qfv E f2 p _ _ hs;rw[hs]at DB;have Hgo:=qh hgo;have Hlt:=qh hlt;have hP2:=qh (show ∀ hd:Sx.txt E.ts p1=[46],Sx.items E.ts f2 (acc++[.mk k2 s2 l2]) (p1+1)=A from fun hd=>(qk8 hlt (by rw[<-hit,hs];simp only[xb];rw[qj hd])).symm.trans hrun.out);have hP3:=qh (show ∀ hd:Sx.txt E.ts p1≠[46],A = .bad p1 from fun hd=>hrun.out.symm.trans (q9u hlt (by rw[<-hit,hs];simp only[xb];rw[qd hd])));clear hs D hrun hit hlt hgo
    go_wp2_with fail
    go_quiet (fail)
    generalize hW1:wr.drewN _=W1;have hb1:Below wr.heap.size wr W1:=by rw[<-hW1];exact below_drewN (Below.refl _ _) _
    clear hW1 n0 n1 n2 g0 g1 g2 pc0 pc1 pc3 hlt2;have M1:=qh (hM.out.later (hb1.mono hM.out.size));have P1:=qh (hP.out.later hb1);have R1:=qh (hRw.out.below hb1 hrl);have N1:=qh (hN.out.below hb1 hnl);have K1:=qh (hK.out.keep fun b _ h2=>hb1.block b h2);have hz1:=qh (qo hz.out hb1.size);obtain⟨⟨n0,n1,n2⟩,g0,g1,g2⟩:=N1.out.cells;obtain⟨_,_,_,pc3,_⟩:=P1.out.cells;have hpw1:=P1.out.lt;have ln1:=N1.out.lt;clear hb1
    go_wp2_with fail
    go_region_law (first
     |(go_simp;go_at_call 82;refine(DB.out _ (P1.out.later (Below.refl _ _).drew)).mono ?_;rintro e w5 ⟨⟨a5,cap5,rfl,hn5⟩,hm5,hq5⟩;have hm5':=Mv.before P1.out (Below.refl _ _).drew hm5;have N5:=qh (N1.out.mv hm5' (by omega));have R5:=qh (R1.out.mv hm5' (by omega));have K5:=qh (Kids.step hm5' (by omega) K1.out);have hz5:w.heap.size+1+1<=w5.heap.size:=qo hz1.out hm5'.size;obtain⟨⟨c0,c1,c2⟩,y0,y1,y2⟩:=N5.out.cells;have l5:=N5.out.lt)
     |(refine xd rfl _ _ rfl (w.heap.size+1+1) (.slice va acc.length vcap) acc rfl (Kids.keep K5.out fun b _ hb2=>Below.heap_alloc _ _ _ hb2) ⟨w5.heap.size,0,none⟩ 1 (by rfl) (.mk k2 s2 l2) (.int .i64 k2) (.string s2) (.slice a5 l2.length cap5) (xu w5 _ _ _ _ _ rfl) (hn5.keep (fun b hb1 hb2=>⟨Below.heap_alloc _ _ _ hb2,qo hz1.out hb1,fun e=>by have:=K1.out.own b e;have hb1':W1.heap.size<=b:=hb1;omega⟩)) (by omega) (by simp;omega) _ rfl ?_;intro g6 cap6 w6 K6 G6 _ hg6;have hown:=K5.out.own;have N6:=qh ((N5.out.alloc _).grown' G6 (fun e=>by have:=hown _ e.symm;omega));have R6:=qh ((R5.out.alloc _).grown' G6 (fun e=>by have:=hown _ e.symm;omega));obtain⟨⟨d0,d1,d2⟩,z0,z1,z2⟩:=N6.out.cells))
    all_goals
     have hz6:w.heap.size+1+1<=w6.heap.size:=by have:=G6.size;simp at this;omega
     have M6:=Mv.later (Mv.trans HP.out M1.out hple hm5') ((((Below.refl w.heap.size w5).alloc (by omega) (.cells #[.int .i64 k2,.string s2,.slice a5 l2.length cap5] 25)).grown G6 (by simp;omega) (fun b hb=>by have:=hown b hb;omega)));obtain⟨V,hV⟩:∃ V,w6.setCell ⟨w.heap.size+1,2,none⟩ (.slice (some ⟨g6,0,none⟩) (acc.length+1) cap6)=V:=⟨_,rfl⟩;have M7:=qh (show Mv E p1 w V by rw[<-hV];exact M6.later ((Below.refl w.heap.size w6).setCell (p:=⟨w.heap.size+1,2,none⟩) (by simp only;omega) _));have N7:=qh (show Row3 V (w.heap.size+1) (.int .i64 1) (.string ⟨#[]⟩) (.slice (some ⟨g6,0,none⟩) (acc.length+1) cap6)by rw[<-hV];exact N6.out.put2 _);have R7:=qh (show Row3 V w.heap.size (.int .i64 0) (.string ⟨#[]⟩) (.slice none 0 0)by rw[<-hV];exact R6.out.other _ (by simp only;omega));have K7:=qh (show Kids (w.heap.size+1+1) V (.slice (some ⟨g6,0,none⟩) (acc.length+1) cap6) (acc++[.mk k2 s2 l2])by rw[<-hV];exact K6.keep fun b hb1 _=>Below.heap_setCell _ _ _ _ (by simp only;omega));have P7:=qh (M7.out.ps HP.out hq5);have z7:w.heap.size+1+1<=V.heap.size:=by rw[<-hV,qs];exact hz6
     rw[hV];clear hV hn5 hm5 hm5' hq5 N5 R5 N6 R6 K6 G6 M6 c0 c1 c2 y0 y1 y2 d0 d1 d2 z0 z1 z2 n0 n1 n2 g0 g1 g2 l5 hg6 hown K5 DB pc3 hpw1 ln1
     by_cases hc:Sx.txt E.ts p1=[46]
     ·have HA2:=qh (hP2.out hc)
      have T:=qh (fun w h=>kh E p1 ⟨#[46]⟩ w h hc (by decide));have hlt1:=Sx.txt_at hc;clear hc
      go_wp2_with fail
      refine(T.out _ P7.out).mono ?_;rintro e w8⟨rfl,hm8,hp8⟩;have M8:=qh (Mv.trans HP.out M7.out P7.out.le hm8);have P8:=qh hp8;have N8:=qh (N7.out.mv hm8 (by omega));have R8:=qh (R7.out.mv hm8 (by omega));have K8:=qh (Kids.step hm8 (by omega) K7.out);have z8:=qh (qo z7 hm8.size);have Hm8:=qh hp8.nxt;clear hm8 hp8 T
      go_wp2_with fail
      go_roundw
      case rel=>exact⟨f2,p1+1,acc++[Nd.mk k2 s2 l2],_,by have:=Hgo.out;omega,by have:=Hgo.out;have:=Hlt.out;omega,by have:=Hgo.out;simp;omega,HA2,M8,P8,R8,N8,K8,z8⟩
      case measure=>rw[Hm8.out,Hmeas.out];have:=Hgo.out;have:=Hlt.out;omega
     ·have HA2:=qh (hP3.out hc)
      have T:=qh (fun w h=>q05 E p1 ⟨#[46]⟩ w h hc);clear hc
      go_wp2_with fail
      refine(T.out _ P7.out).mono ?_;rintro e w8⟨rfl,hb8⟩;have M8:=M7.out.later (hb8.mono M7.out.size);go_wp2;rw[<-HR.out,HA2.out];exact⟨rfl,rfl,M8,P7.out.le⟩
  ·have hlt2:¬ ((p:Int) < (nt:Int)):=by omega
   have hlt3:decide ((p:Int) < (nt:Int))=false:=decide_eq_false hlt2;have HA':=qh (hrun.out.symm.trans (qi4 hlt));rw[hnt]at pc0;clear hnt D hrun hlt;obtain⟨⟨n0,n1,n2⟩,_⟩:=hN.out.cells;obtain⟨⟨r0,r1,r2⟩,g0,g1,g2⟩:=hRw.out.cells;have Hple:=qh hple
   go_wp2_with fail
   go_quiet (fail)
   generalize hW1:wr.drewN _=W1;have hb1:Below wr.heap.size wr W1:=by rw[<-hW1];exact below_drewN (Below.refl _ _) _
   clear hW1 n0 n1 n2 g0 g1 g2 pc0 pc1 pc3 r0 r1 r2;have M1:=qh (hM.out.later (hb1.mono hM.out.size));have R1:=qh (hRw.out.below hb1 hrl);have N1:=qh (hN.out.below hb1 hnl);have K1:=qh (hK.out.keep fun b _ h2=>hb1.block b h2);obtain⟨⟨n0,n1,n2⟩,_⟩:=N1.out.cells;obtain⟨⟨r0,r1,r2⟩,g0,g1,g2⟩:=R1.out.cells;have ln:=N1.out.lt;have lr:=R1.out.lt;have ND:=qh (((K1.out.kp ((Kp.refl (w.heap.size+1+1) W1).put3 (b:=w.heap.size) (.int .i64 1) (.string Sx.noS) (.slice va acc.length vcap) (by omega))).node 1 Sx.noS (by unfold maxLen;decide) (by unfold maxLen;have:=Hple.out;omega)).from (h':=w.heap.size) (by omega));clear hb1;go_wp2;refine zh (R1.out.put _ _ _) Tryz.results40 rfl rfl ?_;rw[<-HR.out,HA'.out];exact⟨⟨va,vcap,rfl,ND.out⟩,M1.out.put3 (q9 _) _ _ _,Hple.out⟩
end Go.Proofs.YtkckddojlignpaaGreatDoor
namespace Go.Proofs.YtkckddojlignpaaGreatDoor
open Go.RowKit Go.Shelf
attribute [local go_sem] Oper.semAt_some
end Go.Proofs.YtkckddojlignpaaGreatDoor
namespace Go.Proofs.YtkckddojlignpaaGreatDoor
open Go.RowKit
def NdL(w:World)(l:List Nd)(v:Value):Prop:=∃ k s v0 v1,NdR w (.mk k s l) v0 v1 v
theorem NdL.later{w w':World}(hb:Below w.heap.size w w'){l:List Nd}{v:Value}(h:NdL w l v):NdL w' l v:=by
 obtain⟨k,s,v0,v1,h⟩:=h;exact⟨k,s,v0,v1,h.later hb⟩
theorem NdL.form{w:World}{l:List Nd}{v:Value}(h:NdL w l v):∃ a cap,v = .slice a l.length cap/\l.length<=maxLen:=by
 obtain⟨k,s,v0,v1,h⟩:=h;obtain⟨k',s',l',a,cap,e,_,_,rfl,_,hl⟩:=h.form
 cases e;exact⟨a,cap,rfl,hl⟩
theorem q2x:∀ (l:List Nd),q01 l=true↔∀ i,(h:i < l.length)->zv l[i]=true
 |[]=>by simp[q01]
 |a :: l=>by
  simp only[q01,ql,q2x l]
  constructor
  ·rintro⟨h1,h2⟩ i hi
   cases i with
   |zero=>exact h1
   |succ i=>exact h2 i (by simpa using hi)
  ·intro h
   exact⟨h 0 (by simp),fun i hi=>h (i+1) (by simpa using hi)⟩
theorem qhm(n:Nat)(ih:∀ (t:Nd) (w:World) (v0 v1 v2:Value),t.sz<=n->NdR w t v0 v1 v2 ->
  Calls Tryz.prog 74 #[.agg #[v0,v1,v2]] w fun e w'=>e = .returned (.bool (zv t))/\Below w.heap.size w w')
  (l:List Nd) (v:Value) (w:World) (hsz:∀ i,(h:i < l.length)->(l[i]).sz<=n) (hv:NdL w l v) :
  Calls Tryz.prog 128 #[v] w fun e w'=>e = .returned (.bool (q01 l && decide (l.length<=8)))/\Below w.heap.size w w':=by
 obtain⟨a,cap,rfl,hl⟩:=hv.form;have IH:=qh ih;have Hsz:=qh hsz;have HV:=qh hv;unfold maxLen at hl;clear ih hsz hv;go_enter Tryz.func128,Tryz.ntmps128;go_wp2
 go_loopw [3] (fun v3 wr=>∃ i:Nat,i<=l.length/\i<=9/\v3 = .int .i64 i/\Hid (∀ j,(h:j < l.length)->j < i->zv l[j]=true)/\Hid (Below w.heap.size w wr)) (fun v3 _=>10 - (intOf v3).toNat)
 case atStart=>exact⟨0,qv _,by omega,rfl,qh (fun j _ h=>absurd h (Nat.not_lt_zero _)),Below.refl _ _⟩
 case round =>
  obtain⟨i,hi,hi9,rfl,hall,hbl⟩:=hrel
  by_cases hlt:i < l.length
  ·have hlt':(i:Int) < (l.length:Int):=by omega
   by_cases h8:i<=8
   ·have h8':(i:Int)<=8:=by omega
    have hi0:(0:Int)<=(i:Int):=by omega
    obtain⟨kk,ss,w0,w1,hR⟩:=HV.out.later hbl.out;obtain⟨b,o,k1,s1,l1,a1,c1,rfl,e1,x0,x1,x2,r1⟩:=hR.kid i hlt;have hs1:=Hsz.out i hlt;obtain⟨V,hV⟩:∃ V,zv l[i]=V:=⟨_,rfl⟩;have HVi:=qh hV;rw[e1]at hs1 hV;have C:=qh (IH.out (.mk k1 s1 l1) wr _ _ _ hs1 r1);rw[hV]at C;have nb:=qi x0;clear e1 hV r1 hR
    go_wp2_with fail
    refine C.out.mono ?_;clear C;rintro e w5⟨rfl,hb5⟩;have Hb5:Hid (Below w.heap.size w w5):=qh (hbl.out.trans (hb5.mono hbl.out.size));clear hb5 x0 x1 x2
    cases V with
    |false =>
     have HS:Hid (q01 l=false):=qh (by
      rw[Bool.eq_false_iff];intro h;have:=(q2x l).1 h i hlt;rw[HVi.out]at this
      cases this)
     go_wp2;go_ret;exact⟨by rw[HS.out];rfl,Hb5.out⟩
    |true =>
     go_wp2;go_roundw
     case rel=>exact⟨i+1,hlt,by omega,by push_cast;rfl,qh (fun j hj hji=>by
      by_cases e:j=i
      ·subst e;exact HVi.out
      ·exact hall.out j hj (by omega)),Hb5⟩
     case measure=>simp[intOf];omega
   ·have h8':¬ ((i:Int)<=8):=by omega
    have hd:decide (l.length<=8)=false:=by rw[decide_eq_false_iff_not];omega
    have hd2:decide ((l.length:Int)<=8)=false:=by rw[decide_eq_false_iff_not];omega
    have HD:=qh hd;clear hd;go_wp2;go_ret;exact⟨by rw[HD.out,Bool.and_false];simp,hbl.out⟩
  ·have hlt':¬ ((i:Int) < (l.length:Int)):=by omega
   have HS:Hid (q01 l=true):=qh ((q2x l).2 fun j hj=>hall.out j hj (by omega));have HDD:Hid (decide ((l.length:Int)<=8)=decide (l.length<=8)):=qh (by rw[decide_eq_decide];omega);go_wp2;go_ret;exact⟨by rw[HS.out,Bool.true_and,<-HDD.out];rfl,hbl.out⟩
theorem q6u{l:List Nd}(h:0 < l.length):q1j l=x5 l[0]:=by
 cases l with
 |nil=>simp at h
 |cons a l=>rfl
theorem q5b(k:Int)(s:ByteArray)(l:List Nd)(w:World)(v0 v1 v2:Value)(ht:NdR w (.mk k s l) v0 v1 v2) :
  Calls Tryz.prog 126 #[.agg #[v0,v1,v2]] w fun e w'=>e = .returned (.bool (jy s l))/\Below w.heap.size w w':=by
 obtain⟨k',s',l',a,cap,he,rfl,rfl,rfl,hs,hl⟩:=ht.form
 cases he;unfold maxLen at hl;obtain⟨V1,hV1⟩:∃ V,zf s=V:=⟨_,rfl⟩;obtain⟨V2,hV2⟩:∃ V,xy s=V:=⟨_,rfl⟩;have CN:=qh (fun w=>xg V1 s w hV1);have CV:=qh (fun w=>q2k V2 s w hV2);obtain⟨h,hh⟩:∃ h,w.heap.size=h:=⟨_,rfl⟩;have hb0:=qh ((Below.refl w.heap.size w).alloc (q9 _) (.cells #[.int .i64 k,.string s,.slice a l.length cap] 25));have D0:=qh (nd3 (w:=w) (k:=k) (s:=s) (v2:=.slice a l.length cap) (t:=25) hh);have HH:=qh hh;have HT:=qh ht;have HS:Hid (jy s l=((V1||V2) && (decide (l.length=1)||(decide (l.length=2) && q1j l)))):=qh (by unfold jy;rw[hV1,hV2]);clear hV1 hV2 ht
 cases V1 with
 |false =>
  cases V2 with
  |false =>
   clear hh;go_enter Tryz.func126,Tryz.ntmps126
   go_wp2_with fail
   refine(CN.out _).mono ?_;rintro e w1⟨rfl,hb1⟩;have B1:Hid (Below w.heap.size w w1):=qh (hb0.out.trans (hb1.mono hb0.out.size));have d1:w1.cell? ⟨w.heap.size,1,none⟩=some (.string s):=(hb1.cell (p:=⟨w.heap.size,1,none⟩) (by rw[q6];exact Nat.lt_succ_self _)).trans (by rw[HH.out];exact D0.out.2.1);clear CN hb1
   go_wp2_with fail
   refine(CV.out _).mono ?_;rintro e w2⟨rfl,hb2⟩;have B2:Hid (Below w.heap.size w w2):=qh (B1.out.trans (hb2.mono B1.out.size));clear CV hb2 d1;go_wp2;go_ret;exact⟨by rw[HS.out];rfl,B2.out⟩
  |true =>
   clear hh;go_enter Tryz.func126,Tryz.ntmps126
   go_wp2_with fail
   refine(CN.out _).mono ?_;rintro e w1⟨rfl,hb1⟩;have B1:Hid (Below w.heap.size w w1):=qh (hb0.out.trans (hb1.mono hb0.out.size));have d1:w1.cell? ⟨w.heap.size,1,none⟩=some (.string s):=(hb1.cell (p:=⟨w.heap.size,1,none⟩) (by rw[q6];exact Nat.lt_succ_self _)).trans (by rw[HH.out];exact D0.out.2.1);have d3:=qh (show w1.cell? ⟨w.heap.size,2,none⟩=some (.slice a l.length cap) from(hb1.cell (p:=⟨w.heap.size,2,none⟩) (by rw[q6];exact Nat.lt_succ_self _)).trans (by rw[HH.out];exact D0.out.2.2));have l3:=hb1.size;rw[q6]at l3;clear CN hb1
   go_wp2_with fail
   refine(CV.out _).mono ?_;rintro e w2⟨rfl,hb2⟩;have B2:Hid (Below w.heap.size w w2):=qh (B1.out.trans (hb2.mono B1.out.size));have d2:w2.cell? ⟨w.heap.size,2,none⟩=some (.slice a l.length cap):=(hb2.cell (p:=⟨w.heap.size,2,none⟩) l3).trans d3.out;clear CV hb2 d1 d3 l3
   by_cases hl1:l.length=1
   ·have e1:((l.length:Int)==1)=true:=by rw[hl1];rfl
    have HR:Hid (jy s l=true):=qh (by rw[HS.out,decide_eq_true hl1];simp);clear hl1;go_wp2;go_ret;exact⟨by rw[HR.out];rfl,B2.out⟩
   ·have e1:((l.length:Int)==1)=false:=by rw[qc];omega
    by_cases hl2:l.length=2
    ·have e2:((l.length:Int)==2)=true:=by rw[hl2];rfl
     have i0:(0:Int) < (l.length:Int):=by omega
     have j0:0 < l.length:=by omega
     obtain⟨b,o,k1,s1,l1,a1,c1,rfl,eq1,x0,x1,x2,r1⟩:=(HT.out.later B2.out).kid 0 j0;simp only[Nat.zero_mul,Nat.add_zero]at x0 x1 x2;obtain⟨V,hV⟩:∃ V,x5 (.mk k1 s1 l1)=V:=⟨_,rfl⟩;have HR:Hid (jy s l=V):=qh (by rw[HS.out,decide_eq_false hl1,decide_eq_true hl2,q6u j0,eq1,hV];simp);have CT:=qh (q3f _ (.mk k1 s1 l1) w2 _ _ _ (q9 _) r1);rw[hV]at CT;have nb:=qi x0;clear eq1 hV r1 hl1 hl2
     go_wp2_with fail
     refine CT.out.mono ?_;clear CT;rintro e w9⟨rfl,hb9⟩;have B9:Hid (Below w.heap.size w w9):=qh (B2.out.trans (hb9.mono B2.out.size));clear hb9 x0 x1 x2 d2;go_wp2;go_ret;exact⟨by rw[HR.out];rfl,B9.out⟩
    ·have e2:((l.length:Int)==2)=false:=by rw[qc];omega
     have HR:Hid (jy s l=false):=qh (by rw[HS.out,decide_eq_false hl1,decide_eq_false hl2];simp);clear hl1 hl2;go_wp2;go_ret;exact⟨by rw[HR.out];rfl,B2.out⟩
 |true =>
  clear hh;go_enter Tryz.func126,Tryz.ntmps126
  go_wp2_with fail
  refine(CN.out _).mono ?_;rintro e w1⟨rfl,hb1⟩;have B1:Hid (Below w.heap.size w w1):=qh (hb0.out.trans (hb1.mono hb0.out.size));have d2:w1.cell? ⟨w.heap.size,2,none⟩=some (.slice a l.length cap):=(hb1.cell (p:=⟨w.heap.size,2,none⟩) (by rw[q6];exact Nat.lt_succ_self _)).trans (by rw[HH.out];exact D0.out.2.2);clear CN CV hb1
  by_cases hl1:l.length=1
  ·have e1:((l.length:Int)==1)=true:=by rw[hl1];rfl
   have HR:Hid (jy s l=true):=qh (by rw[HS.out,decide_eq_true hl1];simp);clear hl1;go_wp2;go_ret;exact⟨by rw[HR.out];rfl,B1.out⟩
  ·have e1:((l.length:Int)==1)=false:=by rw[qc];omega
   by_cases hl2:l.length=2
   ·have e2:((l.length:Int)==2)=true:=by rw[hl2];rfl
    have i0:(0:Int) < (l.length:Int):=by omega
    have j0:0 < l.length:=by omega
    obtain⟨b,o,k1,s1,l1,a1,c1,rfl,eq1,x0,x1,x2,r1⟩:=(HT.out.later B1.out).kid 0 j0;simp only[Nat.zero_mul,Nat.add_zero]at x0 x1 x2;obtain⟨V,hV⟩:∃ V,x5 (.mk k1 s1 l1)=V:=⟨_,rfl⟩;have HR:Hid (jy s l=V):=qh (by rw[HS.out,decide_eq_false hl1,decide_eq_true hl2,q6u j0,eq1,hV];simp);have CT:=qh (q3f _ (.mk k1 s1 l1) w1 _ _ _ (q9 _) r1);rw[hV]at CT;have nb:=qi x0;clear eq1 hV r1 hl1 hl2
    go_wp2_with fail
    refine CT.out.mono ?_;clear CT;rintro e w9⟨rfl,hb9⟩;have B9:Hid (Below w.heap.size w w9):=qh (B1.out.trans (hb9.mono B1.out.size));clear hb9 x0 x1 x2 d2;go_wp2;go_ret;exact⟨by rw[HR.out];rfl,B9.out⟩
   ·have e2:((l.length:Int)==2)=false:=by rw[qc];omega
    have HR:Hid (jy s l=false):=qh (by rw[HS.out,decide_eq_false hl1,decide_eq_false hl2];simp);clear hl1 hl2;go_wp2;go_ret;exact⟨by rw[HR.out];rfl,B1.out⟩
theorem q52:∀ {l:List Nd} (h:0 < l.length),q0g l=zv (l[l.length - 1]'(by omega))
 |[a],_=>by simp[q0g]
 |a :: b :: l,_=>by
  simp only[q0g];rw[qd (by simp)];have:=q52 (l:=b :: l) (by simp);rw[q0g]at this;rw[this];simp
theorem q5x{s:ByteArray}{l:List Nd}(h:jy s l=true):l.length=1\/l.length=2:=by
 unfold jy at h;rw[ql]at h;have h2:=h.2;rw[Bool.or_eq_true,ql,qp,qp]at h2;rcases h2 with h|h
 ·exact .inl h
 ·exact .inr h.1
theorem qdz(n:Nat):∀ (t:Nd) (w:World) (v0 v1 v2:Value),t.sz<=n->NdR w t v0 v1 v2 ->
  Calls Tryz.prog 74 #[.agg #[v0,v1,v2]] w fun e w'=>e = .returned (.bool (zv t))/\Below w.heap.size w w':=by
 induction n with
 |zero=>intro t w v0 v1 v2 h;cases t;simp only[Nd.sz]at h;omega
 |succ n ih =>
  intro t w v0 v1 v2 hsz ht;obtain⟨k,s,l,a,cap,rfl,rfl,rfl,rfl,hs,hl⟩:=ht.form;have hsi:∀ i,(h:i < l.length)->(l[i]).sz<=n:=fun i h=>by have:=Nd.kid_lt k s l i h;omega
  have CA:=qh (fun w (hv:NdL w l (.slice a l.length cap))=>qhm n ih l _ w hsi hv);have IH:=qh ih;have Hsi:=qh hsi;unfold maxLen at hl;obtain⟨A,hA⟩:∃ A,(q01 l && decide (l.length<=8))=A:=⟨_,rfl⟩;rw[hA]at CA;have HA:=qh hA;obtain⟨h,hh⟩:∃ h,w.heap.size=h:=⟨_,rfl⟩;have hb0:=qh ((Below.refl w.heap.size w).alloc (q9 _) (.cells #[.int .i64 k,.string s,.slice a l.length cap] 25));have D0:=qh (nd3 (w:=w) (k:=k) (s:=s) (v2:=.slice a l.length cap) (t:=25) hh);have HH:=qh hh;have HT:=qh ht;clear ih hsi hA hh ht hsz
  by_cases hk:k=15
  ·subst hk
   obtain⟨V,hV⟩:∃ V,zf s=V:=⟨_,rfl⟩;have CN:=qh (fun w=>xg V s w hV);have HS:Hid (zv (.mk 15 s l)=(V && A)):=qh (by rw[zv,qj rfl,hV,HA.out]);clear hV;go_enter Tryz.func74,Tryz.ntmps74
   go_wp2_with fail
   refine(CN.out _).mono ?_;rintro e w1⟨rfl,hb1⟩;have B1:Hid (Below w.heap.size w w1):=qh (hb0.out.trans (hb1.mono hb0.out.size));have d2:w1.cell? ⟨w.heap.size,2,none⟩=some (.slice a l.length cap):=(hb1.cell (p:=⟨w.heap.size,2,none⟩) (by rw[q6];exact Nat.lt_succ_self _)).trans (by rw[HH.out];exact D0.out.2.2);clear CN hb1
   cases V with
   |false =>
    go_wp2;go_ret;exact⟨by rw[HS.out];rfl,B1.out⟩
   |true =>
    go_wp2_with fail
    refine(CA.out _ ⟨_,_,_,_,HT.out.later B1.out⟩).mono ?_;rintro e w2⟨rfl,hb2⟩;have B2:Hid (Below w.heap.size w w2):=qh (B1.out.trans (hb2.mono B1.out.size));clear CA hb2 d2;go_wp2;go_ret;exact⟨by rw[HS.out];rfl,B2.out⟩
  ·have hk15:((k:Int)==15)=false:=by rw[qc];exact hk
   by_cases hk:k=16
   ·subst hk
    obtain⟨V,hV⟩:∃ V,xy s=V:=⟨_,rfl⟩;have CN:=qh (fun w=>q2k V s w hV);have HS:Hid (zv (.mk 16 s l)=(V && A)):=qh (by rw[zv,qd (by decide),qj rfl,hV,HA.out]);clear hV;go_enter Tryz.func74,Tryz.ntmps74
    go_wp2_with fail
    refine(CN.out _).mono ?_;rintro e w1⟨rfl,hb1⟩;have B1:Hid (Below w.heap.size w w1):=qh (hb0.out.trans (hb1.mono hb0.out.size));have d2:w1.cell? ⟨w.heap.size,2,none⟩=some (.slice a l.length cap):=(hb1.cell (p:=⟨w.heap.size,2,none⟩) (by rw[q6];exact Nat.lt_succ_self _)).trans (by rw[HH.out];exact D0.out.2.2);clear CN hb1
    cases V with
    |false =>
     go_wp2;go_ret;exact⟨by rw[HS.out];rfl,B1.out⟩
    |true =>
     go_wp2_with fail
     refine(CA.out _ ⟨_,_,_,_,HT.out.later B1.out⟩).mono ?_;rintro e w2⟨rfl,hb2⟩;have B2:Hid (Below w.heap.size w w2):=qh (B1.out.trans (hb2.mono B1.out.size));clear CA hb2 d2;go_wp2;go_ret;exact⟨by rw[HS.out];rfl,B2.out⟩
   ·have hk16:((k:Int)==16)=false:=by rw[qc];exact hk
    by_cases hk:k=17
    ·subst hk
     obtain⟨V,hV⟩:∃ V,jy s l=V:=⟨_,rfl⟩;have CB:=qh (fun w (ht:NdR w (.mk 17 s l) (.int .i64 17) (.string s) (.slice a l.length cap))=>q5b 17 s l w _ _ _ ht);rw[hV]at CB;have HS:Hid (zv (.mk 17 s l)=(V && q0g l)):=qh (by rw[zv,qd (by decide),qd (by decide),decide_eq_true rfl,Bool.true_and,hV]);have HV:=qh hV;clear hV;go_enter Tryz.func74,Tryz.ntmps74
     go_wp2_with fail
     refine(CB.out _ (HT.out.later hb0.out)).mono ?_;rintro e w1⟨rfl,hb1⟩;have B1:Hid (Below w.heap.size w w1):=qh (hb0.out.trans (hb1.mono hb0.out.size));have d2:w1.cell? ⟨w.heap.size,2,none⟩=some (.slice a l.length cap):=(hb1.cell (p:=⟨w.heap.size,2,none⟩) (by rw[q6];exact Nat.lt_succ_self _)).trans (by rw[HH.out];exact D0.out.2.2);clear CB hb1
     cases V with
     |false =>
      go_wp2;go_ret;exact⟨by rw[HS.out];rfl,B1.out⟩
     |true =>
      have hln:=q5x HV.out;obtain⟨m,hm⟩:∃ m,l.length=m+1:=⟨l.length - 1,by omega⟩;have j0:m < l.length:=by omega
      have i1:(l.length:Int) - 1=(m:Int):=by omega
      have i2:IntKind.i64.wrap (m:Int)=m:=by rw[IntKind.wrap_i64];omega
      have i3:(m:Int) < (l.length:Int):=by omega
      have i4:(0:Int)<=(m:Int):=by omega
      obtain⟨b,o,k1,s1,l1,a1,c1,rfl,eq1,x0,x1,x2,r1⟩:=(HT.out.later B1.out).kid m j0;have hs1:=Hsi.out m j0;obtain⟨U,hU⟩:∃ U,zv l[m]=U:=⟨_,rfl⟩
      have HE:Hid (q0g l=U):=qh (by
       rw[q52 (by omega),<-hU]
       congr 2
       omega)
      rw[eq1]at hs1 hU;have CT:=qh (IH.out (.mk k1 s1 l1) w1 _ _ _ hs1 r1);rw[hU]at CT;have nb:=qi x0;clear eq1 hU r1 hln hm hs1
      go_wp2_with fail
      refine CT.out.mono ?_;clear CT;rintro e w9⟨rfl,hb9⟩;have B9:Hid (Below w.heap.size w w9):=qh (B1.out.trans (hb9.mono B1.out.size));clear hb9 x0 x1 x2 d2;go_wp2;go_ret;exact⟨by rw[HS.out,HE.out];rfl,B9.out⟩
    ·have hk17:((k:Int)==17)=false:=by rw[qc];exact hk
     have HS:Hid (zv (.mk k s l)=false):=qh (by rw[zv,qd (by intro e;rw[e]at hk15;simp at hk15),qd (by intro e;rw[e]at hk16;simp at hk16),decide_eq_false hk,Bool.false_and]);clear hk;go_enter Tryz.func74,Tryz.ntmps74;go_wp2;go_ret;exact⟨by rw[HS.out];rfl,hb0.out⟩
theorem q1z:∀ {l:List Nd} (h:0 < l.length),yj l=qt (l[l.length - 1]'(by omega))
 |[a],_=>by simp[yj]
 |a :: b :: l,_=>by
  simp only[yj];rw[qd (by simp)];have:=q1z (l:=b :: l) (by simp);rw[yj]at this;rw[this];simp
theorem qa2{l:List Nd}(h:l.length=1):jb l=qt (l[0]'(by omega)):=by
 match l,h with
 |[a],_=>simp[jb]
theorem qih{l:List Nd}(h:l.length=2):jb l=(qt (l[0]'(by omega)) && qt (l[1]'(by omega))):=by
 match l,h with
 |[a,b],_=>simp[jb]
def lvl(k:Int):Int:=if k=27\/k=28 then 1 else if k=25\/k=26 then 2 else if k=24 then 3 else if k=23 then 4 else if k=22 then 5 else 6
theorem qfq(k:Int):decide (lvl k < 6)=wv k:=by
 unfold lvl wv
 by_cases h:22<=k/\k<=28
 ·rw[decide_eq_true h.1,decide_eq_true h.2,Bool.true_and,qp]
  split
  ·omega
  ·split
   ·omega
   ·split
    ·omega
    ·split
     ·omega
     ·split
      ·omega
      ·omega
 ·have e:(decide (22<=k) && decide (k<=28))=false:=by
   rw[Bool.and_eq_false_iff,decide_eq_false_iff_not,decide_eq_false_iff_not];omega
  rw[e,decide_eq_false_iff_not,qd (by omega),qd (by omega),qd (by omega),qd (by omega),qd (by omega)];omega
theorem qmw(k:Int)(w:World):Calls Tryz.prog 127 #[.int .i64 k] w fun e w'=>e = .returned (.int .i64 (lvl k))/\w=w':=by
 by_cases n27:k=27
 ·subst n27
  go_enter Tryz.func127,Tryz.ntmps127;go_wp2;go_ret;exact⟨rfl,rfl⟩
 ·have b27:((k:Int)==27)=false:=by rw[qc];exact n27
  by_cases n28:k=28
  ·subst n28
   go_enter Tryz.func127,Tryz.ntmps127;go_wp2;go_ret;exact⟨rfl,rfl⟩
  ·have b28:((k:Int)==28)=false:=by rw[qc];exact n28
   by_cases n25:k=25
   ·subst n25
    go_enter Tryz.func127,Tryz.ntmps127;go_wp2;go_ret;exact⟨rfl,rfl⟩
   ·have b25:((k:Int)==25)=false:=by rw[qc];exact n25
    by_cases n26:k=26
    ·subst n26
     go_enter Tryz.func127,Tryz.ntmps127;go_wp2;go_ret;exact⟨rfl,rfl⟩
    ·have b26:((k:Int)==26)=false:=by rw[qc];exact n26
     by_cases n24:k=24
     ·subst n24
      go_enter Tryz.func127,Tryz.ntmps127;go_wp2;go_ret;exact⟨rfl,rfl⟩
     ·have b24:((k:Int)==24)=false:=by rw[qc];exact n24
      by_cases n23:k=23
      ·subst n23
       go_enter Tryz.func127,Tryz.ntmps127;go_wp2;go_ret;exact⟨rfl,rfl⟩
      ·have b23:((k:Int)==23)=false:=by rw[qc];exact n23
       by_cases n22:k=22
       ·subst n22
        go_enter Tryz.func127,Tryz.ntmps127;go_wp2;go_ret;exact⟨rfl,rfl⟩
       ·have b22:((k:Int)==22)=false:=by rw[qc];exact n22
        have HL:Hid (lvl k=6):=qh (by unfold lvl;rw[qd (by omega),qd (by omega),qd (by omega),qd (by omega),qd (by omega)]);clear n27 n28 n25 n26 n24 n23 n22;go_enter Tryz.func127,Tryz.ntmps127;go_wp2;go_ret;exact⟨by rw[HL.out];rfl,rfl⟩
theorem q3g(n:Nat):∀ (t:Nd) (w:World) (v0 v1 v2:Value),t.sz<=n->NdR w t v0 v1 v2 ->
  Calls Tryz.prog 73 #[.agg #[v0,v1,v2]] w fun e w'=>e = .returned (.bool (qt t))/\Below w.heap.size w w':=by
 induction n with
 |zero=>intro t w v0 v1 v2 h;cases t;simp only[Nd.sz]at h;omega
 |succ n ih =>
  intro t w v0 v1 v2 hsz ht;obtain⟨k,s,l,a,cap,rfl,rfl,rfl,rfl,hs,hl⟩:=ht.form;have Hsi:=qh (show ∀ i,(h:i < l.length)->(l[i]).sz<=n from fun i h=>by have:=Nd.kid_lt k s l i h;omega);have IH:=qh ih;unfold maxLen at hl;obtain⟨h,hh⟩:∃ h,w.heap.size=h:=⟨_,rfl⟩;have hb0:=qh ((Below.refl w.heap.size w).alloc (q9 _) (.cells #[.int .i64 k,.string s,.slice a l.length cap] 25));have D0:=qh (nd3 (w:=w) (k:=k) (s:=s) (v2:=.slice a l.length cap) (t:=25) hh);have HH:=qh hh;have HT:=qh ht;clear ih hh ht hsz
  by_cases hk:k=15
  ·subst hk
   have CT:=qh (fun w (h:NdR w (.mk 15 s l) (.int .i64 15) (.string s) (.slice a l.length cap))=>qdz _ (.mk 15 s l) w _ _ _ (q9 _) h);have HS:Hid (qt (.mk 15 s l)=zv (.mk 15 s l)):=qh (by rw[qt,qj rfl]);obtain⟨V,hV⟩:∃ V,zv (.mk 15 s l)=V:=⟨_,rfl⟩;rw[hV]at CT HS;clear hV;go_enter Tryz.func73,Tryz.ntmps73
   go_wp2_with fail
   refine(CT.out _ (HT.out.later hb0.out)).mono ?_;rintro e w1⟨rfl,hb1⟩;have B1:Hid (Below w.heap.size w w1):=qh (hb0.out.trans (hb1.mono hb0.out.size));clear CT hb1;go_wp2;go_ret;exact⟨by rw[HS.out];rfl,B1.out⟩
  ·have m15:¬ k=15:=hk
   have hk15:((k:Int)==15)=false:=by rw[qc];exact hk
   clear hk
   by_cases hk:k=18
   ·subst hk
    obtain⟨V,hV⟩:∃ V,jy s l=V:=⟨_,rfl⟩;have CB:=qh (fun w (ht:NdR w (.mk 18 s l) (.int .i64 18) (.string s) (.slice a l.length cap))=>q5b 18 s l w _ _ _ ht);rw[hV]at CB;have HS:Hid (qt (.mk 18 s l)=(V && yj l)):=qh (by rw[qt,qd (by decide),qj (by decide),hV]);have HV:=qh hV;clear hV;go_enter Tryz.func73,Tryz.ntmps73
    go_wp2_with fail
    refine(CB.out _ (HT.out.later hb0.out)).mono ?_;rintro e w1⟨rfl,hb1⟩;have B1:Hid (Below w.heap.size w w1):=qh (hb0.out.trans (hb1.mono hb0.out.size));have d2:w1.cell? ⟨w.heap.size,2,none⟩=some (.slice a l.length cap):=(hb1.cell (p:=⟨w.heap.size,2,none⟩) (by rw[q6];exact Nat.lt_succ_self _)).trans (by rw[HH.out];exact D0.out.2.2);clear CB hb1
    cases V with
    |false =>
     go_wp2;go_ret;exact⟨by rw[HS.out];rfl,B1.out⟩
    |true =>
     have hln:=q5x HV.out;obtain⟨m,hm⟩:∃ m,l.length=m+1:=⟨l.length - 1,by omega⟩;have j0:m < l.length:=by omega
     have i1:(l.length:Int) - 1=(m:Int):=by omega
     have i2:IntKind.i64.wrap (m:Int)=m:=by rw[IntKind.wrap_i64];omega
     have i3:(m:Int) < (l.length:Int):=by omega
     have i4:(0:Int)<=(m:Int):=by omega
     obtain⟨b,o,k1,s1,l1,a1,c1,rfl,eq1,x0,x1,x2,r1⟩:=(HT.out.later B1.out).kid m j0;have hs1:=Hsi.out m j0;obtain⟨U,hU⟩:∃ U,qt l[m]=U:=⟨_,rfl⟩
     have HE:Hid (yj l=U):=qh (by
      rw[q1z (by omega),<-hU]
      congr 2
      omega)
     rw[eq1]at hs1 hU;have CT:=qh (IH.out (.mk k1 s1 l1) w1 _ _ _ hs1 r1);rw[hU]at CT;have nb:=qi x0;clear eq1 hU r1 hln hm hs1
     go_wp2_with fail
     refine CT.out.mono ?_;clear CT;rintro e w9⟨rfl,hb9⟩;have B9:Hid (Below w.heap.size w w9):=qh (B1.out.trans (hb9.mono B1.out.size));clear hb9 x0 x1 x2 d2;go_wp2;go_ret;exact⟨by rw[HS.out,HE.out];rfl,B9.out⟩
   ·have m18:¬ k=18:=hk
    have hk18:((k:Int)==18)=false:=by rw[qc];exact hk
    clear hk
    by_cases hk:k=19
    ·subst hk
     obtain⟨V,hV⟩:∃ V,jy s l=V:=⟨_,rfl⟩;have CB:=qh (fun w (ht:NdR w (.mk 19 s l) (.int .i64 19) (.string s) (.slice a l.length cap))=>q5b 19 s l w _ _ _ ht);rw[hV]at CB;have HS:Hid (qt (.mk 19 s l)=(V && yj l)):=qh (by rw[qt,qd (by decide),qj (by decide),hV]);have HV:=qh hV;clear hV;go_enter Tryz.func73,Tryz.ntmps73
     go_wp2_with fail
     refine(CB.out _ (HT.out.later hb0.out)).mono ?_;rintro e w1⟨rfl,hb1⟩;have B1:Hid (Below w.heap.size w w1):=qh (hb0.out.trans (hb1.mono hb0.out.size));have d2:w1.cell? ⟨w.heap.size,2,none⟩=some (.slice a l.length cap):=(hb1.cell (p:=⟨w.heap.size,2,none⟩) (by rw[q6];exact Nat.lt_succ_self _)).trans (by rw[HH.out];exact D0.out.2.2);clear CB hb1
     cases V with
     |false =>
      go_wp2;go_ret;exact⟨by rw[HS.out];rfl,B1.out⟩
     |true =>
      have hln:=q5x HV.out;obtain⟨m,hm⟩:∃ m,l.length=m+1:=⟨l.length - 1,by omega⟩;have j0:m < l.length:=by omega
      have i1:(l.length:Int) - 1=(m:Int):=by omega
      have i2:IntKind.i64.wrap (m:Int)=m:=by rw[IntKind.wrap_i64];omega
      have i3:(m:Int) < (l.length:Int):=by omega
      have i4:(0:Int)<=(m:Int):=by omega
      obtain⟨b,o,k1,s1,l1,a1,c1,rfl,eq1,x0,x1,x2,r1⟩:=(HT.out.later B1.out).kid m j0;have hs1:=Hsi.out m j0;obtain⟨U,hU⟩:∃ U,qt l[m]=U:=⟨_,rfl⟩
      have HE:Hid (yj l=U):=qh (by
       rw[q1z (by omega),<-hU]
       congr 2
       omega)
      rw[eq1]at hs1 hU;have CT:=qh (IH.out (.mk k1 s1 l1) w1 _ _ _ hs1 r1);rw[hU]at CT;have nb:=qi x0;clear eq1 hU r1 hln hm hs1
      go_wp2_with fail
      refine CT.out.mono ?_;clear CT;rintro e w9⟨rfl,hb9⟩;have B9:Hid (Below w.heap.size w w9):=qh (B1.out.trans (hb9.mono B1.out.size));clear hb9 x0 x1 x2 d2;go_wp2;go_ret;exact⟨by rw[HS.out,HE.out];rfl,B9.out⟩
    ·have m19:¬ k=19:=hk
     have hk19:((k:Int)==19)=false:=by rw[qc];exact hk
     clear hk
     by_cases hk:k=20
     ·subst hk
      have HS:Hid (qt (.mk 20 s l)=(zb s && decide (l.length=0))):=qh (by rw[qt,qd (by decide),qd (by decide),qj (by decide)])
      cases hse:s.toList.isEmpty with
      |false =>
       have HR:Hid (qt (.mk 20 s l)=false):=qh (by rw[HS.out];unfold zb;rw[hse];rfl);go_enter Tryz.func73,Tryz.ntmps73;go_wp2;go_ret;exact⟨by rw[HR.out];rfl,hb0.out⟩
      |true =>
       by_cases hll:l.length=0
       ·have e0:((l.length:Int)==0)=true:=by rw[hll];rfl
        have HR:Hid (qt (.mk 20 s l)=true):=qh (by rw[HS.out,decide_eq_true hll];unfold zb;rw[hse];rfl);clear hll;go_enter Tryz.func73,Tryz.ntmps73;go_wp2;go_ret;exact⟨by rw[HR.out];rfl,hb0.out⟩
       ·have e0:((l.length:Int)==0)=false:=by rw[qc];omega
        have HR:Hid (qt (.mk 20 s l)=false):=qh (by rw[HS.out,decide_eq_false hll,Bool.and_false]);clear hll;go_enter Tryz.func73,Tryz.ntmps73;go_wp2;go_ret;exact⟨by rw[HR.out];rfl,hb0.out⟩
     ·have m20:¬ k=20:=hk
      have hk20:((k:Int)==20)=false:=by rw[qc];exact hk
      clear hk
      by_cases hk:k=21
      ·subst hk
       have HS:Hid (qt (.mk 21 s l)=(zb s && decide (l.length=0))):=qh (by rw[qt,qd (by decide),qd (by decide),qj (by decide)])
       cases hse:s.toList.isEmpty with
       |false =>
        have HR:Hid (qt (.mk 21 s l)=false):=qh (by rw[HS.out];unfold zb;rw[hse];rfl);go_enter Tryz.func73,Tryz.ntmps73;go_wp2;go_ret;exact⟨by rw[HR.out];rfl,hb0.out⟩
       |true =>
        by_cases hll:l.length=0
        ·have e0:((l.length:Int)==0)=true:=by rw[hll];rfl
         have HR:Hid (qt (.mk 21 s l)=true):=qh (by rw[HS.out,decide_eq_true hll];unfold zb;rw[hse];rfl);clear hll;go_enter Tryz.func73,Tryz.ntmps73;go_wp2;go_ret;exact⟨by rw[HR.out];rfl,hb0.out⟩
        ·have e0:((l.length:Int)==0)=false:=by rw[qc];omega
         have HR:Hid (qt (.mk 21 s l)=false):=qh (by rw[HS.out,decide_eq_false hll,Bool.and_false]);clear hll;go_enter Tryz.func73,Tryz.ntmps73;go_wp2;go_ret;exact⟨by rw[HR.out];rfl,hb0.out⟩
      ·have m21:¬ k=21:=hk
       have hk21:((k:Int)==21)=false:=by rw[qc];exact hk
       clear hk
       by_cases hk:k=29
       ·subst hk
        have HS:Hid (qt (.mk 29 s l)=(zb s && (decide (l.length=1) && jb l))):=qh (by rw[qt,qd (by decide),qd (by decide),qd (by decide),qj (by decide)])
        cases hse:s.toList.isEmpty with
        |false =>
         have HR:Hid (qt (.mk 29 s l)=false):=qh (by rw[HS.out];unfold zb;rw[hse];rfl);go_enter Tryz.func73,Tryz.ntmps73;go_wp2;go_ret;exact⟨by rw[HR.out];rfl,hb0.out⟩
        |true =>
         by_cases hll:l.length=1
         ·have e0:((l.length:Int)==1)=true:=by rw[hll];rfl
          have j0:0 < l.length:=by omega
          have i0:(0:Int) < (l.length:Int):=by omega
          obtain⟨b,o,k1,s1,l1,a1,c1,rfl,eq1,x0,x1,x2,r1⟩:=HT.out.kid 0 j0;simp only[Nat.zero_mul,Nat.add_zero]at x0 x1 x2;obtain⟨U,hU⟩:∃ U,qt (.mk k1 s1 l1)=U:=⟨_,rfl⟩;have hs1:=Hsi.out 0 j0;rw[eq1]at hs1;have HR:Hid (qt (.mk 29 s l)=U):=qh (by rw[HS.out,decide_eq_true hll,qa2 hll,eq1,hU];unfold zb;rw[hse];simp);have CT:=qh (fun w h=>IH.out (.mk k1 s1 l1) w (.int .i64 k1) (.string s1) (.slice a1 l1.length c1) hs1 h);rw[hU]at CT;have R1:=qh r1;have nb:=qi x0;clear eq1 hU r1 hll hs1;go_enter Tryz.func73,Tryz.ntmps73
          go_wp2_with fail
          refine(CT.out _ (R1.out.later hb0.out)).mono ?_;rintro e w1⟨rfl,hb1⟩;have B1:Hid (Below w.heap.size w w1):=qh (hb0.out.trans (hb1.mono hb0.out.size));clear CT hb1 x0 x1 x2;go_wp2;go_ret;exact⟨by rw[HR.out];rfl,B1.out⟩
         ·have e0:((l.length:Int)==1)=false:=by rw[qc];omega
          have HR:Hid (qt (.mk 29 s l)=false):=qh (by rw[HS.out,decide_eq_false hll,Bool.false_and,Bool.and_false]);clear hll;go_enter Tryz.func73,Tryz.ntmps73;go_wp2;go_ret;exact⟨by rw[HR.out];rfl,hb0.out⟩
       ·have m29:¬ k=29:=hk
        have hk29:((k:Int)==29)=false:=by rw[qc];exact hk
        clear hk
        by_cases hk:k=30
        ·subst hk
         have HS:Hid (qt (.mk 30 s l)=(zb s && (decide (l.length=1) && jb l))):=qh (by rw[qt,qd (by decide),qd (by decide),qd (by decide),qj (by decide)])
         cases hse:s.toList.isEmpty with
         |false =>
          have HR:Hid (qt (.mk 30 s l)=false):=qh (by rw[HS.out];unfold zb;rw[hse];rfl);go_enter Tryz.func73,Tryz.ntmps73;go_wp2;go_ret;exact⟨by rw[HR.out];rfl,hb0.out⟩
         |true =>
          by_cases hll:l.length=1
          ·have e0:((l.length:Int)==1)=true:=by rw[hll];rfl
           have j0:0 < l.length:=by omega
           have i0:(0:Int) < (l.length:Int):=by omega
           obtain⟨b,o,k1,s1,l1,a1,c1,rfl,eq1,x0,x1,x2,r1⟩:=HT.out.kid 0 j0;simp only[Nat.zero_mul,Nat.add_zero]at x0 x1 x2;obtain⟨U,hU⟩:∃ U,qt (.mk k1 s1 l1)=U:=⟨_,rfl⟩;have hs1:=Hsi.out 0 j0;rw[eq1]at hs1;have HR:Hid (qt (.mk 30 s l)=U):=qh (by rw[HS.out,decide_eq_true hll,qa2 hll,eq1,hU];unfold zb;rw[hse];simp);have CT:=qh (fun w h=>IH.out (.mk k1 s1 l1) w (.int .i64 k1) (.string s1) (.slice a1 l1.length c1) hs1 h);rw[hU]at CT;have R1:=qh r1;have nb:=qi x0;clear eq1 hU r1 hll hs1;go_enter Tryz.func73,Tryz.ntmps73
           go_wp2_with fail
           refine(CT.out _ (R1.out.later hb0.out)).mono ?_;rintro e w1⟨rfl,hb1⟩;have B1:Hid (Below w.heap.size w w1):=qh (hb0.out.trans (hb1.mono hb0.out.size));clear CT hb1 x0 x1 x2;go_wp2;go_ret;exact⟨by rw[HR.out];rfl,B1.out⟩
          ·have e0:((l.length:Int)==1)=false:=by rw[qc];omega
           have HR:Hid (qt (.mk 30 s l)=false):=qh (by rw[HS.out,decide_eq_false hll,Bool.false_and,Bool.and_false]);clear hll;go_enter Tryz.func73,Tryz.ntmps73;go_wp2;go_ret;exact⟨by rw[HR.out];rfl,hb0.out⟩
        ·have m30:¬ k=30:=hk
         have hk30:((k:Int)==30)=false:=by rw[qc];exact hk
         clear hk;have HS:Hid (qt (.mk k s l)=(wv k && (zb s && (decide (l.length=2) && jb l)))):=qh (by rw[qt,qd m15,qd (by omega),qd (by omega),qd (by omega)]);clear m15 m18 m19 m20 m21 m29 m30;have CL:=qh (fun w=>qmw k w);have HL:=qh (qfq k);obtain⟨L,hL⟩:∃ L,lvl k=L:=⟨_,rfl⟩;rw[hL]at CL HL;clear hL
         cases hb:wv k with
         |false =>
          rw[hb]at HL HS;have hd:=HL.out;have HR:Hid (qt (.mk k s l)=false):=qh (by rw[HS.out];rfl);clear hb;go_enter Tryz.func73,Tryz.ntmps73
          go_wp2_with fail
          refine(CL.out _).mono ?_;rintro e w1⟨rfl,rfl⟩;go_wp2;go_ret;exact⟨by rw[HR.out];rfl,hb0.out⟩
         |true =>
          rw[hb]at HL HS;have hd:=HL.out;have hd':L < 6:=by simpa using hd
          clear hb hd
          cases hse:s.toList.isEmpty with
          |false =>
           have HR:Hid (qt (.mk k s l)=false):=qh (by rw[HS.out];unfold zb;rw[hse];rfl);go_enter Tryz.func73,Tryz.ntmps73
           go_wp2_with fail
           refine(CL.out _).mono ?_;rintro e w1⟨rfl,rfl⟩;go_wp2;go_ret;exact⟨by rw[HR.out];rfl,hb0.out⟩
          |true =>
           by_cases hll:l.length=2
           ·have e0:((l.length:Int)==2)=true:=by rw[hll];rfl
            have j0:0 < l.length:=by omega
            have j1:1 < l.length:=by omega
            have i0:(0:Int) < (l.length:Int):=by omega
            have i1:(1:Int) < (l.length:Int):=by omega
            obtain⟨b,o,k1,s1,l1,a1,c1,rfl,eq1,x0,x1,x2,r1⟩:=HT.out.kid 0 j0;obtain⟨b',o',k2,s2,l2,a2,c2,hbo,eq2,y0,y1,y2,r2⟩:=HT.out.kid 1 j1;obtain⟨rfl,rfl⟩:b=b'/\o=o':=by simpa using hbo
            simp only[Nat.zero_mul,Nat.add_zero]at x0 x1 x2;simp only[Nat.one_mul]at y0 y1 y2;obtain⟨U1,hU1⟩:∃ U,qt (.mk k1 s1 l1)=U:=⟨_,rfl⟩;obtain⟨U2,hU2⟩:∃ U,qt (.mk k2 s2 l2)=U:=⟨_,rfl⟩;have hs1:=Hsi.out 0 j0;have hs2:=Hsi.out 1 j1;rw[eq1]at hs1;rw[eq2]at hs2;have HR:Hid (qt (.mk k s l)=(U1 && U2)):=qh (by rw[HS.out,decide_eq_true hll,qih hll,eq1,eq2,hU1,hU2];unfold zb;rw[hse];simp);have C1:=qh (fun w h=>IH.out (.mk k1 s1 l1) w (.int .i64 k1) (.string s1) (.slice a1 l1.length c1) hs1 h);have C2:=qh (fun w h=>IH.out (.mk k2 s2 l2) w (.int .i64 k2) (.string s2) (.slice a2 l2.length c2) hs2 h);rw[hU1]at C1;rw[hU2]at C2;have R1:=qh r1;have R2:=qh r2;have nb:=qi x0;have Y:=qh (And.intro y0 (And.intro y1 y2));clear eq1 eq2 hU1 hU2 r1 r2 hll hs1 hs2 hbo y0 y1 y2;go_enter Tryz.func73,Tryz.ntmps73
            go_wp2_with fail
            refine(CL.out _).mono ?_;rintro e w0⟨rfl,rfl⟩
            go_wp2_with fail
            refine(C1.out _ (R1.out.later hb0.out)).mono ?_;rintro e w1⟨rfl,hb1⟩;have B1:Hid (Below w.heap.size w w1):=qh (hb0.out.trans (hb1.mono hb0.out.size));have d2:w1.cell? ⟨w.heap.size,2,none⟩=some (.slice (some ⟨b,o,none⟩) l.length cap):=(hb1.cell (p:=⟨w.heap.size,2,none⟩) (by rw[q6];exact Nat.lt_succ_self _)).trans (by rw[HH.out];exact D0.out.2.2);obtain⟨y0,y1,y2⟩:=Y.out;have z0:=(B1.out.cell (p:=⟨b,o+3,none⟩) nb).trans y0;have z1:=(B1.out.cell (p:=⟨b,o+3+1,none⟩) nb).trans y1;have z2:=(B1.out.cell (p:=⟨b,o+3+2,none⟩) nb).trans y2;have l1:=qi z0;clear C1 hb1 x0 x1 x2 y0 y1 y2
            cases U1 with
            |false =>
             go_wp2;go_ret;exact⟨by rw[HR.out];rfl,B1.out⟩
            |true =>
             go_wp2_with fail
             refine(C2.out _ (R2.out.later B1.out)).mono ?_;rintro e w2⟨rfl,hb2⟩;have B2:Hid (Below w.heap.size w w2):=qh (B1.out.trans (hb2.mono B1.out.size));clear C2 hb2 z0 z1 z2 d2;go_wp2;go_ret;exact⟨by rw[HR.out];rfl,B2.out⟩
           ·have e0:((l.length:Int)==2)=false:=by rw[qc];omega
            have HR:Hid (qt (.mk k s l)=false):=qh (by rw[HS.out,decide_eq_false hll,Bool.false_and,Bool.and_false,Bool.and_false]);clear hll;go_enter Tryz.func73,Tryz.ntmps73
            go_wp2_with fail
            refine(CL.out _).mono ?_;rintro e w1⟨rfl,rfl⟩;go_wp2;go_ret;exact⟨by rw[HR.out];rfl,hb0.out⟩
theorem q3r:∀ (l:List Nd),yn l=true↔∀ i,(h:i < l.length)->x5 l[i]=true
 |[]=>by simp[yn]
 |a :: l=>by
  simp only[yn,ql,q3r l]
  constructor
  ·rintro⟨h1,h2⟩ i hi
   cases i with
   |zero=>exact h1
   |succ i=>exact h2 i (by simpa using hi)
  ·intro h
   exact⟨h 0 (by simp),fun i hi=>h (i+1) (by simpa using hi)⟩
theorem q5c(l:List Nd)(v:Value)(w:World)(hv:NdL w l v) :
  Calls Tryz.prog 160 #[v] w fun e w'=>e = .returned (.bool (yn l && decide (l.length<=8)))/\Below w.heap.size w w':=by
 obtain⟨a,cap,rfl,hl⟩:=hv.form;have HV:=qh hv;unfold maxLen at hl;clear hv;go_enter Tryz.func160,Tryz.ntmps160;go_wp2
 go_loopw [3] (fun v3 wr=>∃ i:Nat,i<=l.length/\v3 = .int .i64 i/\Hid (∀ j,(h:j < l.length)->j < i->x5 l[j]=true)/\Hid (Below w.heap.size w wr)) (fun v3 _=>l.length - (intOf v3).toNat)
 case atStart=>exact⟨0,qv _,rfl,qh (fun j _ h=>absurd h (Nat.not_lt_zero _)),Below.refl _ _⟩
 case round =>
  obtain⟨i,hi,rfl,hall,hbl⟩:=hrel
  by_cases hlt:i < l.length
  ·have hlt':(i:Int) < (l.length:Int):=by omega
   have hi0:(0:Int)<=(i:Int):=by omega
   obtain⟨kk,ss,w0,w1,hR⟩:=HV.out.later hbl.out;obtain⟨b,o,k1,s1,l1,a1,c1,rfl,e1,x0,x1,x2,r1⟩:=hR.kid i hlt;obtain⟨V,hV⟩:∃ V,x5 l[i]=V:=⟨_,rfl⟩;have HVi:=qh hV;rw[e1]at hV;have C:=qh (q3f _ (.mk k1 s1 l1) wr _ _ _ (q9 _) r1);rw[hV]at C;have nb:=qi x0;clear e1 hV r1 hR
   go_wp2_with fail
   refine C.out.mono ?_;clear C;rintro e w5⟨rfl,hb5⟩;have Hb5:Hid (Below w.heap.size w w5):=qh (hbl.out.trans (hb5.mono hbl.out.size));clear hb5 x0 x1 x2
   cases V with
   |false =>
    have HS:Hid (yn l=false):=qh (by
     rw[Bool.eq_false_iff];intro h;have:=(q3r l).1 h i hlt;rw[HVi.out]at this
     cases this)
    go_wp2;go_ret;exact⟨by rw[HS.out];rfl,Hb5.out⟩
   |true =>
    go_wp2;go_roundw
    case rel=>exact⟨i+1,hlt,by push_cast;rfl,qh (fun j hj hji=>by
     by_cases e:j=i
     ·subst e;exact HVi.out
     ·exact hall.out j hj (by omega)),Hb5⟩
    case measure=>simp[intOf];omega
  ·have hlt':¬ ((i:Int) < (l.length:Int)):=by omega
   have HS:Hid (yn l=true):=qh ((q3r l).2 fun j hj=>hall.out j hj (by omega));have HDD:Hid (decide ((l.length:Int)<=8)=decide (l.length<=8)):=qh (by rw[decide_eq_decide];omega);go_wp2;go_ret;exact⟨by rw[HS.out,Bool.true_and,<-HDD.out];rfl,hbl.out⟩
theorem q6z:∀ (l:List Nd) (i:Nat) (h:i < l.length),Nd.szL (l.take (i+1))=Nd.szL (l.take i)+(l[i]).sz
 |a :: l,0,_=>by simp[Nd.szL]
 |a :: l,i+1,h=>by
  have:=q6z l i (by simpa using h);simp only[List.take_succ_cons,Nd.szL,zi]at this ⊢;omega
theorem q6i:∀ (l:List Nd) (i:Nat),Nd.szL (l.take i)<=Nd.szL l
 |[],i=>by simp[Nd.szL]
 |a :: l,0=>by simp[Nd.szL]
 |a :: l,i+1=>by
  have:=q6i l i;simp only[List.take_succ_cons,Nd.szL];omega
theorem qmx(n:Nat):∀ (t:Nd) (m:Nat) (w:World) (v0 v1 v2:Value),t.sz<=n->m<=1000000000->NdR w t v0 v1 v2 ->
  Calls Tryz.prog 99 #[.agg #[v0,v1,v2],.int .i64 (m:Int)] w fun e w'=>e = .returned (.int .i64 ((min t.sz (m+1):Nat):Int))/\Below w.heap.size w w':=by
 induction n with
 |zero=>intro t m w v0 v1 v2 h;cases t;simp only[Nd.sz]at h;omega
 |succ n ih =>
  intro t m w v0 v1 v2 hsz hm ht;obtain⟨k,s,l,a,cap,rfl,rfl,rfl,rfl,hs,hl⟩:=ht.form;have IH:=qh ih;clear ih;unfold maxLen at hl;have HT:=qh ht;have Hsz:Hid (∀ i,(h:i < l.length)->(l[i]).sz<=n):=qh fun i h=>by have:=Nd.kid_lt k s l i h;omega
  obtain⟨K,hK⟩:∃ K,min (Nd.mk k s l).sz (m+1)=K:=⟨_,rfl⟩;have HK:=qh hK;rw[hK];clear ht hsz hK;go_enter Tryz.func99,Tryz.ntmps99;go_wp2;obtain⟨h,hh⟩:∃ h,w.heap.size=h:=⟨_,rfl⟩;obtain⟨wz,hwz⟩:∃ wz,w.alloc (Obj.cells #[Value.int IntKind.i64 k,Value.string s,Value.slice a l.length cap] 25)=wz:=⟨_,rfl⟩;have hB:Hid (Below w.heap.size w wz):=qh (by rw[<-hwz];exact(Below.refl _ w).alloc (q9 _) _);have hz:wz.heap.size=h+1:=by rw[<-hwz];simp[hh]
  have g0:wz.cell? ⟨h,2,none⟩=some (.slice a l.length cap):=by
   rw[<-hwz,<-hh];exact(World.cell?_alloc_at _ _ _ _ rfl).trans rfl
  have HG0:=qh g0;have Hz:=qh hz;have HTz:=qh (HT.out.later hB.out);rw[hwz,hh];clear hwz hh hz g0 HT
  go_loopw [5,6] (fun v5 v6 wr=>∃ i q:Nat,i<=l.length/\1<=q/\q<=m+1/\v5 = .int .i64 (q:Int)/\v6 = .int .i64 (i:Int)/\Hid (min (1+Nd.szL (l.take i)) (m+1)=q)/\Hid (Below wz.heap.size wz wr)) (fun _ v6 _=>l.length - (intOf v6).toNat)
  case atStart=>exact⟨0,1,qv _,q9 _,by omega,rfl,rfl,qh (by simp[Nd.szL]),Below.refl _ _⟩
  case round =>
   obtain⟨i,q,hi,hq1,hqm,rfl,rfl,hrun,hbl⟩:=hrel;have g0:=(hbl.out.cell (p:=⟨h,2,none⟩) (by have:=Hz.out;simp only;omega)).trans HG0.out
   by_cases hlt:i < l.length
   ·have hlt':(i:Int) < (l.length:Int):=by omega
    have hi0:(0:Int)<=(i:Int):=by omega
    by_cases hqq:q<=m
    ·have hqq':(q:Int)<=(m:Int):=by omega
     obtain⟨b,o,k1,s1,l1,a1,c1,rfl,e1,x0,x1,x2,r1⟩:=(HTz.out.later hbl.out).kid i hlt;have hsz1:=Hsz.out i hlt;have Hst:=qh (q6z l i hlt);rw[e1]at hsz1 Hst;obtain⟨Q,hQ⟩:∃ Q,min (Nd.mk k1 s1 l1).sz (m - q+1)=Q:=⟨_,rfl⟩;have C:=qh (IH.out (.mk k1 s1 l1) (m - q) wr _ _ _ hsz1 (by omega) r1);rw[hQ,show((m - q:Nat):Int)=(m:Int) - (q:Int) from by omega]at C;have hQm:Q<=m - q+1:=by omega
     have HQ:=qh hQ;have L0:=qi g0;have L2:=qi x0;clear e1 hQ r1
     go_wp2_with fail
     refine C.out.mono ?_;clear C;rintro e w5⟨rfl,hb5⟩;have Hb5:Hid (Below wz.heap.size wz w5):=qh (hbl.out.trans (hb5.mono hbl.out.size));clear hb5 x0 x1 x2 g0;have e5:IntKind.i64.wrap ((q:Int)+(Q:Int))=(q:Int)+(Q:Int):=by rw[IntKind.wrap_i64];omega
     have e6:IntKind.i64.wrap ((i:Int)+1)=(i:Int)+1:=by rw[IntKind.wrap_i64];omega
     go_wp2;go_roundw
     case rel=>exact⟨i+1,q+Q,hlt,by omega,by omega,by push_cast;rfl,by push_cast;rfl,qh (by
      have h1:=hrun.out;have h2:=Hst.out;have h3:=HQ.out
      omega),Hb5⟩
     case measure=>simp[intOf];omega
    ·have hqq':¬ ((q:Int)<=(m:Int)):=by omega
     have HE:Hid (q=K):=qh (by
      have h1:=hrun.out;have h2:=HK.out;have h3:=q6i l i;simp only[Nd.sz]at h2
      omega)
     go_wp2;go_ret;exact⟨by rw[HE.out];rfl,hB.out.trans (hbl.out.mono hB.out.size)⟩
   ·have hlt':¬ ((i:Int) < (l.length:Int)):=by omega
    have HE:Hid (q=K):=qh (by
     have h1:=hrun.out;have h2:=HK.out;rw[qw (by omega)]at h1;simp only[Nd.sz]at h2
     omega)
    go_wp2;go_ret;exact⟨by rw[HE.out];rfl,hB.out.trans (hbl.out.mono hB.out.size)⟩
def yh:List Nd->Bool
 |[]=>true
 |a :: l=>xl a && yh l
theorem q0t:∀ (l:List Nd),yh l=true↔∀ i,(h:i < l.length)->xl l[i]=true
 |[]=>by simp[yh]
 |a :: l=>by
  simp only[yh,ql,q0t l]
  constructor
  ·rintro⟨h1,h2⟩ i hi
   cases i with
   |zero=>exact h1
   |succ i=>exact h2 i (by simpa using hi)
  ·intro h
   exact⟨h 0 (by simp),fun i hi=>h (i+1) (by simpa using hi)⟩
theorem NdL.take{w:World}{l:List Nd}{a:Option Addr}{n cap:Nat}(h:NdL w l (.slice a n cap))(m:Nat)(hm:m<=l.length)(c:Nat)(hc:m<=c):NdL w (l.take m) (.slice a m c):=by
 obtain⟨k,s,v0,v1,h⟩:=h
 cases h with
 |mk _ _ _ _ _ b o f0 f1 f2 hs hl hc0 ha h0 h1 h2 hr =>
  have e:(l.take m).length=m:=by rw[List.length_take];omega
  have:=NdR.mk (w:=w) k s (l.take m) a c b o f0 f1 f2 hs (by omega) (by omega) (fun hne=>ha (by rintro rfl;simp at hne))
   (fun i hi=>h0 i (by omega)) (fun i hi=>h1 i (by omega)) (fun i hi=>h2 i (by omega))
   (fun i hi=>by rw[List.getElem_take];exact hr i (by omega))
  rw[e]at this;exact⟨k,s,_,_,this⟩
theorem q5d(l:List Nd)(v:Value)(w:World)(hv:NdL w l v) :
  Calls Tryz.prog 159 #[v] w fun e w'=>e = .returned (.bool (yh l))/\Below w.heap.size w w':=by
 obtain⟨a,cap,rfl,hl⟩:=hv.form;have HV:=qh hv;unfold maxLen at hl;clear hv;go_enter Tryz.func159,Tryz.ntmps159;go_wp2
 go_loopw [3] (fun v3 wr=>∃ i:Nat,i<=l.length/\v3 = .int .i64 i/\Hid (∀ j,(h:j < l.length)->j < i->xl l[j]=true)/\Hid (Below w.heap.size w wr)) (fun v3 _=>l.length - (intOf v3).toNat)
 case atStart=>exact⟨0,qv _,rfl,qh (fun j _ h=>absurd h (Nat.not_lt_zero _)),Below.refl _ _⟩
 case round =>
  obtain⟨i,hi,rfl,hall,hbl⟩:=hrel
  by_cases hlt:i < l.length
  ·have hlt':(i:Int) < (l.length:Int):=by omega
   have hi0:(0:Int)<=(i:Int):=by omega
   obtain⟨kk,ss,w0,w1,hR⟩:=HV.out.later hbl.out;obtain⟨b,o,k1,s1,l1,a1,c1,rfl,e1,x0,x1,x2,r1⟩:=hR.kid i hlt;obtain⟨V,hV⟩:∃ V,zf s1=V:=⟨_,rfl⟩;have HL:Hid (xl l[i]=(decide (k1=15) && (decide (l1.length=0) && V))):=qh (by rw[e1,xl,hV])
   have HF:Hid (xl l[i]=false->yh l=false):=qh (fun hf=>by
    rw[Bool.eq_false_iff];intro h;have:=(q0t l).1 h i hlt;rw[hf]at this
    cases this)
   have C:=qh (fun w=>xg V s1 w hV);have nb:=qi x0;clear e1 hV r1 hR
   by_cases hk:k1=15
   ·subst hk
    by_cases hll:l1.length=0
    ·have hl0:¬ ((0:Int) < (l1.length:Int)):=by omega
     have hd0:decide (0 < l1.length)=false:=by rw[decide_eq_false_iff_not];omega
     have hd1:(0 < l1.length)=False:=eq_false (by omega);rw[decide_eq_true rfl,decide_eq_true hll,Bool.true_and,Bool.true_and]at HL;clear hll
     go_wp2_with fail
     refine(C.out _).mono ?_;clear C;rintro e w5⟨rfl,hb5⟩;have Hb5:Hid (Below w.heap.size w w5):=qh (hbl.out.trans (hb5.mono hbl.out.size));clear hb5 x0 x1 x2
     cases V with
     |false =>
      go_wp2;go_ret;exact⟨by rw[HF.out HL.out];rfl,Hb5.out⟩
     |true =>
      go_wp2;go_roundw
      case rel=>exact⟨i+1,hlt,by push_cast;rfl,qh (fun j hj hji=>by
       by_cases e:j=i
       ·subst e;exact HL.out
       ·exact hall.out j hj (by omega)),Hb5⟩
      case measure=>simp[intOf];omega
    ·have hl0:(0:Int) < (l1.length:Int):=by omega
     have hd0:decide (0 < l1.length)=true:=by rw[qp];omega
     have hd1:0 < l1.length:=by omega
     rw[decide_eq_false hll,Bool.false_and,Bool.and_false]at HL;clear hll;go_wp2;go_ret;exact⟨by rw[HF.out HL.out];rfl,hbl.out⟩
   ·have hk2:((k1:Int) != 15)=true:=by rw[bne_iff_ne];exact hk
    rw[decide_eq_false hk,Bool.false_and]at HL;clear hk;go_wp2;go_ret;exact⟨by rw[HF.out HL.out];rfl,hbl.out⟩
  ·have hlt':¬ ((i:Int) < (l.length:Int)):=by omega
   have HS:Hid (yh l=true):=qh ((q0t l).2 fun j hj=>hall.out j hj (by omega));go_wp2;go_ret;exact⟨by rw[HS.out];rfl,hbl.out⟩
def yi:Nd->Bool
 | .mk k s l=>decide (k=15) && (decide (l.length=0) && (decide (s=⟨#[105,110]⟩)||(decide (s=⟨#[111,117,116]⟩)||decide (s=⟨#[97,110,121]⟩))))
def q14:List Nd->Bool
 |[]=>true
 |a :: l=>yi a && q14 l
theorem q0u:∀ (l:List Nd),q14 l=true↔∀ i,(h:i < l.length)->yi l[i]=true
 |[]=>by simp[q14]
 |a :: l=>by
  simp only[q14,ql,q0u l]
  constructor
  ·rintro⟨h1,h2⟩ i hi
   cases i with
   |zero=>exact h1
   |succ i=>exact h2 i (by simpa using hi)
  ·intro h
   exact⟨h 0 (by simp),fun i hi=>h (i+1) (by simpa using hi)⟩
theorem q36{a b:ByteArray}(h:a.toList=b.toList):a=b:=by
 rw[ByteArray.toList_eq,ByteArray.toList_eq]at h
 cases a;cases b;congr;exact Array.toList_inj.1 h
theorem qhn(l:List Nd)(v:Value)(w:World)(hv:NdL w l v) :
  Calls Tryz.prog 161 #[v] w fun e w'=>e = .returned (.bool (q14 l && decide (l.length<=8)))/\Below w.heap.size w w':=by
 obtain⟨a,cap,rfl,hl⟩:=hv.form;have HV:=qh hv;unfold maxLen at hl;clear hv;go_enter Tryz.func161,Tryz.ntmps161;go_wp2
 go_loopw [3] (fun v3 wr=>∃ i:Nat,i<=l.length/\v3 = .int .i64 i/\Hid (∀ j,(h:j < l.length)->j < i->yi l[j]=true)/\Hid (Below w.heap.size w wr)) (fun v3 _=>l.length - (intOf v3).toNat)
 case atStart=>exact⟨0,qv _,rfl,qh (fun j _ h=>absurd h (Nat.not_lt_zero _)),Below.refl _ _⟩
 case round =>
  obtain⟨i,hi,rfl,hall,hbl⟩:=hrel
  by_cases hlt:i < l.length
  ·have hlt':(i:Int) < (l.length:Int):=by omega
   have hi0:(0:Int)<=(i:Int):=by omega
   obtain⟨kk,ss,w0,w1,hR⟩:=HV.out.later hbl.out;obtain⟨b,o,k1,s1,l1,a1,c1,rfl,e1,x0,x1,x2,r1⟩:=hR.kid i hlt;have HL:Hid (yi l[i]=(decide (k1=15) && (decide (l1.length=0) && (decide (s1=⟨#[105,110]⟩)||(decide (s1=⟨#[111,117,116]⟩)||decide (s1=⟨#[97,110,121]⟩)))))):=qh (by rw[e1,yi])
   have HF:Hid (yi l[i]=false->q14 l=false):=qh (fun hf=>by
    rw[Bool.eq_false_iff];intro h;have:=(q0u l).1 h i hlt;rw[hf]at this
    cases this)
   have nb:=qi x0;clear e1 r1 hR
   by_cases hk:k1=15
   ·subst hk
    by_cases hll:l1.length=0
    ·have hl0:¬ ((0:Int) < (l1.length:Int)):=by omega
     have hd0:decide (0 < l1.length)=false:=by rw[decide_eq_false_iff_not];omega
     have hd1:(0 < l1.length)=False:=eq_false (by omega);rw[decide_eq_true (rfl:(15:Int)=15),decide_eq_true hll,Bool.true_and,Bool.true_and]at HL;clear hll
     by_cases h1:s1=⟨#[105,110]⟩
     ·subst h1
      go_wp2;go_roundw
      case rel=>exact⟨i+1,hlt,by push_cast;rfl,qh (fun j hj hji=>by
       by_cases e:j=i
       ·subst e;rw[HL.out];simp
       ·exact hall.out j hj (by omega)),hbl⟩
      case measure=>simp[intOf];omega
     ·have h1f:=eq_false h1
      rw[decide_eq_false h1,Bool.false_or]at HL
      by_cases h2:s1=⟨#[111,117,116]⟩
      ·subst h2
       go_wp2;go_roundw
       case rel=>exact⟨i+1,hlt,by push_cast;rfl,qh (fun j hj hji=>by
        by_cases e:j=i
        ·subst e;rw[HL.out];simp
        ·exact hall.out j hj (by omega)),hbl⟩
       case measure=>simp[intOf];omega
      ·have h2f:=eq_false h2
       rw[decide_eq_false h2,Bool.false_or]at HL
       by_cases h3:s1=⟨#[97,110,121]⟩
       ·subst h3
        go_wp2;go_roundw
        case rel=>exact⟨i+1,hlt,by push_cast;rfl,qh (fun j hj hji=>by
         by_cases e:j=i
         ·subst e;rw[HL.out];simp
         ·exact hall.out j hj (by omega)),hbl⟩
        case measure=>simp[intOf];omega
       ·have h3f:=eq_false h3
        rw[decide_eq_false h3]at HL
        have m1:(s1.toList==[105,110])=false:=by
         rw[qc];intro h;exact h1 (q36 (h.trans (by decide +kernel)))
        have m2:(s1.toList==[111,117,116])=false:=by
         rw[qc];intro h;exact h2 (q36 (h.trans (by decide +kernel)))
        have m3:(s1.toList==[97,110,121])=false:=by
         rw[qc];intro h;exact h3 (q36 (h.trans (by decide +kernel)))
        go_wp2;go_ret;exact⟨by rw[HF.out HL.out];rfl,hbl.out⟩
    ·have hl0:(0:Int) < (l1.length:Int):=by omega
     have hd0:decide (0 < l1.length)=true:=by rw[qp];omega
     have hd1:0 < l1.length:=by omega
     rw[decide_eq_false hll,Bool.false_and,Bool.and_false]at HL;clear hll;go_wp2;go_ret;exact⟨by rw[HF.out HL.out];rfl,hbl.out⟩
   ·have hk2:((k1:Int) != 15)=true:=by rw[bne_iff_ne];exact hk
    rw[decide_eq_false hk,Bool.false_and]at HL;clear hk;go_wp2;go_ret;exact⟨by rw[HF.out HL.out];rfl,hbl.out⟩
  ·have hlt':¬ ((i:Int) < (l.length:Int)):=by omega
   have HS:Hid (q14 l=true):=qh ((q0u l).2 fun j hj=>hall.out j hj (by omega));have HDD:Hid (decide ((l.length:Int)<=8)=decide (l.length<=8)):=qh (by rw[decide_eq_decide];omega);go_wp2;go_ret;exact⟨by rw[HS.out,Bool.true_and,<-HDD.out];rfl,hbl.out⟩
end Go.Proofs.YtkckddojlignpaaGreatDoor
