/- A part of the proof, packed: see the last text of this claim. -/
import Derived.Test.YtkckddojlignpaaGreatDoorPkBa
import Derived.Test.YtkckddojlignpaaGreatDoorPkBc
import Derived.Test.YtkckddojlignpaaGreatDoorPkBd
import Derived.Test.YtkckddojlignpaaGreatDoorPkBe
import Derived.Test.YtkckddojlignpaaGreatDoorPkBf
import Derived.Deep.RegionHeld3
import Derived.Test.YtkckddojlignpaaGreatDoorRows
import Derived.Test.YtkckddojlignpaaGreatDoorChecked
import Derived.ProofKit
import Derived.SizedLaws
import Derived.ReadAgain
import Derived.Below
import Derived.Deep.Slices
import Derived.Deep.Fields
import Derived.ChangeSame
import Derived.Maps.AppendAt
import Derived.Deep.RegionLaw
set_option maxHeartbeats 20000000
set_option maxRecDepth 100000
namespace Go.Proofs.YtkckddojlignpaaGreatDoor
open Go.RowKit
theorem q3h(w:World)(hw:2<=w.heap.size)(gl:GLw w) :
  Calls Tryz.prog 8 #[] w fun e w'=>e = .returned (.bool true)/\Below w.heap.size w w':=by
 have s0:St w w:=⟨Below.refl _ _,gl,hw⟩;have F1:=qh (fun b wi=>q35 qgx 18 11 (.inl ⟨rfl,rfl⟩) _ _ _ qqr (by unfold maxLen;decide) b wi);have F2:=qh (fun b wi=>q35 qq1 18 11 (.inl ⟨rfl,rfl⟩) _ _ _ qqq (by unfold maxLen;decide) b wi);have F4:=qh (fun b wi=>q7o qq0 _ _ qqp (by unfold maxLen;decide) b wi);have F5:=qh (fun b wi=>q7o qpz _ _ qqo (by unfold maxLen;decide) b wi);have F6:=qh (fun b wi=>q35 qpy 1 9 (.inr ⟨rfl,rfl⟩) _ _ _ qqn (by unfold maxLen;decide) b wi);have P1:=qh (fun b=>q0w qh0 qgx qql b);have P2:=qh (fun b=>q0w qgz qqv qqk b);have P3:=qh (fun b=>q0w qgy qqu qqj b);have P6:=qh (fun b=>q0w q4g qqt qqi b);have NA:=qh (fun b k s a n c wi h=>qer k s a n c b wi h);have AA:=qh (fun b s a n c wi h=>qes s a n c b wi h);have HS0:=qh s0;clear s0 hw gl;go_enter Tryz.func8,Tryz.ntmps8
 go_wp2_with fail
 refine(F1.out _ _ HS0.out).mono ?_;rintro e w1⟨a1,c1,rfl,s1,n1⟩;have S1:=qh s1;have N1:=qh n1;clear s1 n1 F1
 go_wp2_with fail
 refine(P1.out _ _ (S1.out.alloc _) _ _ _ (N1.out.later ((Below.refl _ w1).alloc (q5 _) _))).mono ?_;rintro e w2⟨rfl,s2,_⟩;have S2:=qh s2;clear s2 P1 N1
 go_wp2_with fail
 refine(F2.out _ _ S2.out).mono ?_;rintro e w3⟨a3,c3,rfl,s3,n3⟩;have S3:=qh s3;have N3:=qh n3;clear s3 n3 F2
 go_wp2_with fail
 refine(P2.out _ _ (S3.out.alloc _) _ _ _ (N3.out.later ((Below.refl _ w3).alloc (q5 _) _))).mono ?_;rintro e w4⟨rfl,s4,_⟩;have S4:=qh s4;clear s4 P2 N3
 go_wp2_with fail
 refine(NA.out _ _ _ _ _ _ _ S4.out).mono ?_;rintro e w5⟨rfl,s5,_⟩;obtain⟨V5,hV5⟩:∃ V5,w5.alloc (.cells #[.int .i64 16,.string { data:=#[88] },.slice none 0 0] 25)=V5:=⟨_,rfl⟩;have s5':=s5.alloc (.cells #[.int .i64 16,.string { data:=#[88] },.slice none 0 0] 25);have HX':=Row3.new w5 (.int .i64 16) (.string { data:=#[88] }) (.slice none 0 0);rw[hV5]at s5' HX';obtain⟨X,hX⟩:∃ X,w5.heap.size=X:=⟨_,rfl⟩;rw[hX]at HX';have HX:=qh HX';have T5:=qh s5';have S5:Hid (St V5 V5):=qh ⟨Below.refl _ _,s5'.2.1,s5'.2.2⟩;have HV5:=qh hV5;have HXe:=qh hX;clear s5 s5' HX' hV5 hX
 go_upto_region 6 with fail
 rw[HV5.out,HXe.out];clear HV5 HXe S1 S2 S3 S4
 go_wp2_with fail
 refine(AA.out _ _ _ _ _ _ S5.out).mono ?_;rintro e w6⟨rfl,s6,_⟩;have S6:=qh s6;clear s6
 go_wp2_with fail
 refine(AA.out _ _ _ _ _ _ (S6.out.alloc _)).mono ?_;rintro e w7⟨rfl,s7,b7⟩;have S7:=qh s7
 have R7:Hid (NdR w7 (.mk 15 ⟨#[112]⟩ [nm_ 120]) (.int .i64 15) (.string ⟨#[112]⟩) (.slice (some ⟨w6.heap.size,0,none⟩) 1 1)) :=
  qh (NdR.lit1 (l1:=[]) (by unfold maxLen;decide) ((b7.block _ (by simp)).trans (qm _ _)) (NdR.leaf _ _ _ (by unfold maxLen;decide)))
 clear s7 b7
 go_wp2_with fail
 refine(NA.out _ _ _ _ _ _ _ (S7.out.alloc _)).mono ?_;rintro e w8⟨rfl,s8,b8⟩;have S8:=qh s8
 have R8:Hid (NdR w8 (.mk 18 ⟨#[120]⟩ [.mk 15 ⟨#[112]⟩ [nm_ 120]]) (.int .i64 18) (.string ⟨#[120]⟩) (.slice (some ⟨w7.heap.size,0,none⟩) 1 1)) :=
  qh (NdR.lit1 (l1:=[nm_ 120]) (by unfold maxLen;decide) ((b8.block _ (by simp)).trans (qm _ _)) ((R7.out.later ((Below.refl _ w7).alloc (q5 _) _)).later b8))
 clear s8 b8 R7
 go_wp2_with fail
 refine(NA.out _ _ _ _ _ _ _ ((S8.out.alloc _).alloc _)).mono ?_;rintro e w9⟨rfl,s9,b9⟩;have S9:=qh s9
 have R9:Hid (NdR w9 (.mk 29 ⟨#[]⟩ [.mk 18 ⟨#[120]⟩ [.mk 15 ⟨#[112]⟩ [nm_ 120]]]) (.int .i64 29) (.string ⟨#[]⟩) (.slice (some ⟨w8.heap.size+1,0,none⟩) 1 1)) :=
  qh (NdR.lit1 (l1:=[.mk 15 ⟨#[112]⟩ [nm_ 120]]) (by unfold maxLen;decide) ((b9.block _ (by simp)).trans (x6 (by simp))) ((R8.out.later (((Below.refl _ w8).alloc (q5 _) _).alloc (by simp) _)).later (b9.mono (by simp))))
 clear s9 b9 R8
 go_wp2_with fail
 refine(AA.out _ _ _ _ _ _ S9.out).mono ?_;rintro e w10⟨rfl,s10,b10⟩;have S10:=qh s10;have R10:=qh (R9.out.later b10);clear s10 b10 R9
 go_wp2_with fail
 refine(NA.out _ _ _ _ _ _ _ (S10.out.alloc _)).mono ?_;rintro e w11⟨rfl,s11,b11⟩;have S11:=qh s11
 have R11:Hid (NdR w11 qgy (.int .i64 22) (.string ⟨#[]⟩) (.slice (some ⟨w10.heap.size,0,none⟩) 2 2)) :=
  qh (NdR.lit2 (l1:=[.mk 18 ⟨#[120]⟩ [.mk 15 ⟨#[112]⟩ [nm_ 120]]]) (l2:=[]) (by unfold maxLen;decide) ((b11.block _ (by simp)).trans (qm _ _)) ((R10.out.later ((Below.refl _ w10).alloc (q5 _) _)).later b11) (NdR.leaf _ _ _ (by unfold maxLen;decide)))
 clear s11 b11 R10
 go_wp2_with fail
 refine(P3.out _ _ S11.out _ _ _ R11.out).mono ?_;rintro e w12⟨rfl,s12,_⟩;have S12:=qh s12;clear s12 R11 P3 AA NA S6 S7 S8 S9 S10 S11
 go_wp2_with fail
 refine(F4.out _ _ S12.out).mono ?_;rintro e w13⟨rfl,s13⟩;have S13:=qh s13;clear s13 F4 S12
 go_wp2_with fail
 refine(F5.out _ _ (S13.out.alloc _)).mono ?_;rintro e w14⟨rfl,s14⟩;have S14:=qh s14;clear s14 F5 S13
 go_wp2_with fail
 refine(F6.out _ _ (S14.out.alloc _)).mono ?_;rintro e w15⟨an,cn,rfl,s15,n15⟩;obtain⟨V15,hV15⟩:∃ V,w15.alloc (.cells #[.int .i64 1,.string { data:=#[] },.slice an 2 cn] 25)=V:=⟨_,rfl⟩;have s15':=s15.alloc (.cells #[.int .i64 1,.string { data:=#[] },.slice an 2 cn] 25);have HY':=Row3.new w15 (.int .i64 1) (.string { data:=#[] }) (.slice an 2 cn);have n15':=n15.later ((Below.refl _ w15).alloc (q5 _) (.cells #[.int .i64 1,.string { data:=#[] },.slice an 2 cn] 25));rw[hV15]at s15' HY' n15';obtain⟨Y,hY⟩:∃ Y,w15.heap.size=Y:=⟨_,rfl⟩;rw[hY]at HY';have HY:=qh HY';have T15:=qh (T5.out.below s15'.1);have HX15:=qh (HX.out.below s15'.1 HX.out.lt);have N15:Hid (NdR V15 q4g (.int .i64 1) (.string { data:=#[] }) (.slice an 2 cn)):=qh n15';have S15:Hid (St V15 V15):=qh ⟨Below.refl _ _,s15'.2.1,s15'.2.2⟩;have HV15:=qh hV15;have HYe:=qh hY;clear s15 s15' HY' n15 n15' hV15 hY F6 S14 HX T5 S5
 go_upto_region 11 with fail
 rw[HV15.out,HYe.out];clear HV15 HYe;obtain⟨⟨y0,y1,y2⟩,_⟩:=HY.out.cells
 go_wp2_with fail
 refine(P6.out _ _ S15.out _ _ _ N15.out).mono ?_;rintro e w16⟨rfl,s16,_⟩;have S16:=qh s16;have HY16:=qh (HY.out.below s16.1 HY.out.lt);clear s16 P6 y0 y1 y2;obtain⟨⟨y0,y1,y2⟩,_⟩:=HY16.out.cells;have CV:=qh (qkr 24 16 (.inr ⟨rfl,rfl⟩) q4g w16 _ _ _ (N15.out.later S16.out.1));unfold qjb at CV;rw[qpx,qa rfl,qrd]at CV
 go_wp2_with fail
 refine CV.out.mono ?_;rintro e w17⟨vl,rfl,r17,b17⟩;have S17:=qh (S16.out.below b17);obtain⟨av,nv,hvl⟩:=yh (show w17.ownsRow _ _ 1 vl _ _ from r17);subst hvl;have R17:=qh r17;clear b17 r17 CV y0 y1 y2 S16;have HY17:=qh (HY.out.below S17.out.1 HY.out.lt);have HX17:=qh (HX15.out.below S17.out.1 HX15.out.lt);have N17:=qh (N15.out.later S17.out.1);obtain⟨⟨y0,y1,y2⟩,_⟩:=HY17.out.cells
 go_wp2_with fail
 obtain⟨_,hv0|⟨g,rfl,hvc⟩⟩:=q97 R17.out
 ·cases hv0
 have v0:w17.cell? ⟨g,0,none⟩=some (.string ⟨#[88]⟩):=hvc 0 (by simp);obtain⟨b1,o1,k1,s1,l1,a1',c1',rfl,e1,p0,p1,p2,r1⟩:=N17.out.kid 1 (by simp)
 cases e1;obtain⟨b2,o2,k2,s2,l2,a2',c2',rfl,e2,q0,q1,q2,r2⟩:=r1.kid 0 (by simp)
 cases e2;obtain⟨b3,o3,k3,s3,l3,a3',c3',rfl,e3,t0,t1,t2,r3⟩:=r2.kid 1 (by simp)
 cases e3;obtain⟨b4,o4,k4,s4,l4,a4',c4',rfl,e4,u0,u1,u2,r4⟩:=r3.kid 0 (by simp)
 cases e4
 have CS:Hid (∀ W,Below w17.heap.size w17 W->Calls Tryz.prog 38 #[.agg #[.int .i64 16,.string { data:=#[88] },.slice a4' 0 c4'],.agg #[.int .i64 16,.string { data:=#[88] },.slice none 0 0]] W fun e w'=>e = .returned (.bool true)/\Below W.heap.size W w') :=
  qh (fun W hb=>by
   have C:=qju 1 qaa qaa W _ _ _ _ _ _ (by decide) (r4.later hb) (NdR.leaf W 16 { data:=#[88] } (by unfold maxLen;decide));rw[show ki qaa qaa=true from by kernel_rfl]at C
   exact C)
 obtain⟨⟨x0,x1,x2⟩,_⟩:=HX17.out.cells;clear r1 r2 r3 r4 hvc p0 p1 q1 t0 t1;simp only[Nat.zero_mul,Nat.add_zero,Nat.one_mul]at p2 q0 q2 t2 u0 u1 u2
 go_upto_region 18 with fail
 have S0:Hid (w17.cell? ⟨g,0,none⟩=some (.string ⟨#[88]⟩)/\w17.cell? ⟨Y,2,none⟩=some (.slice (some ⟨b1,o1,none⟩) 2 cn)/\w17.cell? ⟨b1,o1+3+2,none⟩=some (.slice (some ⟨b2,o2,none⟩) 1 c1')/\w17.cell? ⟨b2,o2,none⟩=some (.int .i64 27)/\w17.cell? ⟨b2,o2+2,none⟩=some (.slice (some ⟨b3,o3,none⟩) 2 c2')/\w17.cell? ⟨b3,o3+3+2,none⟩=some (.slice (some ⟨b4,o4,none⟩) 1 c3')/\w17.cell? ⟨b4,o4,none⟩=some (.int .i64 16)/\w17.cell? ⟨b4,o4+1,none⟩=some (.string { data:=#[88] })/\w17.cell? ⟨b4,o4+2,none⟩=some (.slice a4' 0 c4')/\w17.cell? ⟨X,0,none⟩=some (.int .i64 16)/\w17.cell? ⟨X,1,none⟩=some (.string { data:=#[88] })/\w17.cell? ⟨X,2,none⟩=some (.slice none 0 0)):=qh ⟨v0,y2,p2,q0,q2,t2,u0,u1,u2,x0,x1,x2⟩;have SD:w17.drew.cell? ⟨g,0,none⟩=some (.string ⟨#[88]⟩)/\w17.drew.cell? ⟨Y,2,none⟩=some (.slice (some ⟨b1,o1,none⟩) 2 cn)/\w17.drew.cell? ⟨b1,o1+3+2,none⟩=some (.slice (some ⟨b2,o2,none⟩) 1 c1')/\w17.drew.cell? ⟨b2,o2,none⟩=some (.int .i64 27)/\w17.drew.cell? ⟨b2,o2+2,none⟩=some (.slice (some ⟨b3,o3,none⟩) 2 c2')/\w17.drew.cell? ⟨b3,o3+3+2,none⟩=some (.slice (some ⟨b4,o4,none⟩) 1 c3')/\w17.drew.cell? ⟨b4,o4,none⟩=some (.int .i64 16)/\w17.drew.cell? ⟨b4,o4+1,none⟩=some (.string { data:=#[88] })/\w17.drew.cell? ⟨b4,o4+2,none⟩=some (.slice a4' 0 c4')/\w17.drew.cell? ⟨X,0,none⟩=some (.int .i64 16)/\w17.drew.cell? ⟨X,1,none⟩=some (.string { data:=#[88] })/\w17.drew.cell? ⟨X,2,none⟩=some (.slice none 0 0):=S0.out;have SB:Hid (∀ W,Below w17.heap.size w17 W->W.cell? ⟨g,0,none⟩=some (.string ⟨#[88]⟩)/\W.cell? ⟨Y,2,none⟩=some (.slice (some ⟨b1,o1,none⟩) 2 cn)/\W.cell? ⟨b1,o1+3+2,none⟩=some (.slice (some ⟨b2,o2,none⟩) 1 c1')/\W.cell? ⟨b2,o2,none⟩=some (.int .i64 27)/\W.cell? ⟨b2,o2+2,none⟩=some (.slice (some ⟨b3,o3,none⟩) 2 c2')/\W.cell? ⟨b3,o3+3+2,none⟩=some (.slice (some ⟨b4,o4,none⟩) 1 c3')/\W.cell? ⟨b4,o4,none⟩=some (.int .i64 16)/\W.cell? ⟨b4,o4+1,none⟩=some (.string { data:=#[88] })/\W.cell? ⟨b4,o4+2,none⟩=some (.slice a4' 0 c4')/\W.cell? ⟨X,0,none⟩=some (.int .i64 16)/\W.cell? ⟨X,1,none⟩=some (.string { data:=#[88] })/\W.cell? ⟨X,2,none⟩=some (.slice none 0 0)):=qh (fun W hb=>⟨(hb.cell (p:=⟨g,0,none⟩) (qg v0)).trans v0,(hb.cell (p:=⟨Y,2,none⟩) (qg y2)).trans y2,(hb.cell (p:=⟨b1,o1+3+2,none⟩) (qg p2)).trans p2,(hb.cell (p:=⟨b2,o2,none⟩) (qg q0)).trans q0,(hb.cell (p:=⟨b2,o2+2,none⟩) (qg q2)).trans q2,(hb.cell (p:=⟨b3,o3+3+2,none⟩) (qg t2)).trans t2,(hb.cell (p:=⟨b4,o4,none⟩) (qg u0)).trans u0,(hb.cell (p:=⟨b4,o4+1,none⟩) (qg u1)).trans u1,(hb.cell (p:=⟨b4,o4+2,none⟩) (qg u2)).trans u2,(hb.cell (p:=⟨X,0,none⟩) (qg x0)).trans x0,(hb.cell (p:=⟨X,1,none⟩) (qg x1)).trans x1,(hb.cell (p:=⟨X,2,none⟩) (qg x2)).trans x2⟩);have HLB:Hid (∀ e:Bool,True):=qh (fun _=>trivial);clear v0 y2 p2 q0 q2 t2 u0 u1 u2 x0 x1 x2 y0 y1
 go_region_held3 (fun w'=>w'.cell? ⟨g,0,none⟩=some (.string ⟨#[88]⟩)/\w'.cell? ⟨Y,2,none⟩=some (.slice (some ⟨b1,o1,none⟩) 2 cn)/\w'.cell? ⟨b1,o1+3+2,none⟩=some (.slice (some ⟨b2,o2,none⟩) 1 c1')/\w'.cell? ⟨b2,o2,none⟩=some (.int .i64 27)/\w'.cell? ⟨b2,o2+2,none⟩=some (.slice (some ⟨b3,o3,none⟩) 2 c2')/\w'.cell? ⟨b3,o3+3+2,none⟩=some (.slice (some ⟨b4,o4,none⟩) 1 c3')/\w'.cell? ⟨b4,o4,none⟩=some (.int .i64 16)/\w'.cell? ⟨b4,o4+1,none⟩=some (.string { data:=#[88] })/\w'.cell? ⟨b4,o4+2,none⟩=some (.slice a4' 0 c4')/\w'.cell? ⟨X,0,none⟩=some (.int .i64 16)/\w'.cell? ⟨X,1,none⟩=some (.string { data:=#[88] })/\w'.cell? ⟨X,2,none⟩=some (.slice none 0 0))
  (first|with_reducible exact SD|with_reducible exact SE)
  (first|(go_at_call 38;refine(CS.out _ ((Below.refl _ w17).drew)).mono ?_;rintro e w18 ⟨rfl,hb⟩;have B18:Hid (Below w17.heap.size w17 w18):=qh (((Below.refl _ w17).drew).trans hb);have SE:=SB.out _ B18.out;clear hb))
 all_goals go_wp2
 all_goals go_ret
 all_goals exact⟨rfl,(T15.out.1.trans (S17.out.1.mono T15.out.1.size)).trans (B18.out.mono (ql T15.out.1.size S17.out.1.size))⟩
theorem qqe(n:Nat):∀ (t u:Nd) (w:World) (v0 v1 v2 u0 u1 u2:Value),t.sz<=n->NdR w t v0 v1 v2->NdR w u u0 u1 u2 ->
  Calls Tryz.prog 17 #[.agg #[v0,v1,v2],.agg #[u0,u1,u2]] w fun e w'=>e = .returned (.bool (ki t u))/\Below w.heap.size w w':=by
 induction n with
 |zero=>intro t u w v0 v1 v2 u0 u1 u2 h;cases t;simp only[Nd.sz]at h;omega
 |succ n ih =>
  intro t u w v0 v1 v2 u0 u1 u2 hsz ht hu;obtain⟨k,s,l,a,cap,rfl,rfl,rfl,rfl,hs,hl⟩:=ht.form;obtain⟨k',s',l',a',cap',rfl,rfl,rfl,rfl,hs',hl'⟩:=hu.form;have IH:=qh ih;clear ih;unfold maxLen at hl hl'
  by_cases hk:k=k'
  ·subst hk
   have hk2:(k != k)=false:=by simp
   by_cases hse:s.toList=s'.toList
   ·have hs2:(s.toList != s'.toList)=false:=by rw[hse];simp
    have hs3:(!(s.toList==s'.toList))=false:=by rw[hse];simp
    by_cases hll:l.length=l'.length
    ·have hl2:((l.length:Int) != (l'.length:Int))=false:=by rw[hll];simp
     have HS:Hid (ki (.mk k s l) (.mk k s' l')=ju l l'):=qh (by simp only[ki];rw[hse];simp);have HL:=qh hll;have HT:=qh ht;have HU:=qh hu;have Hsz:Hid (∀ i,(h:i < l.length)->(l[i]).sz<=n):=qh fun i h=>by have:=Nd.kid_lt k s l i h;omega
     have hss:=qh hse;clear hse hll ht hu hsz;go_enter Tryz.func17,Tryz.ntmps17;go_wp2;obtain⟨h,hh⟩:∃ h,w.heap.size=h:=⟨_,rfl⟩;obtain⟨wz,hwz⟩:∃ wz,(w.alloc (Obj.cells #[Value.int IntKind.i64 k,Value.string s,Value.slice a l.length cap] 25)).alloc (Obj.cells #[Value.int IntKind.i64 k,Value.string s',Value.slice a' l'.length cap'] 25)=wz:=⟨_,rfl⟩;have hB:Hid (Below w.heap.size w wz):=qh (by rw[<-hwz];exact((Below.refl _ w).alloc (q5 _) _).alloc (by simp) _);have hz:wz.heap.size=h+1+1:=by rw[<-hwz];simp[hh]
     have g0:wz.cell? ⟨h,2,none⟩=some (.slice a l.length cap):=by
      rw[<-hwz,<-hh];exact(World.cell?_alloc_past _ _ _ (by simp)).trans ((World.cell?_alloc_at _ _ _ _ rfl).trans rfl)
     have g1:wz.cell? ⟨h+1,2,none⟩=some (.slice a' l'.length cap'):=by
      rw[<-hwz,<-hh];exact(World.cell?_alloc_at _ _ _ _ (by simp)).trans rfl
     have HG0:=qh g0;have HG1:=qh g1;have Hz:=qh hz;have HTz:=qh (HT.out.later hB.out);have HUz:=qh (HU.out.later hB.out);rw[hwz,hh];clear hwz hh hz g0 g1 HT HU
     go_loopw [5] (fun v5 wr=>∃ i:Nat,i<=l.length/\v5 = .int .i64 i/\Hid (ju l l'=ju (l.drop i) (l'.drop i))/\Hid (Below wz.heap.size wz wr)) (fun v5 _=>l.length - (intOf v5).toNat)
     case atStart=>exact⟨0,qp _,rfl,rfl,Below.refl _ _⟩
     case round =>
      obtain⟨i,hi,rfl,hrun,hbl⟩:=hrel;have g0:=(hbl.out.cell (p:=⟨h,2,none⟩) (by have:=Hz.out;simp only;omega)).trans HG0.out;have g1:=(hbl.out.cell (p:=⟨h+1,2,none⟩) (by have:=Hz.out;simp only;omega)).trans HG1.out
      by_cases hlt:i < l.length
      ·have hlt':(i:Int) < (l.length:Int):=by omega
       have hi2:i < l'.length:=by have:=HL.out;omega
       have hlt2:(i:Int) < (l'.length:Int):=by omega
       have hi0:(0:Int)<=(i:Int):=by omega
       obtain⟨b,o,k1,s1,l1,a1,c1,rfl,e1,x0,x1,x2,r1⟩:=(HTz.out.later hbl.out).kid i hlt;obtain⟨b',o',k2,s2,l2,a2,c2,rfl,e2,y0,y1,y2,r2⟩:=(HUz.out.later hbl.out).kid i hi2;have Hst:=qh (q94 hlt hi2);have hsz1:=Hsz.out i hlt;rw[e1]at hsz1;rw[e1,e2]at Hst;obtain⟨V,hV⟩:∃ V,ki (.mk k1 s1 l1) (.mk k2 s2 l2)=V:=⟨_,rfl⟩;have C:=qh (fun w (h1:NdR w (.mk k1 s1 l1) _ _ _) (h2:NdR w (.mk k2 s2 l2) _ _ _)=>IH.out _ _ w (.int .i64 k1) (.string s1) (.slice a1 l1.length c1) (.int .i64 k2) (.string s2) (.slice a2 l2.length c2) hsz1 h1 h2);rw[hV]at C Hst;have R1:=qh r1;have R2:=qh r2;have L0:=qg g0;have L1:=qg g1;have L2:=qg x0;have L3:=qg y0;clear e1 e2 hV r1 r2
       go_upto_region 6 with fail
       go_cut [45] (fun v wx=>v = .bool (!V)/\Hid (Below wz.heap.size wz wx))
       case first =>
        go_region_held3 (fun w'=>w'.cell? ⟨h,2,none⟩=some (.slice (some ⟨b,o,none⟩) l.length cap)/\w'.cell? ⟨h+1,2,none⟩=some (.slice (some ⟨b',o',none⟩) l'.length cap')/\w'.cell? ⟨b,o+i*3,none⟩=some (.int .i64 k1)/\w'.cell? ⟨b,o+i*3+1,none⟩=some (.string s1)/\w'.cell? ⟨b,o+i*3+2,none⟩=some (.slice a1 l1.length c1)/\w'.cell? ⟨b',o'+i*3,none⟩=some (.int .i64 k2)/\w'.cell? ⟨b',o'+i*3+1,none⟩=some (.string s2)/\w'.cell? ⟨b',o'+i*3+2,none⟩=some (.slice a2 l2.length c2))
         (first|exact⟨g0,g1,x0,x1,x2,y0,y1,y2⟩|exact⟨(hb5.cell (p:=⟨h,2,none⟩) L0).trans g0,(hb5.cell (p:=⟨h+1,2,none⟩) L1).trans g1,(hb5.cell (p:=⟨b,o+i*3,none⟩) L2).trans x0,(hb5.cell (p:=⟨b,o+i*3+1,none⟩) L2).trans x1,(hb5.cell (p:=⟨b,o+i*3+2,none⟩) L2).trans x2,(hb5.cell (p:=⟨b',o'+i*3,none⟩) L3).trans y0,(hb5.cell (p:=⟨b',o'+i*3+1,none⟩) L3).trans y1,(hb5.cell (p:=⟨b',o'+i*3+2,none⟩) L3).trans y2⟩)
         ((go_at_call 17;refine(C.out _ (R1.out.later (Below.refl _ _).drew) (R2.out.later (Below.refl _ _).drew)).mono ?_;rintro e w5 ⟨rfl,hb5⟩))
        all_goals go_wp2
        all_goals go_meet
        all_goals exact⟨rfl,qh (hbl.out.drew.trans (hb5.mono hbl.out.size))⟩
       case rest =>
        obtain⟨rfl,hbx⟩:=hcut;clear C R1 R2 g0 g1 x0 x1 x2 y0 y1 y2
        cases V with
        |false =>
         go_wp2;go_ret;exact⟨by rw[HS.out,hrun.out,Hst.out];rfl,hB.out.trans (hbx.out.mono hB.out.size)⟩
        |true =>
         go_wp2;go_roundw
         case rel=>exact⟨i+1,hlt,by push_cast;rfl,qh (by rw[hrun.out,Hst.out];rfl),hbx⟩
         case measure=>simp[intOf];omega
      ·have hlt':¬ ((i:Int) < (l.length:Int)):=by omega
       go_wp2;go_ret;exact⟨by rw[HS.out,hrun.out,qba (by omega) (by have:=HL.out;omega)];rfl,hB.out.trans (hbl.out.mono hB.out.size)⟩
    ·have hl2:((l.length:Int) != (l'.length:Int))=true:=by rw[bne_iff_ne];omega
     have HS:Hid (ki (.mk k s l) (.mk k s' l')=false):=qh (by simp only[ki];rw[q69 l l' hll,Bool.and_false]);have hss:=qh hse;clear hse hll ht hu;go_enter Tryz.func17,Tryz.ntmps17;go_wp2;go_ret;exact⟨by rw[HS.out];rfl,((Below.refl _ w).alloc (q5 _) _).alloc (by simp) _⟩
   ·have hs2:(s.toList==s'.toList)=false:=by rw[q9];exact hse
    have HS:Hid (ki (.mk k s l) (.mk k s' l')=false):=qh (by simp only[ki];rw[hs2,Bool.and_false];rfl);have hs3:(s=s')=False:=eq_false (by rintro rfl;exact hse rfl);clear hse ht hu;go_enter Tryz.func17,Tryz.ntmps17;go_wp2;go_ret;exact⟨by rw[HS.out];rfl,((Below.refl _ w).alloc (q5 _) _).alloc (by simp) _⟩
  ·have hk2:(k != k')=true:=by rw[bne_iff_ne];exact hk
   have HS:Hid (ki (.mk k s l) (.mk k' s' l')=false):=qh (by simp only[ki];rw[show(k==k')=false from by rw[q9];exact hk];rfl);clear hk ht hu;go_enter Tryz.func17,Tryz.ntmps17;go_wp2;go_ret;exact⟨by rw[HS.out];rfl,((Below.refl _ w).alloc (q5 _) _).alloc (by simp) _⟩
theorem q7g(J:ByteArray):S_ (bs J) = .string J:=congrArg Value.string (qcs J)
theorem qfv(n:Int) : -180<=n.tmod 181/\n.tmod 181<=180:=by
 have h1:=Int.tmod_lt_of_pos n (b:=181) (by decide);have h2:=Int.lt_tmod_of_pos n (b:=181) (by decide);omega
theorem qme(n:Int):(n.tmod 181+181).tmod 181=n % 181:=by
 have h:=qfv n;have e:n=181*n.tdiv 181+n.tmod 181:=(Int.mul_tdiv_add_tmod n 181).symm;rw[Int.tmod_eq_emod_of_nonneg (by omega)];omega
theorem qan(n:Int)(w:World)(_hn : -9223372036854775808<=n/\n<=9223372036854775807) :
  Calls Tryz.prog 33 #[.int .i64 n,.int .i64 181] w fun e w'=>e = .returned (.int .i64 (n % 181))/\w'=w:=by
 have h1:=qfv n;have h2:=qme n;obtain⟨q,hq⟩:∃ q,n.tmod 181=q:=⟨_,rfl⟩;rw[hq]at h1 h2;obtain⟨z,hz⟩:∃ z,(q+181).tmod 181=z:=⟨_,rfl⟩;have hz2:z=n % 181:=hz.symm.trans h2;have hz3:0<=z/\z<=180:=by omega
 have H2:=qh hz2;clear h2 hz2;go_enter Tryz.func33,Tryz.ntmps33;go_wp2;go_ret;exact⟨by rw[H2.out];rfl,rfl⟩
theorem qnt(t:Nd)(i:Int)(hi:i=0\/i=1\/i=2\/i=3)(v0 v1 v2:Value)(w:World)(ht:NdR w t v0 v1 v2) :
  Calls Tryz.prog 31 #[.agg #[v0,v1,v2],.int .i64 i] w fun e w'=>e = .returned (.bool (q1x (q05 i) t))/\Below w.heap.size w w':=by
 obtain⟨k,s,kl,a,cap,rfl,rfl,rfl,rfl,hs,hl⟩:=ht.form;obtain⟨W,hW⟩:∃ W,w.alloc (.cells #[.int .i64 k,.string s,.slice a kl.length cap] 25)=W:=⟨_,rfl⟩;have hb0:=(Below.refl w.heap.size w).alloc (q5 _) (.cells #[.int .i64 k,.string s,.slice a kl.length cap] 25);have R0:Row3 W w.heap.size (.int .i64 k) (.string s) (.slice a kl.length cap):=by rw[<-hW];exact Row3.new _ _ _ _
 rw[hW]at hb0;have tW:=ht.later hb0;have C0:=qh (qoq (.mk k s kl) W _ _ _ tW);have C1:=qh (q42 _ (.mk k s kl) W _ _ _ (q5 _) tW);have C2:=qh (qg2 _ (.mk k s kl) W _ _ _ (q5 _) tW);have C3:=qh (q41 _ (.mk k s kl) W _ _ _ (q5 _) tW);have f0:q1x (q05 0) (.mk k s kl)=xq (.mk k s kl):=rfl;have f1:q1x (q05 1) (.mk k s kl)=qn (.mk k s kl):=rfl;have f2:q1x (q05 2) (.mk k s kl)=zh (.mk k s kl):=rfl;have f3:q1x (q05 3) (.mk k s kl)=zj (.mk k s kl):=rfl;obtain⟨b0,h0⟩:∃ b,xq (.mk k s kl)=b:=⟨_,rfl⟩;obtain⟨b1,h1⟩:∃ b,qn (.mk k s kl)=b:=⟨_,rfl⟩;obtain⟨b2,h2⟩:∃ b,zh (.mk k s kl)=b:=⟨_,rfl⟩;obtain⟨b3,h3⟩:∃ b,zj (.mk k s kl)=b:=⟨_,rfl⟩;rw[h0]at C0 f0;rw[h1]at C1 f1;rw[h2]at C2 f2;rw[h3]at C3 f3;have HB:=qh hb0;have HW:=qh hW;obtain⟨⟨n0,n1,n2⟩,_⟩:=R0.cells;have hsW:W.heap.size=w.heap.size+1:=by rw[<-hW];simp
 have HS:=qh hsW;clear h0 h1 h2 h3 hb0 hW tW ht R0 hsW;rcases hi with rfl|rfl|rfl|rfl
 ·rw[f0]
  clear f0 f1 f2 f3 C1 C2 C3;go_enter Tryz.func31,Tryz.ntmps31
  go_upto_region 1 with fail
  rw[HW.out]
  go_wp2_with fail
  refine C0.out.mono ?_;rintro e w1⟨rfl,hb⟩;have B1:=qh (HB.out.trans (hb.mono (by have:=HS.out;omega)));clear hb C0 n0 n1 n2;go_wp2;go_ret;exact⟨rfl,B1.out⟩
 ·rw[f1]
  clear f0 f1 f2 f3 C0 C2 C3;go_enter Tryz.func31,Tryz.ntmps31
  go_upto_region 1 with fail
  rw[HW.out]
  go_wp2_with fail
  refine C1.out.mono ?_;rintro e w1⟨rfl,hb⟩;have B1:=qh (HB.out.trans (hb.mono (by have:=HS.out;omega)));clear hb C1 n0 n1 n2;go_wp2;go_ret;exact⟨rfl,B1.out⟩
 ·rw[f2]
  clear f0 f1 f2 f3 C0 C1 C3;go_enter Tryz.func31,Tryz.ntmps31
  go_upto_region 1 with fail
  rw[HW.out]
  go_wp2_with fail
  refine C2.out.mono ?_;rintro e w1⟨rfl,hb⟩;have B1:=qh (HB.out.trans (hb.mono (by have:=HS.out;omega)));clear hb C2 n0 n1 n2;go_wp2;go_ret;exact⟨rfl,B1.out⟩
 ·rw[f3]
  clear f0 f1 f2 f3 C0 C1 C2;go_enter Tryz.func31,Tryz.ntmps31
  go_upto_region 1 with fail
  rw[HW.out]
  go_wp2_with fail
  refine C3.out.mono ?_;rintro e w1⟨rfl,hb⟩;have B1:=qh (HB.out.trans (hb.mono (by have:=HS.out;omega)));clear hb C3 n0 n1 n2;go_wp2;go_ret;exact⟨rfl,B1.out⟩
theorem qhl{t:Nd}(h:¬ (zx t).2=0):(zx t).1=[]:=by
 unfold zx at h ⊢
 split
 ·rename_i hc
  rw[qa hc]at h
  split
  ·rename_i h2
   rw[h2]at h;exact absurd rfl h
  ·rfl
 ·rfl
theorem qny(t:Nd)(wd:Int)(v0 v1 v2:Value)(w:World)(ht:NdR w t v0 v1 v2)(hw:2<=w.heap.size)(gl:GLw w)(hpr:¬ (zx t).2=0) :
  Calls Tryz.prog 6 #[.agg #[v0,v1,v2],.int .i64 wd] w fun e w'=>e = .returned (.bool true)/\Below w.heap.size w w':=by
 obtain⟨k,s,kl,a,cap,rfl,rfl,rfl,rfl,hs,hl⟩:=ht.form;obtain⟨W,hW⟩:∃ W,w.alloc (.cells #[.int .i64 k,.string s,.slice a kl.length cap] 25)=W:=⟨_,rfl⟩;have hb0:=(Below.refl w.heap.size w).alloc (q5 _) (.cells #[.int .i64 k,.string s,.slice a kl.length cap] 25);have R0:Row3 W w.heap.size (.int .i64 k) (.string s) (.slice a kl.length cap):=by rw[<-hW];exact Row3.new _ _ _ _
 rw[hW]at hb0;have hsW:W.heap.size=w.heap.size+1:=by rw[<-hW];simp
 have gW:=qh (gl.keep fun b hb hl=>hb0.block b hl);have tW:=qh (ht.later hb0);have CS:=qh (q3h W (by omega) gW.out);have CP:=qh (fun w' (hb:Below W.heap.size W w')=>q2m (.mk k s kl) _ _ _ w' (tW.out.later hb) (gW.out.keep fun b h1 h3=>hb.block b h3) (by have:=hb.size;omega));obtain⟨r,hr⟩:∃ r,(zx (.mk k s kl)).2=r:=⟨_,rfl⟩;have hr1:=qhl hpr;simp only[hr,hr1]at CP;rw[hr]at hpr;have hr0:(r==0)=false:=by rw[q9];exact hpr
 have HB:=qh hb0;have HW:=qh hW;have HS:=qh hsW;have HR:=qh R0;clear hr hr1 hb0 hW R0 hsW ht gl hpr;go_enter Tryz.func6,Tryz.ntmps6
 go_upto_region 1 with fail
 rw[HW.out]
 go_wp2_with fail
 refine CS.out.mono ?_;rintro e w1⟨rfl,hb⟩;have B1:=qh hb;obtain⟨⟨n0,n1,n2⟩,_⟩:=(HR.out.below hb HR.out.lt).cells;clear hb CS
 go_wp2_with fail
 refine(CP.out _ B1.out).mono ?_;rintro e w2⟨rfl,hb⟩;have B2:=qh (B1.out.trans (hb.mono B1.out.size));clear hb CP n0 n1 n2;unfold S_;go_wp2;go_ret;exact⟨rfl,HB.out.trans (B2.out.mono (by have:=HS.out;omega))⟩
abbrev Bk(H:Nat)(x0 x1 x2:Value)(W w':World):Prop:=w'.cell? ⟨H,0,none⟩=some x0/\w'.cell? ⟨H,1,none⟩=some x1/\w'.cell? ⟨H,2,none⟩=some x2/\Hid (Below W.heap.size W w')
theorem q8n{H:Nat}{x0 x1 x2:Value}{W w w':World}(s:Bk H x0 x1 x2 W w)(hb:Below w.heap.size w w'):Bk H x0 x1 x2 W w':=by
 obtain⟨c0,c1,c2,b⟩:=s;exact⟨(hb.cell (p:=⟨H,0,none⟩) (qg c0)).trans c0,(hb.cell (p:=⟨H,1,none⟩) (qg c1)).trans c1,(hb.cell (p:=⟨H,2,none⟩) (qg c2)).trans c2,qh (b.out.trans (hb.mono b.out.size))⟩
theorem qiy{H:Nat}{x0 x1 x2:Value}{W w:World}(s:Bk H x0 x1 x2 W w):Below W.heap.size W w:=s.2.2.2.out
theorem qm3(t:Nd)(wd x:Int)(v0 v1 v2:Value)(w:World)(ht:NdR w t v0 v1 v2)(hw:2<=w.heap.size)(gl:GLw w)(hwd : -9223372036854775808<=wd/\wd<=9223372036854775807)(hx:wd % 181=x)
  {J:ByteArray} (hpr:zx t=(bs J,0)) (hJ:J.size<=maxLen) (hpa:∀ i,q1x (q05 i) t=true->x3 (bs J) (q05 i)=(some t,0,0))
  (hla:q11 t (20+x)=([],2)\/∃ K:ByteArray,q11 t (20+x)=(bs K,0)/\K.size<=maxLen/\∀ i,q1x (q05 i) t=true->x3 (bs K) (q05 i)=(some t,0,0)) :
  Calls Tryz.prog 6 #[.agg #[v0,v1,v2],.int .i64 wd] w fun e w'=>e = .returned (.bool true)/\Below w.heap.size w w':=by
 obtain⟨k,s,kl,a,cap,rfl,rfl,rfl,rfl,hs,hl⟩:=ht.form;obtain⟨W,hW⟩:∃ W,w.alloc (.cells #[.int .i64 k,.string s,.slice a kl.length cap] 25)=W:=⟨_,rfl⟩;have hb0:=(Below.refl w.heap.size w).alloc (q5 _) (.cells #[.int .i64 k,.string s,.slice a kl.length cap] 25);have R0:Row3 W w.heap.size (.int .i64 k) (.string s) (.slice a kl.length cap):=by rw[<-hW];exact Row3.new _ _ _ _
 rw[hW]at hb0;have hsW:W.heap.size=w.heap.size+1:=by rw[<-hW];simp
 have gW:=qh (gl.keep fun b hb hl=>hb0.block b hl);have tW:=qh (ht.later hb0);have zW:2<=W.heap.size:=by omega
 obtain⟨t,hte⟩:∃ t,Nd.mk k s kl=t:=⟨_,rfl⟩;rw[hte]at tW hpr hpa hla;obtain⟨L,hL⟩:∃ L,kl.length=L:=⟨_,rfl⟩;rw[hL]at hW R0 tW;rw[hL];have CS:=qh (q3h W zW gW.out);have CP:=qh (fun w' (hb:Below W.heap.size W w')=>q2m t _ _ _ w' (tW.out.later hb) (gW.out.keep fun b h1 h3=>hb.block b h3) (by have:=hb.size;omega));simp only[hpr,q7g]at CP;have CF:=qh (fun i hi w' (hb:Below W.heap.size W w')=>qnt t i hi _ _ _ w' (tW.out.later hb));have CA:=qh (fun i (hi:i=0\/i=1\/i=2\/i=3) (hf:q1x (q05 i) t=true) w' (hb:Below W.heap.size W w')=>q7u J i hi (hpa i hf) w' (by have:=hb.size;omega) (gW.out.keep fun b h1 h3=>hb.block b h3) hJ);have CM:=qh (fun w' u0 u1 u2 (hb:Below W.heap.size W w') (h1:NdR w' t u0 u1 u2)=>qqe _ t t w' _ _ _ _ _ _ (q5 _) h1 (tW.out.later hb));simp only[qcz]at CM;have CO:=qh (fun w'=>qan wd w' hwd);simp only[hx]at CO;have hx2:0<=x/\x<=180:=by omega
 have CL:=qh (fun w' (hb:Below W.heap.size W w')=>qay t (20+x) _ _ _ w' (tW.out.later hb) (gW.out.keep fun b h1 h3=>hb.block b h3) (by have:=hb.size;omega));have HB:=qh hb0;have HW:=qh hW;have HS:=qh hsW;have HR:=qh R0;have HLA:=qh hla;clear hte hb0 hW R0 hsW ht gl hpr hL hpa hla hx hwd;go_enter Tryz.func6,Tryz.ntmps6
 go_upto_region 1 with fail
 rw[HW.out]
 go_wp2_with fail
 refine CS.out.mono ?_;rintro e w1⟨rfl,hb⟩;have B1:=qh hb;obtain⟨⟨n0,n1,n2⟩,_⟩:=(HR.out.below hb HR.out.lt).cells;clear hb CS
 go_wp2_with fail
 refine(CP.out _ B1.out).mono ?_;rintro e w2⟨rfl,hb⟩;have B2:=qh (B1.out.trans (hb.mono B1.out.size));clear hb CP n0 n1 n2 B1
 go_wp2_with fail
 go_loopw [8] (fun v8 wr=>∃ i:Nat,i<=4/\v8 = .int .i64 i/\Hid (Below W.heap.size W wr)) (fun v8 _=>4 - (intOf v8).toNat)
 case atStart=>exact⟨0,qp _,rfl,B2⟩
 case round =>
  obtain⟨i,hi,rfl,BR⟩:=hrel
  by_cases hlt:i < 4
  ·have hlt':(i:Int) < 4:=by omega
   have hi4:(i:Int)=0\/(i:Int)=1\/(i:Int)=2\/(i:Int)=3:=by omega
   have hs0:w.heap.size < W.heap.size:=by have:=HS.out;omega
   obtain⟨⟨n0,n1,n2⟩,_⟩:=(HR.out.below BR.out hs0).cells;have CF1:=qh (CF.out i hi4 wr BR.out);obtain⟨F,hF⟩:∃ F,q1x (q05 i) t=F:=⟨_,rfl⟩;rw[hF]at CF1;have HF:=qh hF;clear hF
   cases F with
   |false =>
    go_wp2_with fail
    refine CF1.out.mono ?_;rintro e w3⟨rfl,hb⟩;have B3:=qh (BR.out.trans (hb.mono BR.out.size));clear hb CF1 n0 n1 n2;go_wp2;go_roundw
    case rel=>exact⟨i+1,hlt,by push_cast;rfl,B3⟩
    case measure=>simp[intOf];omega
   |true =>
    go_wp2_with fail
    refine CF1.out.mono ?_;rintro e w3⟨rfl,hb⟩;have B3:=qh (BR.out.trans (hb.mono BR.out.size));have CA1:=qh (CA.out i hi4 HF.out w3 B3.out);clear hb CF1 n0 n1 n2 BR
    go_wp2_with fail
    refine CA1.out.mono ?_;rintro e w4⟨km,sm,am,nm,cm,rfl,hb4,hn4⟩;have hn4:NdS (fun b=>w3.heap.size<=b) w4 t (.int .i64 km) (.string sm) (.slice am nm cm):=hn4;obtain⟨V4,hV4⟩:∃ V4,w4.alloc (.cells #[.int .i64 km,.string sm,.slice am nm cm] 25)=V4:=⟨_,rfl⟩;obtain⟨h4,hh4⟩:∃ h4,w4.heap.size=h4:=⟨_,rfl⟩;have hb4':Below w3.heap.size w3 V4:=by rw[<-hV4];exact hb4.alloc hb4.size _
    have N4:Row3 V4 h4 (.int .i64 km) (.string sm) (.slice am nm cm):=by rw[<-hV4,<-hh4];exact Row3.new _ _ _ _
    have T4:=qh (show NdR V4 t (.int .i64 km) (.string sm) (.slice am nm cm) from(hn4.toR).later (by rw[<-hV4];exact(Below.refl _ _).alloc (q5 _) _));have B4:=qh (B3.out.trans (hb4'.mono B3.out.size));have hh4':W.heap.size<=h4:=by rw[<-hh4];have h1:=B3.out.size;have h2:=hb4.size;omega
    have HN4:=qh N4;have HV4:=qh hV4;have HH4:=qh hh4;clear CA1 hb4 hb4' hn4 B3 N4 hV4 hh4
    go_upto_region 10 with fail
    rw[HV4.out,HH4.out];clear HV4 HH4;obtain⟨⟨m0,m1,m2⟩,_⟩:=HN4.out.cells;obtain⟨⟨n0,n1,n2⟩,_⟩:=(HR.out.below B4.out hs0).cells;have CM1:=qh (CM.out V4 _ _ _ B4.out T4.out);clear T4
    go_wp2_with fail
    refine CM1.out.mono ?_;rintro e w5⟨rfl,hb5⟩;have B5:=qh (B4.out.trans (hb5.mono B4.out.size));have HN5:=qh (HN4.out.below hb5 HN4.out.lt);clear hb5 CM1 m0 m1 m2 n0 n1 n2 B4 HN4
    have SD0:Bk w.heap.size (.int .i64 k) (.string s) (.slice a L cap) w5 w5.drew:=by
     obtain⟨⟨q0,q1,q2⟩,_⟩:=(HR.out.below B5.out hs0).cells;exact q8n ⟨q0,q1,q2,qh (Below.refl _ _)⟩ ((Below.refl _ _).drew)
    have CL1:Hid (∀ w',Bk w.heap.size (.int .i64 k) (.string s) (.slice a L cap) w5 w'->Calls Tryz.prog 20 #[.agg #[.int .i64 k,.string s,.slice a L cap],.int .i64 (IntKind.i64.wrap (20+x))] w' fun e w''=>e = .returned (.tuple #[S_ (q11 t (20+x)).1,.int .i64 (q11 t (20+x)).2])/\Below w'.heap.size w' w''):=qh (fun w' h=>by
     rw[show IntKind.i64.wrap (20+x)=20+x by rw[IntKind.wrap_i64];omega]
     exact CL.out w' (B5.out.trans ((qiy h).mono B5.out.size)))
    rcases HLA.out with hla|⟨K,hla,hK,hKp⟩
    ·simp only[hla]at CL1
     unfold S_ at CL1
     go_upto_region 12 with fail
     go_region_held3 (fun w'=>w'.cell? ⟨w.heap.size,0,none⟩=some (.int .i64 k)/\w'.cell? ⟨w.heap.size,1,none⟩=some (.string s)/\w'.cell? ⟨w.heap.size,2,none⟩=some (.slice a L cap)/\Hid (Below w5.heap.size w5 w'))
      (first|with_reducible exact SD0|with_reducible exact SD2)
      (first
       |(go_at_call 33;(with_reducible refine(CO.out _).mono ?_);rintro e w6 ⟨rfl,rfl⟩)
       |(go_at_call 20;(with_reducible refine(CL1.out _ SD0).mono ?_);rintro e w7 ⟨rfl,hb7⟩;have SD2:=q8n SD0 hb7;clear hb7))
     all_goals (try go_wp2)
     all_goals go_roundw
     case rel=>exact⟨i+1,hlt,by push_cast;rfl,qh (B5.out.trans ((qiy SD2).mono B5.out.size))⟩
     case measure=>simp[intOf];omega
    ·simp only[hla,q7g]at CL1
     have CB:Hid (∀ w',Below W.heap.size W w'->Calls Tryz.prog 32 #[.string K,.int .i64 i] w' (wb (some t,0,0) w')):=qh (fun w' hb=>q7u K i hi4 (hKp i HF.out) w' (by have:=hb.size;omega) (gW.out.keep fun b h1 h3=>hb.block b h3) hK);clear hKp hla hK
     go_upto_region 12 with fail
     go_region_held3 (fun w'=>w'.cell? ⟨w.heap.size,0,none⟩=some (.int .i64 k)/\w'.cell? ⟨w.heap.size,1,none⟩=some (.string s)/\w'.cell? ⟨w.heap.size,2,none⟩=some (.slice a L cap)/\Hid (Below w5.heap.size w5 w'))
      (first|with_reducible exact SD0|with_reducible exact SD2)
      (first
       |(go_at_call 33;(with_reducible refine(CO.out _).mono ?_);rintro e w6 ⟨rfl,rfl⟩)
       |(go_at_call 20;(with_reducible refine(CL1.out _ SD0).mono ?_);rintro e w7 ⟨rfl,hb7⟩;have SD2:=q8n SD0 hb7;clear hb7))
     all_goals (try go_wp2_with fail)
     have B7:=qh (B5.out.trans ((qiy SD2).mono B5.out.size));have HN7:=qh (HN5.out.below (qiy SD2) HN5.out.lt);clear SD0 SD2 CL1 B5 HN5;refine(CB.out _ B7.out).mono ?_;rintro e w8⟨k8,s8,a8,n8,c8,rfl,hb8,hn8⟩;obtain⟨w7,B7,HN7,hb8,hn8⟩:∃ Z:World,Hid (Below W.heap.size W Z)/\Hid (Row3 Z h4 (.int .i64 km) (.string sm) (.slice am nm cm))/\Below Z.heap.size Z w8/\NdS (fun b=>Z.heap.size<=b) w8 t (.int .i64 k8) (.string s8) (.slice a8 n8 c8):=⟨_,B7,HN7,hb8,hn8⟩;have hlt7:=HN7.out.lt;have HN8:=qh (HN7.out.below hb8 hlt7);obtain⟨V8,hV8⟩:∃ V8,((w8.setCell ⟨h4,0,none⟩ (.int .i64 k8)).setCell ⟨h4,1,none⟩ (.string s8)).setCell ⟨h4,2,none⟩ (.slice a8 n8 c8)=V8:=⟨_,rfl⟩
     have B8:=qh (show Below W.heap.size W V8 by
      rw[<-hV8]
      exact(((B7.out.trans (hb8.mono B7.out.size)).setCell (p:=⟨h4,0,none⟩) hh4' _).setCell (p:=⟨h4,1,none⟩) hh4' _).setCell (p:=⟨h4,2,none⟩) hh4' _)
     have R8:=qh (show Row3 V8 h4 (.int .i64 k8) (.string s8) (.slice a8 n8 c8)by rw[<-hV8];exact Row3.put HN8.out _ _ _)
     have T8:=qh (show NdR V8 t (.int .i64 k8) (.string s8) (.slice a8 n8 c8)by
      rw[<-hV8];refine(hn8.keep fun b (h1:w7.heap.size<=b) _=>⟨?_,h1⟩).toR
      exact(Below.heap_setCell _ _ _ _ (show b≠h4 by omega)).trans ((Below.heap_setCell _ _ _ _ (show b≠h4 by omega)).trans (Below.heap_setCell _ _ _ _ (show b≠h4 by omega))))
     have HV8:=qh hV8;obtain⟨⟨m0,m1,m2⟩,f0,f1,f2⟩:=HN8.out.cells;clear hb8 hn8 B7 HN7 CB hV8
     go_upto_region 17 with fail
     rw[HV8.out];clear HV8 HN8 m0 m1 m2 f0 f1 f2;obtain⟨⟨m0,m1,m2⟩,_⟩:=R8.out.cells;obtain⟨⟨n0,n1,n2⟩,_⟩:=(HR.out.below B8.out hs0).cells;have CM2:=qh (CM.out V8 _ _ _ B8.out T8.out);clear T8 R8
     go_wp2_with fail
     refine CM2.out.mono ?_;rintro e w9⟨rfl,hb9⟩;have B9:=qh (B8.out.trans (hb9.mono B8.out.size));clear hb9 CM2 m0 m1 m2 n0 n1 n2 B8;go_wp2;go_roundw
     case rel=>exact⟨i+1,hlt,by push_cast;rfl,B9⟩
     case measure=>simp[intOf];omega
  ·have hlt':¬ ((i:Int) < 4):=by omega
   go_wp2;go_ret;exact⟨rfl,HB.out.trans (BR.out.mono (by have:=HS.out;omega))⟩
theorem qnz(t:Nd)(wd:Int)(v0 v1 v2:Value)(w:World)(ht:NdR w t v0 v1 v2)(hw:2<=w.heap.size)(gl:GLw w)(hwd : -9223372036854775808<=wd/\wd<=9223372036854775807) :
  Calls Tryz.prog 6 #[.agg #[v0,v1,v2],.int .i64 wd] w fun e w'=>e = .returned (.bool true)/\Below w.heap.size w w':=by
 by_cases hpr:(zx t).2=0
 ·have hc:xv t=0:=by
   unfold zx at hpr
   split at hpr
   ·assumption
   ·exact hpr
  cases hsw:Lx.scan t.whl with
  |bad q e =>
   unfold zx at hpr;rw[qa hc,hsw]at hpr;exact absurd hpr (show ¬ (2:Int)=0 by decide)
  |toks us =>
   obtain⟨J,hJ⟩:∃ J:ByteArray,bs J=t.whl:=⟨⟨t.whl.toArray⟩,rfl⟩;have hr:=Lx.scan_runs hsw
   have hJs:J.size<=maxLen:=by
    have h:=hr.2;rw[<-hJ,qr]at h;unfold maxLen;omega
   refine qm3 t wd _ _ _ _ w ht hw gl hwd rfl (J:=J) ?_ hJs (fun i hf=>?_) ?_
   ·unfold zx
    rw[qa hc,hsw,hJ]
   ·rw[hJ]
    exact q9a hc (qgp i) hf hsw hr.1
   ·obtain⟨m,hm⟩:∃ m:Nat,20+wd % 181=m:=⟨(20+wd % 181).toNat,by omega⟩
    rw[hm];unfold q11;rw[qa hc,q7 (by omega),Int.toNat_natCast]
    cases hl:Lx.scan (kw m t.whl)with
    |bad q e=>exact .inl rfl
    |toks vs =>
     refine .inr ⟨⟨(kw m t.whl).toArray⟩,rfl,?_,fun i hf=>?_⟩
     ·have h:=(Lx.scan_runs hl).2
      show(kw m t.whl).toArray.size<=maxLen
      unfold maxLen;simp;omega
     ·exact qky hc (qgp i) hf hsw (q7a m _) hl
 ·exact qny t wd _ _ _ w ht hw gl hpr
end Go.Proofs.YtkckddojlignpaaGreatDoor
namespace Go.Proofs.YtkckddojlignpaaGreatDoor
open Go.ChangeShapes Go.WideShapes Go.ChangeAt Go.RowKit Go.ChangeMaps
section
variable {H:Type} {enc:TypeId×Value->H} {P:Program} {w w':World} {base:Nat} {sp:Nat->Bool} {held:Bool}
theorem qeo{t:TypeId}{v:Value}{d:DataW H}{ps:List MemPlace}(h:DataW.Trod enc P w base sp held t v d ps)(hs:∀ p∈ps,w.sameAt w' p):DataW.Trod enc P w' base sp held t v d ps:=by
 obtain⟨n,hn⟩:=h;exact⟨n,DataW.trod_carry n _ _ _ hn hs⟩
theorem q5t:∀ {ts:List TypeId} {vs:List Value} {ds:List (DataW H)} {ps:List MemPlace},DataW.TrodAll enc P w base sp held ts vs ds ps->(∀ p∈ps,w.sameAt w' p)->DataW.TrodAll enc P w' base sp held ts vs ds ps
 |[],[],[],_,h,_=>h
 |_ :: _,_ :: _,_ :: _,_,⟨p,q,h1,h2,e⟩,hs=>⟨p,q,qeo h1 (fun x hx=>hs x (by rw[e];exact List.mem_append_left _ hx)),q5t h2 (fun x hx=>hs x (by rw[e];exact List.mem_append_right _ hx)),e⟩
theorem qj5{n:Nat}(hb:Below n w w')(p:MemPlace)(h:p.block < n):w.sameAt w' p:=by
 cases p with
 |cell b off=>exact hb.cell (p:=⟨b,off,none⟩) h
 |map b=>exact hb.block b h
theorem qbz(hl:laidOutB P=true)(hm:mapsRowed P=true)(hz:((List.range P.types.size).all fun t=>match P.underlying t with|some (.slice e)=>decide (0 < P.cellsOf e)|_=>true)=true)
  {ts:List TypeId} {vs:List Value} {ds:List (DataW H)} {ps:List MemPlace} (ht:(ts.all fun t=>decide (t < P.types.size))=true) (hA:DataW.TrodAll enc P w 0 (fun _=>true) true ts vs ds ps) (hlt:∀ p∈ps,p.block < w.heap.size)
  (hb:Below w.heap.size w w') {sp:Nat->Bool} (hs:∀ p∈ps,sp p.block=true):DataW.TrodAll enc P w' 0 sp true ts vs ds ps:=by
 refine DataW.TrodAll.respare (T:=(· < P.types.size)) (kids_rows hl hm) (fun t e h1 h2=>slices_full_of P hz t e h1 h2) (fun t h=>?_) (q5t hA fun p hp=>qj5 hb p (hlt p hp)) hs;simpa using List.all_eq_true.1 ht t h
end
theorem laidAll:laidOutB Tryz.prog=true:=by kernel_rfl
theorem qgb:mapsRowed Tryz.prog=true:=by kernel_rfl
theorem qgi:((List.range Tryz.prog.types.size).all fun t=>match Tryz.prog.underlying t with|some (.slice e)=>decide (0 < Tryz.prog.cellsOf e)|_=>true)=true:=by kernel_rfl
end Go.Proofs.YtkckddojlignpaaGreatDoor
namespace Go.Proofs.YtkckddojlignpaaGreatDoor
open Go.ChangeShapes Go.WideShapes Go.Deep Go.ChangeMaps Go.RowKit
section
variable {H:Type} {enc:TypeId×Value->H} {w:World} {base:Nat} {sp:Nat->Bool} {hd:Bool}
theorem q8z{α:Type}{Q:Nat->α->Prop}:∀ n:Nat,(∀ i,i < n->∃ a,Q i a)->∃ l:List α,l.length=n/\∀ i,(h:i < l.length)->Q i l[i]
 |0,_=>⟨[],rfl,fun i h=>absurd h (Nat.not_lt_zero _)⟩
 |n+1,h=>by
  obtain⟨l,hl,hq⟩:=q8z n fun i hi=>h i (by omega)
  obtain⟨a,ha⟩:=h n (by omega);refine⟨l++[a],by rw[qc,hl];rfl,fun i hi=>?_⟩;rw[List.getElem_append]
  split
  ·exact hq i _
  ·have:i=n:=by rw[qc,List.length_singleton]at hi;omega
   subst this;simpa using ha
theorem qep(b o j:Nat):(⟨b,o,none⟩:Addr).add j=⟨b,o+j,none⟩:=by unfold Addr.add;split <;> simp_all
theorem qc2(w:World)(k:Int)(s:ByteArray)(hs:s.size<=maxLen)(a:Option Addr)(cap:Nat):NdR w (.mk k s []) (.int .i64 k) (.string s) (.slice a 0 cap) :=
 .mk k s [] a cap 0 0 (fun _=>undef) (fun _=>undef) (fun _=>undef) hs (qp _) (qp _) (fun e=>absurd rfl e) (fun i hi=>absurd hi (Nat.not_lt_zero i)) (fun i hi=>absurd hi (Nat.not_lt_zero i)) (fun i hi=>absurd hi (Nat.not_lt_zero i)) (fun i hi=>absurd hi (Nat.not_lt_zero i))
theorem NdR.of_list{w:World}(k:Int)(s:ByteArray)(hs:s.size<=maxLen)(a:Addr)(len cap:Nat)(hl:len<=cap)(hm:cap<=maxLen)
  (h:∀ i,i < len->∃ (t:Nd) (v0 v1 v2:Value),(w.cell? (a.add (i*3))=some v0/\w.cell? (a.add (i*3+1))=some v1/\w.cell? (a.add (i*3+2))=some v2)/\NdR w t v0 v1 v2) :
  ∃ t,NdR w t (.int .i64 k) (.string s) (.slice (some a) len cap):=by
 obtain⟨l,hll,hq⟩:=q8z (Q:=fun i (q:Nd×Value×Value×Value)=>(w.cell? (a.add (i*3))=some q.2.1/\w.cell? (a.add (i*3+1))=some q.2.2.1/\w.cell? (a.add (i*3+2))=some q.2.2.2)/\NdR w q.1 q.2.1 q.2.2.1 q.2.2.2) len
  (fun i hi=>by obtain⟨t,v0,v1,v2,h1,h2⟩:=h i hi;exact⟨(t,v0,v1,v2),h1,h2⟩)
 have hlm:(l.map (·.1)).length=len:=by simp[hll]
 obtain⟨b,o,g⟩:=a;refine⟨.mk k s (l.map (·.1)),?_⟩;rw[<-hlm]
 by_cases hne:l=[]
 ·subst hne
  simp only[List.map_nil,qo];exact(qc2 w k s hs (some ⟨b,o,g⟩) cap)
 ·have h0:0 < l.length:=List.length_pos_iff.2 hne
  have hg:g=none:=by
   have:=World.cell?_spot (hq 0 h0).1.1;simpa[Addr.add]using this
  subst hg
  have fi:∀ i,(hi:i < (l.map (·.1)).length)->∃ q,l[i]?=some q/\(l.map (·.1))[i]=q.1/\(w.cell? ⟨b,o+i*3,none⟩=some q.2.1/\w.cell? ⟨b,o+i*3+1,none⟩=some q.2.2.1/\w.cell? ⟨b,o+i*3+2,none⟩=some q.2.2.2)/\NdR w q.1 q.2.1 q.2.2.1 q.2.2.2:=fun i hi=>by
   have hi':i < l.length:=by simpa using hi
   obtain⟨⟨q0,q1,q2⟩,hr⟩:=hq i hi';rw[qep]at q0 q1 q2;refine⟨l[i],qj hi',by simp,⟨q0,?_,?_⟩,hr⟩
   ·rw[Nat.add_assoc];exact q1
   ·rw[Nat.add_assoc];exact q2
  refine .mk k s (l.map (·.1)) (some ⟨b,o,none⟩) cap b o (fun i=>((l[i]?).map (·.2.1)).getD undef) (fun i=>((l[i]?).map (·.2.2.1)).getD undef) (fun i=>((l[i]?).map (·.2.2.2)).getD undef) hs (by omega) (by omega) (fun _=>rfl) ?_ ?_ ?_ ?_
  all_goals intro i hi
  all_goals obtain⟨q,e,e1,⟨c0,c1,c2⟩,hr⟩:=fi i hi
  ·simp only[e,Option.map_some,Option.getD_some];exact c0
  ·simp only[e,Option.map_some,Option.getD_some];exact c1
  ·simp only[e,Option.map_some,Option.getD_some];exact c2
  ·simp only[e,Option.map_some,Option.getD_some];rw[e1];exact hr
theorem qkm:∀ (fuel:Nat) (cs:List Value) (x:DataW H×List MemPlace),DataW.trod enc Tryz.prog w base sp hd fuel 25 cs=some x->∃ t v0 v1 v2,cs=[v0,v1,v2]/\NdR w t v0 v1 v2:=by
 intro fuel
 induction fuel using Nat.strongRecOn with
 |ind fuel ih =>
  intro cs x h;obtain⟨xs,n,rfl,rfl,hl,hxs,hf⟩:=DataW.trod_struct Tryz.underlying25 h;have c:Tryz.prog.cellsOf 25=3:=by kernel_rfl
  have c9:Tryz.prog.cellsOf 9=1:=by kernel_rfl
  have c3:Tryz.prog.cellsOf 3=1:=by kernel_rfl
  have c22:Tryz.prog.cellsOf 23=1:=by kernel_rfl
  rw[c]at hl;have f0:DataW.trod enc Tryz.prog w base sp hd n 3 ((cs.drop 0).take (Tryz.prog.cellsOf 3))=xs[0]?:=hf 0 _ rfl;have f1:DataW.trod enc Tryz.prog w base sp hd n 9 ((cs.drop 1).take (Tryz.prog.cellsOf 9))=xs[1]?:=hf 1 _ rfl;have f2:DataW.trod enc Tryz.prog w base sp hd n 23 ((cs.drop 2).take (Tryz.prog.cellsOf 23))=xs[2]?:=hf 2 _ rfl;rw[c3]at f0;rw[c9]at f1;rw[c22]at f2
  match xs,hxs,f0,f1,f2 with
  |[x0,x1,x2],_,f0,f1,f2 =>
   obtain⟨k,e0,_,_⟩:=DataW.trod_int Tryz.underlying3 f0;obtain⟨s,e1,_,hs⟩:=DataW.trod_string Tryz.underlying9 f1;rcases DataW.trod_slice Tryz.underlying23 f2 with ⟨e2,_⟩|⟨a,len,cap,elems,rest,m,hfu,e2,_,hb,hlc,hm,hlen,hel,_,_⟩
   ·match cs,hl,e0,e1,e2 with
    |[u0,u1,u2],_,e0,e1,e2 =>
     simp at e0 e1 e2;subst e0 e1 e2;exact⟨.mk k s [],_,_,_,rfl,qc2 w k s hs none 0⟩
   ·match cs,hl,e0,e1,e2 with
    |[u0,u1,u2],_,e0,e1,e2 =>
     simp at e0 e1 e2;subst e0 e1 e2
     obtain⟨t,ht⟩:=NdR.of_list k s hs a len cap hlc hm (fun i hi=>by
      have hE:=hel i hi;rw[c]at hE;have hxi:elems[i]?=some (elems[i]'(by omega)):=qj (by omega);rw[hxi]at hE;simp only[Option.bind_eq_some_iff]at hE;obtain⟨c1,hc1,hy1⟩:=hE;obtain⟨t,w0,w1,w2,rfl,hr⟩:=ih m (by omega) _ _ hy1;obtain⟨_,_,hat⟩:=World.cells?_some hc1;refine⟨t,w0,w1,w2,⟨?_,?_,?_⟩,hr⟩
      ·have:=hat 0 (by omega);rw[Go.Deep.add_add]at this;simpa using this
      ·have:=hat 1 (by omega);rw[Go.Deep.add_add]at this;simpa using this
      ·have:=hat 2 (by omega);rw[Go.Deep.add_add]at this;simpa using this)
     exact⟨t,_,_,_,rfl,ht⟩
theorem qbc{v:Value}{d:DataW H}{p:List MemPlace}{r:Reach}{b0:Nat}(hv:Value.okWide Tryz.prog w r b0 25 v)(h:DataW.Trod enc Tryz.prog w base sp hd 25 v d p):∃ t v0 v1 v2,v = .agg #[v0,v1,v2]/\NdR w t v0 v1 v2:=by
 obtain⟨cs,rfl,_⟩:=okWide_struct Tryz.underlying25 hv;obtain⟨fuel,hf⟩:=h;obtain⟨t,v0,v1,v2,e,hr⟩:=qkm fuel _ _ hf;have e':cs=#[v0,v1,v2]:=Array.toList_inj.1 e;rw[e'];exact⟨t,v0,v1,v2,rfl,hr⟩
end
end Go.Proofs.YtkckddojlignpaaGreatDoor
namespace Go.Proofs.YtkckddojlignpaaGreatDoor
def zw(c:UInt8):Tx->List Tx
 |[]=>[[]]
 |x :: r=>if x=c then [] :: zw c r else match zw c r with
  |[]=>[[x]]
  |y :: ys=>(x :: y) :: ys
theorem qbu(c:UInt8)(s:Tx):∃ y ys,zw c s=y :: ys:=by
 cases s with
 |nil=>exact⟨_,_,rfl⟩
 |cons x r =>
  unfold zw
  split
  ·exact⟨_,_,rfl⟩
  ·split
   ·exact⟨_,_,rfl⟩
   ·exact⟨_,_,rfl⟩
theorem q5g(c:UInt8):∀ (a b y:Tx) (ys:List Tx),c∉a->zw c b=y :: ys->zw c (a++b)=(a++y) :: ys
 |[],_,_,_,_,h=>h
 |x :: a,b,y,ys,hc,h=>by
  have ih:=q5g c a b y ys (fun e=>hc (List.mem_cons_of_mem _ e)) h;rw[List.cons_append,zw,q7 (fun e=>hc (by rw[<-e];exact List.mem_cons_self)),ih];rfl
theorem yk(c:UInt8)(a:Tx)(h:c∉a):zw c a=[a]:=by
 have:=q5g c a [] [] [] h rfl;simpa using this
theorem q1y(c:UInt8)(b:Tx):∀ a:Tx,zw c (a++c :: b)=zw c a++zw c b
 |[]=>by
  show zw c (c :: b)=[[]]++zw c b
  simp[zw]
 |x :: a=>by
  have ih:=q1y c b a;rw[List.cons_append,zw,zw,ih]
  split
  ·rfl
  ·obtain⟨y,ys,e⟩:=qbu c a
   rw[e];rfl
theorem q6y(c:UInt8):∀ xs:List Tx,xs≠[]->zw c (Lib.join xs [c])=xs.flatMap (zw c)
 |[],h=>absurd rfl h
 |[x],_=>by rw[Lib.join_one];simp
 |x :: y :: r,_=>by
  have ih:=q6y c (y :: r) (by simp)
  have e:Lib.join (x :: y :: r) [c]=x++c :: Lib.join (y :: r) [c]:=by
   rw[Lib.join_cons,Lib.join_cons];simp[Lib.joinTail]
  rw[e,q1y,ih];rfl
theorem q9w(c:UInt8):∀ (x:Tx) (r:List Tx),List.count c (Lib.join (x :: r) [c])=r.length+(((x :: r).map (List.count c)).sum)
 |x,[]=>by rw[Lib.join_one];simp
 |x,y :: r=>by
  have ih:=q9w c y r
  have e:Lib.join (x :: y :: r) [c]=x++c :: Lib.join (y :: r) [c]:=by
   rw[Lib.join_cons,Lib.join_cons];simp[Lib.joinTail]
  rw[e,List.count_append,List.count_cons,ih];simp only[beq_self_eq_true,if_true,List.map_cons,List.sum_cons,qi];omega
theorem qcr:∀ (l:List Nat),l.sum=0->∀ n∈l,n=0
 |[],_,_,h=>by cases h
 |m :: l,hs,n,h=>by
  rw[List.sum_cons]at hs;rcases List.mem_cons.1 h with rfl|h
  ·omega
  ·exact qcr l (by omega) n h
theorem qeq(s:Tx)(c:UInt8):(Lib.split s [c]).length=List.count c s+1:=by
 have h:=q2u ⟨s.toArray⟩ c;rw[<-qv (f:=fun y:ByteArray=>y.data.toList),q1g]at h;simp only at h;rw[h]
 show Lib.count s [c]+1=_
 rw[Lib.count_one]
theorem q3t(s:Tx)(c:UInt8):∀ x∈Lib.split s [c],c∉x:=by
 intro x hx;obtain⟨y,r,e⟩:=q08 s c;have h1:=qeq s c;have h2:Lib.join (Lib.split s [c]) [c]=s:=yr [c] _ s;rw[e]at h1 h2 hx;have h3:=q9w c y r;rw[h2]at h3;rw[qi]at h1;have h4:=qcr _ (show((y :: r).map (List.count c)).sum=0 by omega) _ (List.mem_map_of_mem (f:=List.count c) hx);exact List.count_eq_zero.1 h4
theorem qjl(s:Tx)(c:UInt8):Lib.split s [c]=zw c s:=by
 have h2:Lib.join (Lib.split s [c]) [c]=s:=yr [c] _ s;have hne:Lib.split s [c]≠[]:=by obtain⟨x,r,e⟩:=q08 s c;rw[e];simp
 have h3:=q6y c _ hne;rw[h2]at h3;rw[h3]
 have key:∀ xs:List Tx,(∀ x∈xs,c∉x)->xs.flatMap (zw c)=xs:=by
  intro xs
  induction xs with
  |nil=>intro _;rfl
  |cons x xs ih =>
   intro h;rw[List.flatMap_cons,ih (fun y hy=>h y (List.mem_cons_of_mem _ hy)),yk c x (h x List.mem_cons_self)];rfl
 exact(key _ (q3t s c)).symm
def q03(l:List Tx):List Tx:=l.filter fun w=>w≠[]
def xo(l:Tx):List Tx:=q03 (zw 32 l)
def vv(s:Tx):List Tx:=(zw 10 s).flatMap xo
def q2q(cur:Tx):List Tx:=if cur=[] then [] else [cur]
def q2n:Tx->Tx->List Tx
 |cur,[]=>q2q cur
 |cur,x :: r=>if x=10\/x=32 then q2q cur++q2n [] r else q2n (cur++[x]) r
theorem q0v(a:Tx)(h:(32:UInt8)∉a):xo a=q2q a:=by
 unfold xo q03 q2q;rw[yk 32 a h]
 by_cases e:a=[]
 ·subst e;rfl
 ·simp[e]
theorem q2e:∀ (s cur:Tx),(10:UInt8)∉cur->(32:UInt8)∉cur->vv (cur++s)=q2n cur s
 |[],cur,h10,h32=>by
  rw[List.append_nil];unfold vv q2n;rw[yk 10 cur h10,List.flatMap_cons,List.flatMap_nil,List.append_nil];exact q0v cur h32
 |x :: r,cur,h10,h32=>by
  have ih0:=q2e r [] (by simp) (by simp);rw[List.nil_append]at ih0;unfold q2n
  by_cases h1:x=10
  ·subst h1
   rw[qa (Or.inl rfl),<-ih0];unfold vv;rw[q1y,yk 10 cur h10,qx,List.flatMap_cons,List.flatMap_nil,List.append_nil,q0v cur h32]
  ·by_cases h2:x=32
   ·subst h2
    rw[qa (Or.inr rfl),<-ih0];obtain⟨y,ys,e⟩:=qbu 10 r
    have e2:zw 10 (cur++32 :: r)=((cur++[32])++y) :: ys:=by
     have:=q5g 10 (cur++[32]) r y ys (by simp[h10]) e
     rwa [qe]at this
    unfold vv;rw[e2,e,List.flatMap_cons,List.flatMap_cons,<-qe]
    congr 1
    show xo ((cur++[32])++y)=q2q cur++xo y
    rw[qe,List.singleton_append];rw[<-q0v cur h32];unfold xo q03;rw[q1y,List.filter_append]
   ·rw[q7 (by simp[h1,h2])]
    have ih:=q2e r (cur++[x]) (by simp[h10,Ne.symm h1]) (by simp[h32,Ne.symm h2])
    rwa [qe,List.singleton_append]at ih
theorem qok{s t:Tx}(h:Sp s t):∀ cur,q2n cur s=q2n cur t:=by
 induction h with
 |nil=>intro _;rfl
 |same c _ ih =>
  intro cur;simp only[q2n]
  split
  ·rw[ih]
  ·rw[ih]
 |feed _ ih =>
  intro cur;simp only[q2n];rw[ih];simp[q2q]
theorem qmf{s t:Tx}(h:Sp s t):vv s=vv t:=by
 have h1:=q2e s [] (by simp) (by simp);have h2:=q2e t [] (by simp) (by simp);rw[List.nil_append]at h1 h2;rw[h1,h2,qok h]
def qas(wd:Nat)(l:Tx):Prop:=1 < (xo l).length->l.length<=wd
theorem q6u(wd:Nat):∀ (ws:List Tx) (p:Tx) (used:Nat),p.length=used->(10:UInt8)∉p->(∀ w∈ws,(10:UInt8)∉w/\(32:UInt8)∉w)->qas wd p->∀ l∈zw 10 (p++kf wd used ws),qas wd l
 |[],p,used,_,h10,_,hp,l,hl=>by
  have e:kf wd used []=[]:=by simp[kf]
  rw[e,List.append_nil,yk 10 p h10]at hl;rw[List.mem_singleton.1 hl];exact hp
 |w :: ws,p,used,hu,h10,hw,hp,l,hl=>by
  obtain⟨hw1,hw2⟩:=hw w List.mem_cons_self;have hws:∀ v∈ws,(10:UInt8)∉v/\(32:UInt8)∉v:=fun v hv=>hw v (List.mem_cons_of_mem _ hv)
  unfold kf at hl
  split at hl
  ·rename_i hfit
   have e:p++32 :: (w++kf wd (used+1+w.length) ws)=(p++32 :: w)++kf wd (used+1+w.length) ws:=by simp
   rw[e]at hl;exact q6u wd ws (p++32 :: w) _ (by simp only[qc,qi];omega) (by simp[h10,hw1]) hws (fun _=>by simp only[qc,qi];omega) l hl
  ·have e:p++10 :: 32 :: 32 :: (w++kf wd (2+w.length) ws)=p++10 :: ((32 :: 32 :: w)++kf wd (2+w.length) ws):=by simp
   rw[e,q1y,yk 10 p h10]at hl;rcases List.mem_append.1 hl with h|h
   ·rw[List.mem_singleton.1 h]
    exact hp
   ·refine q6u wd ws (32 :: 32 :: w) _ (by simp only[qi];omega) (by simp[hw1]) hws (fun hh=>?_) l h
    have e3:xo (32 :: 32 :: w)=q2q w:=by
     rw[<-q0v w hw2];have h4:zw 32 (32 :: 32 :: w)=[] :: [] :: zw 32 w:=by simp[zw]
     unfold xo q03;rw[h4];simp
    rw[e3]at hh;unfold q2q at hh
    split at hh <;> simp at hh
theorem ql0(wd:Nat)(s:Tx)(h10:(10:UInt8)∉s):∀ l∈zw 10 (jr wd (Lib.split s [32])),qas wd l:=by
 intro l hl;obtain⟨w,ws,e⟩:=q08 s 32;have hc:=q3t s 32;have hj:Lib.join (Lib.split s [32]) [32]=s:=yr [32] _ s
 have h1:∀ v∈Lib.split s [32],(10:UInt8)∉v:=by
  intro v hv hm;refine h10 ?_;rw[<-hj]
  have key:∀ xs:List Tx,v∈xs->∀ c∈v,c∈Lib.join xs [32]:=by
   intro xs hx c hcv
   cases xs with
   |nil=>cases hx
   |cons x r =>
    rw[Lib.join_cons,List.mem_append];rcases List.mem_cons.1 hx with rfl|hx
    ·exact .inl hcv
    ·refine .inr ?_
     unfold Lib.joinTail;exact List.mem_flatten.2 ⟨[32]++v,List.mem_map.2 ⟨v,hx,rfl⟩,List.mem_append.2 (.inr hcv)⟩
  exact key _ hv _ hm
 rw[e]at hl hc h1;unfold jr at hl;refine q6u wd ws w w.length rfl (h1 w List.mem_cons_self) (fun v hv=>⟨h1 v (List.mem_cons_of_mem _ hv),hc v (List.mem_cons_of_mem _ hv)⟩) (fun hh=>?_) l hl;rw[q0v w (hc w List.mem_cons_self)]at hh;unfold q2q at hh
 split at hh <;> simp at hh
theorem qna(wd:Nat)(s:Tx):∀ l∈zw 10 (kw wd s),qas wd l:=by
 intro l hl;unfold kw at hl;rw[q6y 10 _ (by obtain⟨x,r,e⟩:=q08 s 10;rw[e];simp)]at hl;obtain⟨x,hx,hlx⟩:=List.mem_flatMap.1 hl;obtain⟨y,hy,rfl⟩:=List.mem_map.1 hx;exact ql0 wd y (q3t s 10 y hy) l hlx
theorem qi8(wd:Nat)(s:Tx):vv (kw wd s)=vv s:=(qmf (q7a wd s)).symm
end Go.Proofs.YtkckddojlignpaaGreatDoor
namespace Go.Proofs.YtkckddojlignpaaGreatDoor
open Lx (KT IsTok Runs)
theorem qnf(s:ByteArray)(l:List Nd):itemB (.mk 1 s l)=false:=by
 simp only[itemB];rw[q7 (by omega),q7 (by omega),q7 (by omega),q7 (by omega),q7 (by omega),q7 (by omega),Bool.and_false]
theorem qoj{t:Nd}(hc:xv t=0):(∃ K,Runs t.whl K)/\∀ c∈t.whl,c≠37:=by
 have hor:zj t=true\/zh t=true\/qn t=true\/itemB t=true\/xq t=true:=by
  unfold xv at hc
  split at hc
  ·cases hc
  ·split at hc
   ·cases hc
   ·split at hc
    ·rename_i h
     simpa only[Bool.or_eq_true]using h
    ·cases hc
 rcases hor with h|h|h|h|h
 ·refine⟨?_,q2b (what:=31) (.inr (.inr (.inr rfl))) h⟩
  have hv:=q83 h;have hk:∃ k s l,t = .mk k s l/\15<=k:=by clear h;cases hv <;> exact⟨_,_,_,rfl,by omega⟩
  obtain⟨k,s,l,rfl,hk⟩:=hk;exact⟨_,q1q (q1r hv) (q1p hk)⟩
 ·refine⟨?_,q2b (what:=17) (.inr (.inr (.inl rfl))) h⟩
  have hv:=qce h
  have hk:∃ k s l,t = .mk k s l/\15<=k:=by
   clear h
   cases hv with
   |app k s l hh hl=>exact⟨_,_,_,rfl,by rcases hh with hh|hh <;> omega⟩
   |lam1 s b hh hb=>exact⟨_,_,_,rfl,by omega⟩
   |lam2 s y b hh hy hb=>exact⟨_,_,_,rfl,by omega⟩
  obtain⟨k,s,l,rfl,hk⟩:=hk;exact⟨_,q1q (q3f hv) (q1p hk)⟩
 ·refine⟨?_,q2b (what:=18) (.inr (.inl rfl)) h⟩
  have hv:=qcj h;have hk:∃ k s l,t = .mk k s l/\15<=k:=by clear h;cases hv <;> exact⟨_,_,_,rfl,by omega⟩
  obtain⟨k,s,l,rfl,hk⟩:=hk;exact⟨_,q1q (q3n hv) (q1p hk)⟩
 ·obtain⟨P,hB,hG,_⟩:=q6v (qci h)
  have e:t.whl=t.itm:=by
   obtain⟨k,s,l⟩:=t
   by_cases hk:k=1
   ·subst hk
    rw[qnf]at h
    cases h
   ·rw[Nd.whl,q7 hk,qa h]
  rw[e,<-hB];refine⟨⟨pcT P,?_⟩,q8a hG⟩;have h:=q44 (y:=[]) (m:=[]) (.inl rfl) rfl P (fun a ha=>hG.2 _ ha) hG.1
  rwa [List.append_nil,List.append_nil]at h
 ·refine⟨?_,q2b (what:=1) (.inl rfl) h⟩
  obtain⟨k,s,l⟩:=t;simp only[xq,qd,qf]at h;obtain⟨rfl,h0,hl⟩:=h
  obtain⟨hR,_⟩:=q57 (l:=l) fun x hx=>qci (by
   obtain⟨i,hi,rfl⟩:=List.getElem_of_mem hx
   exact(vy l).1 hl i hi)
  exact⟨_,by simp only[Nd.whl,if_true];exact hR⟩
theorem qq9{s t:Tx}(h:Sp s t):s.length<=t.length:=by
 induction h with
 |nil=>exact q5 _
 |same c _ ih=>simp only[qi];omega
 |feed _ ih=>simp only[qi];omega
theorem qjt{t:Nd}(hc:xv t=0){m:Nat}{vs:List Lx.Tok}(h:Lx.scan (kw m t.whl) = .toks vs):∃ us,Lx.scan t.whl = .toks us:=by
 obtain⟨⟨K,hK⟩,h37⟩:=qoj hc;have h1:=qad K _ _ h37 (q7a m _) hK;have h2:=Lx.scan_runs h;have e:=y8 _ _ _ h1 h2.1;have hl:=qq9 (q7a m t.whl);have h3:=qcx h;obtain⟨us,hu,_⟩:=Lx.runs_scan hK (by omega) (by rw[e,qv];exact h3);exact⟨us,hu⟩
theorem qp3(t:Nd)(m:Nat)(h20:20<=m)(h200:m<=200) :
  (¬ (zx t).2=0/\(zx t).1=[]/\q11 t m=([],(zx t).2))\/((zx t).2=0/\q11 t m=([],2)) \/
  ∃ us vs,xv t=0/\Lx.scan t.whl = .toks us/\Lx.scan (kw m t.whl) = .toks vs/\zx t=(t.whl,0)/\q11 t m=(kw m t.whl,0):=by
 unfold zx q11
 by_cases hc:xv t=0
 ·rw[qa hc,qa hc,q7 (by omega),Int.toNat_natCast]
  cases h1:Lx.scan t.whl with
  |bad q e =>
   cases h2:Lx.scan (kw m t.whl)with
   |bad q2 e2=>exact .inl ⟨by show ¬ (2:Int)=0;decide,rfl,rfl⟩
   |toks vs =>
    obtain⟨us,hu⟩:=qjt hc h2;rw[h1]at hu
    cases hu
  |toks us =>
   cases h2:Lx.scan (kw m t.whl)with
   |bad q2 e2=>exact .inr (.inl ⟨rfl,rfl⟩)
   |toks vs=>exact .inr (.inr ⟨us,vs,hc,rfl,rfl,rfl,rfl⟩)
 ·rw[q7 hc,q7 hc]
  exact .inl ⟨hc,rfl,rfl⟩
theorem q82:∀ (s cur:Tx),(q2n cur s).length<=s.length+1
 |[],cur=>by
  unfold q2n q2q
  split <;> simp
 |x :: r,cur=>by
  have h0:=q82 r [];have h1:=q82 r (cur++[x]);unfold q2n
  split
  ·have:(q2q cur).length<=1:=by unfold q2q;split <;> simp
   simp only[qc,qi];omega
  ·simp only[qi]
   omega
theorem q64(s:Tx):(vv s).length<=s.length+1:=by
 have h:=q2e s [] (by simp) (by simp);rw[List.nil_append]at h;rw[h];exact q82 s []
theorem q8t{L:List Tx}{i:Nat}(h:i < L.length):(L.take (i+1)).flatMap xo=(L.take i).flatMap xo++xo L[i]:=by
 rw[qw h,qx];simp
theorem q4b(L:List Tx)(i:Nat):((L.take i).flatMap xo).length<=(L.flatMap xo).length:=by
 conv=>rhs;rw[<-List.take_append_drop i L,qx,qc]
 omega
theorem qds{L:List Tx}{i:Nat}(h:i < L.length):(L[i]).length<=Lib.lens L:=by
 induction L generalizing i with
 |nil=>cases h
 |cons x r ih =>
  rw[q1b]
  cases i with
  |zero=>simp only[zo];omega
  |succ i =>
   have:=ih (i:=i) (by simpa using h);simp only[zy];omega
theorem q5f(s:Tx)(c:UInt8):Lib.lens (zw c s)+(zw c s).length=s.length+1:=by rw[<-qjl];exact q4i s c
end Go.Proofs.YtkckddojlignpaaGreatDoor
namespace Go.Proofs.YtkckddojlignpaaGreatDoor
open Go.RowKit
theorem q6a{P:Program}(w:World)(t ty e:TypeId)(i:TypeInfo)(ht:P.underlying t=some (.slice e))(hi:P.info? e=some i)(b:Option Addr)(n cap c:Nat)(hc:n<=cap)(_hn:n<=9223372036854775807) :
  (Builtin.append_ #[t,t] ty #[.slice b n cap,.slice none 0 c]).run P w = .ok (.slice b n cap) w:=by
 cases b with
 |none=>simp[Builtin.append_,run_underlying ht,sizeOf,typeInfo,hi,Builtin.lenOf,Builtin.firstCells,hc]
 |some a=>simp[Builtin.append_,run_underlying ht,sizeOf,typeInfo,hi,Builtin.lenOf,Builtin.firstCells,hc,storeCells]
theorem qrk(J:ByteArray):S_ (bs J) = .string J:=congrArg Value.string (qcs J)
def SR(B:Nat)(w:World)(v:Value)(l:List Tx):Prop:=w.ownsRow B 9 1 v l.length (l.map S_)
theorem SR.nil(B:Nat)(w:World):SR B w (.slice none 0 0) []:=World.ownsRow_nil _ _ _ _
theorem SR.row{B:Nat}{w:World}{v:Value}{l:List Tx}(h:SR B w v l):w.ownsRow B 9 1 v (l.map S_).length (l.map S_):=by
 rw[qv];exact h
theorem SR.keep{B:Nat}{w w':World}{v:Value}{l:List Tx}(h:SR B w v l)(hk:∀ g,v.ownBlock=some g->w'.heap[g]?=w.heap[g]?):SR B w' v l:=by
 have h2:=zd h.row hk
 rwa [qv]at h2
theorem SR.below{B:Nat}{w w':World}{v:Value}{l:List Tx}(h:SR B w v l)(hb:Below w.heap.size w w'):SR B w' v l :=
 h.keep fun g e=>hb.block g (h.row.lt g e).2
theorem SR.alloc{B:Nat}{w:World}{v:Value}{l:List Tx}(h:SR B w v l)(o:Obj):SR B (w.alloc o) v l :=
 h.below ((Below.refl _ _).alloc (q5 _) o)
theorem SR.form{B:Nat}{w:World}{v:Value}{l:List Tx}(h:SR B w v l):∃ a c,v = .slice a l.length c/\l.length<=c/\((a=none/\l=[])\/∃ g,a=some ⟨g,0,none⟩/\g < w.heap.size/\∀ i,(hi:i < l.length)->w.cell? ⟨g,i,none⟩=some (S_ l[i])):=by
 have hc:=fun g hg=>World.ownsRow.cells h (g:=g) hg
 obtain⟨hl,⟨rfl,hn⟩|⟨g,cap,cur,rfl,hb,hg,hcap,_,_,_⟩⟩:=h
 ·exact⟨none,0,by rw[hn],by omega,.inl ⟨rfl,List.eq_nil_of_length_eq_zero hn⟩⟩
 ·refine⟨_,_,rfl,hcap,.inr ⟨g,rfl,za hg,fun i hi=>?_⟩⟩
  have h2:=hc g rfl i (S_ l[i]) (by simp[hi]);have hadd:(⟨g,0,none⟩:Addr).add i=⟨g,i,none⟩:=by unfold Addr.add;split <;> simp_all
  rwa [hadd]at h2
theorem SR.sl{B:Nat}{w:World}{v:Value}{l:List Tx}(h:SR B w v l):qa6 w v (l.map fun x=>⟨x.toArray⟩):=by
 obtain⟨a,c,rfl,_,hx⟩:=h.form;refine⟨a,c,by rw[qv],fun hne=>?_⟩;rcases hx with ⟨_,rfl⟩|⟨g,rfl,_,hc⟩
 ·exact absurd rfl hne
 ·refine⟨g,0,rfl,fun i hi=>?_⟩
  have hi':i < l.length:=by simpa using hi
  rw[Nat.zero_add,hc i hi',List.getElem_map];rfl
theorem SR.lit(w:World)(x:ByteArray):SR w.heap.size (w.alloc (.cells #[.string x] 9)) (.slice (some ⟨w.heap.size,0,none⟩) 1 1) [bs x]:=by
 have h:=World.ownsRow_lit w (e:=9) (size:=1) #[.string x] 1 (q5 _) (by simp[maxLen]) rfl;unfold SR;rw[List.map_cons,qrk];exact h
theorem SR.append{B B':Nat}{w:World}{v v':Value}{l m:List Tx}(h:SR B w v l)(h':SR B' w v' m)(hB:B<=w.heap.size)(hlen:l.length+m.length<=1000000)(ty:TypeId) :
  ∃ v2 w2,(Builtin.append_ #[42,42] ty #[v,v']).run Tryz.prog w = .ok v2 w2/\SR B w2 v2 (l++m)/\w.grownBy w2 v.ownBlock:=by
 obtain⟨i0,hi0,hz0,hz1,hz2⟩:=info_parts qaq;obtain⟨a',c',rfl,hc',hx'⟩:=h'.form;rcases hx' with ⟨rfl,rfl⟩|⟨g,rfl,hg,hc⟩
 ·obtain⟨a,c,rfl,hc,_⟩:=h.form
  refine⟨_,w,q6a w 42 ty 9 i0 Tryz.underlying42 hi0 a l.length c c' hc (by omega),?_,World.grownBy.refl _ _⟩;rw[List.append_nil];exact h
 ·have n2:∀ j u,(m.map S_)[j]?=some u->w.cell? ((⟨g,0,none⟩:Addr).add j)=some u:=by
   intro j u hj;rw[List.getElem?_map]at hj;obtain⟨s,hs,rfl⟩:=Option.map_eq_some_iff.1 hj;obtain⟨hlt,rfl⟩:=List.getElem?_eq_some_iff.1 hs;have hadd:(⟨g,0,none⟩:Addr).add j=⟨g,j,none⟩:=by unfold Addr.add;split <;> simp_all
   rw[hadd];exact hc j hlt
  obtain⟨v2,w2,hrun,hown',hgr,_,_⟩:=run_append_own_at (P:=Tryz.prog) w B 42 ty 9 i0 _ 1 16 Tryz.underlying42 hi0 hz0 hz1 hz2 rfl (by decide) v l.length (l.map S_) h ⟨g,0,none⟩ m.length c' (m.map S_) (by simp) n2 (fun u hu=>by obtain⟨s,_,rfl⟩:=List.mem_map.1 hu;rfl) (by unfold maxLen;omega) (by omega) hB;refine⟨v2,w2,hrun,?_,hgr⟩;unfold SR;rw[qc,List.map_append];exact hown'
section
variable {ops:Array Oper} {rest:List Oper} {o:Oper} {a:Act} {Q:Exit->Act->World->Prop} {w:World}
theorem jw{B B':Nat}{l m:List Tx}(hgd:o.guard=none)(s x:Operand)(ho:o.op = .call { callee:=.builtin .append,args:=#[s,x],argTypes:=#[42,42] })
  (v v':Value) (hs:a.eval s=v) (hx:a.eval x=v') (h:SR B w v l) (h':SR B' w v' m) (hB:B<=w.heap.size) (hlen:l.length+m.length<=1000000)
  (hk:∀ v2 w2,SR B w2 v2 (l++m)->w.grownBy w2 v.ownBlock->wpList Tryz.prog ops Q rest (a.put o.dst v2) w2):wpList Tryz.prog ops Q (o :: rest) a w:=by
 refine wpList_plain hgd fun K hK=>?_
 obtain⟨v2,w2,hr,h2,h3⟩:=h.append h' hB hlen o.type;unfold Oper.wp execOp;simp only[ho,resolve,invoke,builtin,Sem.run_bind,Sem.run_pure,Result.andThen_ok,List.map_toArray,List.map_cons,List.map_nil,hs,hx,hr];exact hK _ _ (hk _ _ h2 h3)
end
theorem SR.grown{B:Nat}{w w1:World}{v:Value}{l:List Tx}{w0:World}(h:SR B w v l)(hB:B<=w.heap.size)(hb:Below B w0 w)(hg:w.grownBy w1 v.ownBlock):Below B w0 w1 :=
 hb.grown hg hB fun k hk=>(World.ownsRow.lt h k hk).1
theorem qpq(c:UInt8)(S:Tx)(f i:Nat)(hf:f<=i)(hi:i < S.length)(hc:c∉Lx.slice S f i)(he:S[i]=c):zw c (S.drop f)=Lx.slice S f i :: zw c (S.drop (i+1)):=by
 have e:S.drop f=Lx.slice S f i++S[i] :: S.drop (i+1):=by
  unfold Lx.slice;rw[<-List.drop_eq_getElem_cons hi];have h:=(List.take_append_drop (i - f) (S.drop f)).symm
  rwa [List.drop_drop,show f+(i - f)=i by omega]at h
 rw[e,he,q1y,yk c _ hc];rfl
theorem qh3(c:UInt8)(S:Tx)(f i:Nat)(hf:f<=i)(hi:i < S.length)(hc:c∉Lx.slice S f i)(he:S[i]≠c):c∉Lx.slice S f (i+1):=by
 have e:Lx.slice S f (i+1)=Lx.slice S f i++[S[i]]:=by
  unfold Lx.slice;rw[show i+1 - f=(i - f)+1 by omega,qw (by rw[List.length_drop];omega),List.getElem_drop]
  congr 2
  congr 1
  omega
 rw[e];simp[hc,Ne.symm he]
theorem q4q(s:ByteArray)(c:UInt8)(z:Int)(hz:z=(c.toNat:Int))(w:World)(hs:s.size<=100000) :
  Calls Tryz.prog 34 #[.string s,.int .u8 z] w fun e w'=>∃ v,e = .returned v/\SR w.heap.size w' v (zw c (bs s))/\Below w.heap.size w w':=by
 have HZ:=qh hz;clear hz;go_enter Tryz.func34,Tryz.ntmps34;go_wp2
 go_loopw [5,6,7] (fun v5 v6 v7 wr=>∃ (i f:Nat) (acc:List Tx),i<=s.size/\f<=i/\v6 = .int .i64 f/\v7 = .int .i64 i/\Hid (acc++zw c ((bs s).drop f)=zw c (bs s))/\Hid (c∉Lx.slice (bs s) f i)/\acc.length<=i/\Hid (SR w.heap.size wr v5 acc)/\Hid (Below w.heap.size w wr)) (fun _ _ v7 _=>s.size - (intOf v7).toNat)
 case atStart=>exact⟨0,0,[],qp _,q5 _,rfl,rfl,qh rfl,qh (by simp[Lx.slice]),q5 _,qh (SR.nil _ _),qh (Below.refl _ _)⟩
 case round =>
  obtain⟨i,f,acc,hi,hf,rfl,rfl,HE,HC,hal,HS,HB⟩:=hrel;have hfi:(f:Int)<=(i:Int):=by omega
  have hsz:=HB.out.size
  by_cases hlt:i < s.size
  ·have hlt':(i:Int) < (s.size:Int):=by omega
   have hby:=xh s[i];have hbl:i < (bs s).length:=by rw[qr];exact hlt
   have hgb:(bs s)[i]=s[i]:=xu hlt
   by_cases hc:s[i]=c
   ·have hc2:((s[i].toNat:Int)==z)=true:=by rw[HZ.out,hc];simp
    have HE2:=qh (show(acc++[bs (s.extract f i)])++zw c ((bs s).drop (i+1))=zw c (bs s)by
     rw[<-HE.out,qpq c (bs s) f i hf hbl HC.out (by rw[hgb];exact hc),yv,qe]
     rfl)
    have HS1:=qh (HS.out.alloc (.cells #[.string (s.extract f i)] 9));have HL1:=qh (SR.lit wr (s.extract f i));have HB1:=qh (HB.out.alloc hsz (.cells #[.string (s.extract f i)] 9));clear HE HC hgb hc HS
    go_wp2_with (at_builtin;refine jw rfl _ _ rfl _ _ rfl rfl HS1.out HL1.out (by simp only[q6];omega) (by simp only[qi,qo];omega) ?_;intro v2 w2 hs2 hg2)
    have HB2:=qh (HS1.out.grown (by simp only[q6];omega) HB1.out hg2);have HS2:=qh hs2;clear hs2 hg2 HS1 HL1 HB1 HB;go_wp2;go_roundw
    case rel=>exact⟨i+1,i+1,acc++[bs (s.extract f i)],hlt,q5 _,by push_cast;rfl,by push_cast;rfl,HE2,qh (by simp[Lx.slice]),by rw[qc];simp only[qi,qo];omega,HS2,HB2⟩
    case measure=>simp[intOf];omega
   ·have hc2:((s[i].toNat:Int)==z)=false:=by
     rw[q9,HZ.out];intro e;exact hc (by rw[<-UInt8.toNat_inj];exact Int.ofNat_inj.1 e)
    have HC2:=qh (qh3 c (bs s) f i hf hbl HC.out (by rw[hgb];exact hc));clear HC hgb hc;go_wp2;go_roundw
    case rel=>exact⟨i+1,f,acc,hlt,Nat.le_succ_of_le hf,rfl,by push_cast;rfl,HE,HC2,by omega,HS,HB⟩
    case measure=>simp[intOf];omega
  ·have hlt':¬ ((i:Int) < (s.size:Int)):=by omega
   have hin:i=s.size:=by omega
   have hfs:(f:Int)<=(s.size:Int):=by omega
   have HE2:=qh (show acc++[bs (s.extract f s.size)]=zw c (bs s)by
    have h1:=HC.out;have e:Lx.slice (bs s) f i=(bs s).drop f:=by unfold Lx.slice;rw[qt (by rw[List.length_drop,qr];omega)]
    rw[e]at h1
    rw[<-HE.out,q21,yk c _ h1])
   have HS1:=qh (HS.out.alloc (.cells #[.string (s.extract f s.size)] 9));have HL1:=qh (SR.lit wr (s.extract f s.size));have HB1:=qh (HB.out.alloc hsz (.cells #[.string (s.extract f s.size)] 9));clear HE HC HS
   go_wp2_with (at_builtin;refine jw rfl _ _ rfl _ _ rfl rfl HS1.out HL1.out (by simp only[q6];omega) (by simp only[qi,qo];omega) ?_;intro v2 w2 hs2 hg2)
   have HB2:=qh (HS1.out.grown (by simp only[q6];omega) HB1.out hg2);have HS2:=qh (show SR w.heap.size w2 v2 (zw c (bs s))by rw[<-HE2.out];exact hs2);clear hs2 hg2 HS1 HL1 HB1 HB;go_wp2;go_ret;exact⟨_,rfl,HS2.out,HB2.out⟩
theorem qlg{l:List Tx}{i:Nat}(h:i < l.length):q03 (l.take (i+1))=if l[i]=[] then q03 (l.take i) else q03 (l.take i)++[l[i]]:=by
 unfold q03;rw[qw h,List.filter_append]
 by_cases e:l[i]=[]
 ·simp[e]
 ·simp[e]
theorem qnp(l:List Tx):(q03 l).length<=l.length:=List.length_filter_le _ _
theorem qp1(x:Tx):(⟨x.toArray⟩:ByteArray).toList=x:=by rw[Lib.toList_data]
theorem q9u(B:Nat)(v:Value)(l:List Tx)(w:World)(hv:SR B w v l)(hl:l.length<=100000) :
  Calls Tryz.prog 35 #[v] w fun e w'=>∃ v',e = .returned v'/\SR w.heap.size w' v' (q03 l)/\Below w.heap.size w w':=by
 obtain⟨a,cap,rfl,hcap,hx⟩:=hv.form;obtain⟨n,hn⟩:∃ n,l.length=n:=⟨_,rfl⟩;rw[hn]at hl hcap;rw[hn];have HN:=qh hn;have HX:=qh hx;clear hx hn hv;go_enter Tryz.func35,Tryz.ntmps35;go_wp2
 go_loopw [3,4] (fun v3 v4 wr=>∃ i:Nat,i<=n/\v4 = .int .i64 i/\Hid (SR w.heap.size wr v3 (q03 (l.take i)))/\Hid (Below w.heap.size w wr)) (fun _ v4 _=>n - (intOf v4).toNat)
 case atStart=>exact⟨0,qp _,rfl,qh (by simpa[q03]using SR.nil _ _),qh (Below.refl _ _)⟩
 case round =>
  obtain⟨i,hi,rfl,HS,HB⟩:=hrel;have hsz:=HB.out.size
  by_cases hlt:i < n
  ·have hlt':(i:Int) < (n:Int):=by omega
   have hi0:(0:Int)<=(i:Int):=by omega
   have hil:i < l.length:=by rw[HN.out];exact hlt
   obtain⟨g,rfl,x0⟩:∃ g,a=some ⟨g,0,none⟩/\wr.cell? ⟨g,i,none⟩=some (S_ l[i]):=by
    rcases HX.out with ⟨_,rfl⟩|⟨g,rfl,hg,hc⟩
    ·simp at hil
    ·exact⟨g,rfl,(HB.out.cell (p:=⟨g,i,none⟩) hg).trans (hc i hil)⟩
   have hfs:=qlg hil
   have hfl:(q03 (l.take i)).length<=100000:=by
    have h1:=qnp (l.take i);rw[List.length_take]at h1;omega
   obtain⟨x,hxe⟩:∃ x,l[i]=x:=⟨_,rfl⟩;rw[hxe]at x0 hfs;unfold S_ at x0;obtain⟨X,hX⟩:∃ X:ByteArray,(⟨x.toArray⟩:ByteArray)=X:=⟨_,rfl⟩;have hXb:bs X=x:=by rw[<-hX];rfl
   have hXl:X.toList=x:=by rw[<-hX];exact qp1 x
   rw[hX]at x0
   by_cases he:x=[]
   ·rw[qa he]at hfs
    have ht:(X.toList==[])=true:=by rw[hXl,he];rfl
    have HF:=qh hfs;clear hfs hxe hX hXb hXl hfl;go_wp2;go_roundw
    case rel=>exact⟨i+1,hlt,by push_cast;rfl,qh (by rw[HF.out];exact HS.out),HB⟩
    case measure=>simp[intOf];omega
   ·rw[q7 he]at hfs
    have ht:(X.toList==[])=false:=by rw[hXl];cases x <;> first|rfl|exact absurd rfl he
    have HF:=qh hfs;have HS1:=qh (HS.out.alloc (.cells #[.string X] 9));have HL1:=qh (SR.lit wr X);have HB1:=qh (HB.out.alloc hsz (.cells #[.string X] 9));have HX2:=qh hXb;clear hfs hxe hX hXb hXl HS
    go_wp2_with (at_builtin;refine jw rfl _ _ rfl _ _ rfl rfl HS1.out HL1.out (by simp only[q6];omega) (by simp only[qi,qo];omega) ?_;intro v2 w2 hs2 hg2)
    have HB2:=qh (HS1.out.grown (by simp only[q6];omega) HB1.out hg2);have HS2:=qh (show SR w.heap.size w2 v2 (q03 (l.take (i+1)))by rw[HF.out,<-HX2.out];exact hs2);clear hs2 hg2 HS1 HL1 HB1 HB;go_wp2;go_roundw
    case rel=>exact⟨i+1,hlt,by push_cast;rfl,HS2,HB2⟩
    case measure=>simp[intOf];omega
  ·have hlt':¬ ((i:Int) < (n:Int)):=by omega
   have HS2:=qh (show SR w.heap.size wr _ (q03 l)by
    have h:=HS.out;rw[qt (by rw[HN.out];omega)]at h
    exact h)
   clear HS;go_wp2;go_ret;exact⟨_,rfl,HS2.out,HB.out⟩
theorem qbk(t:Nd)(wd x:Int)(m:Nat)(hx:wd % 181=x)(hm:20+x=m)(v0 v1 v2:Value)(w:World)(ht:NdR w t v0 v1 v2)(hw:2<=w.heap.size)(gl:GLw w)(hwd : -9223372036854775808<=wd/\wd<=9223372036854775807)
  {E F:Int} (hpr:zx t=([],E)\/(E=0/\(zx t).2=0)) (hla:q11 t m=([],F)) (hEF:(¬ E=0/\F=E)\/(E=0/\F=2)) :
  Calls Tryz.prog 7 #[.agg #[v0,v1,v2],.int .i64 wd] w fun e w'=>e = .returned (.bool true)/\Below w.heap.size w w':=by
 obtain⟨k,s,kl,a,cap,rfl,rfl,rfl,rfl,hs,hl⟩:=ht.form;obtain⟨W,hW⟩:∃ W,w.alloc (.cells #[.int .i64 k,.string s,.slice a kl.length cap] 25)=W:=⟨_,rfl⟩;have hb0:=(Below.refl w.heap.size w).alloc (q5 _) (.cells #[.int .i64 k,.string s,.slice a kl.length cap] 25);have R0:Row3 W w.heap.size (.int .i64 k) (.string s) (.slice a kl.length cap):=by rw[<-hW];exact Row3.new _ _ _ _
 rw[hW]at hb0;have hsW:W.heap.size=w.heap.size+1:=by rw[<-hW];simp
 have gW:=qh (gl.keep fun b hb hl=>hb0.block b hl);have tW:=qh (ht.later hb0);have CS:=qh (q3h W (by omega) gW.out);have CO:=qh (fun w'=>qan wd w' hwd);simp only[hx]at CO;have hx2:0<=x/\x<=180:=by omega
 have CP:=qh (fun w' (hb:Below W.heap.size W w')=>q2m (.mk k s kl) _ _ _ w' (tW.out.later hb) (gW.out.keep fun b h1 h3=>hb.block b h3) (by have:=hb.size;omega));have CL:=qh (fun w' (hb:Below W.heap.size W w')=>qay (.mk k s kl) (20+x) _ _ _ w' (tW.out.later hb) (gW.out.keep fun b h1 h3=>hb.block b h3) (by have:=hb.size;omega));rw[hm]at CL;simp only[hla]at CL;rw[<-hm]at CL
 obtain⟨P,hP,hP2⟩:∃ P:ByteArray,S_ (zx (.mk k s kl)).1 = .string P/\(zx (.mk k s kl)).2=E:=by
  rcases hpr with h|⟨h1,h2⟩
  ·rw[h];exact⟨_,rfl,rfl⟩
  ·exact⟨_,rfl,by rw[h2,h1]⟩
 simp only[hP,hP2]at CP;have HB:=qh hb0;have HW:=qh hW;have HS:=qh hsW;have HR:=qh R0;have hs0:w.heap.size < W.heap.size:=by omega
 clear hP hP2 hpr hla hb0 hW R0 hsW ht gl hm hx hwd;unfold S_ at CL;rcases hEF with ⟨hE,rfl⟩|⟨rfl,rfl⟩
 ·have e1:(F==0)=false:=by rw[q9];exact hE
  have e2:(F != 0)=true:=by rw[bne_iff_ne];exact hE
  clear hE;go_enter Tryz.func7,Tryz.ntmps7
  go_upto_region 1 with fail
  rw[HW.out]
  go_wp2_with fail
  refine CS.out.mono ?_;rintro e w1⟨rfl,hb⟩;have B1:=qh hb;clear hb CS
  go_wp2_with fail
  refine(CO.out _).mono ?_;rintro e w2⟨rfl,rfl⟩;obtain⟨⟨n0,n1,n2⟩,_⟩:=(HR.out.below B1.out hs0).cells
  go_wp2_with fail
  refine(CP.out _ B1.out).mono ?_;rintro e w3⟨rfl,hb⟩;have B3:=qh (B1.out.trans (hb.mono B1.out.size));clear hb CP n0 n1 n2;obtain⟨⟨n0,n1,n2⟩,_⟩:=(HR.out.below B3.out hs0).cells
  go_wp2_with fail
  refine(CL.out _ B3.out).mono ?_;rintro e w4⟨rfl,hb⟩;have B4:=qh (B3.out.trans (hb.mono B3.out.size));clear hb CL n0 n1 n2;go_wp2;go_ret;exact⟨rfl,HB.out.trans (B4.out.mono (by have:=HS.out;omega))⟩
 ·go_enter Tryz.func7,Tryz.ntmps7
  go_upto_region 1 with fail
  rw[HW.out]
  go_wp2_with fail
  refine CS.out.mono ?_;rintro e w1⟨rfl,hb⟩;have B1:=qh hb;clear hb CS
  go_wp2_with fail
  refine(CO.out _).mono ?_;rintro e w2⟨rfl,rfl⟩;obtain⟨⟨n0,n1,n2⟩,_⟩:=(HR.out.below B1.out hs0).cells
  go_wp2_with fail
  refine(CP.out _ B1.out).mono ?_;rintro e w3⟨rfl,hb⟩;have B3:=qh (B1.out.trans (hb.mono B1.out.size));clear hb CP n0 n1 n2;obtain⟨⟨n0,n1,n2⟩,_⟩:=(HR.out.below B3.out hs0).cells
  go_wp2_with fail
  refine(CL.out _ B3.out).mono ?_;rintro e w4⟨rfl,hb⟩;have B4:=qh (B3.out.trans (hb.mono B3.out.size));clear hb CL n0 n1 n2;go_wp2;go_ret;exact⟨rfl,HB.out.trans (B4.out.mono (by have:=HS.out;omega))⟩
theorem qi5(t:Nd)(wd x:Int)(m:Nat)(hx:wd % 181=x)(hm:20+x=m)(v0 v1 v2:Value)(w:World)(ht:NdR w t v0 v1 v2)(hw:2<=w.heap.size)(gl:GLw w)(hwd : -9223372036854775808<=wd/\wd<=9223372036854775807)
  {J K:ByteArray} (hpr:zx t=(bs J,0)) (hla:q11 t m=(bs K,0)) (hJ:J.size<=20000) (hK:K.size<=20000) (hfit:∀ l∈zw 10 (bs K),qas m l) (hww:vv (bs K)=vv (bs J)) :
  Calls Tryz.prog 7 #[.agg #[v0,v1,v2],.int .i64 wd] w fun e w'=>e = .returned (.bool true)/\Below w.heap.size w w':=by
 obtain⟨k,s,kl,a,cap,rfl,rfl,rfl,rfl,hs,hl⟩:=ht.form;obtain⟨W,hW⟩:∃ W,w.alloc (.cells #[.int .i64 k,.string s,.slice a kl.length cap] 25)=W:=⟨_,rfl⟩;have hb0:=(Below.refl w.heap.size w).alloc (q5 _) (.cells #[.int .i64 k,.string s,.slice a kl.length cap] 25);have R0:Row3 W w.heap.size (.int .i64 k) (.string s) (.slice a kl.length cap):=by rw[<-hW];exact Row3.new _ _ _ _
 rw[hW]at hb0;have hsW:W.heap.size=w.heap.size+1:=by rw[<-hW];simp
 have gW:=qh (gl.keep fun b hb hl=>hb0.block b hl);have tW:=qh (ht.later hb0);have CS:=qh (q3h W (by omega) gW.out);have CO:=qh (fun w'=>qan wd w' hwd);simp only[hx]at CO;have hx2:0<=x/\x<=180:=by omega
 have CP:=qh (fun w' (hb:Below W.heap.size W w')=>q2m (.mk k s kl) _ _ _ w' (tW.out.later hb) (gW.out.keep fun b h1 h3=>hb.block b h3) (by have:=hb.size;omega));have CL:=qh (fun w' (hb:Below W.heap.size W w')=>qay (.mk k s kl) (20+x) _ _ _ w' (tW.out.later hb) (gW.out.keep fun b h1 h3=>hb.block b h3) (by have:=hb.size;omega));simp only[hpr,q7g]at CP;rw[hm]at CL;simp only[hla,q7g]at CL;rw[<-hm]at CL;have C10K:=qh (fun w'=>q4q K 10 10 rfl w' (by omega));have C10J:=qh (fun w'=>q4q J 10 10 rfl w' (by omega));have C32:=qh (fun(X:ByteArray) (h:X.size<=20001) w'=>q4q X 32 32 rfl w' (by omega));have lK:=q5f (bs K) 10;have lJ:=q5f (bs J) 10;have nK:=q64 (bs K);have nJ:=q64 (bs J);unfold vv at nK nJ;rw[qr]at lK lJ nK nJ;have HWW:=qh hww;obtain⟨LK,hLK⟩:∃ L,zw 10 (bs K)=L:=⟨_,rfl⟩;obtain⟨LJ,hLJ⟩:∃ L,zw 10 (bs J)=L:=⟨_,rfl⟩;simp only[hLK]at C10K lK nK hfit;simp only[hLJ]at C10J lJ nJ;have tK:LK.flatMap xo=vv (bs K):=by rw[<-hLK];rfl
 have tJ:LJ.flatMap xo=vv (bs J):=by rw[<-hLJ];rfl
 have HTK:=qh tK;have HTJ:=qh tJ;have HLK:=qh lK;have HLJ:=qh lJ;have HNK:=qh nK;have HNJ:=qh nJ;have HFIT:=qh hfit;have lKn:LK.length<=20001:=by omega
 have lJn:LJ.length<=20001:=by omega
 have HB:=qh hb0;have HW:=qh hW;have HS:=qh hsW;have HR:=qh R0;have hs0:w.heap.size < W.heap.size:=by omega
 have hms:m<=200:=by omega
 have HM:=qh hm;clear hpr hla hb0 hW R0 hsW ht gl hm hx hwd tK tJ lK lJ nK nJ hfit hww hLK hLJ;go_enter Tryz.func7,Tryz.ntmps7
 go_upto_region 1 with fail
 rw[HW.out]
 go_wp2_with fail
 refine CS.out.mono ?_;rintro e w1⟨rfl,hb⟩;have B1:=qh hb;clear hb CS
 go_wp2_with fail
 refine(CO.out _).mono ?_;rintro e w2⟨rfl,rfl⟩;obtain⟨⟨n0,n1,n2⟩,_⟩:=(HR.out.below B1.out hs0).cells
 go_wp2_with fail
 refine(CP.out _ B1.out).mono ?_;rintro e w3⟨rfl,hb⟩;have B3:=qh (B1.out.trans (hb.mono B1.out.size));clear hb CP n0 n1 n2;obtain⟨⟨n0,n1,n2⟩,_⟩:=(HR.out.below B3.out hs0).cells
 go_wp2_with fail
 refine(CL.out _ B3.out).mono ?_;rintro e w4⟨rfl,hb⟩;have B4:=qh (B3.out.trans (hb.mono B3.out.size));clear hb CL n0 n1 n2 B1 B3
 go_wp2_with fail
 refine(C10K.out _).mono ?_;rintro e w5⟨v5,rfl,hs5,hb5⟩;have B5:=qh (B4.out.trans (hb5.mono B4.out.size));obtain⟨a5,c5,rfl,hc5,hf5⟩:=hs5.form;obtain⟨nk,hnk⟩:∃ n,LK.length=n:=⟨_,rfl⟩;have HNk:=qh hnk;have HF5:=qh hf5;rw[hnk]at hc5 lKn;rw[hnk];clear hb5 hs5 hf5 C10K hnk B4
 go_wp2_with fail
 go_loopw [11,13] (fun v11 v13 wr=>∃ i:Nat,i<=nk/\v13 = .int .i64 i/\Hid (SR w5.heap.size wr v11 ((LK.take i).flatMap xo))/\Hid (Below w5.heap.size w5 wr)) (fun _ v13 _=>nk - (intOf v13).toNat)
 case atStart=>exact⟨0,qp _,rfl,qh (by simpa using SR.nil _ _),qh (Below.refl _ _)⟩
 case round =>
  obtain⟨i,hi,rfl,HSR,BR⟩:=hrel
  by_cases hlt:i < nk
  ·have hlt':(i:Int) < (nk:Int):=by omega
   have hi0:(0:Int)<=(i:Int):=by omega
   have hiL:i < LK.length:=by rw[HNk.out];exact hlt
   obtain⟨g,rfl,hg5,x5⟩:∃ g,a5=some ⟨g,0,none⟩/\g < w5.heap.size/\w5.cell? ⟨g,i,none⟩=some (S_ LK[i]):=by
    rcases HF5.out with ⟨_,rfl⟩|⟨g,rfl,hg,hc⟩
    ·simp at hiL
    ·exact⟨g,rfl,hg,hc i hiL⟩
   have hstep:=q8t hiL;have hle:=q4b LK (i+1);have hle0:=q4b LK i;have hxl:(LK[i]).length<=20001:=by have h1:=qds hiL;have h2:=HLK.out;omega
   have hfi:qas m LK[i]:=HFIT.out _ (List.getElem_mem hiL);obtain⟨X,hX⟩:∃ X:ByteArray,bs X=LK[i]:=⟨⟨(LK[i]).toArray⟩,rfl⟩;rw[<-hX]at x5 hstep hxl hfi;rw[q7g]at x5;rw[qr]at hxl;have hfx:1 < (xo (bs X)).length->X.size<=m:=fun h=>by have:=hfi h;rwa [qr]at this
   have hlw:(xo (bs X)).length<=20002:=by rw[hstep,qc]at hle;have:=HNK.out;omega
   have hacc:((LK.take i).flatMap xo).length<=20002:=by have:=HNK.out;omega
   have hl32:(zw 32 (bs X)).length<=100000:=by have:=q5f (bs X) 32;rw[qr]at this;omega
   have x0:wr.cell? ⟨g,i,none⟩=some (.string X):=(BR.out.cell (p:=⟨g,i,none⟩) hg5).trans x5;have C1:=qh (C32.out X hxl wr);have HST:=qh hstep;have CF:=qh (fun B v w' (h:SR B w' v (zw 32 (bs X)))=>q9u B v _ w' h hl32);obtain⟨ws,hws⟩:∃ ws,xo (bs X)=ws:=⟨_,rfl⟩;have hws2:q03 (zw 32 (bs X))=ws:=hws;simp only[hws2]at CF;rw[hws]at HST hfx hlw;obtain⟨n6,hn6⟩:∃ n,ws.length=n:=⟨_,rfl⟩;rw[hn6]at hfx hlw;have HN6:=qh hn6;have X5:=qh x5;clear hws hws2 hX hfi hstep hle hle0 hl32 x5 hn6
   go_wp2_with fail
   refine C1.out.mono ?_;rintro e w6⟨v6,rfl,hs6,hb6⟩;have B6:=qh (BR.out.trans (hb6.mono BR.out.size));have C2:=qh (CF.out _ v6 w6 hs6);have SR6:=qh (HSR.out.below hb6);clear hb6 hs6 C1 CF BR HSR
   go_wp2_with fail
   refine C2.out.mono ?_;rintro e w7⟨v7,rfl,hs7,hb7⟩;have B7:=qh (B6.out.trans (hb7.mono B6.out.size));have SR7:=qh (SR6.out.below hb7);obtain⟨a7,c7,rfl,hc7,_⟩:=hs7.form;have HS7:=qh hs7;have x7:w7.cell? ⟨g,i,none⟩=some (.string X):=(B7.out.cell (p:=⟨g,i,none⟩) hg5).trans X5.out;have hn6':ws.length=n6:=HN6.out;rw[hn6']at HS7 ⊢;clear hb7 C2 B6 SR6 hs7 hc7 x0 hn6';have hw5:w5.heap.size<=w7.heap.size:=B7.out.size
   by_cases h1:1 < n6
   ·have h1':(1:Int) < (n6:Int):=by omega
    have hxm:¬ ((20+x:Int) < (X.size:Int)):=by have:=hfx h1;have:=HM.out;omega
    clear hfx
    go_wp2_with (at_builtin;refine jw rfl _ _ rfl _ _ rfl rfl SR7.out HS7.out hw5 (by have:=HN6.out;omega) ?_;intro v8 w8 hs8 hg8)
    have B8:=qh (SR7.out.grown hw5 B7.out hg8);have SR8:=qh (show SR w5.heap.size w8 v8 ((LK.take (i+1)).flatMap xo)by rw[HST.out];exact hs8);clear hs8 hg8 SR7 HS7 B7 x7;go_wp2;go_roundw
    case rel=>exact⟨i+1,hlt,by push_cast;rfl,SR8,B8⟩
    case measure=>simp[intOf];omega
   ·have h1':¬ ((1:Int) < (n6:Int)):=by omega
    clear hfx
    go_wp2_with (at_builtin;refine jw rfl _ _ rfl _ _ rfl rfl SR7.out HS7.out hw5 (by have:=HN6.out;omega) ?_;intro v8 w8 hs8 hg8)
    have B8:=qh (SR7.out.grown hw5 B7.out hg8);have SR8:=qh (show SR w5.heap.size w8 v8 ((LK.take (i+1)).flatMap xo)by rw[HST.out];exact hs8);clear hs8 hg8 SR7 HS7 B7 x7;go_wp2;go_roundw
    case rel=>exact⟨i+1,hlt,by push_cast;rfl,SR8,B8⟩
    case measure=>simp[intOf];omega
  ·have hlt':¬ ((i:Int) < (nk:Int)):=by omega
   have HP:=qh (show SR w5.heap.size wr _ (vv (bs J))by
    have h:=HSR.out;rw[qt (by rw[HNk.out];omega),HTK.out,HWW.out]at h
    exact h)
   have B9:=qh (B5.out.trans (BR.out.mono B5.out.size));clear HSR BR
   go_wp2_with fail
   refine(C10J.out _).mono ?_;rintro e x5⟨u5,rfl,hs5,hb5⟩;have D5:=qh (B9.out.trans (hb5.mono B9.out.size));have HP5:=qh (HP.out.below hb5);obtain⟨a5',c5',rfl,hc5',hf5'⟩:=hs5.form;obtain⟨nj,hnj⟩:∃ n,LJ.length=n:=⟨_,rfl⟩;have HNj:=qh hnj;have HF5':=qh hf5';rw[hnj]at hc5' lJn;rw[hnj];clear hb5 hs5 hf5' C10J hnj B9 HP
   go_wp2_with fail
   go_loopw [15,16] (fun v15 v16 wr=>∃ i:Nat,i<=nj/\v16 = .int .i64 i/\Hid (SR x5.heap.size wr v15 ((LJ.take i).flatMap xo))/\Hid (Below x5.heap.size x5 wr)) (fun _ v16 _=>nj - (intOf v16).toNat)
   case atStart=>exact⟨0,qp _,rfl,qh (by simpa using SR.nil _ _),qh (Below.refl _ _)⟩
   case round =>
    obtain⟨i,hi,rfl,HSR,BR⟩:=hrel
    by_cases hlt:i < nj
    ·have hlt':(i:Int) < (nj:Int):=by omega
     have hi0:(0:Int)<=(i:Int):=by omega
     have hiL:i < LJ.length:=by rw[HNj.out];exact hlt
     obtain⟨g,rfl,hg5,y5⟩:∃ g,a5'=some ⟨g,0,none⟩/\g < x5.heap.size/\x5.cell? ⟨g,i,none⟩=some (S_ LJ[i]):=by
      rcases HF5'.out with ⟨_,rfl⟩|⟨g,rfl,hg,hc⟩
      ·simp at hiL
      ·exact⟨g,rfl,hg,hc i hiL⟩
     have hstep:=q8t hiL;have hle:=q4b LJ (i+1);have hle0:=q4b LJ i;have hxl:(LJ[i]).length<=20001:=by have h1:=qds hiL;have h2:=HLJ.out;omega
     obtain⟨X,hX⟩:∃ X:ByteArray,bs X=LJ[i]:=⟨⟨(LJ[i]).toArray⟩,rfl⟩;rw[<-hX]at y5 hstep hxl;rw[q7g]at y5;rw[qr]at hxl;have hlw:(xo (bs X)).length<=20002:=by rw[hstep,qc]at hle;have:=HNJ.out;omega
     have hacc:((LJ.take i).flatMap xo).length<=20002:=by have:=HNJ.out;omega
     have hl32:(zw 32 (bs X)).length<=100000:=by have:=q5f (bs X) 32;rw[qr]at this;omega
     have x0:wr.cell? ⟨g,i,none⟩=some (.string X):=(BR.out.cell (p:=⟨g,i,none⟩) hg5).trans y5;have C1:=qh (C32.out X hxl wr);have HST:=qh hstep;have CF:=qh (fun B v w' (h:SR B w' v (zw 32 (bs X)))=>q9u B v _ w' h hl32);obtain⟨ws,hws⟩:∃ ws,xo (bs X)=ws:=⟨_,rfl⟩;have hws2:q03 (zw 32 (bs X))=ws:=hws;simp only[hws2]at CF;rw[hws]at HST hlw;clear hws hws2 hX hstep hle hle0 hl32 y5
     go_wp2_with fail
     refine C1.out.mono ?_;rintro e w6⟨v6,rfl,hs6,hb6⟩;have B6:=qh (BR.out.trans (hb6.mono BR.out.size));have C2:=qh (CF.out _ v6 w6 hs6);have SR6:=qh (HSR.out.below hb6);clear hb6 hs6 C1 CF BR HSR
     go_wp2_with fail
     refine C2.out.mono ?_;rintro e w7⟨v7,rfl,hs7,hb7⟩;have B7:=qh (B6.out.trans (hb7.mono B6.out.size));have SR7:=qh (SR6.out.below hb7);have HS7:=qh hs7;have hw5:x5.heap.size<=w7.heap.size:=B7.out.size;clear hb7 C2 B6 SR6 hs7 x0
     go_wp2_with (at_builtin;refine jw rfl _ _ rfl _ _ rfl rfl SR7.out HS7.out hw5 (by omega) ?_;intro v8 w8 hs8 hg8)
     have B8:=qh (SR7.out.grown hw5 B7.out hg8);have SR8:=qh (show SR x5.heap.size w8 v8 ((LJ.take (i+1)).flatMap xo)by rw[HST.out];exact hs8);clear hs8 hg8 SR7 HS7 B7;go_wp2;go_roundw
     case rel=>exact⟨i+1,hlt,by push_cast;rfl,SR8,B8⟩
     case measure=>simp[intOf];omega
    ·have hlt':¬ ((i:Int) < (nj:Int)):=by omega
     have HQ:=qh (show SR x5.heap.size wr _ (vv (bs J))by
      have h:=HSR.out;rw[qt (by rw[HNj.out];omega),HTJ.out]at h
      exact h)
     have HP9:=qh (HP5.out.below BR.out);have D9:=qh (D5.out.trans (BR.out.mono D5.out.size))
     have hlen:((vv (bs J)).map fun x=>(⟨x.toArray⟩:ByteArray)).length<=1000000:=by
      rw[qv];have:=q64 (bs J);rw[qr]at this;omega
     have CE:=qh (qd5 _ _ _ wr HP9.out.sl HQ.out.sl hlen);clear HSR BR HQ HP9 HP5 D5 hlen
     go_wp2_with fail
     refine CE.out.mono ?_;rintro e w9⟨rfl,hb9⟩;have E9:=qh (D9.out.trans (hb9.mono D9.out.size));clear hb9 CE D9;go_wp2;go_ret;exact⟨rfl,HB.out.trans (E9.out.mono (by have:=HS.out;omega))⟩
theorem qcq(t:Nd)(wd:Int)(v0 v1 v2:Value)(w:World)(ht:NdR w t v0 v1 v2)(hw:2<=w.heap.size)(gl:GLw w)(hwd : -9223372036854775808<=wd/\wd<=9223372036854775807) :
  Calls Tryz.prog 7 #[.agg #[v0,v1,v2],.int .i64 wd] w fun e w'=>e = .returned (.bool true)/\Below w.heap.size w w':=by
 obtain⟨m,hm⟩:∃ m:Nat,20+wd % 181=m:=⟨(20+wd % 181).toNat,by omega⟩;rcases qp3 t m (by omega) (by omega)with ⟨h1,h2,h3⟩|⟨h1,h3⟩|⟨us,vs,hc,hu,hv,hp,hl⟩
 ·exact qbk t wd _ m rfl hm v0 v1 v2 w ht hw gl hwd (E:=(zx t).2) (F:=(zx t).2) (.inl (by rw[<-h2])) h3 (.inl ⟨h1,rfl⟩)
 ·exact qbk t wd _ m rfl hm v0 v1 v2 w ht hw gl hwd (E:=0) (F:=2) (.inr ⟨rfl,h1⟩) h3 (.inr ⟨rfl,rfl⟩)
 ·obtain⟨J,hJ⟩:∃ J:ByteArray,bs J=t.whl:=⟨⟨t.whl.toArray⟩,rfl⟩
  obtain⟨K,hK⟩:∃ K:ByteArray,bs K=kw m t.whl:=⟨⟨(kw m t.whl).toArray⟩,rfl⟩;have hJ2:=(Lx.scan_runs hu).2;have hK2:=(Lx.scan_runs hv).2;rw[<-hJ,qr]at hJ2;rw[<-hK,qr]at hK2;exact qi5 t wd _ m rfl hm v0 v1 v2 w ht hw gl hwd (J:=J) (K:=K) (by rw[hp,hJ]) (by rw[hl,hK]) hJ2 hK2 (by rw[hK];exact qna m _) (by rw[hK,hJ];exact qi8 m _)
end Go.Proofs.YtkckddojlignpaaGreatDoor
