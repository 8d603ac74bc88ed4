/- A part of the proof, packed: see the last text of this claim. -/
import Derived.Test.YtgikhpmdpppenaaGreatDoorPkPa
import Derived.Test.YtgikhpmdpppenaaGreatDoorPkPb
import Derived.Test.YtgikhpmdpppenaaGreatDoorPkPc
import Derived.Test.YtgikhpmdpppenaaGreatDoorPkPd
import Derived.Test.YtgikhpmdpppenaaGreatDoorPkPe
import Derived.Lib.FrozenHead
import Derived.BigQuiet
import Derived.StillTailTactics
import Derived.Deep.RegionHeld3
import Derived.OwnWalkIn
import Derived.Stop.RegionWithIn
namespace Go.Proofs.YtgikhpmdpppenaaGreatDoor
open Go.RowKit
def Nd.nm:Nd→Tx | .mk _ s _=>bs s
def comF:List Nd→Bool→Tx
 | [],_=>[]
 | x :: l,first=>(if first then [] else [44,32])++(x.nm++comF l false)
theorem comF_step:∀ (l:List Nd) (i:Nat) (h:i < l.length) (f:Bool),comF (l.take (i+1)) f=comF (l.take i) f++((if i=0∧f=true then [] else [44,32])++(l[i]).nm)
 | x :: l,0,_,f=>by cases f <;> simp [comF]
 | x :: l,i+1,h,f=>by
  simp only [List.take_succ_cons,comF,List.getElem_cons_succ]
  rw [comF_step l i (by simpa using h) false]
  simp
theorem comF_mono (l:List Nd) (f:Bool) (i:Nat):(comF (l.take i) f).length≤(comF l f).length:=by
 induction l generalizing i f with
 | nil=>simp [comF]
 | cons x l ih =>
  cases i with
  | zero=>simp [comF]
  | succ i =>
   simp only [List.take_succ_cons,comF,List.length_append]
   have:=ih false i
   omega
set_option maxRecDepth 100000 in
set_option maxHeartbeats 2000000 in
theorem names_any {w0:World} {b:Nat} (k:Int) (s:ByteArray) (kl:List Nd) (n cap':Nat) (hn:n≤kl.length) (v0 v1:Value) (a:Option Addr) (m cap:Nat) (l:Tx) (w:World) (ht:NdR w0 (.mk k s kl) v0 v1 (.slice a m cap)) (hp:PrI w0 b l w)
  (hlen:l.length+(comF (kl.take n) true).length≤100000000):Calls Tryz.prog 221 #[.pointer (some ⟨b,0,none⟩),.slice a n cap'] w (PrO w0 b l w (comF (kl.take n) true)):=by
 have hl:kl.length≤maxLen:=by
  obtain ⟨_,_,_,_,_,e,_,_,_,_,h⟩:=ht.form
  cases e
  exact h
 unfold maxLen at hl
 have HN:=qh ht
 have P0:=qh hp
 have K0:=qh (Wr.refl w0.heap.size b w)
 have HL:=qh hlen
 have Hn:=qh hn
 obtain ⟨T,hT⟩:∃ T,comF (kl.take n) true=T:=⟨_,rfl⟩
 rw [hT] at HL
 rw [hT]
 have HT:=qh hT
 have hn2:n≤9223372036854775807:=by omega
 clear ht hp hlen hT hn hl
 go_enter Tryz.func221,Tryz.ntmps221
 go_wp2
 go_loopw [8] (fun v wr=>∃ i:Nat,i≤n∧v = .int .i64 i∧Hid (PrI w0 b (l++comF (kl.take i) true) wr)∧Hid (Wr w0.heap.size b w wr)) (fun v _=>n - (intOf v).toNat)
 case atStart=>exact ⟨0,Nat.zero_le _,rfl,qh (by simpa [comF] using P0.out),K0⟩
 case round =>
  obtain ⟨i,hi,rfl,PI,KI⟩:=hrel
  by_cases hlt:i < n
  ·have hlt':(i:Int) < (n:Int):=by omega
   have hi0:(0:Int)≤(i:Int):=by omega
   have hik:i < kl.length:=Nat.lt_of_lt_of_le hlt Hn.out
   have hm1:(i:Int)+1≤(n:Int):=by omega
   obtain ⟨bb,o,k1,s1,l1,a1,c1,rfl,e1,x0,x1,x2,r1⟩:=HN.out.kid i hik
   have y0:=PI.out.cell x0
   have y1:=PI.out.cell x1
   have y2:=PI.out.cell x2
   have yb:=lt_of_cell y0
   have hG:=comF_step kl i hik true
   have hGl:(comF (kl.take (i+1)) true).length≤T.length:=by
    rw [←HT.out]
    have:=comF_mono (kl.take n) true (i+1)
    rwa [List.take_take,Nat.min_eq_left hlt] at this
   have hnm:(kl[i]).nm=bs s1:=by rw [e1];rfl
   rw [hG,hnm] at hGl
   rw [hnm] at hG
   have hlen3:=HL.out
   generalize hU:comF (kl.take i) true=U at *
   have HG:=qh hG
   have RN:=qh (Row3.new wr (.int .i64 k1) (.string s1) (.slice a1 l1.length c1))
   have PN:=qh (PI.out.alloc (.cells #[.int .i64 k1,.string s1,.slice a1 l1.length c1] 24))
   have KN:=qh (KI.out.alloc PI.out.size (.cells #[.int .i64 k1,.string s1,.slice a1 l1.length c1] 24))
   have hnn:wr.heap.size≠b:=by have:=PI.out.p.lt;omega
   by_cases hz:i=0
   ·have HG2:Hid (comF (kl.take (i+1)) true=U++bs s1):=qh (by rw [hG,if_pos ⟨hz,rfl⟩];rfl)
    rw [if_pos ⟨hz,rfl⟩] at hGl
    simp only [List.length_append,List.length_nil] at hGl
    have CA:=qh (fun w' (h:PrI w0 b (l++U) w') n (hn:n=w'.heap.size)=>put1 h n hn s1 (by simp only [List.length_append];omega))
    have hz':¬ ((0:Int) < (i:Int)):=by omega
    clear hU hG hGl hlen3 x0 x1 x2 r1 e1 hik HG hnm hz
    go_wp2_with fail
    refine (CA.out _ PN.out _ (by first | rfl | simp only [World.size_alloc])).mono ?_
    rintro e w6 ⟨rfl,pp,kk⟩
    have P6:Hid (PrI w0 b (l++comF (kl.take (i+1)) true) w6):=qh (by rw [HG2.out,←List.append_assoc];exact pp)
    have K6:=qh (KN.out.trans kk)
    clear pp kk CA y0 y1 y2 yb
    go_wp2
    go_roundw
    case rel=>exact ⟨i+1,hlt,by push_cast;rfl,P6,K6⟩
    case measure=>simp [intOf];omega
   ·have HG2:Hid (comF (kl.take (i+1)) true=U++(bs ⟨#[44,32]⟩++bs s1)):=qh (by rw [hG,if_neg (fun h=>hz h.1)];rfl)
    rw [if_neg (fun h=>hz h.1)] at hGl
    simp only [List.length_append,List.length_cons,List.length_nil] at hGl
    have CP:=qh (fun w' (h:PrI w0 b (l++U) w') n (hn:n=w'.heap.size)=>put1 h n hn ⟨#[44,32]⟩ (by have h1:(bs ⟨#[44,32]⟩).length=2:=rfl;simp only [List.length_append];omega))
    have CA:=qh (fun w' (h:PrI w0 b ((l++U)++bs ⟨#[44,32]⟩) w') n (hn:n=w'.heap.size)=>put1 h n hn s1 (by have h1:(bs ⟨#[44,32]⟩).length=2:=rfl;simp only [List.length_append];omega))
    have hz':(0:Int) < (i:Int):=by omega
    clear hU hG hGl hlen3 x0 x1 x2 r1 e1 hik HG hnm hz
    go_wp2_with fail
    refine (CP.out _ PN.out _ (by first | rfl | simp only [World.size_alloc])).mono ?_
    rintro e w5 ⟨rfl,pp,kk⟩
    have P5:=qh pp
    have K5:=qh (KN.out.trans kk)
    have R5:=qh (kk.row3 RN.out hnn)
    obtain ⟨⟨n0,n1,n2⟩,_⟩:=R5.out.cells
    clear pp kk CP y0 y1 y2 yb
    go_wp2_with fail
    refine (CA.out _ P5.out _ (by first | rfl | simp only [World.size_alloc])).mono ?_
    rintro e w6 ⟨rfl,pp,kk⟩
    have P6:Hid (PrI w0 b (l++comF (kl.take (i+1)) true) w6):=qh (by rw [HG2.out];simpa only [List.append_assoc] using pp)
    have K6:=qh (K5.out.trans kk)
    clear pp kk CA n0 n1 n2
    go_wp2
    go_roundw
    case rel=>exact ⟨i+1,hlt,by push_cast;rfl,P6,K6⟩
    case measure=>simp [intOf];omega
  ·have hlt':¬ ((i:Int) < (n:Int)):=by omega
   obtain rfl:i=n:=by omega
   have P6:=qh (show PrI w0 b (l++T) wr by rw [←HT.out];exact PI.out)
   go_wp2
   go_end0
   exact ⟨rfl,P6.out,KI.out⟩
def kidT (l:List Nd) (i bind:Nat):Tx:=match l[i]? with | some x=>x.txt bind false | none=>[]
theorem kidT_at {l:List Nd} {i:Nat} (h:i < l.length) (bind:Nat):kidT l i bind=(l[i]).txt bind false:=by unfold kidT;rw [List.getElem?_eq_getElem h]
def itemBody (k:Int) (l:List Nd):Tx :=
 if k=2∨k=14 then comF l true
 else if k=3 then comF (l.take (l.length - 1)) true++([58,32]++kidT l (l.length - 1) 6)
 else if k=4∨k=5∨k=6∨k=7 then l.flatMap fun x=>32 :: x.txt 7 false
 else if k=8∨k=9∨k=10∨k=11 then [58,32]++kidT l 0 0
 else []
def Nd.itm:Nd→Tx | .mk k s l=>(opensW k++([32]++bs s))++(itemBody k l++[46])
def itemOk (k:Int) (n:Nat):Prop:=((k=3∨k=8∨k=9∨k=10∨k=11)→1≤n)
theorem PrI.drew {w0:World} {b:Nat} {l:Tx} {w:World} (h:PrI w0 b l w):PrI w0 b l w.drew:=h.later (Below.refl _ _).drew
theorem Wr.drew {B b:Nat} {w w':World} (h:Wr B b w w'):Wr B b w w'.drew:=⟨h.bl.drew,h.kp.drew⟩
set_option maxRecDepth 100000 in
set_option maxHeartbeats 2000000 in
theorem item_says {w0:World} {b:Nat} (k:Int) (s:ByteArray) (kl:List Nd) (hok:itemOk k kl.length) (hk:∀ i (h:i < kl.length),SaysT w0 b kl[i]) (v0 v1 v2:Value) (l:Tx) (w:World) (ht:NdR w0 (.mk k s kl) v0 v1 v2) (hp:PrI w0 b l w)
  (hlen:l.length+(Nd.mk k s kl).itm.length≤100000000):Calls Tryz.prog 180 #[.pointer (some ⟨b,0,none⟩),.agg #[v0,v1,v2]] w (PrO w0 b l w (Nd.mk k s kl).itm):=by
 obtain ⟨_,_,_,a,cap,hform,rfl,rfl,rfl,hs,hl⟩:=ht.form
 cases hform
 obtain ⟨L,hL⟩:∃ L,kl.length=L:=⟨_,rfl⟩
 rw [hL] at ht hl
 rw [hL]
 obtain ⟨W,hW⟩:∃ W,w.alloc (.cells #[.int .i64 k,.string s,.slice a L cap] 24)=W:=⟨_,rfl⟩
 have R0':Row3 W w.heap.size (.int .i64 k) (.string s) (.slice a L cap):=by rw [←hW];exact Row3.new _ _ _ _
 have P0:=qh (hW▸hp.alloc (.cells #[.int .i64 k,.string s,.slice a L cap] 24))
 have K0:=qh (hW▸(Wr.refl w0.heap.size b w).alloc hp.size (.cells #[.int .i64 k,.string s,.slice a L cap] 24))
 have hne:w.heap.size≠b:=by have:=hp.p.lt;omega
 have HN:=qh ht
 have HL:=qh hlen
 unfold maxLen at hl
 rw [hL] at hok
 obtain ⟨T,hT⟩:∃ T,(Nd.mk k s kl).itm=T:=⟨_,rfl⟩
 rw [hT] at HL hlen
 rw [hT]
 have HW:=qh hW
 have R0:=qh R0'
 have hcap:=ht.cap
 rw [hL] at hcap
 clear hW R0' hp
 obtain ⟨ow,how⟩:∃ ow,opensW k=ow:=⟨_,rfl⟩
 have CO:Hid (∀ w',PrI w0 b l w'→_):=qh (fun w' (h:PrI w0 b l w')=>opens_any k s a L cap w' h.glw h.two')
 rw [how] at CO
 unfold S_ at CO
 obtain ⟨X,hX⟩:∃ X,itemBody k kl=X:=⟨_,rfl⟩
 have hE:T=(bs ⟨ow.toArray⟩++(bs ⟨#[32]⟩++bs s))++(X++bs ⟨#[46]⟩):=by rw [←hT,←hX,←how];rfl
 have HE:=qh hE
 have hlen2:=HL.out
 rw [hE] at hlen2
 simp only [List.length_append] at hlen2
 have C1:=qh (fun w' (h:PrI w0 b l w') n (hn:n=w'.heap.size)=>put3 h n hn ⟨ow.toArray⟩ ⟨#[32]⟩ s (by simp only [List.length_append];omega))
 have CE:=qh (fun w' (h:PrI w0 b ((l++(bs ⟨ow.toArray⟩++(bs ⟨#[32]⟩++bs s)))++X) w') n (hn:n=w'.heap.size)=>put1 h n hn ⟨#[46]⟩ (by simp only [List.length_append];omega))
 have HX:=qh hX
 have HK:=qh hk
 have HLL:=qh hL
 have Hok:=qh hok
 obtain ⟨p,hp⟩:∃ p,l++(bs ⟨ow.toArray⟩++(bs ⟨#[32]⟩++bs s))=p:=⟨_,rfl⟩
 have HP:=qh hp
 have HL3:Hid (p.length+X.length+1≤100000000):=qh (by
  rw [←hp]
  have h1:(bs ⟨#[46]⟩).length=1:=rfl
  simp only [List.length_append]
  omega)
 rw [hp] at CE
 clear how hX hE hlen hlen2 hk ht HL hL hok hT hp
 have P0d:=qh P0.out.drew
 have K0d:=qh K0.out.drew
 have R0d:=qh (show Row3 W.drew _ _ _ _ from R0.out)
 obtain ⟨⟨n0,n1,n2⟩,_⟩:=R0.out.cells
 have S0:=R0d.out.cells.1
 go_enter Tryz.func180,Tryz.ntmps180
 go_upto_region 1 with fail
 rw [HW.out]
 go_cut [] (fun wx=>Hid (PrI w0 b p wx)∧Hid (Wr w0.heap.size b w wx)∧Hid (Row3 wx w.heap.size (.int .i64 k) (.string s) (.slice a L cap)))
 case first =>
  go_region_held3 (fun w'=>w'.cell? ⟨w.heap.size,0,none⟩=some (.int .i64 k)∧w'.cell? ⟨w.heap.size,1,none⟩=some (.string s)∧w'.cell? ⟨w.heap.size,2,none⟩=some (.slice a L cap))
   (first | with_reducible exact S0 | with_reducible exact S1 | with_reducible exact S1a | with_reducible exact S2 | (trace_state;fail))
   (first
    | (go_at_call 220;refine (CO.out _ P0d.out).mono ?_;rintro e w1 ⟨rfl,bb⟩;have P1:=qh (P0d.out.later bb);have K1:=qh (K0d.out.later bb P0d.out.size);have R1:=qh (R0d.out.below bb R0d.out.lt);have S1:=R1.out.cells.1;have S1a:=(R1.out.alloc (.cells #[.string ⟨ow.toArray⟩,.string ⟨#[32]⟩,.string s] 9)).cells.1;clear bb)
    | (go_at_call 181;refine (C1.out _ P1.out _ (by first | rfl | simp only [World.size_alloc])).mono ?_;rintro e w2 ⟨rfl,pp,kk⟩;have P2:=qh pp;have K2:=qh (K1.out.trans kk);have R2:=qh (kk.row3 R1.out hne);have S2:=R2.out.cells.1;clear pp kk))
  all_goals go_wp2
  all_goals go_meet
  all_goals exact ⟨by rw [←HP.out];exact P2,K2,R2⟩
 case rest =>
  obtain ⟨P0,K0,R0⟩:=hcut
  by_cases hc:k=2
  ·subst hc
   have hX2:comF (kl.take L) true=X:=by
    rw [←HX.out,←HLL.out,List.take_length,itemBody,if_pos (by decide)]
   have C2:Hid (∀ w',PrI w0 b p w'→Calls Tryz.prog 221 #[.pointer (some ⟨b,0,none⟩),.slice a L cap] w' (PrO w0 b p w' X)):=qh (fun w' h=>by
    have hl9:p.length+X.length≤100000000:=by have:=HL3.out;omega
    rw [←hX2] at hl9 ⊢
    exact names_any _ s kl L cap (by rw [HLL.out];exact Nat.le_refl _) _ _ _ _ _ _ w' HN.out h hl9)
   clear hX2
   obtain ⟨⟨n0,n1,n2⟩,_⟩:=R0.out.cells
   go_wp2_with fail
   refine (C2.out _ P0.out).mono ?_
   rintro e w1 ⟨rfl,pp,kk⟩
   have P1:=qh pp
   have K1:=qh (K0.out.trans kk)
   have R1:=qh (kk.row3 R0.out hne)
   clear pp kk C2 n0 n1 n2
   obtain ⟨⟨n0,n1,n2⟩,_⟩:=R1.out.cells
   go_wp2_with fail
   refine (CE.out _ P1.out _ (by first | rfl | simp only [World.size_alloc])).mono ?_
   rintro e w2 ⟨rfl,pp,kk⟩
   have P2:=qh pp
   have K2:=qh (K1.out.trans kk)
   have R2:=qh (kk.row3 R1.out hne)
   clear pp kk CE n0 n1 n2
   go_wp2
   go_end0
   exact ⟨rfl,by rw [HE.out];have hh:=P2.out;rw [←HP.out] at hh;simpa only [List.append_assoc,bs_mk] using hh,K2.out⟩
  ·have hk2:((k:Int)==2)=false:=by rw [beq_eq_false_iff_ne];exact hc
   have m2:¬ k=2:=hc
   clear hc
   by_cases hc:k=3
   ·subst hc
    have hL1:1≤L:=Hok.out (by decide)
    obtain ⟨M,hM⟩:∃ M,L - 1=M:=⟨_,rfl⟩
    have hML:((L:Nat):Int) - 1=(M:Int):=by omega
    have hMk:M < kl.length:=by rw [HLL.out];omega
    have hMc:M≤cap:=by omega
    have hML2:(M:Int) < (L:Int):=by omega
    have hML3:M < L:=by omega
    have hM0:(0:Int)≤(M:Int):=by omega
    obtain ⟨bb,o,k0',s0',l0',a0',c0',rfl,eK0,x00,x01,x02,r0⟩:=HN.out.kid M hMk
    have X0:=qh (And.intro x00 (And.intro x01 x02))
    obtain ⟨Y0,hY0⟩:∃ Y,(kl[M]'hMk).txt 6 false=Y:=⟨_,rfl⟩
    obtain ⟨Z,hZ⟩:∃ Z,comF (kl.take M) true=Z:=⟨_,rfl⟩
    have hXE:X=Z++(bs ⟨#[58,32]⟩++Y0):=by
     rw [←HX.out,itemBody,if_neg (by decide),if_pos rfl,HLL.out,hM,hZ,kidT_at hMk,hY0]
     rfl
    have HXE:=qh hXE
    have hlen2:=HL3.out
    rw [hXE] at hlen2
    simp only [List.length_append] at hlen2
    have C2:Hid (∀ w',PrI w0 b p w'→Calls Tryz.prog 221 #[.pointer (some ⟨b,0,none⟩),.slice (some ⟨bb,o,none⟩) M cap] w' (PrO w0 b p w' Z)):=qh (fun w' h=>by
     have hl9:p.length+Z.length≤100000000:=by omega
     rw [←hZ] at hl9 ⊢
     exact names_any _ s kl M cap (Nat.le_of_lt hMk) _ _ _ _ _ _ w' HN.out h hl9)
    have C3:=qh (fun w' (h:PrI w0 b (p++Z) w') n (hn:n=w'.heap.size)=>put1 h n hn ⟨#[58,32]⟩ (by simp only [List.length_append];omega))
    have hk:=HK.out
    have C4:Hid (∀ (z:Int),z=((6:Nat):Int)→∀ w',PrI w0 b ((p++Z)++bs ⟨#[58,32]⟩) w'→Calls Tryz.prog 182 #[.pointer (some ⟨b,0,none⟩),.agg #[.int .i64 k0',.string s0',.slice a0' l0'.length c0'],.int .i64 z,.bool false] w' (PrO w0 b ((p++Z)++bs ⟨#[58,32]⟩) w' Y0)):=qh (fun z hz w' h=>by
     subst hz
     have hl9:List.length ((p++Z)++bs ⟨#[58,32]⟩)+Y0.length≤100000000:=by (try simp [bs] at hlen2 ⊢);omega
     rw [←hY0] at hl9 ⊢
     exact hk M hMk _ _ _ (6) false _ w' (by omega) (eK0▸r0) h hl9)
    clear hY0 hZ hXE hlen2 hk eK0 r0 x00 x01 x02 hM hL1 hMk
    obtain ⟨⟨n0,n1,n2⟩,_⟩:=R0.out.cells
    have y00:=P0.out.cell X0.out.1
    have y01:=P0.out.cell X0.out.2.1
    have y02:=P0.out.cell X0.out.2.2
    have yb0:=lt_of_cell y00
    go_wp2_with fail
    refine (C2.out _ P0.out).mono ?_
    rintro e w1 ⟨rfl,pp,kk⟩
    have P1:=qh pp
    have K1:=qh (K0.out.trans kk)
    have R1:=qh (kk.row3 R0.out hne)
    clear pp kk C2 n0 n1 n2 y00 y01 y02 yb0
    obtain ⟨⟨n0,n1,n2⟩,_⟩:=R1.out.cells
    have y00:=P1.out.cell X0.out.1
    have y01:=P1.out.cell X0.out.2.1
    have y02:=P1.out.cell X0.out.2.2
    have yb0:=lt_of_cell y00
    go_wp2_with fail
    refine (C3.out _ P1.out _ (by first | rfl | simp only [World.size_alloc])).mono ?_
    rintro e w2 ⟨rfl,pp,kk⟩
    have P2:=qh pp
    have K2:=qh (K1.out.trans kk)
    have R2:=qh (kk.row3 R1.out hne)
    clear pp kk C3 n0 n1 n2 y00 y01 y02 yb0
    obtain ⟨⟨n0,n1,n2⟩,_⟩:=R2.out.cells
    have y00:=P2.out.cell X0.out.1
    have y01:=P2.out.cell X0.out.2.1
    have y02:=P2.out.cell X0.out.2.2
    have yb0:=lt_of_cell y00
    go_wp2_with fail
    refine (C4.out _ (by first | rfl | (push_cast;rfl)) _ P2.out).mono ?_
    rintro e w3 ⟨rfl,pp,kk⟩
    have P3:=qh pp
    have K3:=qh (K2.out.trans kk)
    have R3:=qh (kk.row3 R2.out hne)
    clear pp kk C4 n0 n1 n2 y00 y01 y02 yb0
    obtain ⟨⟨n0,n1,n2⟩,_⟩:=R3.out.cells
    have y00:=P3.out.cell X0.out.1
    have y01:=P3.out.cell X0.out.2.1
    have y02:=P3.out.cell X0.out.2.2
    have yb0:=lt_of_cell y00
    have P3x:Hid (PrI w0 b (p++X) w3):=qh (by rw [HXE.out];simpa only [List.append_assoc] using P3.out)
    clear P3
    have P3:=P3x
    clear P3x
    go_wp2_with fail
    refine (CE.out _ P3.out _ (by first | rfl | simp only [World.size_alloc])).mono ?_
    rintro e w4 ⟨rfl,pp,kk⟩
    have P4:=qh pp
    have K4:=qh (K3.out.trans kk)
    have R4:=qh (kk.row3 R3.out hne)
    clear pp kk CE n0 n1 n2 y00 y01 y02 yb0
    go_wp2
    go_end0
    exact ⟨rfl,by rw [HE.out];have hh:=P4.out;rw [←HP.out] at hh;simpa only [List.append_assoc,bs_mk] using hh,K4.out⟩
   ·have hk3:((k:Int)==3)=false:=by rw [beq_eq_false_iff_ne];exact hc
    have m3:¬ k=3:=hc
    clear hc
    by_cases hc:k=4
    ·subst hc
     have hXE:X=kl.flatMap fun x=>32 :: x.txt 7 false:=by rw [←HX.out,itemBody,if_neg (by decide),if_neg (by decide),if_pos (by decide)]
     have HXE:=qh hXE
     have HLen:=HL3
     rw [hXE] at HLen
     clear hXE
     obtain ⟨⟨n0,n1,n2⟩,_⟩:=R0.out.cells
     go_wp2
     go_loopw [53] (fun v wr=>∃ i:Nat,i≤L∧v = .int .i64 i∧Hid (PrI w0 b (p++(kl.take i).flatMap fun x=>32 :: x.txt 7 false) wr)∧Hid (Wr w0.heap.size b w wr)∧Hid (Row3 wr w.heap.size (.int .i64 4) (.string s) (.slice a L cap))) (fun v _=>L - (intOf v).toNat)
     case atStart=>exact ⟨0,Nat.zero_le _,rfl,qh (by simpa using P0.out),K0,R0⟩
     case round =>
      obtain ⟨i,hi,rfl,PI,KI,RI⟩:=hrel
      by_cases hlt:i < L
      ·have hlt':(i:Int) < (L:Int):=by omega
       have hi0:(0:Int)≤(i:Int):=by omega
       have hik:i < kl.length:=by rw [HLL.out];exact hlt
       have hm1:(i:Int)+1≤(L:Int):=by omega
       obtain ⟨bb,o,k1,s1,l1,a1,c1,rfl,e1,x0,x1,x2,r1⟩:=HN.out.kid i hik
       have y0:=PI.out.cell x0
       have y1:=PI.out.cell x1
       have y2:=PI.out.cell x2
       have yb:=lt_of_cell y0
       have hG:(kl.take (i+1)).flatMap (fun x=>(32:UInt8) :: x.txt 7 false)=(kl.take i).flatMap (fun x=>32 :: x.txt 7 false)++(32 :: (kl[i]).txt 7 false):=by
        rw [List.take_succ_eq_append_getElem hik,List.flatMap_append]
        simp
       have hGl:((kl.take (i+1)).flatMap (fun x=>(32:UInt8) :: x.txt 7 false)).length≤(kl.flatMap (fun x=>(32:UInt8) :: x.txt 7 false)).length:=by
        conv=>rhs;rw [←List.take_append_drop (i+1) kl]
        rw [List.flatMap_append,List.length_append]
        omega
       have hlen3:=HLen.out
       rw [hG] at hGl
       simp only [List.length_append,List.length_cons] at hGl
       generalize hU:(kl.take i).flatMap (fun x=>(32:UInt8) :: x.txt 7 false)=U at *
       obtain ⟨A,hA⟩:∃ A,(kl[i]).txt 7 false=A:=⟨_,rfl⟩
       rw [hA] at hG hGl
       have HG:=qh hG
       have CP:=qh (fun w' (h:PrI w0 b (p++U) w') n (hn:n=w'.heap.size)=>put1 h n hn ⟨#[32]⟩ (by have h1:(bs ⟨#[32]⟩).length=1:=rfl;simp only [List.length_append];omega))
       have CA:Hid (∀ (z:Int),z=((7:Nat):Int)→∀ w',PrI w0 b ((p++U)++bs ⟨#[32]⟩) w'→Calls Tryz.prog 182 #[.pointer (some ⟨b,0,none⟩),.agg #[.int .i64 k1,.string s1,.slice a1 l1.length c1],.int .i64 z,.bool false] w' (PrO w0 b ((p++U)++bs ⟨#[32]⟩) w' A)):=qh (fun z hz w' h=>by
        subst hz
        have hl9:List.length ((p++U)++bs ⟨#[32]⟩)+A.length≤100000000:=by have h1:(bs ⟨#[32]⟩).length=1:=rfl;simp only [List.length_append];omega
        rw [←hA] at hl9 ⊢
        exact HK.out i hik _ _ _ 7 false _ w' (by decide) (e1▸r1) h hl9)
       have RN:=qh (Row3.new wr (.int .i64 k1) (.string s1) (.slice a1 l1.length c1))
       have PN:=qh (PI.out.alloc (.cells #[.int .i64 k1,.string s1,.slice a1 l1.length c1] 24))
       have KN:=qh (KI.out.alloc PI.out.size (.cells #[.int .i64 k1,.string s1,.slice a1 l1.length c1] 24))
       have RIN:=qh (RI.out.alloc (.cells #[.int .i64 k1,.string s1,.slice a1 l1.length c1] 24))
       have hnn:wr.heap.size≠b:=by have:=PI.out.p.lt;omega
       clear hU hA hG hGl hlen3 x0 x1 x2 r1 e1 hik n0 n1 n2
       go_wp2_with fail
       refine (CP.out _ PN.out _ (by first | rfl | simp only [World.size_alloc])).mono ?_
       rintro e w5 ⟨rfl,pp,kk⟩
       have P5:=qh pp
       have K5:=qh (KN.out.trans kk)
       have R5:=qh (kk.row3 RN.out hnn)
       have RI5:=qh (kk.row3 RIN.out hne)
       obtain ⟨⟨n0,n1,n2⟩,_⟩:=R5.out.cells
       clear pp kk CP y0 y1 y2 yb
       go_wp2_with fail
       refine (CA.out _ (by first | rfl | (push_cast;rfl)) _ P5.out).mono ?_
       rintro e w6 ⟨rfl,pp,kk⟩
       have P6:Hid (PrI w0 b (p++(kl.take (i+1)).flatMap fun x=>32 :: x.txt 7 false) w6):=qh (by rw [HG.out];simpa [bs] using pp)
       have K6:=qh (K5.out.trans kk)
       have R6:=qh (kk.row3 RI5.out hne)
       clear pp kk CA n0 n1 n2
       go_wp2
       go_roundw
       case rel=>exact ⟨i+1,hlt,by push_cast;rfl,P6,K6,R6⟩
       case measure=>simp [intOf];omega
      ·have hlt':¬ ((i:Int) < (L:Int)):=by omega
       have hG:kl.take i=kl:=List.take_of_length_le (by rw [HLL.out];omega)
       have P9:=qh (show PrI w0 b (p++X) wr by rw [HXE.out];have hh:=PI.out;rwa [hG] at hh)
       clear hG n0 n1 n2
       clear P0 K0 R0
       have P0:=P9
       have K0:=KI
       have R0:=RI
       obtain ⟨⟨n0,n1,n2⟩,_⟩:=R0.out.cells
       go_wp2_with fail
       refine (CE.out _ P0.out _ (by first | rfl | simp only [World.size_alloc])).mono ?_
       rintro e w1 ⟨rfl,pp,kk⟩
       have P1:=qh pp
       have K1:=qh (K0.out.trans kk)
       have R1:=qh (kk.row3 R0.out hne)
       clear pp kk CE n0 n1 n2
       go_wp2
       go_end0
       exact ⟨rfl,by rw [HE.out];have hh:=P1.out;rw [←HP.out] at hh;simpa only [List.append_assoc,bs_mk] using hh,K1.out⟩
    ·have hk4:((k:Int)==4)=false:=by rw [beq_eq_false_iff_ne];exact hc
     have m4:¬ k=4:=hc
     clear hc
     by_cases hc:k=5
     ·subst hc
      have hXE:X=kl.flatMap fun x=>32 :: x.txt 7 false:=by rw [←HX.out,itemBody,if_neg (by decide),if_neg (by decide),if_pos (by decide)]
      have HXE:=qh hXE
      have HLen:=HL3
      rw [hXE] at HLen
      clear hXE
      obtain ⟨⟨n0,n1,n2⟩,_⟩:=R0.out.cells
      go_wp2
      go_loopw [53] (fun v wr=>∃ i:Nat,i≤L∧v = .int .i64 i∧Hid (PrI w0 b (p++(kl.take i).flatMap fun x=>32 :: x.txt 7 false) wr)∧Hid (Wr w0.heap.size b w wr)∧Hid (Row3 wr w.heap.size (.int .i64 5) (.string s) (.slice a L cap))) (fun v _=>L - (intOf v).toNat)
      case atStart=>exact ⟨0,Nat.zero_le _,rfl,qh (by simpa using P0.out),K0,R0⟩
      case round =>
       obtain ⟨i,hi,rfl,PI,KI,RI⟩:=hrel
       by_cases hlt:i < L
       ·have hlt':(i:Int) < (L:Int):=by omega
        have hi0:(0:Int)≤(i:Int):=by omega
        have hik:i < kl.length:=by rw [HLL.out];exact hlt
        have hm1:(i:Int)+1≤(L:Int):=by omega
        obtain ⟨bb,o,k1,s1,l1,a1,c1,rfl,e1,x0,x1,x2,r1⟩:=HN.out.kid i hik
        have y0:=PI.out.cell x0
        have y1:=PI.out.cell x1
        have y2:=PI.out.cell x2
        have yb:=lt_of_cell y0
        have hG:(kl.take (i+1)).flatMap (fun x=>(32:UInt8) :: x.txt 7 false)=(kl.take i).flatMap (fun x=>32 :: x.txt 7 false)++(32 :: (kl[i]).txt 7 false):=by
         rw [List.take_succ_eq_append_getElem hik,List.flatMap_append]
         simp
        have hGl:((kl.take (i+1)).flatMap (fun x=>(32:UInt8) :: x.txt 7 false)).length≤(kl.flatMap (fun x=>(32:UInt8) :: x.txt 7 false)).length:=by
         conv=>rhs;rw [←List.take_append_drop (i+1) kl]
         rw [List.flatMap_append,List.length_append]
         omega
        have hlen3:=HLen.out
        rw [hG] at hGl
        simp only [List.length_append,List.length_cons] at hGl
        generalize hU:(kl.take i).flatMap (fun x=>(32:UInt8) :: x.txt 7 false)=U at *
        obtain ⟨A,hA⟩:∃ A,(kl[i]).txt 7 false=A:=⟨_,rfl⟩
        rw [hA] at hG hGl
        have HG:=qh hG
        have CP:=qh (fun w' (h:PrI w0 b (p++U) w') n (hn:n=w'.heap.size)=>put1 h n hn ⟨#[32]⟩ (by have h1:(bs ⟨#[32]⟩).length=1:=rfl;simp only [List.length_append];omega))
        have CA:Hid (∀ (z:Int),z=((7:Nat):Int)→∀ w',PrI w0 b ((p++U)++bs ⟨#[32]⟩) w'→Calls Tryz.prog 182 #[.pointer (some ⟨b,0,none⟩),.agg #[.int .i64 k1,.string s1,.slice a1 l1.length c1],.int .i64 z,.bool false] w' (PrO w0 b ((p++U)++bs ⟨#[32]⟩) w' A)):=qh (fun z hz w' h=>by
         subst hz
         have hl9:List.length ((p++U)++bs ⟨#[32]⟩)+A.length≤100000000:=by have h1:(bs ⟨#[32]⟩).length=1:=rfl;simp only [List.length_append];omega
         rw [←hA] at hl9 ⊢
         exact HK.out i hik _ _ _ 7 false _ w' (by decide) (e1▸r1) h hl9)
        have RN:=qh (Row3.new wr (.int .i64 k1) (.string s1) (.slice a1 l1.length c1))
        have PN:=qh (PI.out.alloc (.cells #[.int .i64 k1,.string s1,.slice a1 l1.length c1] 24))
        have KN:=qh (KI.out.alloc PI.out.size (.cells #[.int .i64 k1,.string s1,.slice a1 l1.length c1] 24))
        have RIN:=qh (RI.out.alloc (.cells #[.int .i64 k1,.string s1,.slice a1 l1.length c1] 24))
        have hnn:wr.heap.size≠b:=by have:=PI.out.p.lt;omega
        clear hU hA hG hGl hlen3 x0 x1 x2 r1 e1 hik n0 n1 n2
        go_wp2_with fail
        refine (CP.out _ PN.out _ (by first | rfl | simp only [World.size_alloc])).mono ?_
        rintro e w5 ⟨rfl,pp,kk⟩
        have P5:=qh pp
        have K5:=qh (KN.out.trans kk)
        have R5:=qh (kk.row3 RN.out hnn)
        have RI5:=qh (kk.row3 RIN.out hne)
        obtain ⟨⟨n0,n1,n2⟩,_⟩:=R5.out.cells
        clear pp kk CP y0 y1 y2 yb
        go_wp2_with fail
        refine (CA.out _ (by first | rfl | (push_cast;rfl)) _ P5.out).mono ?_
        rintro e w6 ⟨rfl,pp,kk⟩
        have P6:Hid (PrI w0 b (p++(kl.take (i+1)).flatMap fun x=>32 :: x.txt 7 false) w6):=qh (by rw [HG.out];simpa [bs] using pp)
        have K6:=qh (K5.out.trans kk)
        have R6:=qh (kk.row3 RI5.out hne)
        clear pp kk CA n0 n1 n2
        go_wp2
        go_roundw
        case rel=>exact ⟨i+1,hlt,by push_cast;rfl,P6,K6,R6⟩
        case measure=>simp [intOf];omega
       ·have hlt':¬ ((i:Int) < (L:Int)):=by omega
        have hG:kl.take i=kl:=List.take_of_length_le (by rw [HLL.out];omega)
        have P9:=qh (show PrI w0 b (p++X) wr by rw [HXE.out];have hh:=PI.out;rwa [hG] at hh)
        clear hG n0 n1 n2
        clear P0 K0 R0
        have P0:=P9
        have K0:=KI
        have R0:=RI
        obtain ⟨⟨n0,n1,n2⟩,_⟩:=R0.out.cells
        go_wp2_with fail
        refine (CE.out _ P0.out _ (by first | rfl | simp only [World.size_alloc])).mono ?_
        rintro e w1 ⟨rfl,pp,kk⟩
        have P1:=qh pp
        have K1:=qh (K0.out.trans kk)
        have R1:=qh (kk.row3 R0.out hne)
        clear pp kk CE n0 n1 n2
        go_wp2
        go_end0
        exact ⟨rfl,by rw [HE.out];have hh:=P1.out;rw [←HP.out] at hh;simpa only [List.append_assoc,bs_mk] using hh,K1.out⟩
     ·have hk5:((k:Int)==5)=false:=by rw [beq_eq_false_iff_ne];exact hc
      have m5:¬ k=5:=hc
      clear hc
      by_cases hc:k=6
      ·subst hc
       have hXE:X=kl.flatMap fun x=>32 :: x.txt 7 false:=by rw [←HX.out,itemBody,if_neg (by decide),if_neg (by decide),if_pos (by decide)]
       have HXE:=qh hXE
       have HLen:=HL3
       rw [hXE] at HLen
       clear hXE
       obtain ⟨⟨n0,n1,n2⟩,_⟩:=R0.out.cells
       go_wp2
       go_loopw [53] (fun v wr=>∃ i:Nat,i≤L∧v = .int .i64 i∧Hid (PrI w0 b (p++(kl.take i).flatMap fun x=>32 :: x.txt 7 false) wr)∧Hid (Wr w0.heap.size b w wr)∧Hid (Row3 wr w.heap.size (.int .i64 6) (.string s) (.slice a L cap))) (fun v _=>L - (intOf v).toNat)
       case atStart=>exact ⟨0,Nat.zero_le _,rfl,qh (by simpa using P0.out),K0,R0⟩
       case round =>
        obtain ⟨i,hi,rfl,PI,KI,RI⟩:=hrel
        by_cases hlt:i < L
        ·have hlt':(i:Int) < (L:Int):=by omega
         have hi0:(0:Int)≤(i:Int):=by omega
         have hik:i < kl.length:=by rw [HLL.out];exact hlt
         have hm1:(i:Int)+1≤(L:Int):=by omega
         obtain ⟨bb,o,k1,s1,l1,a1,c1,rfl,e1,x0,x1,x2,r1⟩:=HN.out.kid i hik
         have y0:=PI.out.cell x0
         have y1:=PI.out.cell x1
         have y2:=PI.out.cell x2
         have yb:=lt_of_cell y0
         have hG:(kl.take (i+1)).flatMap (fun x=>(32:UInt8) :: x.txt 7 false)=(kl.take i).flatMap (fun x=>32 :: x.txt 7 false)++(32 :: (kl[i]).txt 7 false):=by
          rw [List.take_succ_eq_append_getElem hik,List.flatMap_append]
          simp
         have hGl:((kl.take (i+1)).flatMap (fun x=>(32:UInt8) :: x.txt 7 false)).length≤(kl.flatMap (fun x=>(32:UInt8) :: x.txt 7 false)).length:=by
          conv=>rhs;rw [←List.take_append_drop (i+1) kl]
          rw [List.flatMap_append,List.length_append]
          omega
         have hlen3:=HLen.out
         rw [hG] at hGl
         simp only [List.length_append,List.length_cons] at hGl
         generalize hU:(kl.take i).flatMap (fun x=>(32:UInt8) :: x.txt 7 false)=U at *
         obtain ⟨A,hA⟩:∃ A,(kl[i]).txt 7 false=A:=⟨_,rfl⟩
         rw [hA] at hG hGl
         have HG:=qh hG
         have CP:=qh (fun w' (h:PrI w0 b (p++U) w') n (hn:n=w'.heap.size)=>put1 h n hn ⟨#[32]⟩ (by have h1:(bs ⟨#[32]⟩).length=1:=rfl;simp only [List.length_append];omega))
         have CA:Hid (∀ (z:Int),z=((7:Nat):Int)→∀ w',PrI w0 b ((p++U)++bs ⟨#[32]⟩) w'→Calls Tryz.prog 182 #[.pointer (some ⟨b,0,none⟩),.agg #[.int .i64 k1,.string s1,.slice a1 l1.length c1],.int .i64 z,.bool false] w' (PrO w0 b ((p++U)++bs ⟨#[32]⟩) w' A)):=qh (fun z hz w' h=>by
          subst hz
          have hl9:List.length ((p++U)++bs ⟨#[32]⟩)+A.length≤100000000:=by have h1:(bs ⟨#[32]⟩).length=1:=rfl;simp only [List.length_append];omega
          rw [←hA] at hl9 ⊢
          exact HK.out i hik _ _ _ 7 false _ w' (by decide) (e1▸r1) h hl9)
         have RN:=qh (Row3.new wr (.int .i64 k1) (.string s1) (.slice a1 l1.length c1))
         have PN:=qh (PI.out.alloc (.cells #[.int .i64 k1,.string s1,.slice a1 l1.length c1] 24))
         have KN:=qh (KI.out.alloc PI.out.size (.cells #[.int .i64 k1,.string s1,.slice a1 l1.length c1] 24))
         have RIN:=qh (RI.out.alloc (.cells #[.int .i64 k1,.string s1,.slice a1 l1.length c1] 24))
         have hnn:wr.heap.size≠b:=by have:=PI.out.p.lt;omega
         clear hU hA hG hGl hlen3 x0 x1 x2 r1 e1 hik n0 n1 n2
         go_wp2_with fail
         refine (CP.out _ PN.out _ (by first | rfl | simp only [World.size_alloc])).mono ?_
         rintro e w5 ⟨rfl,pp,kk⟩
         have P5:=qh pp
         have K5:=qh (KN.out.trans kk)
         have R5:=qh (kk.row3 RN.out hnn)
         have RI5:=qh (kk.row3 RIN.out hne)
         obtain ⟨⟨n0,n1,n2⟩,_⟩:=R5.out.cells
         clear pp kk CP y0 y1 y2 yb
         go_wp2_with fail
         refine (CA.out _ (by first | rfl | (push_cast;rfl)) _ P5.out).mono ?_
         rintro e w6 ⟨rfl,pp,kk⟩
         have P6:Hid (PrI w0 b (p++(kl.take (i+1)).flatMap fun x=>32 :: x.txt 7 false) w6):=qh (by rw [HG.out];simpa [bs] using pp)
         have K6:=qh (K5.out.trans kk)
         have R6:=qh (kk.row3 RI5.out hne)
         clear pp kk CA n0 n1 n2
         go_wp2
         go_roundw
         case rel=>exact ⟨i+1,hlt,by push_cast;rfl,P6,K6,R6⟩
         case measure=>simp [intOf];omega
        ·have hlt':¬ ((i:Int) < (L:Int)):=by omega
         have hG:kl.take i=kl:=List.take_of_length_le (by rw [HLL.out];omega)
         have P9:=qh (show PrI w0 b (p++X) wr by rw [HXE.out];have hh:=PI.out;rwa [hG] at hh)
         clear hG n0 n1 n2
         clear P0 K0 R0
         have P0:=P9
         have K0:=KI
         have R0:=RI
         obtain ⟨⟨n0,n1,n2⟩,_⟩:=R0.out.cells
         go_wp2_with fail
         refine (CE.out _ P0.out _ (by first | rfl | simp only [World.size_alloc])).mono ?_
         rintro e w1 ⟨rfl,pp,kk⟩
         have P1:=qh pp
         have K1:=qh (K0.out.trans kk)
         have R1:=qh (kk.row3 R0.out hne)
         clear pp kk CE n0 n1 n2
         go_wp2
         go_end0
         exact ⟨rfl,by rw [HE.out];have hh:=P1.out;rw [←HP.out] at hh;simpa only [List.append_assoc,bs_mk] using hh,K1.out⟩
      ·have hk6:((k:Int)==6)=false:=by rw [beq_eq_false_iff_ne];exact hc
       have m6:¬ k=6:=hc
       clear hc
       by_cases hc:k=7
       ·subst hc
        have hXE:X=kl.flatMap fun x=>32 :: x.txt 7 false:=by rw [←HX.out,itemBody,if_neg (by decide),if_neg (by decide),if_pos (by decide)]
        have HXE:=qh hXE
        have HLen:=HL3
        rw [hXE] at HLen
        clear hXE
        obtain ⟨⟨n0,n1,n2⟩,_⟩:=R0.out.cells
        go_wp2
        go_loopw [53] (fun v wr=>∃ i:Nat,i≤L∧v = .int .i64 i∧Hid (PrI w0 b (p++(kl.take i).flatMap fun x=>32 :: x.txt 7 false) wr)∧Hid (Wr w0.heap.size b w wr)∧Hid (Row3 wr w.heap.size (.int .i64 7) (.string s) (.slice a L cap))) (fun v _=>L - (intOf v).toNat)
        case atStart=>exact ⟨0,Nat.zero_le _,rfl,qh (by simpa using P0.out),K0,R0⟩
        case round =>
         obtain ⟨i,hi,rfl,PI,KI,RI⟩:=hrel
         by_cases hlt:i < L
         ·have hlt':(i:Int) < (L:Int):=by omega
          have hi0:(0:Int)≤(i:Int):=by omega
          have hik:i < kl.length:=by rw [HLL.out];exact hlt
          have hm1:(i:Int)+1≤(L:Int):=by omega
          obtain ⟨bb,o,k1,s1,l1,a1,c1,rfl,e1,x0,x1,x2,r1⟩:=HN.out.kid i hik
          have y0:=PI.out.cell x0
          have y1:=PI.out.cell x1
          have y2:=PI.out.cell x2
          have yb:=lt_of_cell y0
          have hG:(kl.take (i+1)).flatMap (fun x=>(32:UInt8) :: x.txt 7 false)=(kl.take i).flatMap (fun x=>32 :: x.txt 7 false)++(32 :: (kl[i]).txt 7 false):=by
           rw [List.take_succ_eq_append_getElem hik,List.flatMap_append]
           simp
          have hGl:((kl.take (i+1)).flatMap (fun x=>(32:UInt8) :: x.txt 7 false)).length≤(kl.flatMap (fun x=>(32:UInt8) :: x.txt 7 false)).length:=by
           conv=>rhs;rw [←List.take_append_drop (i+1) kl]
           rw [List.flatMap_append,List.length_append]
           omega
          have hlen3:=HLen.out
          rw [hG] at hGl
          simp only [List.length_append,List.length_cons] at hGl
          generalize hU:(kl.take i).flatMap (fun x=>(32:UInt8) :: x.txt 7 false)=U at *
          obtain ⟨A,hA⟩:∃ A,(kl[i]).txt 7 false=A:=⟨_,rfl⟩
          rw [hA] at hG hGl
          have HG:=qh hG
          have CP:=qh (fun w' (h:PrI w0 b (p++U) w') n (hn:n=w'.heap.size)=>put1 h n hn ⟨#[32]⟩ (by have h1:(bs ⟨#[32]⟩).length=1:=rfl;simp only [List.length_append];omega))
          have CA:Hid (∀ (z:Int),z=((7:Nat):Int)→∀ w',PrI w0 b ((p++U)++bs ⟨#[32]⟩) w'→Calls Tryz.prog 182 #[.pointer (some ⟨b,0,none⟩),.agg #[.int .i64 k1,.string s1,.slice a1 l1.length c1],.int .i64 z,.bool false] w' (PrO w0 b ((p++U)++bs ⟨#[32]⟩) w' A)):=qh (fun z hz w' h=>by
           subst hz
           have hl9:List.length ((p++U)++bs ⟨#[32]⟩)+A.length≤100000000:=by have h1:(bs ⟨#[32]⟩).length=1:=rfl;simp only [List.length_append];omega
           rw [←hA] at hl9 ⊢
           exact HK.out i hik _ _ _ 7 false _ w' (by decide) (e1▸r1) h hl9)
          have RN:=qh (Row3.new wr (.int .i64 k1) (.string s1) (.slice a1 l1.length c1))
          have PN:=qh (PI.out.alloc (.cells #[.int .i64 k1,.string s1,.slice a1 l1.length c1] 24))
          have KN:=qh (KI.out.alloc PI.out.size (.cells #[.int .i64 k1,.string s1,.slice a1 l1.length c1] 24))
          have RIN:=qh (RI.out.alloc (.cells #[.int .i64 k1,.string s1,.slice a1 l1.length c1] 24))
          have hnn:wr.heap.size≠b:=by have:=PI.out.p.lt;omega
          clear hU hA hG hGl hlen3 x0 x1 x2 r1 e1 hik n0 n1 n2
          go_wp2_with fail
          refine (CP.out _ PN.out _ (by first | rfl | simp only [World.size_alloc])).mono ?_
          rintro e w5 ⟨rfl,pp,kk⟩
          have P5:=qh pp
          have K5:=qh (KN.out.trans kk)
          have R5:=qh (kk.row3 RN.out hnn)
          have RI5:=qh (kk.row3 RIN.out hne)
          obtain ⟨⟨n0,n1,n2⟩,_⟩:=R5.out.cells
          clear pp kk CP y0 y1 y2 yb
          go_wp2_with fail
          refine (CA.out _ (by first | rfl | (push_cast;rfl)) _ P5.out).mono ?_
          rintro e w6 ⟨rfl,pp,kk⟩
          have P6:Hid (PrI w0 b (p++(kl.take (i+1)).flatMap fun x=>32 :: x.txt 7 false) w6):=qh (by rw [HG.out];simpa [bs] using pp)
          have K6:=qh (K5.out.trans kk)
          have R6:=qh (kk.row3 RI5.out hne)
          clear pp kk CA n0 n1 n2
          go_wp2
          go_roundw
          case rel=>exact ⟨i+1,hlt,by push_cast;rfl,P6,K6,R6⟩
          case measure=>simp [intOf];omega
         ·have hlt':¬ ((i:Int) < (L:Int)):=by omega
          have hG:kl.take i=kl:=List.take_of_length_le (by rw [HLL.out];omega)
          have P9:=qh (show PrI w0 b (p++X) wr by rw [HXE.out];have hh:=PI.out;rwa [hG] at hh)
          clear hG n0 n1 n2
          clear P0 K0 R0
          have P0:=P9
          have K0:=KI
          have R0:=RI
          obtain ⟨⟨n0,n1,n2⟩,_⟩:=R0.out.cells
          go_wp2_with fail
          refine (CE.out _ P0.out _ (by first | rfl | simp only [World.size_alloc])).mono ?_
          rintro e w1 ⟨rfl,pp,kk⟩
          have P1:=qh pp
          have K1:=qh (K0.out.trans kk)
          have R1:=qh (kk.row3 R0.out hne)
          clear pp kk CE n0 n1 n2
          go_wp2
          go_end0
          exact ⟨rfl,by rw [HE.out];have hh:=P1.out;rw [←HP.out] at hh;simpa only [List.append_assoc,bs_mk] using hh,K1.out⟩
       ·have hk7:((k:Int)==7)=false:=by rw [beq_eq_false_iff_ne];exact hc
        have m7:¬ k=7:=hc
        clear hc
        by_cases hc:k=8
        ·subst hc
         have j0:1≤L:=Hok.out (by decide)
         have i0:(0:Int) < (L:Int):=by omega
         have j1:0 < L:=by omega
         have hMk:0 < kl.length:=by rw [HLL.out];omega
         obtain ⟨bb,o,k0',s0',l0',a0',c0',rfl,eK0,x00,x01,x02,r0⟩:=HN.out.kid 0 hMk
         simp only [Nat.zero_mul,Nat.add_zero] at x00 x01 x02
         have X0:=qh (And.intro x00 (And.intro x01 x02))
         obtain ⟨Y0,hY0⟩:∃ Y,(kl[0]'hMk).txt 0 false=Y:=⟨_,rfl⟩
         have hXE:X=bs ⟨#[58,32]⟩++Y0:=by
          rw [←HX.out,itemBody,if_neg (by decide),if_neg (by decide),if_neg (by decide),if_pos (by decide),kidT_at hMk,hY0]
          rfl
         have HXE:=qh hXE
         have hlen2:=HL3.out
         rw [hXE] at hlen2
         simp only [List.length_append] at hlen2
         have C3:=qh (fun w' (h:PrI w0 b p w') n (hn:n=w'.heap.size)=>put1 h n hn ⟨#[58,32]⟩ (by omega))
         have hk:=HK.out
         have C4:Hid (∀ (z:Int),z=((0:Nat):Int)→∀ w',PrI w0 b (p++bs ⟨#[58,32]⟩) w'→Calls Tryz.prog 182 #[.pointer (some ⟨b,0,none⟩),.agg #[.int .i64 k0',.string s0',.slice a0' l0'.length c0'],.int .i64 z,.bool false] w' (PrO w0 b (p++bs ⟨#[58,32]⟩) w' Y0)):=qh (fun z hz w' h=>by
          subst hz
          have hl9:List.length (p++bs ⟨#[58,32]⟩)+Y0.length≤100000000:=by (try simp [bs] at hlen2 ⊢);omega
          rw [←hY0] at hl9 ⊢
          exact hk 0 hMk _ _ _ (0) false _ w' (by omega) (eK0▸r0) h hl9)
         clear hY0 hXE hlen2 hk eK0 r0 x00 x01 x02 hMk
         obtain ⟨⟨n0,n1,n2⟩,_⟩:=R0.out.cells
         have y00:=P0.out.cell X0.out.1
         have y01:=P0.out.cell X0.out.2.1
         have y02:=P0.out.cell X0.out.2.2
         have yb0:=lt_of_cell y00
         go_wp2_with fail
         refine (C3.out _ P0.out _ (by first | rfl | simp only [World.size_alloc])).mono ?_
         rintro e w1 ⟨rfl,pp,kk⟩
         have P1:=qh pp
         have K1:=qh (K0.out.trans kk)
         have R1:=qh (kk.row3 R0.out hne)
         clear pp kk C3 n0 n1 n2 y00 y01 y02 yb0
         obtain ⟨⟨n0,n1,n2⟩,_⟩:=R1.out.cells
         have y00:=P1.out.cell X0.out.1
         have y01:=P1.out.cell X0.out.2.1
         have y02:=P1.out.cell X0.out.2.2
         have yb0:=lt_of_cell y00
         go_wp2_with fail
         refine (C4.out _ (by first | rfl | (push_cast;rfl)) _ P1.out).mono ?_
         rintro e w2 ⟨rfl,pp,kk⟩
         have P2:=qh pp
         have K2:=qh (K1.out.trans kk)
         have R2:=qh (kk.row3 R1.out hne)
         clear pp kk C4 n0 n1 n2 y00 y01 y02 yb0
         obtain ⟨⟨n0,n1,n2⟩,_⟩:=R2.out.cells
         have y00:=P2.out.cell X0.out.1
         have y01:=P2.out.cell X0.out.2.1
         have y02:=P2.out.cell X0.out.2.2
         have yb0:=lt_of_cell y00
         have P2x:Hid (PrI w0 b (p++X) w2):=qh (by rw [HXE.out];simpa only [List.append_assoc] using P2.out)
         clear P2
         have P2:=P2x
         clear P2x
         go_wp2_with fail
         refine (CE.out _ P2.out _ (by first | rfl | simp only [World.size_alloc])).mono ?_
         rintro e w3 ⟨rfl,pp,kk⟩
         have P3:=qh pp
         have K3:=qh (K2.out.trans kk)
         have R3:=qh (kk.row3 R2.out hne)
         clear pp kk CE n0 n1 n2 y00 y01 y02 yb0
         go_wp2
         go_end0
         exact ⟨rfl,by rw [HE.out];have hh:=P3.out;rw [←HP.out] at hh;simpa only [List.append_assoc,bs_mk] using hh,K3.out⟩
        ·have hk8:((k:Int)==8)=false:=by rw [beq_eq_false_iff_ne];exact hc
         have m8:¬ k=8:=hc
         clear hc
         by_cases hc:k=9
         ·subst hc
          have j0:1≤L:=Hok.out (by decide)
          have i0:(0:Int) < (L:Int):=by omega
          have j1:0 < L:=by omega
          have hMk:0 < kl.length:=by rw [HLL.out];omega
          obtain ⟨bb,o,k0',s0',l0',a0',c0',rfl,eK0,x00,x01,x02,r0⟩:=HN.out.kid 0 hMk
          simp only [Nat.zero_mul,Nat.add_zero] at x00 x01 x02
          have X0:=qh (And.intro x00 (And.intro x01 x02))
          obtain ⟨Y0,hY0⟩:∃ Y,(kl[0]'hMk).txt 0 false=Y:=⟨_,rfl⟩
          have hXE:X=bs ⟨#[58,32]⟩++Y0:=by
           rw [←HX.out,itemBody,if_neg (by decide),if_neg (by decide),if_neg (by decide),if_pos (by decide),kidT_at hMk,hY0]
           rfl
          have HXE:=qh hXE
          have hlen2:=HL3.out
          rw [hXE] at hlen2
          simp only [List.length_append] at hlen2
          have C3:=qh (fun w' (h:PrI w0 b p w') n (hn:n=w'.heap.size)=>put1 h n hn ⟨#[58,32]⟩ (by omega))
          have hk:=HK.out
          have C4:Hid (∀ (z:Int),z=((0:Nat):Int)→∀ w',PrI w0 b (p++bs ⟨#[58,32]⟩) w'→Calls Tryz.prog 182 #[.pointer (some ⟨b,0,none⟩),.agg #[.int .i64 k0',.string s0',.slice a0' l0'.length c0'],.int .i64 z,.bool false] w' (PrO w0 b (p++bs ⟨#[58,32]⟩) w' Y0)):=qh (fun z hz w' h=>by
           subst hz
           have hl9:List.length (p++bs ⟨#[58,32]⟩)+Y0.length≤100000000:=by (try simp [bs] at hlen2 ⊢);omega
           rw [←hY0] at hl9 ⊢
           exact hk 0 hMk _ _ _ (0) false _ w' (by omega) (eK0▸r0) h hl9)
          clear hY0 hXE hlen2 hk eK0 r0 x00 x01 x02 hMk
          obtain ⟨⟨n0,n1,n2⟩,_⟩:=R0.out.cells
          have y00:=P0.out.cell X0.out.1
          have y01:=P0.out.cell X0.out.2.1
          have y02:=P0.out.cell X0.out.2.2
          have yb0:=lt_of_cell y00
          go_wp2_with fail
          refine (C3.out _ P0.out _ (by first | rfl | simp only [World.size_alloc])).mono ?_
          rintro e w1 ⟨rfl,pp,kk⟩
          have P1:=qh pp
          have K1:=qh (K0.out.trans kk)
          have R1:=qh (kk.row3 R0.out hne)
          clear pp kk C3 n0 n1 n2 y00 y01 y02 yb0
          obtain ⟨⟨n0,n1,n2⟩,_⟩:=R1.out.cells
          have y00:=P1.out.cell X0.out.1
          have y01:=P1.out.cell X0.out.2.1
          have y02:=P1.out.cell X0.out.2.2
          have yb0:=lt_of_cell y00
          go_wp2_with fail
          refine (C4.out _ (by first | rfl | (push_cast;rfl)) _ P1.out).mono ?_
          rintro e w2 ⟨rfl,pp,kk⟩
          have P2:=qh pp
          have K2:=qh (K1.out.trans kk)
          have R2:=qh (kk.row3 R1.out hne)
          clear pp kk C4 n0 n1 n2 y00 y01 y02 yb0
          obtain ⟨⟨n0,n1,n2⟩,_⟩:=R2.out.cells
          have y00:=P2.out.cell X0.out.1
          have y01:=P2.out.cell X0.out.2.1
          have y02:=P2.out.cell X0.out.2.2
          have yb0:=lt_of_cell y00
          have P2x:Hid (PrI w0 b (p++X) w2):=qh (by rw [HXE.out];simpa only [List.append_assoc] using P2.out)
          clear P2
          have P2:=P2x
          clear P2x
          go_wp2_with fail
          refine (CE.out _ P2.out _ (by first | rfl | simp only [World.size_alloc])).mono ?_
          rintro e w3 ⟨rfl,pp,kk⟩
          have P3:=qh pp
          have K3:=qh (K2.out.trans kk)
          have R3:=qh (kk.row3 R2.out hne)
          clear pp kk CE n0 n1 n2 y00 y01 y02 yb0
          go_wp2
          go_end0
          exact ⟨rfl,by rw [HE.out];have hh:=P3.out;rw [←HP.out] at hh;simpa only [List.append_assoc,bs_mk] using hh,K3.out⟩
         ·have hk9:((k:Int)==9)=false:=by rw [beq_eq_false_iff_ne];exact hc
          have m9:¬ k=9:=hc
          clear hc
          by_cases hc:k=10
          ·subst hc
           have j0:1≤L:=Hok.out (by decide)
           have i0:(0:Int) < (L:Int):=by omega
           have j1:0 < L:=by omega
           have hMk:0 < kl.length:=by rw [HLL.out];omega
           obtain ⟨bb,o,k0',s0',l0',a0',c0',rfl,eK0,x00,x01,x02,r0⟩:=HN.out.kid 0 hMk
           simp only [Nat.zero_mul,Nat.add_zero] at x00 x01 x02
           have X0:=qh (And.intro x00 (And.intro x01 x02))
           obtain ⟨Y0,hY0⟩:∃ Y,(kl[0]'hMk).txt 0 false=Y:=⟨_,rfl⟩
           have hXE:X=bs ⟨#[58,32]⟩++Y0:=by
            rw [←HX.out,itemBody,if_neg (by decide),if_neg (by decide),if_neg (by decide),if_pos (by decide),kidT_at hMk,hY0]
            rfl
           have HXE:=qh hXE
           have hlen2:=HL3.out
           rw [hXE] at hlen2
           simp only [List.length_append] at hlen2
           have C3:=qh (fun w' (h:PrI w0 b p w') n (hn:n=w'.heap.size)=>put1 h n hn ⟨#[58,32]⟩ (by omega))
           have hk:=HK.out
           have C4:Hid (∀ (z:Int),z=((0:Nat):Int)→∀ w',PrI w0 b (p++bs ⟨#[58,32]⟩) w'→Calls Tryz.prog 182 #[.pointer (some ⟨b,0,none⟩),.agg #[.int .i64 k0',.string s0',.slice a0' l0'.length c0'],.int .i64 z,.bool false] w' (PrO w0 b (p++bs ⟨#[58,32]⟩) w' Y0)):=qh (fun z hz w' h=>by
            subst hz
            have hl9:List.length (p++bs ⟨#[58,32]⟩)+Y0.length≤100000000:=by (try simp [bs] at hlen2 ⊢);omega
            rw [←hY0] at hl9 ⊢
            exact hk 0 hMk _ _ _ (0) false _ w' (by omega) (eK0▸r0) h hl9)
           clear hY0 hXE hlen2 hk eK0 r0 x00 x01 x02 hMk
           obtain ⟨⟨n0,n1,n2⟩,_⟩:=R0.out.cells
           have y00:=P0.out.cell X0.out.1
           have y01:=P0.out.cell X0.out.2.1
           have y02:=P0.out.cell X0.out.2.2
           have yb0:=lt_of_cell y00
           go_wp2_with fail
           refine (C3.out _ P0.out _ (by first | rfl | simp only [World.size_alloc])).mono ?_
           rintro e w1 ⟨rfl,pp,kk⟩
           have P1:=qh pp
           have K1:=qh (K0.out.trans kk)
           have R1:=qh (kk.row3 R0.out hne)
           clear pp kk C3 n0 n1 n2 y00 y01 y02 yb0
           obtain ⟨⟨n0,n1,n2⟩,_⟩:=R1.out.cells
           have y00:=P1.out.cell X0.out.1
           have y01:=P1.out.cell X0.out.2.1
           have y02:=P1.out.cell X0.out.2.2
           have yb0:=lt_of_cell y00
           go_wp2_with fail
           refine (C4.out _ (by first | rfl | (push_cast;rfl)) _ P1.out).mono ?_
           rintro e w2 ⟨rfl,pp,kk⟩
           have P2:=qh pp
           have K2:=qh (K1.out.trans kk)
           have R2:=qh (kk.row3 R1.out hne)
           clear pp kk C4 n0 n1 n2 y00 y01 y02 yb0
           obtain ⟨⟨n0,n1,n2⟩,_⟩:=R2.out.cells
           have y00:=P2.out.cell X0.out.1
           have y01:=P2.out.cell X0.out.2.1
           have y02:=P2.out.cell X0.out.2.2
           have yb0:=lt_of_cell y00
           have P2x:Hid (PrI w0 b (p++X) w2):=qh (by rw [HXE.out];simpa only [List.append_assoc] using P2.out)
           clear P2
           have P2:=P2x
           clear P2x
           go_wp2_with fail
           refine (CE.out _ P2.out _ (by first | rfl | simp only [World.size_alloc])).mono ?_
           rintro e w3 ⟨rfl,pp,kk⟩
           have P3:=qh pp
           have K3:=qh (K2.out.trans kk)
           have R3:=qh (kk.row3 R2.out hne)
           clear pp kk CE n0 n1 n2 y00 y01 y02 yb0
           go_wp2
           go_end0
           exact ⟨rfl,by rw [HE.out];have hh:=P3.out;rw [←HP.out] at hh;simpa only [List.append_assoc,bs_mk] using hh,K3.out⟩
          ·have hk10:((k:Int)==10)=false:=by rw [beq_eq_false_iff_ne];exact hc
           have m10:¬ k=10:=hc
           clear hc
           by_cases hc:k=11
           ·subst hc
            have j0:1≤L:=Hok.out (by decide)
            have i0:(0:Int) < (L:Int):=by omega
            have j1:0 < L:=by omega
            have hMk:0 < kl.length:=by rw [HLL.out];omega
            obtain ⟨bb,o,k0',s0',l0',a0',c0',rfl,eK0,x00,x01,x02,r0⟩:=HN.out.kid 0 hMk
            simp only [Nat.zero_mul,Nat.add_zero] at x00 x01 x02
            have X0:=qh (And.intro x00 (And.intro x01 x02))
            obtain ⟨Y0,hY0⟩:∃ Y,(kl[0]'hMk).txt 0 false=Y:=⟨_,rfl⟩
            have hXE:X=bs ⟨#[58,32]⟩++Y0:=by
             rw [←HX.out,itemBody,if_neg (by decide),if_neg (by decide),if_neg (by decide),if_pos (by decide),kidT_at hMk,hY0]
             rfl
            have HXE:=qh hXE
            have hlen2:=HL3.out
            rw [hXE] at hlen2
            simp only [List.length_append] at hlen2
            have C3:=qh (fun w' (h:PrI w0 b p w') n (hn:n=w'.heap.size)=>put1 h n hn ⟨#[58,32]⟩ (by omega))
            have hk:=HK.out
            have C4:Hid (∀ (z:Int),z=((0:Nat):Int)→∀ w',PrI w0 b (p++bs ⟨#[58,32]⟩) w'→Calls Tryz.prog 182 #[.pointer (some ⟨b,0,none⟩),.agg #[.int .i64 k0',.string s0',.slice a0' l0'.length c0'],.int .i64 z,.bool false] w' (PrO w0 b (p++bs ⟨#[58,32]⟩) w' Y0)):=qh (fun z hz w' h=>by
             subst hz
             have hl9:List.length (p++bs ⟨#[58,32]⟩)+Y0.length≤100000000:=by (try simp [bs] at hlen2 ⊢);omega
             rw [←hY0] at hl9 ⊢
             exact hk 0 hMk _ _ _ (0) false _ w' (by omega) (eK0▸r0) h hl9)
            clear hY0 hXE hlen2 hk eK0 r0 x00 x01 x02 hMk
            obtain ⟨⟨n0,n1,n2⟩,_⟩:=R0.out.cells
            have y00:=P0.out.cell X0.out.1
            have y01:=P0.out.cell X0.out.2.1
            have y02:=P0.out.cell X0.out.2.2
            have yb0:=lt_of_cell y00
            go_wp2_with fail
            refine (C3.out _ P0.out _ (by first | rfl | simp only [World.size_alloc])).mono ?_
            rintro e w1 ⟨rfl,pp,kk⟩
            have P1:=qh pp
            have K1:=qh (K0.out.trans kk)
            have R1:=qh (kk.row3 R0.out hne)
            clear pp kk C3 n0 n1 n2 y00 y01 y02 yb0
            obtain ⟨⟨n0,n1,n2⟩,_⟩:=R1.out.cells
            have y00:=P1.out.cell X0.out.1
            have y01:=P1.out.cell X0.out.2.1
            have y02:=P1.out.cell X0.out.2.2
            have yb0:=lt_of_cell y00
            go_wp2_with fail
            refine (C4.out _ (by first | rfl | (push_cast;rfl)) _ P1.out).mono ?_
            rintro e w2 ⟨rfl,pp,kk⟩
            have P2:=qh pp
            have K2:=qh (K1.out.trans kk)
            have R2:=qh (kk.row3 R1.out hne)
            clear pp kk C4 n0 n1 n2 y00 y01 y02 yb0
            obtain ⟨⟨n0,n1,n2⟩,_⟩:=R2.out.cells
            have y00:=P2.out.cell X0.out.1
            have y01:=P2.out.cell X0.out.2.1
            have y02:=P2.out.cell X0.out.2.2
            have yb0:=lt_of_cell y00
            have P2x:Hid (PrI w0 b (p++X) w2):=qh (by rw [HXE.out];simpa only [List.append_assoc] using P2.out)
            clear P2
            have P2:=P2x
            clear P2x
            go_wp2_with fail
            refine (CE.out _ P2.out _ (by first | rfl | simp only [World.size_alloc])).mono ?_
            rintro e w3 ⟨rfl,pp,kk⟩
            have P3:=qh pp
            have K3:=qh (K2.out.trans kk)
            have R3:=qh (kk.row3 R2.out hne)
            clear pp kk CE n0 n1 n2 y00 y01 y02 yb0
            go_wp2
            go_end0
            exact ⟨rfl,by rw [HE.out];have hh:=P3.out;rw [←HP.out] at hh;simpa only [List.append_assoc,bs_mk] using hh,K3.out⟩
           ·have hk11:((k:Int)==11)=false:=by rw [beq_eq_false_iff_ne];exact hc
            have m11:¬ k=11:=hc
            clear hc
            by_cases hc:k=14
            ·subst hc
             have hX2:comF (kl.take L) true=X:=by
              rw [←HX.out,←HLL.out,List.take_length,itemBody,if_pos (by decide)]
             have C2:Hid (∀ w',PrI w0 b p w'→Calls Tryz.prog 221 #[.pointer (some ⟨b,0,none⟩),.slice a L cap] w' (PrO w0 b p w' X)):=qh (fun w' h=>by
              have hl9:p.length+X.length≤100000000:=by have:=HL3.out;omega
              rw [←hX2] at hl9 ⊢
              exact names_any _ s kl L cap (by rw [HLL.out];exact Nat.le_refl _) _ _ _ _ _ _ w' HN.out h hl9)
             clear hX2
             obtain ⟨⟨n0,n1,n2⟩,_⟩:=R0.out.cells
             go_wp2_with fail
             refine (C2.out _ P0.out).mono ?_
             rintro e w1 ⟨rfl,pp,kk⟩
             have P1:=qh pp
             have K1:=qh (K0.out.trans kk)
             have R1:=qh (kk.row3 R0.out hne)
             clear pp kk C2 n0 n1 n2
             obtain ⟨⟨n0,n1,n2⟩,_⟩:=R1.out.cells
             go_wp2_with fail
             refine (CE.out _ P1.out _ (by first | rfl | simp only [World.size_alloc])).mono ?_
             rintro e w2 ⟨rfl,pp,kk⟩
             have P2:=qh pp
             have K2:=qh (K1.out.trans kk)
             have R2:=qh (kk.row3 R1.out hne)
             clear pp kk CE n0 n1 n2
             go_wp2
             go_end0
             exact ⟨rfl,by rw [HE.out];have hh:=P2.out;rw [←HP.out] at hh;simpa only [List.append_assoc,bs_mk] using hh,K2.out⟩
            ·have hk14:((k:Int)==14)=false:=by rw [beq_eq_false_iff_ne];exact hc
             have m14:¬ k=14:=hc
             clear hc
             have hXE:X=[]:=by
              rw [←HX.out,itemBody,if_neg (by omega),if_neg (by omega),if_neg (by omega),if_neg (by omega)]
             have P9:=qh (show PrI w0 b (p++X) _ by rw [hXE,List.append_nil];exact P0.out)
             clear P0 hXE
             have P0:=P9
             clear P9 m2 m3 m4 m5 m6 m7 m8 m9 m10 m11 m14
             obtain ⟨⟨n0,n1,n2⟩,_⟩:=R0.out.cells
             go_wp2_with fail
             refine (CE.out _ P0.out _ (by first | rfl | simp only [World.size_alloc])).mono ?_
             rintro e w1 ⟨rfl,pp,kk⟩
             have P1:=qh pp
             have K1:=qh (K0.out.trans kk)
             have R1:=qh (kk.row3 R0.out hne)
             clear pp kk CE n0 n1 n2
             go_wp2
             go_end0
             exact ⟨rfl,by rw [HE.out];have hh:=P1.out;rw [←HP.out] at hh;simpa only [List.append_assoc,bs_mk] using hh,K1.out⟩
end Go.Proofs.YtgikhpmdpppenaaGreatDoor
namespace Go.Proofs.YtgikhpmdpppenaaGreatDoor
open Go.RowKit Go.Shelf
theorem pCellsByte:Tryz.prog.cellsOf 5=1:=by kernel_rfl
set_option maxHeartbeats 1000000 in
set_option maxRecDepth 100000 in
theorem pString_some (B b:Nat) (l:List UInt8) (w:World) (h:PrW B b l w) (h0:l≠[]) :
  Calls Tryz.prog 140 #[.pointer (some ⟨b,0,none⟩)] w fun e w'=>e = .returned (.string ⟨l.toArray⟩)∧Below B w w':=by
 obtain ⟨p,hB,v,hbk,hown,hne⟩:∃ p,Lib.BuilderAt 145 5 B b p (Lib.byteCells l) w:=by
  rcases h with h | h
  ·exact ⟨_,h⟩
  ·exact ⟨_,h⟩
 have hl0:l.length≠0:=by simpa using h0
 rw [Lib.byteCells_length] at hown
 obtain ⟨g,cap,cur,rfl,hbg,hg,hnc,hcm,hcs,htake⟩:∃ g cap cur,v = .slice (some ⟨g,0,none⟩) l.length cap∧B≤g∧w.heap[g]?=some (.cells cur 5 (0,0))∧l.length≤cap∧cap≤maxLen∧cur.size=cap*1∧cur.toList.take (l.length*1)=Lib.byteCells l:=by
  rcases hown.2 with ⟨_,hz⟩ | ⟨g,cap,cur,hv,r⟩
  ·exact absurd hz hl0
  ·exact ⟨g,cap,cur,hv,r⟩
 have c1:w.drew.cell? ⟨b,1,none⟩=some (.slice (some ⟨g,0,none⟩) l.length cap):=by
  have:w.drew.heap[b]?=some (.cells #[p,.slice (some ⟨g,0,none⟩) l.length cap] 145 (0,0)):=hbk
  rw [Lib.cell_of_heap this];rfl
 have hSD:(Builtin.unsafeSliceData_ #[141] 181 #[.slice (some ⟨g,0,none⟩) l.length cap]).run Tryz.prog w.drew = .ok (.pointer (some ⟨g,0,none⟩)) w.drew :=
  Lib.run_unsafeSliceData_row _ _ _ _ _ _ (by omega)
 have hUS:(Builtin.unsafeString_ #[181,3] 9 #[.pointer (some ⟨g,0,none⟩),.int .i64 l.length]).run Tryz.prog w.drew = .ok (.string ⟨l.toArray⟩) (w.drew.freeze ⟨g,0,none⟩ l.length):=by
  refine Lib.run_unsafeString_row w.drew 181 3 9 5 Tryz.underlying181 pCellsByte g cur.size (by have hg':w.drew.heap[g]?=some (.cells cur 5 (0,0)):=hg;simp [World.shape?,hg']) l h0 (by omega) (by unfold maxLen at hcm;omega) ?_
  intro j x hx
  have:=hown.cells (g:=g) rfl j (.int .u8 x.toNat) (by simp [Lib.byteCells,hx])
  exact this
 go_enter Tryz.func140,Tryz.ntmps140
 go_wp2
 go_region
 all_goals (go_wp2;go_ret;exact ⟨rfl,Lib.below_freeze (Below.drew (Below.refl B w)) (p:=⟨g,0,none⟩) hbg _⟩)
theorem pUnsafe_none (W:World) (q:Option Addr):(Builtin.unsafeString_ #[181,3] 9 #[.pointer q,.int .i64 0]).run Tryz.prog W = .ok (.string .empty) W :=
 Lib.run_unsafeString_none W _ _ _ q
set_option maxHeartbeats 2000000 in
set_option maxRecDepth 100000 in
theorem pString_nil (B b:Nat) (p:Value) (w:World) (hbk:w.heap[b]?=some (.cells #[p,.slice none 0 0] 145 (0,0))) :
  Calls Tryz.prog 140 #[.pointer (some ⟨b,0,none⟩)] w fun e w'=>e = .returned (.string ⟨#[]⟩)∧Below B w w':=by
 have hUS:=pUnsafe_none
 have c1:w.drew.cell? ⟨b,1,none⟩=some (.slice none 0 0):=by
  have:w.drew.heap[b]?=some (.cells #[p,.slice none 0 0] 145 (0,0)):=hbk
  rw [Lib.cell_of_heap this];rfl
 have hSD:(Builtin.unsafeSliceData_ #[141] 181 #[.slice none 0 0]).run Tryz.prog w.drew = .ok (.pointer none) w.drew:=rfl
 go_enter Tryz.func140,Tryz.ntmps140
 go_wp2
 go_region
 all_goals (go_wp2;go_ret;exact ⟨rfl,Below.drew (Below.refl B w)⟩)
set_option maxHeartbeats 2000000 in
set_option maxRecDepth 100000 in
theorem pString_noroom (B b g:Nat) (p:Value) (cur:Array Value) (w:World) (hBw:B≤w.heap.size) (hbk:w.heap[b]?=some (.cells #[p,.slice (some ⟨g,0,none⟩) 0 0] 145 (0,0))) (hg:w.heap[g]?=some (.cells cur 5 (0,0))) :
  Calls Tryz.prog 140 #[.pointer (some ⟨b,0,none⟩)] w fun e w'=>e = .returned (.string ⟨#[]⟩)∧Below B w w':=by
 have hUS:=pUnsafe_none
 have hlt:b < w.heap.size:=heap_lt hbk
 have c1:w.drew.cell? ⟨b,1,none⟩=some (.slice (some ⟨g,0,none⟩) 0 0):=by
  have:w.drew.heap[b]?=some (.cells #[p,.slice (some ⟨g,0,none⟩) 0 0] 145 (0,0)):=hbk
  rw [Lib.cell_of_heap this];rfl
 have hSD:(Builtin.unsafeSliceData_ #[141] 181 #[.slice (some ⟨g,0,none⟩) 0 0]).run Tryz.prog w.drew = .ok (.pointer (some ⟨w.drew.heap.size,0,none⟩)) (w.drew.alloc (.view ⟨g,0,none⟩ 5)) :=
  Lib.run_unsafeSliceData_zero w.drew _ _ 5 Tryz.underlying181 ⟨g,0,none⟩ 0 (5,cur.size) (by have hg':w.drew.heap[g]?=some (.cells cur 5 (0,0)):=hg;simp [World.shape?,hg'])
 have c2:(w.drew.alloc (.view ⟨g,0,none⟩ 5)).cell? ⟨b,1,none⟩=some (.slice (some ⟨g,0,none⟩) 0 0):=by
  have:(w.drew.alloc (.view ⟨g,0,none⟩ 5)).heap[b]?=_:=(Lib.alloc_old w.drew _ b hlt).trans hbk
  rw [Lib.cell_of_heap this];rfl
 have c3:(w.alloc (.view ⟨g,0,none⟩ 5)).drew.cell? ⟨b,1,none⟩=some (.slice (some ⟨g,0,none⟩) 0 0):=c2
 have c0:w.cell? ⟨b,1,none⟩=some (.slice (some ⟨g,0,none⟩) 0 0):=c1
 go_enter Tryz.func140,Tryz.ntmps140
 go_wp2
 go_region
 all_goals (go_wp2;go_ret;exact ⟨rfl,(Below.drew (Below.refl B w)).alloc hBw _⟩)
set_option maxHeartbeats 2000000 in
set_option maxRecDepth 100000 in
theorem pString_room (B b g cap:Nat) (p:Value) (w:World) (hc0:cap≠0) (hbk:w.heap[b]?=some (.cells #[p,.slice (some ⟨g,0,none⟩) 0 cap] 145 (0,0))) :
  Calls Tryz.prog 140 #[.pointer (some ⟨b,0,none⟩)] w fun e w'=>e = .returned (.string ⟨#[]⟩)∧Below B w w':=by
 have hUS:=pUnsafe_none
 have c1:w.drew.cell? ⟨b,1,none⟩=some (.slice (some ⟨g,0,none⟩) 0 cap):=by
  have:w.drew.heap[b]?=some (.cells #[p,.slice (some ⟨g,0,none⟩) 0 cap] 145 (0,0)):=hbk
  rw [Lib.cell_of_heap this];rfl
 have hSD:(Builtin.unsafeSliceData_ #[141] 181 #[.slice (some ⟨g,0,none⟩) 0 cap]).run Tryz.prog w.drew = .ok (.pointer (some ⟨g,0,none⟩)) w.drew :=
  Lib.run_unsafeSliceData_row _ _ _ _ _ _ hc0
 clear hc0
 go_enter Tryz.func140,Tryz.ntmps140
 go_wp2
 go_region
 all_goals (go_wp2;go_ret;exact ⟨rfl,Below.drew (Below.refl B w)⟩)
theorem pString_any (B b:Nat) (l:List UInt8) (w:World) (h:PrW B b l w) (hBw:B≤w.heap.size) :
  Calls Tryz.prog 140 #[.pointer (some ⟨b,0,none⟩)] w fun e w'=>e = .returned (S_ l)∧Below B w w':=by
 cases l with
 | cons x r=>exact pString_some B b (x :: r) w h (by simp)
 | nil =>
  obtain ⟨p,hB,v,hbk,hown,hne⟩:∃ p,Lib.BuilderAt 145 5 B b p [] w:=by
   rcases h with h | h
   ·exact ⟨_,h⟩
   ·exact ⟨_,h⟩
  rcases hown.2 with ⟨rfl,_⟩ | ⟨g,cap,cur,rfl,hbg,hg,_,_,_,_⟩
  ·exact pString_nil B b p w hbk
  ·by_cases hc0:cap=0
   ·subst hc0
    exact pString_noroom B b g p cur w hBw hbk hg
   ·exact pString_room B b g cap p w hc0 hbk
end Go.Proofs.YtgikhpmdpppenaaGreatDoor
namespace Go.Proofs.YtgikhpmdpppenaaGreatDoor
open Go.RowKit
theorem name_small {k p:Int} {s:ByteArray} (h:checkB ⟨k,s,p⟩=true):s.size≤64:=by
 unfold checkB scansB at h
 cases hs:Lx.scan (bs s) with
 | bad i e=>rw [hs] at h;cases h
 | toks ts =>
  rw [hs] at h
  simp only at h
  have hb:=scan_bounds hs
  match ts,h,hb with
  | [],h,_=>simp [sameB] at h
  | [t],h,hb =>
   simp only [List.map_cons,List.map_nil,sameB,ofTok] at h
   have h1:=(hb t (by simp)).1
   simp only [Bool.and_eq_true,beq_iff_eq] at h
   have h2:t.text.length=s.size:=by
    have:=h.1.2
    first | (rw [←this];simp [ByteArray.size]) | (have h3:=toList_injP this;rw [←h3];simp [ByteArray.size])
   omega
  | t :: u :: r,h,_=>simp [sameB] at h
theorem nameB_small {s:ByteArray} (h:nameB s=true):s.size≤64:=name_small h
theorem varB_small {s:ByteArray} (h:varB s=true):s.size≤64:=name_small h
theorem noneB_small {s:ByteArray} (h:noneB s=true):s.size≤64:=by
 unfold noneB at h
 rw [ByteArray.toList_eq] at h
 have h2:s.data.toList=[]:=by simpa using h
 have:s.size=0:=by
  show s.data.size=0
  rw [←Array.length_toList,h2]
  rfl
 omega
theorem okL_mem:∀ {l:List Nd},(∀ x∈l,x.okP=true)→Nd.okL l=true
 | [],_=>by simp only [Nd.okL]
 | a :: l,h=>by
  simp only [Nd.okL,Bool.and_eq_true]
  exact ⟨h a (by simp),okL_mem fun x hx=>h x (by simp [hx])⟩
theorem okL_all:∀ {l:List Nd},Nd.okL l=true→∀ x∈l,x.okP=true
 | a :: l,h,x,hx=>by
  simp only [Nd.okL,Bool.and_eq_true] at h
  rcases List.mem_cons.1 hx with rfl | hx
  ·exact h.1
  ·exact okL_all h.2 x hx
theorem szL_mem:∀ {l:List Nd} {x:Nd},x∈l→x.sz≤Nd.szL l
 | a :: l,x,hx=>by
  simp only [Nd.szL]
  rcases List.mem_cons.1 hx with rfl | hx
  ·omega
  ·have:=szL_mem hx;omega
theorem typL_mem:∀ {l:List Nd},typL l=true→∀ x∈l,typB x=true
 | a :: l,h,x,hx=>by
  simp only [typL,Bool.and_eq_true] at h
  rcases List.mem_cons.1 hx with rfl | hx
  ·exact h.1
  ·exact typL_mem h.2 x hx
theorem termL_mem:∀ {l:List Nd},termL l=true→∀ x∈l,termB x=true
 | a :: l,h,x,hx=>by
  simp only [termL,Bool.and_eq_true] at h
  rcases List.mem_cons.1 hx with rfl | hx
  ·exact h.1
  ·exact termL_mem h.2 x hx
theorem formL_mem:∀ {l:List Nd},formL l=true→∀ x∈l,formB x=true
 | a :: l,h,x,hx=>by
  simp only [formL,Bool.and_eq_true] at h
  rcases List.mem_cons.1 hx with rfl | hx
  ·exact h.1
  ·exact formL_mem h.2 x hx
theorem ok_mk {k:Int} {s:ByteArray} {l:List Nd} (h1:shapeB k l.length=true) (h2:s.size≤64) (h3:Nd.okL l=true):(Nd.mk k s l).okP=true:=by
 simp only [Nd.okP,Bool.and_eq_true,decide_eq_true_eq]
 exact ⟨h1,h2,h3⟩
theorem typ_ok:∀ (N:Nat) (t:Nd),t.sz≤N→typB t=true→t.okP=true:=by
 intro N
 induction N with
 | zero=>rintro ⟨k,s,l⟩ h;simp only [Nd.sz] at h;omega
 | succ N ih =>
  rintro ⟨k,s,l⟩ h ht
  simp only [Nd.sz] at h
  simp only [typB] at ht
  split at ht
  ·rename_i hk
   subst hk
   simp only [Bool.and_eq_true,decide_eq_true_eq] at ht
   exact ok_mk (by rw [ht.2.1];decide) (noneB_small ht.1) (okL_mem fun x hx=>ih x (by have:=szL_mem hx;omega) (typL_mem ht.2.2 x hx))
  ·simp only [Bool.and_eq_true,decide_eq_true_eq] at ht
   obtain ⟨rfl,hl,hn⟩:=ht
   have:l=[]:=List.eq_nil_of_length_eq_zero hl
   subst this
   exact ok_mk (by decide) (nameB_small hn) (by simp only [Nd.okL])
theorem bind_small {s:ByteArray} {l:List Nd} (h:bindB s l=true):s.size≤64∧(l.length=1∨l.length=2)∧(l.length=2→headTyp l=true):=by
 simp only [bindB,Bool.and_eq_true,Bool.or_eq_true,decide_eq_true_eq] at h
 refine ⟨h.1.elim nameB_small varB_small,h.2.imp id (·.1),fun e=>?_⟩
 rcases h.2 with h2 | h2
 ·omega
 ·exact h2.2
theorem term_ok:∀ (N:Nat) (t:Nd),t.sz≤N→termB t=true→t.okP=true:=by
 intro N
 induction N with
 | zero=>rintro ⟨k,s,l⟩ h;simp only [Nd.sz] at h;omega
 | succ N ih =>
  rintro ⟨k,s,l⟩ h ht
  simp only [Nd.sz] at h
  simp only [termB] at ht
  split at ht
  ·rename_i hk
   subst hk
   simp only [Bool.and_eq_true,decide_eq_true_eq] at ht
   exact ok_mk rfl (nameB_small ht.1) (okL_mem fun x hx=>ih x (by have:=szL_mem hx;omega) (termL_mem ht.2.1 x hx))
  ·split at ht
   ·rename_i hk
    subst hk
    simp only [Bool.and_eq_true,decide_eq_true_eq] at ht
    exact ok_mk rfl (varB_small ht.1) (okL_mem fun x hx=>ih x (by have:=szL_mem hx;omega) (termL_mem ht.2.1 x hx))
   ·simp only [Bool.and_eq_true,decide_eq_true_eq] at ht
    obtain ⟨rfl,hb,he⟩:=ht
    obtain ⟨h1,h2,h3⟩:=bind_small hb
    refine ok_mk (by rcases h2 with e | e <;> rw [e] <;> decide) h1 ?_
    match l,h2,h3,he,h with
    | [x],_,_,he,h =>
     simp only [termE,List.isEmpty_nil,if_true,Nd.szL] at he h
     exact okL_mem fun y hy=>by rw [List.mem_singleton.1 hy];exact ih x (by omega) he
    | [x,y],_,h3,he,h =>
     have hx:=h3 rfl
     simp only [headTyp] at hx
     simp only [termE,List.isEmpty_cons,List.isEmpty_nil,if_true,Nd.szL] at he h
     refine okL_mem fun z hz=>?_
     rcases List.mem_cons.1 hz with rfl | hz
     ·exact typ_ok _ z (Nat.le_refl _) hx
     ·rw [List.mem_singleton.1 hz];exact ih y (by omega) (by simpa using he)
    | [],h2,_,_,_=>simp at h2
    | _ :: _ :: _ :: _,h2,_,_,_=>simp at h2
theorem form_ok:∀ (N:Nat) (t:Nd),t.sz≤N→formB t=true→t.okP=true:=by
 intro N
 induction N with
 | zero=>rintro ⟨k,s,l⟩ h;simp only [Nd.sz] at h;omega
 | succ N ih =>
  rintro ⟨k,s,l⟩ h ht
  simp only [Nd.sz] at h
  simp only [formB] at ht
  split at ht
  ·exact term_ok _ _ (Nat.le_refl _) ht
  ·split at ht
   ·rename_i _ hk
    simp only [Bool.and_eq_true] at ht
    obtain ⟨hb,he⟩:=ht
    obtain ⟨h1,h2,h3⟩:=bind_small hb
    refine ok_mk (by rcases hk with rfl | rfl <;> rcases h2 with e | e <;> rw [e] <;> decide) h1 ?_
    match l,h2,h3,he,h with
    | [x],_,_,he,h =>
     simp only [formE,List.isEmpty_nil,if_true,Nd.szL] at he h
     exact okL_mem fun y hy=>by rw [List.mem_singleton.1 hy];exact ih x (by omega) he
    | [x,y],_,h3,he,h =>
     have hx:=h3 rfl
     simp only [headTyp] at hx
     simp only [formE,List.isEmpty_cons,List.isEmpty_nil,if_true,Nd.szL] at he h
     refine okL_mem fun z hz=>?_
     rcases List.mem_cons.1 hz with rfl | hz
     ·exact typ_ok _ z (Nat.le_refl _) hx
     ·rw [List.mem_singleton.1 hz];exact ih y (by omega) (by simpa using he)
    | [],h2,_,_,_=>simp at h2
    | _ :: _ :: _ :: _,h2,_,_,_=>simp at h2
   ·split at ht
    ·rename_i _ _ hk
     simp only [Bool.and_eq_true,decide_eq_true_eq] at ht
     have:l=[]:=List.eq_nil_of_length_eq_zero ht.2
     subst this
     exact ok_mk (by rcases hk with rfl | rfl <;> decide) (noneB_small ht.1) (by simp only [Nd.okL])
    ·split at ht
     ·rename_i _ _ _ hk
      simp only [Bool.and_eq_true,decide_eq_true_eq] at ht
      exact ok_mk (by rw [ht.2.1];rcases hk with rfl | rfl <;> decide) (noneB_small ht.1) (okL_mem fun x hx=>ih x (by have:=szL_mem hx;omega) (formL_mem ht.2.2 x hx))
     ·simp only [Bool.and_eq_true,decide_eq_true_eq,isBinary] at ht
      have hk:=ht.1
      exact ok_mk (by rw [ht.2.2.1]; have : k = 22 ∨ k = 23 ∨ k = 24 ∨ k = 25 ∨ k = 26 ∨ k = 27 ∨ k = 28 := by omega
                      rcases this with rfl | rfl | rfl | rfl | rfl | rfl | rfl <;> decide) (noneB_small ht.2.1) (okL_mem fun x hx => ih x (by have := szL_mem hx; omega) (formL_mem ht.2.2.2 x hx))
def Nd.okI:Nd→Prop | .mk k s l=>s.size≤64∧itemOk k l.length∧Nd.okL l=true
theorem lone_ok {t:Nd} (h:loneB t=true):t.okP=true:=by
 obtain ⟨k,s,l⟩:=t
 simp only [loneB,Bool.and_eq_true,decide_eq_true_eq] at h
 obtain ⟨rfl,hl,hn⟩:=h
 have:l=[]:=List.eq_nil_of_length_eq_zero hl
 subst this
 exact ok_mk (by decide) (nameB_small hn) (by simp only [Nd.okL])
theorem mode_ok {t:Nd} (h:modeB t=true):t.okP=true:=by
 obtain ⟨k,s,l⟩:=t
 simp only [modeB,Bool.and_eq_true,Bool.or_eq_true,decide_eq_true_eq] at h
 obtain ⟨rfl,hl,hn⟩:=h
 have:l=[]:=List.eq_nil_of_length_eq_zero hl
 subst this
 exact ok_mk (by decide) (by rcases hn with rfl | rfl | rfl <;> decide) (by simp only [Nd.okL])
theorem okL_idx {l:List Nd} (h:∀ i (hi:i < l.length),(l[i]).okP=true):Nd.okL l=true:=okL_mem fun x hx=>by
 obtain ⟨i,hi,rfl⟩:=List.getElem_of_mem hx
 exact h i hi
theorem item_ok {t:Nd} (h:itemB t=true):t.okI:=by
 obtain ⟨k,s,l⟩:=t
 simp only [itemB] at h
 split at h
 ·rename_i hk
  simp only [Bool.and_eq_true,decide_eq_true_eq] at h
  exact ⟨noneB_small h.1,fun e=>by omega,okL_idx fun i hi=>lone_ok ((nameL_iff l).1 h.2.2 i hi)⟩
 ·split at h
  ·simp only [Bool.and_eq_true,decide_eq_true_eq] at h
   refine ⟨noneB_small h.1,fun e=>by omega,okL_idx fun i hi=>?_⟩
   by_cases he:i=l.length - 1
   ·subst he
    have h9:=h.2.2.2
    rw [typE_get (by omega)] at h9
    exact typ_ok _ _ (Nat.le_refl _) h9
   ·have:=(nameL_iff _).1 h.2.2.1 i (by rw [List.length_take];omega)
    rw [List.getElem_take] at this
    exact lone_ok this
  ·simp only [Bool.and_eq_true] at h
   have hs:=nameB_small h.1
   split at h
   ·simp only [Bool.and_eq_true] at h
    exact ⟨hs,fun e=>by omega,okL_mem fun x hx=>typ_ok _ x (Nat.le_refl _) (typL_mem h.2.1 x hx)⟩
   ·split at h
    ·simp only [Bool.and_eq_true] at h
     exact ⟨hs,fun e=>by omega,okL_idx fun i hi=>mode_ok ((modeL_iff l).1 h.2.1 i hi)⟩
    ·split at h
     ·simp only [Bool.and_eq_true,decide_eq_true_eq] at h
      exact ⟨hs,fun e=>by omega,okL_mem fun x hx=>form_ok _ x (Nat.le_refl _) (formL_mem h.2.2 x hx)⟩
     ·split at h
      ·simp only [decide_eq_true_eq] at h
       have:l=[]:=List.eq_nil_of_length_eq_zero h.2
       subst this
       exact ⟨hs,fun e=>by omega,by simp only [Nd.okL]⟩
      ·simp at h
def Nd.okW:Nd→Prop | .mk k s l=>if k=1 then ∀ x∈l,x.okI else if itemB (.mk k s l)=true then (Nd.mk k s l).okI else (Nd.mk k s l).okP=true
theorem valid_ok {t:Nd} (h:chkN t=0):t.okW∧t.sz≤4000:=by
 unfold chkN at h
 split at h
 ·cases h
 ·split at h
  ·cases h
  ·split at h
   ·rename_i h1 _ hv
    refine ⟨?_,by omega⟩
    obtain ⟨k,s,l⟩:=t
    simp only [Bool.or_eq_true] at hv
    show if k=1 then ∀ x∈l,x.okI else if itemB (.mk k s l)=true then (Nd.mk k s l).okI else (Nd.mk k s l).okP=true
    have hp:typB (.mk k s l)=true∨termB (.mk k s l)=true∨formB (.mk k s l)=true→(Nd.mk k s l).okP=true:=by
     rintro (h | h | h)
     ·exact typ_ok _ _ (Nat.le_refl _) h
     ·exact term_ok _ _ (Nat.le_refl _) h
     ·exact form_ok _ _ (Nat.le_refl _) h
    by_cases hk:k=1
    ·subst hk
     rw [if_pos rfl]
     rcases hv with h | h | h | h | h
     ·have:=hp (.inl h);simp [Nd.okP,shapeB] at this
     ·have:=hp (.inr (.inl h));simp [Nd.okP,shapeB] at this
     ·have:=hp (.inr (.inr h));simp [Nd.okP,shapeB] at this
     ·simp [itemB] at h
     ·simp only [textB,Bool.and_eq_true] at h
      intro x hx
      obtain ⟨i,hi,rfl⟩:=List.getElem_of_mem hx
      exact item_ok ((itemL_iff l).1 h.2.2 i hi)
    ·rw [if_neg hk]
     split
     ·rename_i h;exact item_ok h
     ·rename_i hi
      rcases hv with h | h | h | h | h
      ·exact hp (.inl h)
      ·exact hp (.inr (.inl h))
      ·exact hp (.inr (.inr h))
      ·exact absurd h hi
      ·simp only [textB,Bool.and_eq_true,decide_eq_true_eq] at h
       exact absurd h.1 hk
   ·cases h
def Nd.whl:Nd→Tx | .mk k s l=>if k=1 then l.flatMap fun x=>x.itm++[10] else if itemB (.mk k s l)=true then (Nd.mk k s l).itm else (Nd.mk k s l).txt 0 false
theorem findO_len (k:Int):∀ l:List (List UInt8×Int),(∀ o∈l,o.1.length≤8)→(findO k l).length≤8
 | [],_=>by simp [findO]
 | o :: l,h=>by
  simp only [findO]
  split
  ·exact h o (by simp)
  ·exact findO_len k l fun o ho=>h o (by simp [ho])
theorem opensW_len (k:Int):(opensW k).length≤8:=findO_len k _ (by decide)
theorem opSign_len (k:Int):(opSign k).length≤2:=by
 unfold opSign
 split
 ·rename_i sg bd h
  unfold opOf opsL at h
  simp only [findP] at h
  repeat' split at h
  all_goals first | (cases h;decide) | cases h
 ·simp
theorem txtF_len (k:Int) (f:Bool→Tx) (n:Nat) (h:∀ m,(f m).length≤n) (bind:Nat) (more:Bool):(txtF k f bind more).length≤n+2:=by
 unfold txtF
 split
 ·have:=h false
  simp
  omega
 ·have:=h more
  omega
theorem txt_len {t:Nd} (h:∀ m,(t.bare m).length+10≤100*t.sz) (bind:Nat) (more:Bool):(t.txt bind more).length+8≤100*t.sz:=by
 have h0:=h false
 have:=txtF_len t.kd t.bare (100*t.sz - 10) (fun m=>by have:=h m;omega) bind more
 unfold Nd.txt
 omega
theorem sum_len {l:List Nd} (F:Nd→Tx) (h:∀ x∈l,(F x).length≤100*x.sz):(l.flatMap F).length≤100*Nd.szL l:=by
 induction l with
 | nil=>simp
 | cons a l ih =>
  have h1:=h a (by simp)
  have h2:=ih fun x hx=>h x (by simp [hx])
  simp only [List.flatMap_cons,List.length_append,Nd.szL]
  omega
theorem arg_len {t:Nd} (ho:t.okP=true) (h:∀ m,(t.bare m).length+10≤100*t.sz):t.arg.length+8≤100*t.sz:=by
 have h0:=h false
 obtain ⟨k,s,l⟩:=t
 unfold Nd.arg argF
 simp only [Nd.okP,Bool.and_eq_true,decide_eq_true_eq] at ho
 have h1:1≤(Nd.mk k s l).sz:=by simp only [Nd.sz];omega
 simp only
 split
 ·simp
  omega
 ·rw [bs_len]
  omega
theorem kidF_len {l:List Nd} (h:∀ x∈l,∀ m,(x.bare m).length+10≤100*x.sz) (i:Nat) (hi:i < l.length) (bind:Nat) (more:Bool):(kidF l (Nd.bareL l) i bind more).length+8≤100*(l[i]).sz:=by
 rw [kidF_at hi]
 exact txt_len (h _ (List.getElem_mem hi)) bind more
theorem bare_len:∀ (N:Nat) (t:Nd),t.sz≤N→t.okP=true→∀ m,(t.bare m).length+10≤100*t.sz:=by
 intro N
 induction N with
 | zero=>rintro ⟨k,s,l⟩ h;simp only [Nd.sz] at h;omega
 | succ N ih =>
  rintro ⟨k,s,l⟩ h ho m
  simp only [Nd.okP,Bool.and_eq_true,decide_eq_true_eq] at ho
  obtain ⟨h1,h2,h3⟩:=ho
  simp only [Nd.sz] at h ⊢
  have hk:∀ x∈l,∀ m,(x.bare m).length+10≤100*x.sz:=fun x hx=>ih x (by have:=szL_mem hx;omega) (okL_all h3 x hx)
  have hsb:(bs s).length≤64:=by rw [bs_len];exact h2
  have how:=opensW_len k
  have hsg:=opSign_len k
  by_cases h15:k=15∨k=16
  ·rw [bare_name h15]
   have:=sum_len (l:=l) (fun x=>32 :: x.arg) (fun x hx=>by have:=arg_len (okL_all h3 x hx) (hk x hx);simp only [List.length_cons];omega)
   rw [List.length_append]
   omega
  ·simp only [Nd.bare,bareF]
   rw [if_neg h15]
   by_cases hb:17≤k∧k≤19
   ·have h12:l.length=1∨l.length=2:=by
     have:k=17∨k=18∨k=19:=by omega
     rcases this with rfl | rfl | rfl <;> simpa [shapeB] using h1
    have hbf:(binderF s l (Nd.bareL l)).length≤72+100*Nd.szL l:=by
     unfold binderF
     rcases h12 with e | e
     ·match l,e with
      | [x],_ =>
       have h0:=kidF_len hk 0 (by simp) 0 false
       simp only [List.length_singleton,Nat.sub_self,List.length_append,Nd.szL,List.getElem_cons_zero] at h0 ⊢
       rw [if_neg (by omega)]
       simp
       omega
     ·match l,e with
      | [x,y],_ =>
       have h0:=kidF_len hk 0 (by simp) 6 false
       have h9:=kidF_len hk 1 (by simp) 0 false
       simp only [List.length_cons,List.length_nil,Nat.zero_add,Nat.reduceAdd,Nat.add_sub_cancel,List.length_append,Nd.szL,List.getElem_cons_zero,List.getElem_cons_succ] at h0 h9 ⊢
       rw [if_pos (by omega)]
       simp
       omega
    split
    ·rw [List.length_append];omega
    ·rw [if_pos (by omega),List.length_append,List.length_append]
     simp
     omega
   ·rw [if_neg (by omega),if_neg (by omega)]
    split
    ·omega
    ·split
     ·rename_i _ hk29
      subst hk29
      have:1≤l.length:=by simpa [shapeB] using h1
      have h0:=kidF_len hk 0 (by omega) 5 m
      have h9:=szL_get l 0 (by omega)
      rw [List.length_append]
      omega
     ·split
      ·rename_i _ _ hk30
       subst hk30
       have:1≤l.length:=by simpa [shapeB] using h1
       have h0:=kidF_len hk 0 (by omega) 0 false
       have h9:=szL_get l 0 (by omega)
       rw [List.length_append,List.length_append]
       simp
       omega
      ·rename_i m20 m29 m30
       have hl2:2≤l.length:=by
        simp only [shapeB,decide_eq_false (fun e=>h15 (.inl e)),decide_eq_false (fun e=>h15 (.inr e)),decide_eq_false (fun e=>m20 (.inl e)),decide_eq_false (fun e=>m20 (.inr e)),decide_eq_false m29,decide_eq_false m30,Bool.false_or,Bool.or_eq_true,Bool.and_eq_true,decide_eq_true_eq,Bool.false_and] at h1
        omega
       match l,hl2 with
       | x :: y :: r,_ =>
        have h0:=kidF_len hk 0 (by simp) (leftB (opBind k)) true
        have h9:=kidF_len hk 1 (by simp) (rightB (opBind k)) m
        simp only [Nd.szL,List.length_append,List.getElem_cons_zero,List.getElem_cons_succ,List.length_cons,List.length_nil] at h0 h9 ⊢
        omega
theorem node_len {t:Nd} (ho:t.okP=true) (bind:Nat) (more:Bool):(t.txt bind more).length+8≤100*t.sz:=txt_len (bare_len _ t (Nat.le_refl _) ho) bind more
theorem comF_len:∀ {l:List Nd} (f:Bool),Nd.okL l=true→(comF l f).length≤66*Nd.szL l
 | [],f,_=>by simp [comF]
 | ⟨k,s,kl⟩ :: l,f,h=>by
  simp only [Nd.okL,Bool.and_eq_true,Nd.okP,decide_eq_true_eq] at h
  have:=comF_len false h.2
  simp only [comF,Nd.nm,List.length_append,Nd.szL,Nd.sz]
  have h2:(if f=true then ([]:Tx) else [44,32]).length≤2:=by split <;> simp
  rw [bs_len]
  omega
theorem okL_take {l:List Nd} (h:Nd.okL l=true) (n:Nat):Nd.okL (l.take n)=true:=okL_mem fun x hx=>okL_all h x (List.mem_of_mem_take hx)
theorem itm_len {t:Nd} (h:t.okI):t.itm.length≤100*t.sz:=by
 obtain ⟨k,s,l⟩:=t
 obtain ⟨h1,h2,h3⟩:=h
 have how:=opensW_len k
 have hb:(itemBody k l).length≤100*Nd.szL l+10:=by
  unfold itemBody
  split
  ·have:=comF_len true h3;omega
  ·split
   ·rename_i hk
    have hl:=h2 (.inl hk)
    have e:l.length - 1 < l.length:=by omega
    have h4:=comF_len true (okL_take h3 (l.length - 1))
    have h5:=node_len (okL_all h3 _ (List.getElem_mem e)) 6 false
    have h6:=szL_take l (l.length - 1) e
    rw [List.take_of_length_le (by omega)] at h6
    rw [kidT_at e]
    simp only [List.length_append,List.length_cons,List.length_nil]
    omega
   ·split
    ·have:=sum_len (l:=l) (fun x=>32 :: x.txt 7 false) (fun x hx=>by have:=node_len (okL_all h3 x hx) 7 false;simp only [List.length_cons];omega)
     omega
    ·split
     ·rename_i hk
      have hl:=h2 (by omega)
      have h5:=node_len (okL_all h3 _ (List.getElem_mem (show 0 < l.length by omega))) 0 false
      have h6:=szL_get l 0 (by omega)
      rw [kidT_at (by omega)]
      simp only [List.length_append,List.length_cons,List.length_nil]
      omega
     ·simp
 simp only [Nd.itm,List.length_append,List.length_cons,List.length_nil,bs_len,Nd.sz]
 omega
theorem whl_len {t:Nd} (h:t.okW):t.whl.length≤200*t.sz:=by
 obtain ⟨k,s,l⟩:=t
 unfold Nd.whl
 have h':if k=1 then ∀ x∈l,x.okI else if itemB (.mk k s l)=true then (Nd.mk k s l).okI else (Nd.mk k s l).okP=true:=h
 simp only
 split
 ·rename_i hk
  rw [if_pos hk] at h'
  have:∀ l:List Nd,(∀ x∈l,x.okI)→(l.flatMap fun x=>x.itm++[10]).length≤200*Nd.szL l:=by
   intro l
   induction l with
   | nil=>simp
   | cons a l ih =>
    intro hl
    have h1:=itm_len (hl a (by simp))
    have h2:=ih fun x hx=>hl x (by simp [hx])
    have h3:1≤a.sz:=by obtain ⟨k,s,l⟩:=a;simp only [Nd.sz];omega
    simp only [List.flatMap_cons,List.length_append,Nd.szL,List.length_cons,List.length_nil]
    omega
  have:=this l h'
  simp only [Nd.sz]
  omega
 ·rename_i hk
  rw [if_neg hk] at h'
  split
  ·rename_i hi
   rw [if_pos hi] at h'
   have:=itm_len h'
   omega
  ·rename_i hi
   rw [if_neg hi] at h'
   have:=node_len h' 0 false
   omega
end Go.Proofs.YtgikhpmdpppenaaGreatDoor
namespace Go.Proofs.YtgikhpmdpppenaaGreatDoor
theorem shape_not7 {n:Nat}:shapeB 7 n=false:=by
 unfold shapeB
 simp
mutual
theorem okP_facts:∀ t:Nd,t.okP=true→smN t∧mdOk t
 | .mk k s l,h=>by
  simp only [Nd.okP,Bool.and_eq_true,decide_eq_true_eq] at h
  obtain ⟨h1,h2,h3⟩:=h
  have:=okL_facts l h3
  simp only [smN,mdOk]
  refine ⟨⟨h2,this.1⟩,?_⟩
  split
  ·rename_i hk
   subst hk
   rw [shape_not7] at h1
   cases h1
  ·exact this.2
theorem okL_facts:∀ l:List Nd,Nd.okL l=true→smL l∧mdL l
 | [],_=>by simp only [smL,mdL];exact ⟨trivial,trivial⟩
 | a :: l,h=>by
  simp only [Nd.okL,Bool.and_eq_true] at h
  have h1:=okP_facts a h.1
  have h2:=okL_facts l h.2
  simp only [smL,mdL]
  exact ⟨⟨h1.1,h2.1⟩,h1.2,h2.2⟩
end
theorem modeB_leaf {t:Nd} (h:modeB t=true):∃ k s,t = .mk k s []:=by
 obtain ⟨k,s,l⟩:=t
 simp only [modeB,Bool.and_eq_true,decide_eq_true_eq] at h
 have:l=[]:=List.eq_nil_of_length_eq_zero h.2.1
 subst this
 exact ⟨k,s,rfl⟩
theorem item_facts {t:Nd} (h:itemB t=true):smN t∧mdOk t:=by
 have ho:=item_ok h
 obtain ⟨k,s,l⟩:=t
 obtain ⟨h1,_,h3⟩:=ho
 have hf:=okL_facts l h3
 simp only [smN,mdOk]
 refine ⟨⟨h1,hf.1⟩,?_⟩
 split
 ·rename_i hk
  subst hk
  simp only [itemB,Int.reduceEq,or_self,if_false,if_true,Bool.and_eq_true] at h
  intro x hx
  obtain ⟨i,hi,rfl⟩:=List.getElem_of_mem hx
  exact modeB_leaf ((modeL_iff l).1 h.2.1 i hi)
 ·exact hf.2
theorem valid_facts {t:Nd} (h:chkN t=0):smN t∧mdOk t:=by
 unfold chkN at h
 split at h
 ·cases h
 ·split at h
  ·cases h
  ·split at h
   ·rename_i hv
    simp only [Bool.or_eq_true] at hv
    rcases hv with h | h | h | h | h
    ·exact okP_facts t (typ_ok _ _ (Nat.le_refl _) h)
    ·exact okP_facts t (term_ok _ _ (Nat.le_refl _) h)
    ·exact okP_facts t (form_ok _ _ (Nat.le_refl _) h)
    ·exact item_facts h
    ·obtain ⟨k,s,l⟩:=t
     simp only [textB,Bool.and_eq_true,decide_eq_true_eq] at h
     obtain ⟨rfl,hs,hl⟩:=h
     have hi:∀ x∈l,smN x∧mdOk x:=fun x hx=>by
      obtain ⟨i,hi,rfl⟩:=List.getElem_of_mem hx
      exact item_facts ((itemL_iff l).1 hl i hi)
     simp only [smN,mdOk]
     refine ⟨⟨noneB_small hs,(smL_iff l).2 fun x hx=>(hi x hx).1⟩,?_⟩
     rw [if_neg (by decide)]
     exact (mdL_iff l).2 fun x hx=>(hi x hx).2
   ·cases h
end Go.Proofs.YtgikhpmdpppenaaGreatDoor
namespace Go.Proofs.YtgikhpmdpppenaaGreatDoor
open Go.RowKit Go.Shelf
attribute [local go_sem] Oper.semAt_some
abbrev zeroN:Nd:=.mk 0 ⟨#[]⟩ []
theorem zero_ndr (w:World):NdR w zeroN (.int .i64 0) (.string ⟨#[]⟩) (.slice none 0 0):=(NdS.leaf (fun _=>True) w 0 ⟨#[]⟩ (by decide) none 0).toR
theorem chk_sz {t:Nd} (h:chkN t=0):t.sz≤4000:=by
 unfold chkN at h
 split at h
 ·cases h
 ·omega
def PR (er:Int) (tr:Nd) (W:World) (e:Ending) (W':World):Prop :=
 ∃ u0 u1 u2,e = .returned (.tuple #[.agg #[u0,u1,u2],.int .i64 er])∧NdR W' tr u0 u1 u2∧Below W.heap.size W W'
def AtS (c:Int) (r:Option Nd) (er:Int) (tr:Nd):Prop:=(c≠0∧er=c∧tr=zeroN)∨(c=0∧r=none∧er=3∧tr=zeroN)∨(c=0∧r=some tr∧er=0)
theorem unchanged_all (n₁ H:Nat) (A:World) (vp vi v0 v1 v2:Value) (ps:List Value) (ins:List ByteArray) (wd:Bool) (t:Nd) (hH:H≤A.heap.size) (hp:RowI n₁ A vp ps) (hi:RowS n₁ A vi ins) (ht:NdO (fun b=>b < H) vp vi A t v0 v1 v2) :
  Calls Tryz.prog 83 (#[.agg #[vp,vi,.bool wd],.agg #[v0,v1,v2]]++#[]) A fun e W'=>∃ u0 u1 u2,e = .returned (.agg #[u0,u1,u2])∧NdO (fun b=>b < H∨A.heap.size≤b) vp vi W' t u0 u1 u2∧Below A.heap.size A W':=by
 obtain ⟨k,s,l,a,c,rfl,rfl,rfl,rfl,_,_⟩:=ht.form
 obtain ⟨ap,cp,hvp⟩:=row_shape hp
 obtain ⟨ai,ci,hvi⟩:=row_shape hi
 refine (unchanged_any vp vi wd k s a l.length c ap ai _ cp _ ci hvp hvi A).mono ?_
 rintro e w' ⟨rfl,hb⟩
 exact ⟨_,_,_,rfl,NdS.keep (fun b (h1:(vp.ownBlock≠some b∧vi.ownBlock≠some b)∧b < H) _=>⟨hb.block b (by omega),h1.1,Or.inl h1.2⟩) ht,hb⟩
set_option maxRecDepth 100000 in
set_option maxHeartbeats 2000000 in
theorem at_any (t:Nd) (v0 v1 v2 vp:Value) (p:List Int) (w:World) (ht:NdR w t v0 v1 v2) (hp:PathR w vp p) (er:Int) (tr:Nd) (hA:AtS (chkN t) (goN t p) er tr) :
  Calls Tryz.prog 28 #[.agg #[v0,v1,v2],vp] w (PR er tr w):=by
 obtain ⟨k0,s0,l0,a0,c0,rfl,rfl,rfl,rfl,_,_⟩:=ht.form
 obtain ⟨c,hc⟩:∃ c,chkN (.mk k0 s0 l0)=c:=⟨_,rfl⟩
 obtain ⟨r,hr⟩:∃ r,goN (.mk k0 s0 l0) p=r:=⟨_,rfl⟩
 have hvp:∃ b1 c1,vp = .slice b1 p.length c1:=by obtain ⟨_,_,_,c1,b1,e,_⟩:=hp;exact ⟨b1,c1,e⟩
 obtain ⟨b1,c1,rfl⟩:=hvp
 obtain ⟨H,hH⟩:∃ H,w.heap.size=H:=⟨_,rfl⟩
 obtain ⟨W2,hW2⟩:∃ W2,(w.alloc (.cells #[.int .i64 k0,.string s0,.slice a0 l0.length c0] 24)).alloc (.cells #[.int .i64 0,.string ⟨#[]⟩,.slice none 0 0] 24)=W2:=⟨_,rfl⟩
 have z2:W2.heap.size=H+1+1:=by rw [←hW2];simp [hH]
 have B2:Below H w W2:=by rw [←hW2,←hH];exact ((Below.refl _ w).alloc (Nat.le_refl _) _).alloc (by simp) _
 have N2:Row3 W2 H (.int .i64 k0) (.string s0) (.slice a0 l0.length c0):=by
  rw [←hW2,←hH];exact (Below.heap_alloc _ _ _ (by simp)).trans (World.alloc_heap_new _ _)
 have R2:Row3 W2 (H+1) (.int .i64 0) (.string ⟨#[]⟩) (.slice none 0 0):=by rw [←hW2,←hH];exact alloc_at (by simp)
 have CK:=qh (check_tree _ W2 _ _ _ (ht.later (by rw [hH];exact B2)))
 rw [hc] at CK hA
 rw [hr] at hA
 have HT:=qh ht
 have HP:=qh hp
 have HH:=qh hH
 have HZ:=qh z2
 have HC:=qh hc
 have HR:=qh hr
 have HAS:=qh hA
 have HB2:=qh B2
 have HN2:=qh N2
 have HR2:=qh R2
 obtain ⟨⟨n0,n1,n2⟩,_⟩:=N2.cells
 clear ht hp hc hr hA B2 N2 R2
 go_enter Tryz.func28,Tryz.ntmps28
 go_upto_region 1 with fail
 (try rw [hW2])
 (try rw [HH.out])
 clear hW2
 go_wp2_with fail
 refine CK.out.mono ?_
 rintro e w3 ⟨rfl,b3⟩
 have zz:=HZ.out
 have N3:Row3 w3 H (.int .i64 k0) (.string s0) (.slice a0 l0.length c0):=HN2.out.below b3 HN2.out.lt
 have R3:Row3 w3 (H+1) (.int .i64 0) (.string ⟨#[]⟩) (.slice none 0 0):=HR2.out.below b3 HR2.out.lt
 have HB3:=qh (HB2.out.trans (b3.mono (by omega)))
 obtain ⟨⟨n0',n1',n2'⟩,_⟩:=N3.cells
 obtain ⟨⟨r0,r1,r2⟩,q0,q1,q2⟩:=R3.cells
 have HR3:=qh R3
 clear n0 n1 n2 N3 R3 CK HN2 HR2 HB2
 by_cases hc0:c=0
 ·subst hc0
  have FW:=qh (follow_any _ _ _ _ _ p w3 (HT.out.later (by rw [HH.out];exact HB3.out)) (HP.out.later (by rw [HH.out];exact HB3.out)) r HR.out)
  go_wp2_with fail
  refine FW.out.mono ?_
  rintro e w4 ⟨b4,h4⟩
  have hz4:H+1+1≤w3.heap.size:=by have:=b3.size;omega
  have HB4:=qh (HB3.out.trans (b4.mono (by omega)))
  have R4:Row3 w4 (H+1) (.int .i64 0) (.string ⟨#[]⟩) (.slice none 0 0):=HR3.out.below b4 HR3.out.lt
  have HR4:=qh R4
  obtain ⟨⟨r0',r1',r2'⟩,q0',q1',q2'⟩:=R4.cells
  have HB3':=qh b3
  have HB4':=qh b4
  clear n0' n1' n2' r0 r1 r2 q0 q1 q2 R4 FW b3 b4 HR3
  cases r with
  | none =>
   obtain rfl:=h4
   have hE:Hid (er=3∧tr=zeroN):=qh (by
    rcases HAS.out with h | ⟨_,_,h⟩ | ⟨_,h,_⟩
    ·exact absurd rfl h.1
    ·exact h
    ·cases h)
   have z4:H+1+1≤w4.heap.size:=by have:=HB4'.out.size;omega
   obtain ⟨Y,hY⟩:∃ Y,w4.heap.size=Y:=⟨_,rfl⟩
   obtain ⟨W5,hW5⟩:∃ W5,w4.alloc (.cells #[.int .i64 0,.string ⟨#[]⟩,.slice none 0 0] 24)=W5:=⟨_,rfl⟩
   have N5:Row3 W5 Y (.int .i64 0) (.string ⟨#[]⟩) (.slice none 0 0):=by rw [←hW5,←hY];exact Row3.new _ _ _ _
   obtain ⟨W6,hW6⟩:∃ W6,((W5.setCell ⟨Y,0,none⟩ (.int .i64 0)).setCell ⟨Y,1,none⟩ (.string ⟨#[]⟩)).setCell ⟨Y,2,none⟩ (.slice none 0 0)=W6:=⟨_,rfl⟩
   have R5:Row3 W6 (H+1) (.int .i64 0) (.string ⟨#[]⟩) (.slice none 0 0):=by
    rw [←hW6,←hW5];exact (((HR4.out.alloc _).other _ (by simp only;omega)).other _ (by simp only;omega)).other _ (by simp only;omega)
   have HR5:=qh R5
   have HB5:Hid (Below H w W6):=qh (by rw [←hW6,←hW5];exact below_put3 (HB4.out.alloc (by omega) _) (by omega) _ _ _)
   have HZ4:=qh z4
   obtain ⟨⟨r0,r1,r2⟩,q0,q1,q2⟩:=R5.cells
   obtain ⟨⟨n0,n1,n2⟩,m0,m1,m2⟩:=N5.cells
   clear R5 N5 r0' r1' r2' q0' q1' q2'
   go_wp2
   refine ret_node2 (HR5.out.put _ _ _) rfl rfl rfl rfl ?_
   obtain ⟨rfl,rfl⟩:=hE.out
   exact ⟨_,_,_,rfl,zero_ndr _,by rw [HH.out];exact below_put3 HB5.out (by omega) _ _ _⟩
  | some t' =>
   obtain ⟨u0,u1,u2,rfl,hu⟩:=h4
   have hE:Hid (er=0∧tr=t'):=qh (by
    rcases HAS.out with h | ⟨_,h,_⟩ | ⟨_,h,h2⟩
    ·exact absurd rfl h.1
    ·cases h
    ·cases h;exact ⟨h2,rfl⟩)
   obtain ⟨k1,s1,l1,a1,c1,rfl,rfl,rfl,rfl,_,_⟩:=hu.form
   have hf:=go_sm p _ _ HR.out (valid_facts HC.out).1
   have hsz:=chk_sz HC.out
   obtain ⟨W5,hW5⟩:∃ W5,w4.alloc (.cells #[.int .i64 k1,.string s1,.slice a1 l1.length c1] 24)=W5:=⟨_,rfl⟩
   have R5:Row3 W5 (H+1) (.int .i64 0) (.string ⟨#[]⟩) (.slice none 0 0):=by rw [←hW5];exact HR4.out.alloc _
   have z4:H+1+1≤w4.heap.size:=by have:=HB4'.out.size;omega
   have b5:Below w4.heap.size w4 W5:=by rw [←hW5];exact (Below.refl _ _).alloc (Nat.le_refl _) _
   have N5:Row3 W5 w4.heap.size (.int .i64 k1) (.string s1) (.slice a1 l1.length c1):=by rw [←hW5];exact Row3.new _ _ _ _
   have HR5:=qh R5
   have HB5:Hid (Below H w W5):=qh (HB4.out.trans (b5.mono (by omega)))
   have RB:=qh (rebuild_any 83 #[] W5 (fun _=>True) (fun _ _ _ _=>True) (fun _ _ _ t=>t) (fun _ _=>rfl) (fun _ _ _ _=>trivial) (fun n₁ H A vp vi v0 v1 v2 ps ins wd t _ _ h3 _ h5 h6 _ _ h9 _=>unchanged_all n₁ H A vp vi v0 v1 v2 ps ins wd t h3 h5 h6 h9) _ _ (bld_id (.mk k1 s1 l1) [] [] false) _ _ _ trivial ((hu.later HB4'.out).later b5) (by omega) hf.1)
   obtain ⟨⟨n0,n1,n2⟩,_⟩:=N5.cells
   have HZ5:=qh (show H+1+1≤W5.heap.size by have:=b5.size;omega)
   clear R5 N5 b5 hf hsz hu r0' r1' r2' q0' q1' q2'
   go_wp2_with fail
   refine RB.out.mono ?_
   rintro e w6 ⟨u0,u1,u2,rfl,t6,b6⟩
   obtain ⟨_,_,_,a6,c6,e6,rfl,rfl,rfl,_,_⟩:=t6.form
   have R6:Row3 w6 (H+1) (.int .i64 0) (.string ⟨#[]⟩) (.slice none 0 0):=HR5.out.below b6 HR5.out.lt
   have HR6:=qh R6
   have HB6:=qh (HB5.out.trans (b6.mono (by have:=HZ5.out;omega)))
   have T6:=qh t6
   obtain ⟨⟨r0,r1,r2⟩,q0,q1,q2⟩:=R6.cells
   clear R6 b6 t6 RB n0 n1 n2
   go_wp2
   refine ret_node2 (HR6.out.put _ _ _) rfl rfl rfl rfl ?_
   obtain ⟨rfl,rfl⟩:=hE.out
   refine ⟨_,_,_,rfl,(T6.out.keep (S':=fun _=>True) (fun b (h1:W5.heap.size≤b) _=>⟨?_,trivial⟩)).toR,by rw [HH.out];exact below_put3 HB6.out (by omega) _ _ _⟩
   have:=HZ5.out
   exact (Below.heap_setCell _ _ _ _ (by simp only;omega)).trans ((Below.heap_setCell _ _ _ _ (by simp only;omega)).trans (Below.heap_setCell _ _ _ _ (by simp only;omega)))
 ·have hc1:(c==0)=false:=by simp [hc0]
  have hE:Hid (er=c∧tr=zeroN):=qh (by
   rcases HAS.out with h | h | h
   ·exact h.2
   ·exact absurd h.1 hc0
   ·exact absurd h.1 hc0)
  clear n0' n1' n2'
  go_wp2
  refine ret_node2 (HR3.out.put _ _ _) rfl rfl rfl rfl ?_
  obtain ⟨rfl,rfl⟩:=hE.out
  exact ⟨_,_,_,rfl,zero_ndr _,by rw [HH.out];exact below_put3 HB3.out (by omega) _ _ _⟩
end Go.Proofs.YtgikhpmdpppenaaGreatDoor
namespace Go.Proofs.YtgikhpmdpppenaaGreatDoor
open Go.RowKit Go.Shelf
attribute [local go_sem] Oper.semAt_some
theorem NdS.lts {S:Nat→Prop} {w:World} {t:Nd} {v0 v1 v2:Value} (h:NdS S w t v0 v1 v2):NdS (fun b=>S b∧b < w.heap.size) w t v0 v1 v2:=NdS.mono (fun _ h1 h2=>⟨h1,h2⟩) h
def PRS (S:Nat→Prop) (er:Int) (tr:Nd) (W:World) (e:Ending) (W':World):Prop :=
 ∃ u0 u1 u2,e = .returned (.tuple #[.agg #[u0,u1,u2],.int .i64 er])∧NdS S W' tr u0 u1 u2∧Below W.heap.size W W'
set_option maxRecDepth 100000 in
set_option maxHeartbeats 1000000 in
theorem checked_any (S:Nat→Prop) (t:Nd) (v0 v1 v2:Value) (w:World) (ht:NdS S w t v0 v1 v2) (er:Int) (tr:Nd) (hc:chkN t=er) (hA:(er≠0∧tr=zeroN)∨(er=0∧tr=t)) :
  Calls Tryz.prog 72 #[.agg #[v0,v1,v2]] w (PRS S er tr w):=by
 obtain ⟨k0,s0,l0,a0,c0,rfl,rfl,rfl,rfl,_,_⟩:=ht.form
 obtain ⟨H,hH⟩:∃ H,w.heap.size=H:=⟨_,rfl⟩
 obtain ⟨W2,hW2⟩:∃ W2,(w.alloc (.cells #[.int .i64 k0,.string s0,.slice a0 l0.length c0] 24)).alloc (.cells #[.int .i64 0,.string ⟨#[]⟩,.slice none 0 0] 24)=W2:=⟨_,rfl⟩
 have z2:W2.heap.size=H+1+1:=by rw [←hW2];simp [hH]
 have B2:Below H w W2:=by rw [←hW2,←hH];exact ((Below.refl _ w).alloc (Nat.le_refl _) _).alloc (by simp) _
 have N2:Row3 W2 H (.int .i64 k0) (.string s0) (.slice a0 l0.length c0):=by
  rw [←hW2,←hH];exact (Below.heap_alloc _ _ _ (by simp)).trans (World.alloc_heap_new _ _)
 have R2:Row3 W2 (H+1) (.int .i64 0) (.string ⟨#[]⟩) (.slice none 0 0):=by rw [←hW2,←hH];exact alloc_at (by simp)
 have CK:=qh (check_tree _ W2 _ _ _ (ht.toR.later (by rw [hH];exact B2)))
 rw [hc] at CK
 have HT:=qh (NdS.lts ht)
 have HH:=qh hH
 have HZ:=qh z2
 have HAS:=qh hA
 have HB2:=qh B2
 have HN2:=qh N2
 have HR2:=qh R2
 obtain ⟨⟨n0,n1,n2⟩,_⟩:=N2.cells
 clear ht hc hA B2 N2 R2
 go_enter Tryz.func72,Tryz.ntmps72
 go_upto_region 1 with fail
 (try rw [hW2])
 (try rw [HH.out])
 clear hW2
 go_wp2_with fail
 refine CK.out.mono ?_
 rintro e w3 ⟨rfl,b3⟩
 have zz:=HZ.out
 have N3:Row3 w3 H (.int .i64 k0) (.string s0) (.slice a0 l0.length c0):=HN2.out.below b3 HN2.out.lt
 have R3:Row3 w3 (H+1) (.int .i64 0) (.string ⟨#[]⟩) (.slice none 0 0):=HR2.out.below b3 HR2.out.lt
 have HB3:=qh (HB2.out.trans (b3.mono (by omega)))
 obtain ⟨⟨n0',n1',n2'⟩,_⟩:=N3.cells
 obtain ⟨⟨r0,r1,r2⟩,q0,q1,q2⟩:=R3.cells
 have HR3:=qh R3
 clear n0 n1 n2 N3 R3 CK HN2 HR2 HB2
 by_cases hc0:er=0
 ·subst hc0
  have hE:Hid (tr = .mk k0 s0 l0):=qh (by
   rcases HAS.out with h | h
   ·exact absurd rfl h.1
   ·exact h.2)
  go_wp2
  refine ret_node2 (HR3.out.put _ _ _) rfl rfl rfl rfl ?_
  refine ⟨_,_,_,rfl,?_,by rw [HH.out];exact below_put3 HB3.out (by omega) _ _ _⟩
  rw [hE.out]
  have hh:=HH.out
  exact HT.out.keep (S':=S) (fun b (h1:S b∧b < w.heap.size) _=>⟨(below_put3 HB3.out (show H≤H+1 by omega) _ _ _).block b (by omega),h1.1⟩)
 ·have hc1:(er==0)=false:=by simp [hc0]
  have hE:Hid (tr=zeroN):=qh (by
   rcases HAS.out with h | h
   ·exact h.2
   ·exact absurd h.1 hc0)
  clear n0' n1' n2'
  go_wp2
  refine ret_node2 (HR3.out.put _ _ _) rfl rfl rfl rfl ?_
  rw [hE.out]
  exact ⟨_,_,_,rfl,NdS.leaf _ _ _ _ (by decide) _ _,by rw [HH.out];exact below_put3 HB3.out (by omega) _ _ _⟩
theorem put1_all (W:World) (pb xb:Nat) (path:List Int) (vpath:Value) (x:Nd) (x0 x1 x2:Value) (hpb:W.heap[pb]?=some (.cells #[vpath] 46 (0,0))) (hpp:PathR W vpath path) (hxb:Row3 W xb x0 x1 x2) (hx:NdR W x x0 x1 x2)
  (n₁ H:Nat) (A:World) (vp vi v0 v1 v2:Value) (ps:List Value) (ins:List ByteArray) (wd:Bool) (t:Nd) (hn:W.heap.size≤n₁) (hnH:n₁≤H) (hH:H≤A.heap.size) (hb:Below W.heap.size W A) (hp:RowI n₁ A vp ps) (hi:RowS n₁ A vi ins) (hpl:ps.length≤90000) (ht:NdO (fun b=>b < H) vp vi A t v0 v1 v2) (hP:PPut ps ins wd t) :
  Calls Tryz.prog 84 (#[.agg #[vp,vi,.bool wd],.agg #[v0,v1,v2]]++#[.pointer (some ⟨pb,0,none⟩),.pointer (some ⟨xb,0,none⟩)]) A fun e W'=>∃ u0 u1 u2,e = .returned (.agg #[u0,u1,u2])∧NdO (fun b=>b < H∨A.heap.size≤b) vp vi W' (chPut path x ps ins wd t) u0 u1 u2∧Below A.heap.size A W':=by
 obtain ⟨q,rfl⟩:=hP
 obtain ⟨k,s,l,a,c,rfl,rfl,rfl,rfl,_,_⟩:=ht.form
 obtain ⟨kx,sx,lx,ax,cx,rfl,rfl,rfl,rfl,_,_⟩:=hx.form
 have hownp:=fun g e=>(World.ownsRow.lt hp g e).1
 have howni:=fun g e=>(World.ownsRow.lt hi g e).1
 obtain ⟨ap,cp,hvp⟩:=row_shape hp
 obtain ⟨ai,ci,hvi⟩:=row_shape hi
 rw [List.length_map] at hvp hvi
 subst hvp hvi
 have hql:q.length≤maxLen:=by rw [List.length_map] at hpl;unfold maxLen;omega
 refine (put1_any pb xb path q vpath kx k sx s lx.length l.length cx c cp ins.length ci ax a ap ai wd A ((hb.block _ (lt_of_heap hpb)).trans hpb) (hpp.later hb) ((hb.block _ hxb.lt).trans hxb) (PathR.ofRow hp hql) (decide (q=path)) rfl).mono ?_
 rintro e w' ⟨rfl,hb'⟩
 by_cases hq:q=path
 ·rw [decide_eq_true hq,if_pos rfl]
  refine ⟨_,_,_,rfl,?_,hb'⟩
  unfold chPut
  rw [intsOf_intV,if_pos hq]
  exact NdS.keep (fun b (h1:b < W.heap.size) _=>⟨(hb'.block b (by have:=hb.size;omega)).trans (hb.block b h1),⟨fun e=>by have:=hownp b e;omega,fun e=>by have:=howni b e;omega⟩,Or.inl (by omega)⟩) hx.toS
 ·rw [decide_eq_false hq,if_neg (by simp)]
  refine ⟨_,_,_,rfl,?_,hb'⟩
  unfold chPut
  rw [intsOf_intV,if_neg hq]
  exact NdS.keep (fun b (h1:((Value.slice ap q.length cp).ownBlock≠some b∧(Value.slice ai ins.length ci).ownBlock≠some b)∧b < H) _=>⟨hb'.block b (by omega),h1.1,Or.inl h1.2⟩) ht
end Go.Proofs.YtgikhpmdpppenaaGreatDoor
namespace Go.Proofs.YtgikhpmdpppenaaGreatDoor
open Go.RowKit Go.Shelf
attribute [local go_sem] Oper.semAt_some
def PutS (cn cx:Int) (r:Option Nd) (cp:Int) (pt:Nd) (er:Int) (tr:Nd):Prop :=
 (cn≠0∧er=cn∧tr=zeroN)∨(cn=0∧cx≠0∧er=cx∧tr=zeroN)∨(cn=0∧cx=0∧r=none∧er=3∧tr=zeroN)∨(cn=0∧cx=0∧r≠none∧cp=er∧((er≠0∧tr=zeroN)∨(er=0∧tr=pt)))
set_option maxRecDepth 100000 in
set_option maxHeartbeats 2000000 in
theorem putTree_any (t x:Nd) (v0 v1 v2 vp x0 x1 x2:Value) (p:List Int) (w:World) (ht:NdR w t v0 v1 v2) (hp:PathR w vp p) (hx:NdR w x x0 x1 x2) (er:Int) (tr:Nd) (hA:PutS (chkN t) (chkN x) (goN t p) (chkN (putN t p x)) (putN t p x) er tr) :
  Calls Tryz.prog 30 #[.agg #[v0,v1,v2],vp,.agg #[x0,x1,x2]] w (PR er tr w):=by
 obtain ⟨k0,s0,l0,a0,c0,rfl,rfl,rfl,rfl,_,_⟩:=ht.form
 obtain ⟨kx,sx,lx,ax,c9,rfl,rfl,rfl,rfl,_,_⟩:=hx.form
 obtain ⟨c,hc⟩:∃ c,chkN (.mk k0 s0 l0)=c:=⟨_,rfl⟩
 obtain ⟨d,hd⟩:∃ d,chkN (.mk kx sx lx)=d:=⟨_,rfl⟩
 obtain ⟨r,hr⟩:∃ r,goN (.mk k0 s0 l0) p=r:=⟨_,rfl⟩
 obtain ⟨pt,hpt⟩:∃ pt,putN (.mk k0 s0 l0) p (.mk kx sx lx)=pt:=⟨_,rfl⟩
 have hvp:∃ b1 c1,vp = .slice b1 p.length c1:=by obtain ⟨_,_,_,c1,b1,e,_⟩:=hp;exact ⟨b1,c1,e⟩
 obtain ⟨b1,c1,rfl⟩:=hvp
 obtain ⟨H,hH⟩:∃ H,w.heap.size=H:=⟨_,rfl⟩
 obtain ⟨W4,hW4⟩:∃ W4,(((w.alloc (.cells #[.int .i64 k0,.string s0,.slice a0 l0.length c0] 24)).alloc (.cells #[.slice b1 p.length c1] 46)).alloc (.cells #[.int .i64 kx,.string sx,.slice ax lx.length c9] 24)).alloc (.cells #[.int .i64 0,.string ⟨#[]⟩,.slice none 0 0] 24)=W4:=⟨_,rfl⟩
 have z4:W4.heap.size=H+1+1+1+1:=by rw [←hW4];simp [hH]
 have B4:Below H w W4:=by rw [←hW4,←hH];exact ((((Below.refl _ w).alloc (Nat.le_refl _) _).alloc (by simp) _).alloc (by simp only [World.size_alloc];omega) _).alloc (by simp only [World.size_alloc];omega) _
 have N4:Row3 W4 H (.int .i64 k0) (.string s0) (.slice a0 l0.length c0):=by
  rw [←hW4,←hH];exact (Below.heap_alloc _ _ _ (by simp only [World.size_alloc];omega)).trans ((Below.heap_alloc _ _ _ (by simp only [World.size_alloc];omega)).trans ((Below.heap_alloc _ _ _ (by simp only [World.size_alloc];omega)).trans (World.alloc_heap_new _ _)))
 have P4:W4.heap[H+1]?=some (.cells #[.slice b1 p.length c1] 46 (0,0)):=by
  rw [←hW4,←hH];exact (Below.heap_alloc _ _ _ (by simp only [World.size_alloc];omega)).trans ((Below.heap_alloc _ _ _ (by simp only [World.size_alloc];omega)).trans (alloc_at (by simp)))
 have X4:Row3 W4 (H+1+1) (.int .i64 kx) (.string sx) (.slice ax lx.length c9):=by
  rw [←hW4,←hH];exact (Below.heap_alloc _ _ _ (by simp only [World.size_alloc];omega)).trans (alloc_at (by simp))
 have R4:Row3 W4 (H+1+1+1) (.int .i64 0) (.string ⟨#[]⟩) (.slice none 0 0):=by rw [←hW4,←hH];exact alloc_at (by simp)
 have CK:=qh (fun W (hb:Below H w W)=>check_tree _ W _ _ _ (ht.later (by rw [hH];exact hb)))
 have CX:=qh (fun W (hb:Below H w W)=>check_tree _ W _ _ _ (hx.later (by rw [hH];exact hb)))
 rw [hc] at CK hA
 rw [hd] at CX hA
 rw [hr,hpt] at hA
 have HT:=qh ht
 have HX:=qh hx
 have HP:=qh hp
 have HH:=qh hH
 have HZ:=qh z4
 have HC:=qh hc
 have HD:=qh hd
 have HR:=qh hr
 have HPT:=qh hpt
 have HAS:=qh hA
 have HB4:=qh B4
 have HN4:=qh N4
 have HP4:=qh P4
 have HX4:=qh X4
 have HR4:=qh R4
 obtain ⟨⟨n0,n1,n2⟩,_⟩:=N4.cells
 clear ht hp hx hc hd hr hpt hA B4 N4 P4 X4 R4
 go_enter Tryz.func30,Tryz.ntmps30
 go_upto_region 1 with fail
 (try rw [hW4])
 (try rw [HH.out])
 clear hW4
 go_wp2_with fail
 refine (CK.out _ HB4.out).mono ?_
 rintro e w5 ⟨rfl,b5⟩
 have zz:=HZ.out
 have HB5:=qh (HB4.out.trans (b5.mono (show H≤W4.heap.size by omega)))
 have hz5:H+1+1+1+1≤w5.heap.size:=by have:=b5.size;omega
 have R5:Row3 w5 (H+1+1+1) (.int .i64 0) (.string ⟨#[]⟩) (.slice none 0 0):=HR4.out.below b5 HR4.out.lt
 have HR5:=qh R5
 have X5:Row3 w5 (H+1+1) (.int .i64 kx) (.string sx) (.slice ax lx.length c9):=HX4.out.below b5 HX4.out.lt
 obtain ⟨⟨r0,r1,r2⟩,q0,q1,q2⟩:=R5.cells
 obtain ⟨⟨x0,x1,x2⟩,_⟩:=X5.cells
 have Hb5:=qh b5
 clear R5 X5 b5 n0 n1 n2 CK
 by_cases hc0:c=0
 ·subst hc0
  go_wp2_with fail
  refine (CX.out _ HB5.out).mono ?_
  rintro e w6 ⟨rfl,b6⟩
  have HB6:=qh (HB5.out.trans (b6.mono (show H≤w5.heap.size by omega)))
  have Hb6:=qh (Hb5.out.trans (b6.mono Hb5.out.size))
  have hz6:H+1+1+1+1≤w6.heap.size:=by have:=b6.size;omega
  have R6:Row3 w6 (H+1+1+1) (.int .i64 0) (.string ⟨#[]⟩) (.slice none 0 0):=HR5.out.below b6 HR5.out.lt
  have HR6:=qh R6
  have N6:Row3 w6 H (.int .i64 k0) (.string s0) (.slice a0 l0.length c0):=HN4.out.below Hb6.out HN4.out.lt
  have p6:w6.cell? ⟨H+1,0,none⟩=some (.slice b1 p.length c1):=cell_of_row _ _ _ _ _ _ ((Hb6.out.block _ (by omega)).trans HP4.out)
  obtain ⟨⟨r0',r1',r2'⟩,q0',q1',q2'⟩:=R6.cells
  obtain ⟨⟨n0,n1,n2⟩,_⟩:=N6.cells
  clear R6 N6 b6 CX r0 r1 r2 q0 q1 q2 x0 x1 x2 HR5
  by_cases hd0:d=0
  ·subst hd0
   have FW:=qh (follow_any _ _ _ _ _ p w6 (HT.out.later (by rw [HH.out];exact HB6.out)) (HP.out.later (by rw [HH.out];exact HB6.out)) r HR.out)
   go_wp2_with fail
   refine FW.out.mono ?_
   rintro e w7 ⟨b7,h7⟩
   have HB7:=qh (HB6.out.trans (b7.mono (show H≤w6.heap.size by omega)))
   have Hb7:=qh (Hb6.out.trans (b7.mono Hb6.out.size))
   have hz7:H+1+1+1+1≤w7.heap.size:=by have:=b7.size;omega
   have R7:Row3 w7 (H+1+1+1) (.int .i64 0) (.string ⟨#[]⟩) (.slice none 0 0):=HR6.out.below b7 HR6.out.lt
   have HR7:=qh R7
   have Hb67:=qh b7
   clear R7 b7 FW n0 n1 n2 p6 r0' r1' r2' q0' q1' q2' HR6
   cases r with
   | none =>
    obtain rfl:=h7
    have hE:Hid (er=3∧tr=zeroN):=qh (by
     rcases HAS.out with h | h | h | h
     ·exact absurd rfl h.1
     ·exact absurd rfl h.2.1
     ·exact h.2.2.2
     ·exact absurd rfl h.2.2.1)
    obtain ⟨Y,hY⟩:∃ Y,w7.heap.size=Y:=⟨_,rfl⟩
    obtain ⟨W5,hW5⟩:∃ W5,w7.alloc (.cells #[.int .i64 0,.string ⟨#[]⟩,.slice none 0 0] 24)=W5:=⟨_,rfl⟩
    have N5:Row3 W5 Y (.int .i64 0) (.string ⟨#[]⟩) (.slice none 0 0):=by rw [←hW5,←hY];exact Row3.new _ _ _ _
    obtain ⟨W6,hW6⟩:∃ W6,((W5.setCell ⟨Y,0,none⟩ (.int .i64 0)).setCell ⟨Y,1,none⟩ (.string ⟨#[]⟩)).setCell ⟨Y,2,none⟩ (.slice none 0 0)=W6:=⟨_,rfl⟩
    have R5:Row3 W6 (H+1+1+1) (.int .i64 0) (.string ⟨#[]⟩) (.slice none 0 0):=by
     rw [←hW6,←hW5];exact (((HR7.out.alloc _).other _ (by simp only;omega)).other _ (by simp only;omega)).other _ (by simp only;omega)
    have HR5:=qh R5
    have HB5':Hid (Below H w W6):=qh (by rw [←hW6,←hW5];exact below_put3 (HB7.out.alloc (by omega) _) (by omega) _ _ _)
    obtain ⟨⟨r0,r1,r2⟩,q0,q1,q2⟩:=R5.cells
    obtain ⟨⟨n0,n1,n2⟩,m0,m1,m2⟩:=N5.cells
    clear R5 N5
    go_wp2
    refine ret_node2 (HR5.out.put _ _ _) rfl rfl rfl rfl ?_
    obtain ⟨rfl,rfl⟩:=hE.out
    exact ⟨_,_,_,rfl,zero_ndr _,by rw [HH.out];exact below_put3 HB5'.out (by omega) _ _ _⟩
   | some t' =>
    obtain ⟨u0,u1,u2,rfl,hu⟩:=h7
    have hE:Hid (chkN pt=er∧((er≠0∧tr=zeroN)∨(er=0∧tr=pt))):=qh (by
     rcases HAS.out with h | h | h | h
     ·exact absurd rfl h.1
     ·exact absurd rfl h.2.1
     ·cases h.2.2.1
     ·exact h.2.2.2)
    obtain ⟨k1,s1,l1,a1,c1',rfl,rfl,rfl,rfl,_,_⟩:=hu.form
    have hsx:=valid_facts HD.out
    have hst:=valid_facts HC.out
    have hpf:=put_sm _ hsx.1 p _ hst.1
    rw [HPT.out] at hpf
    have hsz1:=chk_sz HC.out
    have hsz2:=chk_sz HD.out
    obtain ⟨W5,hW5⟩:∃ W5,w7.alloc (.cells #[.int .i64 k1,.string s1,.slice a1 l1.length c1'] 24)=W5:=⟨_,rfl⟩
    have b75:Below w7.heap.size w7 W5:=by rw [←hW5];exact (Below.refl _ _).alloc (Nat.le_refl _) _
    have Hb45:=qh (Hb7.out.trans (b75.mono Hb7.out.size))
    have HBw5:=qh (HB7.out.trans (b75.mono (show H≤w7.heap.size by omega)))
    have hz8:H+1+1+1+1≤W5.heap.size:=by have:=b75.size;omega
    have N5:Row3 W5 H (.int .i64 k0) (.string s0) (.slice a0 l0.length c0):=HN4.out.below Hb45.out HN4.out.lt
    have P5:=(Hb45.out.block (H+1) (by omega)).trans HP4.out
    have X5:Row3 W5 (H+1+1) (.int .i64 kx) (.string sx) (.slice ax lx.length c9):=HX4.out.below Hb45.out HX4.out.lt
    have R5:Row3 W5 (H+1+1+1) (.int .i64 0) (.string ⟨#[]⟩) (.slice none 0 0):=HR4.out.below Hb45.out HR4.out.lt
    have HR5:=qh R5
    have hbld:Bld PPut (chPut p (.mk kx sx lx)) [] [] false (.mk k0 s0 l0) pt:=by
     have:=bld_put (path:=p) (x:=.mk kx sx lx) p [] (.mk k0 s0 l0) rfl (by rw [HR.out];simp) [] false
     rw [HPT.out] at this
     exact this
    have hxl:=HX.out.later (w':=W5) (by rw [HH.out];exact HBw5.out)
    have hpl:=HP.out.later (w':=W5) (by rw [HH.out];exact HBw5.out)
    have RB:=qh (rebuild_any 84 #[.pointer (some ⟨H+1,0,none⟩),.pointer (some ⟨H+1+1,0,none⟩)] W5 (fun A=>Below W5.heap.size W5 A) PPut (chPut p (.mk kx sx lx)) (fun _ _=>rfl) (fun A B h1 h2=>h1.trans h2) (fun n₁ H' A vp vi v0 v1 v2 ps ins wd t h1 h2 h3 h4 h5 h6 _ h8 h9 h10=>put1_all W5 (H+1) (H+1+1) p _ (.mk kx sx lx) _ _ _ P5 hpl X5 hxl n₁ H' A vp vi v0 v1 v2 ps ins wd t h1 h2 h3 h4 h5 h6 h8 h9 h10) _ _ hbld _ _ _ (Below.refl _ _) (HT.out.later (by rw [HH.out];exact HBw5.out)) (by omega) hpf.1)
    obtain ⟨⟨n0,n1,n2⟩,_⟩:=N5.cells
    clear R5 N5 P5 X5 b75 hpf hsx hst hsz1 hsz2 hu hbld hxl hpl
    go_wp2_with fail
    refine RB.out.mono ?_
    rintro e w8 ⟨u0,u1,u2,rfl,t8,b8⟩
    have CH:=qh (checked_any _ pt _ _ _ w8 t8 er tr hE.out.1 hE.out.2)
    obtain ⟨_,_,_,a6,c6,e6,rfl,rfl,rfl,_,_⟩:=t8.form
    have HB8:=qh (HBw5.out.trans (b8.mono (show H≤W5.heap.size by omega)))
    have R8:Row3 w8 (H+1+1+1) (.int .i64 0) (.string ⟨#[]⟩) (.slice none 0 0):=HR5.out.below b8 HR5.out.lt
    have HR8:=qh R8
    have hz9:H+1+1+1+1≤w8.heap.size:=by have:=b8.size;omega
    clear R8 b8 t8 RB n0 n1 n2
    go_wp2_with fail
    refine CH.out.mono ?_
    rintro e w9 ⟨u0,u1,u2,rfl,t9,b9⟩
    obtain ⟨_,_,_,a7,c7,e7,rfl,rfl,rfl,_,_⟩:=t9.form
    have R9:Row3 w9 (H+1+1+1) (.int .i64 0) (.string ⟨#[]⟩) (.slice none 0 0):=HR8.out.below b9 HR8.out.lt
    have HR9:=qh R9
    have HB9:=qh (HB8.out.trans (b9.mono (show H≤w8.heap.size by omega)))
    have T9:=qh t9
    obtain ⟨⟨r0,r1,r2⟩,q0,q1,q2⟩:=R9.cells
    clear R9 b9 t9 CH
    go_wp2
    refine ret_node2 (HR9.out.put _ _ _) rfl rfl rfl rfl ?_
    refine ⟨_,_,_,rfl,?_,by rw [HH.out];exact below_put3 HB9.out (by omega) _ _ _⟩
    exact (T9.out.keep (S':=fun _=>True) (fun b (h1:W5.heap.size≤b) _=>⟨(Below.heap_setCell _ _ _ _ (by simp only;omega)).trans ((Below.heap_setCell _ _ _ _ (by simp only;omega)).trans (Below.heap_setCell _ _ _ _ (by simp only;omega))),trivial⟩)).toR
  ·have hd1:(d==0)=false:=by simp [hd0]
   have hE:Hid (er=d∧tr=zeroN):=qh (by
    rcases HAS.out with h | h | h | h
    ·exact absurd rfl h.1
    ·exact h.2.2
    ·exact absurd h.2.1 hd0
    ·exact absurd h.2.1 hd0)
   clear n0 n1 n2 p6
   go_wp2
   refine ret_node2 (HR6.out.put _ _ _) rfl rfl rfl rfl ?_
   obtain ⟨rfl,rfl⟩:=hE.out
   exact ⟨_,_,_,rfl,zero_ndr _,by rw [HH.out];exact below_put3 HB6.out (by omega) _ _ _⟩
 ·have hc1:(c==0)=false:=by simp [hc0]
  have hE:Hid (er=c∧tr=zeroN):=qh (by
   rcases HAS.out with h | h | h | h
   ·exact h.2
   ·exact absurd h.1 hc0
   ·exact absurd h.1 hc0
   ·exact absurd h.1 hc0)
  clear x0 x1 x2 CX
  go_wp2
  refine ret_node2 (HR5.out.put _ _ _) rfl rfl rfl rfl ?_
  obtain ⟨rfl,rfl⟩:=hE.out
  exact ⟨_,_,_,rfl,zero_ndr _,by rw [HH.out];exact below_put3 HB5.out (by omega) _ _ _⟩
end Go.Proofs.YtgikhpmdpppenaaGreatDoor
namespace Go.Proofs.YtgikhpmdpppenaaGreatDoor
open Go.RowKit Go.Shelf
def Row4 (W:World) (b:Nat) (v0 v1 v2 v3:Value):Prop:=W.heap[b]?=some (.cells #[v0,v1,v2,v3] 40 (0,0))
section
variable {W W':World} {b:Nat} {v0 v1 v2 v3:Value}
theorem Row4.lt (h:Row4 W b v0 v1 v2 v3):b < W.heap.size:=heap_lt h
theorem Row4.below {n:Nat} (h:Row4 W b v0 v1 v2 v3) (hb:Below n W W') (hn:b < n):Row4 W' b v0 v1 v2 v3:=(hb.block b hn).trans h
theorem Row4.other (h:Row4 W b v0 v1 v2 v3) {p:Addr} (u:Value) (hn:b≠p.block):Row4 (W.setCell p u) b v0 v1 v2 v3:=(Below.heap_setCell _ _ _ _ hn).trans h
theorem Row4.cells (h:Row4 W b v0 v1 v2 v3):(W.cell? ⟨b,0,none⟩=some v0∧W.cell? ⟨b,1,none⟩=some v1∧W.cell? ⟨b,2,none⟩=some v2∧W.cell? ⟨b,3,none⟩=some v3)∧W.frozen? ⟨b,0,none⟩=false∧W.frozen? ⟨b,1,none⟩=false∧W.frozen? ⟨b,2,none⟩=false∧W.frozen? ⟨b,3,none⟩=false :=
 ⟨⟨cell_of_row _ _ _ _ _ _ h,cell_of_row _ _ _ _ _ _ h,cell_of_row _ _ _ _ _ _ h,cell_of_row _ _ _ _ _ _ h⟩,frozen_of_row _ _ _ _ _ h,frozen_of_row _ _ _ _ _ h,frozen_of_row _ _ _ _ _ h,frozen_of_row _ _ _ _ _ h⟩
abbrev put4 (W:World) (b:Nat) (u0 u1 u2 u3:Value):World:=(((W.setCell ⟨b,0,none⟩ u0).setCell ⟨b,1,none⟩ u1).setCell ⟨b,2,none⟩ u2).setCell ⟨b,3,none⟩ u3
theorem Row4.put (h:Row4 W b v0 v1 v2 v3) (u0 u1 u2 u3:Value):Row4 (put4 W b u0 u1 u2 u3) b u0 u1 u2 u3:=by
 have h0:W.heap[b]?=some (.cells #[v0,v1,v2,v3] 40 (0,0)):=h
 exact (setCell_row (setCell_row (setCell_row (setCell_row h0)))).trans rfl
theorem far4 {H:Nat} (u0 u1 u2 u3:Value) (hb:b≠H):(put4 W H u0 u1 u2 u3).heap[b]?=W.heap[b]? :=
 (Below.heap_setCell _ _ _ _ (by simp only;exact hb)).trans ((Below.heap_setCell _ _ _ _ (by simp only;exact hb)).trans ((Below.heap_setCell _ _ _ _ (by simp only;exact hb)).trans (Below.heap_setCell _ _ _ _ (by simp only;exact hb))))
theorem below_put4 {h H:Nat} {w:World} (hb:Below h w W) (hH:h≤H) (u0 u1 u2 u3:Value):Below h w (put4 W H u0 u1 u2 u3):=(below_put3 hb hH u0 u1 u2).setCell (p:=⟨H,3,none⟩) hH _
theorem ret_made {fn:Func} {t:Nat} {a:Act} {R:Ending→World→Prop} (h:Row4 W b v0 v1 v2 v3) (hr:fn.results=#[ResultVar.cell t 40]) (hd:a.defers=[]) (ha:(a.tmps[t]?).getD undef = .pointer (some ⟨b,0,none⟩))
  (hR:R (.returned (.agg #[v0,v1,v2,v3])) W):bodyPost Tryz.prog fn R .ret a W:=by
 obtain ⟨⟨c0,c1,c2,c3⟩,_⟩:=h.cells
 exact bodyPost_ret (v:=.agg #[v0,v1,v2,v3]) (by simp [results,hr,go_sem,ha,c0,c1,c2,c3]) hd hR
end
def MR (er:Int) (tr:Nd) (W:World) (e:Ending) (W':World):Prop :=
 ∃ u0 u1 u2,e = .returned (.agg #[u0,u1,u2,.int .i64 er])∧NdR W' tr u0 u1 u2∧Below W.heap.size W W'
end Go.Proofs.YtgikhpmdpppenaaGreatDoor
namespace Go.Proofs.YtgikhpmdpppenaaGreatDoor
open Go.RowKit Go.Shelf
attribute [local go_sem] Oper.semAt_some
def MRS (S:Nat→Prop) (er:Int) (tr:Nd) (W:World) (e:Ending) (W':World):Prop :=
 ∃ u0 u1 u2,e = .returned (.agg #[u0,u1,u2,.int .i64 er])∧NdS S W' tr u0 u1 u2∧Below W.heap.size W W'
set_option maxRecDepth 100000 in
set_option maxHeartbeats 1000000 in
theorem rChecked_any (S:Nat→Prop) (t:Nd) (v0 v1 v2:Value) (w:World) (ht:NdS S w t v0 v1 v2) (er:Int) (tr:Nd) (hc:chkN t=er) (hA:(er≠0∧tr=zeroN)∨(er=0∧tr=t)) :
  Calls Tryz.prog 78 #[.agg #[v0,v1,v2]] w (MRS S er tr w):=by
 obtain ⟨k0,s0,l0,a0,c0,rfl,rfl,rfl,rfl,_,_⟩:=ht.form
 obtain ⟨H,hH⟩:∃ H,w.heap.size=H:=⟨_,rfl⟩
 obtain ⟨W2,hW2⟩:∃ W2,(w.alloc (.cells #[.int .i64 k0,.string s0,.slice a0 l0.length c0] 24)).alloc (.cells #[.int .i64 0,.string ⟨#[]⟩,.slice none 0 0,.int .i64 0] 40)=W2:=⟨_,rfl⟩
 have z2:W2.heap.size=H+1+1:=by rw [←hW2];simp [hH]
 have B2:Below H w W2:=by rw [←hW2,←hH];exact ((Below.refl _ w).alloc (Nat.le_refl _) _).alloc (by simp) _
 have N2:Row3 W2 H (.int .i64 k0) (.string s0) (.slice a0 l0.length c0):=by
  rw [←hW2,←hH];exact (Below.heap_alloc _ _ _ (by simp)).trans (World.alloc_heap_new _ _)
 have R2:Row4 W2 (H+1) (.int .i64 0) (.string ⟨#[]⟩) (.slice none 0 0) (.int .i64 0):=by rw [←hW2,←hH];exact alloc_at (by simp)
 have CK:=qh (rCheckN _ W2 _ _ _ (ht.toR.later (by rw [hH];exact B2)))
 rw [hc] at CK
 have HT:=qh (NdS.lts ht)
 have HH:=qh hH
 have HZ:=qh z2
 have HAS:=qh hA
 have HB2:=qh B2
 have HN2:=qh N2
 have HR2:=qh R2
 obtain ⟨⟨n0,n1,n2⟩,_⟩:=N2.cells
 clear ht hc hA B2 N2 R2
 go_enter Tryz.func78,Tryz.ntmps78
 go_upto_region 1 with fail
 (try rw [hW2])
 (try rw [HH.out])
 clear hW2
 go_wp2_with fail
 refine CK.out.mono ?_
 rintro e w3 ⟨rfl,b3⟩
 have zz:=HZ.out
 have N3:Row3 w3 H (.int .i64 k0) (.string s0) (.slice a0 l0.length c0):=HN2.out.below b3 HN2.out.lt
 have R3:Row4 w3 (H+1) (.int .i64 0) (.string ⟨#[]⟩) (.slice none 0 0) (.int .i64 0):=HR2.out.below b3 HR2.out.lt
 have HB3:=qh (HB2.out.trans (b3.mono (by omega)))
 obtain ⟨⟨n0',n1',n2'⟩,_⟩:=N3.cells
 obtain ⟨⟨r0,r1,r2,r3⟩,q0,q1,q2,q3⟩:=R3.cells
 have HR3:=qh R3
 clear n0 n1 n2 N3 R3 CK HN2 HR2 HB2
 by_cases hc0:er=0
 ·subst hc0
  have hE:Hid (tr = .mk k0 s0 l0):=qh (by
   rcases HAS.out with h | h
   ·exact absurd rfl h.1
   ·exact h.2)
  go_wp2
  refine ret_made (HR3.out.put _ _ _ _) rfl rfl rfl ?_
  refine ⟨_,_,_,rfl,?_,by rw [HH.out];exact below_put4 HB3.out (by omega) _ _ _ _⟩
  rw [hE.out]
  have hh:=HH.out
  exact HT.out.keep (S':=S) (fun b (h1:S b∧b < w.heap.size) _=>⟨(below_put4 HB3.out (show H≤H+1 by omega) _ _ _ _).block b (by omega),h1.1⟩)
 ·have hc1:(er==0)=false:=by simp [hc0]
  have hE:Hid (tr=zeroN):=qh (by
   rcases HAS.out with h | h
   ·exact h.2
   ·exact absurd h.1 hc0)
  clear n0' n1' n2'
  go_wp2
  refine ret_made (HR3.out.put _ _ _ _) rfl rfl rfl ?_
  rw [hE.out]
  exact ⟨_,_,_,rfl,NdS.leaf _ _ _ _ (by decide) _ _,by rw [HH.out];exact below_put4 HB3.out (by omega) _ _ _ _⟩
set_option maxRecDepth 100000 in
set_option maxHeartbeats 2000000 in
theorem rAt_any (t:Nd) (v0 v1 v2 vp:Value) (p:List Int) (w:World) (ht:NdR w t v0 v1 v2) (hp:PathR w vp p) (er:Int) (tr:Nd) (hA:AtS (chkN t) (goN t p) er tr) :
  Calls Tryz.prog 29 #[.agg #[v0,v1,v2],vp] w (MR er tr w):=by
 obtain ⟨k0,s0,l0,a0,c0,rfl,rfl,rfl,rfl,_,_⟩:=ht.form
 obtain ⟨c,hc⟩:∃ c,chkN (.mk k0 s0 l0)=c:=⟨_,rfl⟩
 obtain ⟨r,hr⟩:∃ r,goN (.mk k0 s0 l0) p=r:=⟨_,rfl⟩
 obtain ⟨hpm,b,o,cap,a,rfl,hcap,ha,hcell⟩:=hp
 unfold maxLen at hpm
 obtain ⟨H,hH⟩:∃ H,w.heap.size=H:=⟨_,rfl⟩
 obtain ⟨W2,hW2⟩:∃ W2,(w.alloc (.cells #[.int .i64 k0,.string s0,.slice a0 l0.length c0] 24)).alloc (.cells #[.int .i64 0,.string ⟨#[]⟩,.slice none 0 0,.int .i64 0] 40)=W2:=⟨_,rfl⟩
 have z2:W2.heap.size=H+1+1:=by rw [←hW2];simp [hH]
 have B2:Below H w W2:=by rw [←hW2,←hH];exact ((Below.refl _ w).alloc (Nat.le_refl _) _).alloc (by simp) _
 have N2:Row3 W2 H (.int .i64 k0) (.string s0) (.slice a0 l0.length c0):=by
  rw [←hW2,←hH];exact (Below.heap_alloc _ _ _ (by simp)).trans (World.alloc_heap_new _ _)
 have R2:Row4 W2 (H+1) (.int .i64 0) (.string ⟨#[]⟩) (.slice none 0 0) (.int .i64 0):=by rw [←hW2,←hH];exact alloc_at (by simp)
 have CK:=qh (rCheckN _ W2 _ _ _ (ht.later (by rw [hH];exact B2)))
 rw [hc] at CK hA
 rw [hr] at hA
 have hcell':=qh (show ∀ wr,Below H w wr→∀ j (h:j < p.length),wr.cell? ⟨b,o+j,none⟩=some (.int .i64 p[j]) from fun wr hb j hj=>(hb.cell (p:=⟨b,o+j,none⟩) (by rw [←hH];exact lt_of_cell (hcell j hj))).trans (hcell j hj))
 have HT:=qh ht
 have HA:=qh ha
 have HH:=qh hH
 have HZ:=qh z2
 have HC:=qh hc
 have HR:=qh hr
 have HAS:=qh hA
 have HB2:=qh B2
 have HN2:=qh N2
 have HR2:=qh R2
 obtain ⟨⟨n0,n1,n2⟩,_⟩:=N2.cells
 clear ht ha hcell hc hr hA B2 N2 R2
 go_enter Tryz.func29,Tryz.ntmps29
 go_upto_region 1 with fail
 (try rw [hW2])
 (try rw [HH.out])
 clear hW2
 go_wp2_with fail
 refine CK.out.mono ?_
 rintro e w3 ⟨rfl,b3⟩
 have zz:=HZ.out
 have N3:Row3 w3 H (.int .i64 k0) (.string s0) (.slice a0 l0.length c0):=HN2.out.below b3 HN2.out.lt
 have R3:Row4 w3 (H+1) (.int .i64 0) (.string ⟨#[]⟩) (.slice none 0 0) (.int .i64 0):=HR2.out.below b3 HR2.out.lt
 have HB3:=qh (HB2.out.trans (b3.mono (by omega)))
 clear n0 n1 n2 CK HN2 HR2 HB2
 by_cases hc0:c=0
 ·subst hc0
  have FX:Hid (Below H w w3∧Row4 w3 (H+1) (.int .i64 0) (.string ⟨#[]⟩) (.slice none 0 0) (.int .i64 0)∧∃ k s l a c,Row3 w3 H (.int .i64 k) (.string s) (.slice a l.length c)∧NdR w (.mk k s l) (.int .i64 k) (.string s) (.slice a l.length c)∧r=goN (.mk k s l) (p.drop 0)) :=
   qh ⟨HB3.out,R3,k0,s0,l0,a0,c0,N3,HT.out,by rw [←HR.out];rfl⟩
  clear N3 R3 HR
  go_wp2
  go_loopw [6] (fun v wr=>∃ j:Nat,j≤p.length∧v = .int .i64 j∧Hid (Below H w wr∧Row4 wr (H+1) (.int .i64 0) (.string ⟨#[]⟩) (.slice none 0 0) (.int .i64 0)∧∃ k s l a c,Row3 wr H (.int .i64 k) (.string s) (.slice a l.length c)∧NdR w (.mk k s l) (.int .i64 k) (.string s) (.slice a l.length c)∧r=goN (.mk k s l) (p.drop j))) (fun v _=>p.length - (intOf v).toNat)
  case atStart=>exact ⟨0,Nat.zero_le _,rfl,FX⟩
  case round =>
   obtain ⟨j,hj,rfl,hF⟩:=hrel
   obtain ⟨B,R,k,s,l,a',c,N,T,hgo⟩:=hF.out
   have HB:=qh B
   have HR:=qh R
   have HN:=qh N
   have HT':=qh T
   have HG:=qh hgo
   obtain ⟨⟨n0,n1,n2⟩,m0,m1,m2⟩:=N.cells
   obtain ⟨⟨r0,r1,r2,r3⟩,q0,q1,q2,q3⟩:=R.cells
   have hsz:=N.lt
   clear hF FX B R N T hgo
   by_cases hlt:j < p.length
   ·have hlt':(j:Int) < (p.length:Int):=by omega
    have hj0:(0:Int)≤(j:Int):=by omega
    obtain rfl:=HA.out (by rintro rfl;simp at hlt)
    have pj:=hcell'.out wr HB.out j hlt
    obtain ⟨i,hi⟩:∃ i,p[j]=i:=⟨_,rfl⟩
    rw [hi] at pj
    have hdr:goN (.mk k s l) (p.drop j)=if h:0≤i∧i < (l.length:Int) then goN (l[i.toNat]'(by omega)) (p.drop (j+1)) else none:=by
     rw [←hi,List.drop_eq_getElem_cons hlt,goN]
    have HD:=qh hdr
    clear hi hdr
    have hnE:Hid (r=none→er=3∧tr=zeroN):=qh (fun e=>by
     rcases HAS.out with h | ⟨_,_,h⟩ | ⟨_,h,_⟩
     ·exact absurd rfl h.1
     ·exact h
     ·rw [e] at h;cases h)
    by_cases h1:i < 0
    ·have hd1:decide (i < 0)=true:=by simp [h1]
     have hno:Hid (r=none):=qh (by rw [HG.out,HD.out,dif_neg (by omega)])
     clear HG HD
     go_upto_region 7 with fail
     go_quiet (fail)
     all_goals (try go_wp2)
     refine ret_made ((Row4.put (W:=wr.drewN _) HR.out) _ _ _ _) rfl rfl rfl ?_
     obtain ⟨rfl,rfl⟩:=hnE.out hno.out
     exact ⟨_,_,_,rfl,zero_ndr _,by rw [HH.out];exact below_put4 (below_drewN HB.out _) (by omega) _ _ _ _⟩
    ·have hd1:decide (i < 0)=false:=by simp;omega
     by_cases h2:i < (l.length:Int)
     ·have h2':¬ ((l.length:Int)≤i):=by omega
      have h0':(0:Int)≤i:=by omega
      obtain ⟨m,rfl⟩:=Int.eq_ofNat_of_zero_le h0'
      obtain ⟨b1,o1,k1,s1,l1,a1,c1,rfl,e1,x0,x1,x2,T1⟩:=NdR.kid HT'.out m (by omega)
      have y0:=(HB.out.cell (p:=⟨b1,o1+m*3,none⟩) (by rw [←HH.out];exact lt_of_cell x0)).trans x0
      have y1:=(HB.out.cell (p:=⟨b1,o1+m*3+1,none⟩) (by rw [←HH.out];exact lt_of_cell x1)).trans x1
      have y2:=(HB.out.cell (p:=⟨b1,o1+m*3+2,none⟩) (by rw [←HH.out];exact lt_of_cell x2)).trans x2
      have hnext:Hid (r=goN (.mk k1 s1 l1) (p.drop (j+1))):=qh (by rw [HG.out,HD.out,dif_pos ⟨h0',h2⟩];simp only [Int.toNat_natCast];rw [e1])
      have HT1:=qh T1
      clear HG HD x0 x1 x2 T1 e1 HT'
      go_upto_region 7 with fail
      go_quiet (fail)
      generalize hW1:wr.drewN _=W1
      have b1':Below wr.heap.size wr W1:=by rw [←hW1];exact below_drewN (Below.refl _ _) _
      have N1:Row3 W1 H (.int .i64 k) (.string s) (.slice (some ⟨b1,o1,none⟩) l.length c):=HN.out.below b1' HN.out.lt
      have HB1:=qh (HB.out.trans (b1'.mono (show H≤wr.heap.size by omega)))
      have HR1:Hid (Row4 W1 (H+1) (.int .i64 0) (.string ⟨#[]⟩) (.slice none 0 0) (.int .i64 0)):=qh (HR.out.below b1' HR.out.lt)
      have pj1:=(b1'.cell (p:=⟨b,o+j,none⟩) (lt_of_cell pj)).trans pj
      have z0:=(b1'.cell (p:=⟨b1,o1+m*3,none⟩) (lt_of_cell y0)).trans y0
      have z1:=(b1'.cell (p:=⟨b1,o1+m*3+1,none⟩) (lt_of_cell y1)).trans y1
      have z2':=(b1'.cell (p:=⟨b1,o1+m*3+2,none⟩) (lt_of_cell y2)).trans y2
      have HN1:=qh N1
      clear hW1 b1' y0 y1 y2 pj n0 n1 n2 m0 m1 m2 r0 r1 r2 r3 q0 q1 q2 q3 HB HR HN
      obtain ⟨⟨n0,n1,n2⟩,m0,m1,m2⟩:=N1.cells
      clear N1
      (try go_upto_region 9 with fail)
      go_still_tail 8,(by kernel_rfl)
      change wpList _ _ _ _ _ W1.drew
      go_wp2
      go_roundw
      case rel=>exact ⟨j+1,hlt,by push_cast;rfl,qh ⟨below_put3 (HB1.out.drew) (Nat.le_refl _) _ _ _,(Row4.other (W:=W1.drew) HR1.out _ (by simp only;omega)).other _ (by simp only;omega) |>.other _ (by simp only;omega),k1,s1,l1,a1,c1,Row3.put (W:=W1.drew) HN1.out _ _ _,HT1.out,hnext.out⟩⟩
      case measure=>simp [intOf];omega
     ·have h2':(l.length:Int)≤i:=by omega
      have hno:Hid (r=none):=qh (by rw [HG.out,HD.out,dif_neg (by omega)])
      clear HG HD
      go_upto_region 7 with fail
      go_quiet (fail)
      all_goals (try go_wp2)
      refine ret_made ((Row4.put (W:=wr.drewN _) HR.out) _ _ _ _) rfl rfl rfl ?_
      obtain ⟨rfl,rfl⟩:=hnE.out hno.out
      exact ⟨_,_,_,rfl,zero_ndr _,by rw [HH.out];exact below_put4 (below_drewN HB.out _) (by omega) _ _ _ _⟩
   ·have hlt':¬ ((j:Int) < (p.length:Int)):=by omega
    have hend:Hid (er=0∧tr = .mk k s l):=qh (by
     have e:r=some (.mk k s l):=by rw [HG.out,List.drop_of_length_le (by omega)];rfl
     rcases HAS.out with h | ⟨_,h,_⟩ | ⟨_,h,h2⟩
     ·exact absurd rfl h.1
     ·rw [e] at h;cases h
     ·rw [e] at h;cases h;exact ⟨h2,rfl⟩)
    clear HG
    go_wp2
    refine ret_made (HR.out.put _ _ _ _) rfl rfl rfl ?_
    rw [hend.out.1,hend.out.2]
    have hh:=HH.out
    exact ⟨_,_,_,rfl,HT'.out.later (by rw [HH.out];exact below_put4 HB.out (by omega) _ _ _ _),by rw [HH.out];exact below_put4 HB.out (by omega) _ _ _ _⟩
 ·have hc1:(c==0)=false:=by simp [hc0]
  have hE:Hid (er=c∧tr=zeroN):=qh (by
   rcases HAS.out with h | h | h
   ·exact h.2
   ·exact absurd h.1 hc0
   ·exact absurd h.1 hc0)
  obtain ⟨⟨r0,r1,r2,r3⟩,q0,q1,q2,q3⟩:=R3.cells
  have HR3:=qh R3
  clear N3 R3
  go_wp2
  refine ret_made (HR3.out.put _ _ _ _) rfl rfl rfl ?_
  obtain ⟨rfl,rfl⟩:=hE.out
  exact ⟨_,_,_,rfl,zero_ndr _,by rw [HH.out];exact below_put4 HB3.out (by omega) _ _ _ _⟩
end Go.Proofs.YtgikhpmdpppenaaGreatDoor
namespace Go.Proofs.YtgikhpmdpppenaaGreatDoor
open Go.RowKit Go.Shelf
attribute [local go_sem] Oper.semAt_some
section
variable {ops:Array Oper} {rest:List Oper} {o:Oper} {a:Act} {Q:Exit→Act→World→Prop} {w:World}
theorem step_append_kidT {K:Act→World→Prop} {Ex:Prop} (hgd:o.guard=none) (s x:Operand)
  (ho:o.op = .call { callee:=.builtin .append,args:=#[s,x],argTypes:=#[22,22] })
  (S:Nat→Prop) (v:Value) (l:List Nd) (hs:a.eval s=v) (hk:KidsS S w v l) (ad:Addr) (c:Nat) (hx:a.eval x = .slice (some ad) 1 c) (t:Nd) (v0 v1 v2:Value)
  (hnews:∀ j u,[v0,v1,v2][j]?=some u→w.cell? (ad.add j)=some u) (hn:NdS (fun b=>S b∧v.ownBlock≠some b) w t v0 v1 v2) (hlen:l.length≤1000000) (hSn:S w.heap.size)
  (hK:∀ g cap w',KidsS S w' (.slice (some ⟨g,0,none⟩) (l.length+1) cap) (l++[t])→w.grownBy w' v.ownBlock→(v.ownBlock=some g∨g=w.heap.size)→K (a.put o.dst (.slice (some ⟨g,0,none⟩) (l.length+1) cap)) w') :
  if Region.wanted o (yielded ops a.tmps)=true then Oper.wp Tryz.prog o a w K Q else Ex:=by
 obtain ⟨i0,hi0,hz0,hz1,hz2⟩:=info_parts infoNode
 obtain ⟨xs,h1,hS,h2⟩:=hk
 refine step_append_lies w hgd s x 22 ho 0 24 i0 _ 3 48 Tryz.underlying22 hi0 hz0 hz1 hz2 rfl (by decide) v l.length xs hs h1 ad 1 c [v0,v1,v2] hx rfl hnews hn.ones (by decide) (by unfold maxLen;omega) (by omega) (Nat.zero_le _) _ rfl ?_
 intro g cap w' h3 h4 h5 h6
 exact hK g cap w' (KidsS.snoc h1 h2 hS hn h3 h4 h5 hSn) h4 h5
end
def Kp2 (H D:Nat) (ov:Value) (w wr w':World):Prop:=wr.heap.size≤w'.heap.size∧(∀ b,b < wr.heap.size→b≠D→ov.ownBlock≠some b→w'.heap[b]?=wr.heap[b]?)∧Below H w w'
section
variable {H D:Nat} {ov:Value} {w wr w' w'':World}
theorem Kp2.refl (h:Below H w wr):Kp2 H D ov w wr wr:=⟨Nat.le_refl _,fun _ _ _ _=>rfl,h⟩
theorem Kp2.later (k:Kp2 H D ov w wr w') (hH:H≤wr.heap.size) (hb:Below w'.heap.size w' w''):Kp2 H D ov w wr w'' :=
 ⟨Nat.le_trans k.1 hb.size,fun b h1 h2 h3=>(hb.block b (Nat.lt_of_lt_of_le h1 k.1)).trans (k.2.1 b h1 h2 h3),k.2.2.trans (hb.mono (Nat.le_trans hH k.1))⟩
theorem Kp2.drew (k:Kp2 H D ov w wr w'):Kp2 H D ov w wr w'.drew:=⟨k.1,k.2.1,k.2.2.drew⟩
theorem Kp2.alloc (k:Kp2 H D ov w wr w') (hH:H≤wr.heap.size) (o:Obj):Kp2 H D ov w wr (w'.alloc o):=k.later hH ((Below.refl _ _).alloc (Nat.le_refl _) _)
theorem Kp2.grown (k:Kp2 H D ov w wr w') (hH:H≤wr.heap.size) (hg:w'.grownBy w'' ov.ownBlock) (ho:∀ g,ov.ownBlock=some g→D < g) (hD:H≤D):Kp2 H D ov w wr w'' :=
 ⟨Nat.le_trans k.1 hg.size,fun b h1 h2 h3=>(hg.block b (Nat.lt_of_lt_of_le h1 k.1) (fun e=>h3 e.symm)).trans (k.2.1 b h1 h2 h3),k.2.2.grown hg (Nat.le_trans hH k.1) (fun g e=>by have:=ho g e;omega)⟩
theorem Kp2.set (k:Kp2 H D ov w wr w') (hD:H≤D) (v:Value):Kp2 H D ov w wr (w'.setCell ⟨D,2,none⟩ v) :=
 ⟨by rw [setCell_size];exact k.1,fun b h1 h2 h3=>(Below.heap_setCell _ _ _ _ (by simp only;exact h2)).trans (k.2.1 b h1 h2 h3),k.2.2.setCell (p:=⟨D,2,none⟩) hD _⟩
end
abbrev Sx2 (H D b1 o1 i:Nat) (ov:Value) (n2 x0 x1 x2 y0 y1 y2:Value) (w wr w':World):Prop :=
 w'.cell? ⟨H,2,none⟩=some n2∧w'.cell? ⟨H+1,0,none⟩=some x0∧w'.cell? ⟨H+1,1,none⟩=some x1∧w'.cell? ⟨H+1,2,none⟩=some x2∧w'.cell? ⟨b1,o1+i*3,none⟩=some y0∧w'.cell? ⟨b1,o1+i*3+1,none⟩=some y1∧w'.cell? ⟨b1,o1+i*3+2,none⟩=some y2∧Hid (Kp2 H D ov w wr w')
theorem sx_of {H D b1 o1 i:Nat} {ov n2 x0 x1 x2 y0 y1 y2:Value} {w wr w' w'':World} (S:Sx2 H D b1 o1 i ov n2 x0 x1 x2 y0 y1 y2 w wr w') (hs:wr.heap.size≤w'.heap.size) (hD:H+1 < D) (hb1:b1 < H) (hDr:D < wr.heap.size) (ho:∀ g,ov.ownBlock=some g→D < g) (k0:∀ b,b=H∨b=H+1∨b=b1→w'.heap[b]?=wr.heap[b]?) (k:Kp2 H D ov w wr w''):Sx2 H D b1 o1 i ov n2 x0 x1 x2 y0 y1 y2 w wr w'':=by
 obtain ⟨c0,c1,c2,c3,c4,c5,c6,_⟩:=S
 have f:∀ b o v,(b=H∨b=H+1∨b=b1)→w'.cell? ⟨b,o,none⟩=some v→w''.cell? ⟨b,o,none⟩=some v:=fun b o v e hc =>
  (World.cell?_of_block (w:=w') ((k.2.1 b (by omega) (by omega) (fun e2=>by have:=ho b e2;omega)).trans (k0 b e).symm)).trans hc
 exact ⟨f _ _ _ (by simp) c0,f _ _ _ (by simp) c1,f _ _ _ (by simp) c2,f _ _ _ (by simp) c3,f _ _ _ (by simp) c4,f _ _ _ (by simp) c5,f _ _ _ (by simp) c6,qh k⟩
structure Fp (T:Nat→Prop) (H:Nat) (k:Int) (s:ByteArray) (n2 x0 x1 x2:Value) (l':List Nd) (w:World) (j:Nat) (wr:World):Prop where
 b:Below H w wr
 n:Row3 wr H (.int .i64 k) (.string s) n2
 x:Row3 wr (H+1) x0 x1 x2
 r:Row3 wr (H+1+1) (.int .i64 0) (.string ⟨#[]⟩) (.slice none 0 0)
 d:∃ oa oc,Row3 wr (H+1+1+1) (.int .i64 k) (.string s) (.slice oa j oc)∧KidsS (fun b=>T b∨H+1+1+1 < b) wr (.slice oa j oc) (l'.take j)∧∀ g,(Value.slice oa j oc).ownBlock=some g→H+1+1+1 < g
theorem Fp.next {T:Nat→Prop} {H j g6 cap6:Nat} {k:Int} {s:ByteArray} {n2 x0 x1 x2:Value} {l':List Nd} {w wr w8:World} {oa:Option Addr} {oc:Nat} {kid:Nd} (F:Fp T H k s n2 x0 x1 x2 l' w j wr) (ho:∀ g,(Value.slice oa j oc).ownBlock=some g→H+1+1+1 < g) (hT:∀ b,T b→b < H) (kp:Kp2 H (H+1+1+1) (.slice oa j oc) w wr w8)
  (hk:l'.take (j+1)=l'.take j++[kid]) (R:Row3 w8 (H+1+1+1) (.int .i64 k) (.string s) (.slice oa j oc)) (K:KidsS (fun b=>T b∨H+1+1+1 < b) w8 (.slice (some ⟨g6,0,none⟩) (j+1) cap6) (l'.take j++[kid])) (hg:H+1+1+1 < g6) :
  Fp T H k s n2 x0 x1 x2 l' w (j+1) (w8.setCell ⟨H+1+1+1,2,none⟩ (.slice (some ⟨g6,0,none⟩) (j+1) cap6)):=by
 have kp':=kp.set (by omega) (.slice (some ⟨g6,0,none⟩) (j+1) cap6)
 have old:∀ b,b < H+1+1+1→b < wr.heap.size→(w8.setCell ⟨H+1+1+1,2,none⟩ (.slice (some ⟨g6,0,none⟩) (j+1) cap6)).heap[b]?=wr.heap[b]?:=fun b h1 h2=>kp'.2.1 b h2 (by omega) (fun e=>by have:=ho b e;omega)
 exact ⟨kp'.2.2,(old _ (by omega) F.n.lt).trans F.n,(old _ (by omega) F.x.lt).trans F.x,(old _ (by omega) F.r.lt).trans F.r,_,_,R.put2 _,by rw [hk];exact K.keep fun b h1 _=>⟨Below.heap_setCell _ _ _ _ (show b≠H+1+1+1 from h1.elim (fun h=>by have:=hT b h;omega) (fun h=>by omega)),h1⟩,fun g e=>by cases e;exact hg⟩
theorem PathR.tail {w:World} {b o cap:Nat} {a:Option Addr} {i:Int} {p:List Int} (h0:(i :: p).length≤maxLen) (h1:(i :: p).length≤cap) (h2:a=some ⟨b,o,none⟩) (h3:∀ j (h:j < (i :: p).length),w.cell? ⟨b,o+j,none⟩=some (.int .i64 (i :: p)[j])):PathR w (.slice (if cap=1 then some ⟨b,o,none⟩ else some ⟨b,o+1,none⟩) p.length (cap - 1)) p:=by
 simp only [List.length_cons] at h0 h1 h3
 refine ⟨by omega,b,o+1,cap - 1,_,rfl,by omega,fun hne=>if_neg (by have:=List.length_pos_iff.2 hne;omega),fun j hj=>?_⟩
 have:=h3 (j+1) (by omega)
 rw [show o+1+j=o+(j+1) from by omega]
 simpa using this
set_option maxRecDepth 100000 in
set_option maxHeartbeats 2000000 in
theorem rPut_any (T:Nat→Prop) (x:Nd):∀ (p:List Int) (t:Nd) (v0 v1 v2 vp x0 x1 x2:Value) (w:World) (_:∀ b,T b→b < w.heap.size) (_:NdS T w t v0 v1 v2) (_:PathR w vp p) (_:NdS T w x x0 x1 x2) (_:goN t p≠none) (_:t.sz≤90000),
  Calls Tryz.prog 86 #[.agg #[v0,v1,v2],vp,.agg #[x0,x1,x2]] w fun e W'=>∃ u0 u1 u2,e = .returned (.agg #[u0,u1,u2])∧NdS (fun b=>T b∨w.heap.size≤b) W' (putN t p x) u0 u1 u2∧Below w.heap.size w W':=by
 intro p
 induction p with
 | nil =>
  intro t v0 v1 v2 vp x0 x1 x2 w hT ht hp hx hg hz
  obtain ⟨k0,s0,l0,a0,c0,rfl,rfl,rfl,rfl,_,_⟩:=ht.form
  obtain ⟨kx,sx,lx,ax,c9,rfl,rfl,rfl,rfl,_,_⟩:=hx.form
  obtain ⟨hpm,b,o,cap,a,rfl,hcap,ha,hcell⟩:=hp
  obtain ⟨H,hH⟩:∃ H,w.heap.size=H:=⟨_,rfl⟩
  obtain ⟨W3,hW3⟩:∃ W3,((w.alloc (.cells #[.int .i64 k0,.string s0,.slice a0 l0.length c0] 24)).alloc (.cells #[.int .i64 kx,.string sx,.slice ax lx.length c9] 24)).alloc (.cells #[.int .i64 0,.string ⟨#[]⟩,.slice none 0 0] 24)=W3:=⟨_,rfl⟩
  have B3:Below H w W3:=by rw [←hW3,←hH];exact (((Below.refl _ w).alloc (Nat.le_refl _) _).alloc (by simp) _).alloc (by simp only [World.size_alloc];omega) _
  have X3:Row3 W3 (H+1) (.int .i64 kx) (.string sx) (.slice ax lx.length c9):=by
   rw [←hW3,←hH];exact (Below.heap_alloc _ _ _ (by simp only [World.size_alloc];omega)).trans (alloc_at (by simp))
  have R3:Row3 W3 (H+1+1) (.int .i64 0) (.string ⟨#[]⟩) (.slice none 0 0):=by rw [←hW3,←hH];exact alloc_at (by simp)
  obtain ⟨⟨x0,x1,x2⟩,_⟩:=X3.cells
  obtain ⟨⟨r0,r1,r2⟩,q0,q1,q2⟩:=R3.cells
  have HB3:=qh B3
  have HR3:=qh R3
  have HX:=qh hx
  have HT:=qh hT
  have HH:=qh hH
  have hput:putN (.mk k0 s0 l0) [] (.mk kx sx lx) = .mk kx sx lx:=rfl
  rw [hput]
  clear B3 X3 R3 hx ht hT ha hcell hg hput
  go_enter Tryz.func86,Tryz.ntmps86
  go_upto_region 1 with fail
  (try rw [hW3])
  (try rw [HH.out])
  clear hW3
  go_wp2
  refine ret_node (HR3.out.put _ _ _) rfl rfl rfl ?_
  have hh:=HH.out
  refine ⟨_,_,_,rfl,HX.out.keep (fun b h1 h2=>⟨(below_put3 HB3.out (show H≤H+1+1 by omega) _ _ _).block b (by omega),Or.inl h1⟩),?_⟩
  first
   | exact below_put3 HB3.out (by omega) _ _ _
   | (rw [HH.out];exact below_put3 HB3.out (by omega) _ _ _)
 | cons i p ih =>
  intro t v0 v1 v2 vp x0 x1 x2 w hT ht hp hx hg hz
  obtain ⟨k0,s0,l0,a0,c0,rfl,rfl,rfl,rfl,hs0,hl0⟩:=ht.form
  obtain ⟨kx,sx,lx,ax,c9,rfl,rfl,rfl,rfl,_,_⟩:=hx.form
  obtain ⟨hpm,b,o,cap,a,rfl,hcap,ha,hcell⟩:=hp
  obtain rfl:=ha (by simp)
  have hi:0≤i∧i < (l0.length:Int):=by
   by_cases h:0≤i∧i < (l0.length:Int)
   ·exact h
   ·exact absurd (by simp only [goN,dif_neg h]) hg
  obtain ⟨m,rfl⟩:=Int.eq_ofNat_of_zero_le hi.1
  have hm:m < l0.length:=by omega
  simp only [goN,dif_pos hi,Int.toNat_natCast] at hg
  have hput:putN (.mk k0 s0 l0) ((m:Int) :: p) (.mk kx sx lx) = .mk k0 s0 (l0.set m (putN l0[m] p (.mk kx sx lx))):=by simp only [putN,dif_pos hi,Int.toNat_natCast]
  rw [hput]
  obtain ⟨y,hy⟩:∃ y,putN l0[m] p (.mk kx sx lx)=y:=⟨_,rfl⟩
  rw [hy]
  obtain ⟨l',hl'⟩:∃ l',l0.set m y=l':=⟨_,rfl⟩
  rw [hl']
  have hll:l'.length=l0.length:=by rw [←hl'];simp
  have hpt:=qh (PathR.tail hpm hcap rfl hcell)
  have h00:w.cell? ⟨b,o,none⟩=some (.int .i64 m):=by have:=hcell 0 (by simp);simpa using this
  simp only [List.length_cons] at hpm hcap ⊢
  unfold maxLen at hpm
  obtain ⟨H,hH⟩:∃ H,w.heap.size=H:=⟨_,rfl⟩
  obtain ⟨W3,hW3⟩:∃ W3,((w.alloc (.cells #[.int .i64 k0,.string s0,.slice a0 l0.length c0] 24)).alloc (.cells #[.int .i64 kx,.string sx,.slice ax lx.length c9] 24)).alloc (.cells #[.int .i64 0,.string ⟨#[]⟩,.slice none 0 0] 24)=W3:=⟨_,rfl⟩
  have z3:W3.heap.size=H+1+1+1:=by rw [←hW3];simp [hH]
  have B3:Below H w W3:=by rw [←hW3,←hH];exact (((Below.refl _ w).alloc (Nat.le_refl _) _).alloc (by simp) _).alloc (by simp only [World.size_alloc];omega) _
  have N3:Row3 W3 H (.int .i64 k0) (.string s0) (.slice a0 l0.length c0):=by
   rw [←hW3,←hH];exact (Below.heap_alloc _ _ _ (by simp only [World.size_alloc];omega)).trans ((Below.heap_alloc _ _ _ (by simp only [World.size_alloc];omega)).trans (World.alloc_heap_new _ _))
  have X3:Row3 W3 (H+1) (.int .i64 kx) (.string sx) (.slice ax lx.length c9):=by
   rw [←hW3,←hH];exact (Below.heap_alloc _ _ _ (by simp only [World.size_alloc];omega)).trans (alloc_at (by simp))
  have R3:Row3 W3 (H+1+1) (.int .i64 0) (.string ⟨#[]⟩) (.slice none 0 0):=by rw [←hW3,←hH];exact alloc_at (by simp)
  obtain ⟨W4,hW4⟩:∃ W4,W3.alloc (.cells #[.int .i64 k0,.string s0,.slice none 0 0] 24)=W4:=⟨_,rfl⟩
  have D4:Row3 W4 (H+1+1+1) (.int .i64 k0) (.string s0) (.slice none 0 0):=by rw [←hW4];exact alloc_at z3.symm
  have B4:Below H w W4:=by rw [←hW4];exact B3.alloc (by omega) _
  obtain ⟨W5,hW5⟩:∃ W5,W4.setCell ⟨H+1+1+1,2,none⟩ (.slice none 0 0)=W5:=⟨_,rfl⟩
  have D5:Row3 W5 (H+1+1+1) (.int .i64 k0) (.string s0) (.slice none 0 0):=by rw [←hW5];exact D4.put2 _
  have o5:∀ b',b'≠H+1+1+1→W5.heap[b']?=W4.heap[b']?:=fun b' hb=>by rw [←hW5];exact Below.heap_setCell _ _ _ _ (by simp only;exact hb)
  have FX:Hid (Fp T H k0 s0 (.slice a0 l0.length c0) (.int .i64 kx) (.string sx) (.slice ax lx.length c9) l' w 0 W5) :=
   qh ⟨by rw [←hW5];exact B4.setCell (p:=⟨H+1+1+1,2,none⟩) (by simp only;omega) _,(o5 _ (by omega)).trans (by rw [←hW4];exact N3.alloc _),(o5 _ (by omega)).trans (by rw [←hW4];exact X3.alloc _),(o5 _ (by omega)).trans (by rw [←hW4];exact R3.alloc _),none,0,D5,⟨[],World.ownsRow_nil _ _ _ _,(fun g e=>by cases e),fun i hi=>absurd hi (Nat.not_lt_zero i)⟩,(fun g e=>by cases e)⟩
  obtain ⟨⟨n0,n1,n2⟩,_⟩:=N3.cells
  obtain ⟨⟨d0,d1,d2⟩,e0,e1,e2⟩:=D4.cells
  have HH:=qh hH
  have HTT:Hid (∀ b,T b→b < H):=qh (fun b h=>by rw [←hH];exact hT b h)
  have HT:=qh ht
  have HX:=qh hx
  have HG:=qh hg
  have HY:=qh hy
  have HL':=qh hl'
  have HLL:=qh hll
  have HIH:=qh ih
  have H00:=qh h00
  have HS0:=qh hs0
  have HZ:Hid (1+Nd.szL l0≤90000):=qh (by simpa only [Nd.sz] using hz)
  have hlz:l0.length≤90000:=by have:=len_le_szL l0;have:=HZ.out;omega
  have hne:(((p.length+1:Nat):Int)==0)=false:=by simp;omega
  have hne2:((p.length:Int)+1==0)=false:=by simp;omega
  have hne3:¬ ((p.length:Int)+1=0):=by omega
  have hp1:(0:Int) < (p.length:Int)+1:=by omega
  have hp2:(1:Int)≤(p.length:Int)+1:=by omega
  have hcap2:(p.length:Int)+1≤(cap:Int):=by omega
  clear ht hx hT ha hcell hg hput hy hl' hll ih h00 hs0 hl0 hz B3 B4 N3 X3 R3 D4 D5 o5
  go_enter Tryz.func86,Tryz.ntmps86
  go_upto_region 1 with fail
  (try rw [hW3])
  (try rw [HH.out])
  go_upto_region 4 with fail
  (try rw [hW4])
  (try rw [hW5])
  clear hW3 hW4 hW5 n0 n1 n2 d0 d1 d2 e0 e1 e2 z3
  go_wp2
  go_loopw [8] (fun v wr=>∃ j:Nat,j≤l0.length∧v = .int .i64 j∧Hid (Fp T H k0 s0 (.slice a0 l0.length c0) (.int .i64 kx) (.string sx) (.slice ax lx.length c9) l' w j wr)) (fun v _=>l0.length - (intOf v).toNat)
  case atStart=>exact ⟨0,Nat.zero_le _,rfl,FX⟩
  case round =>
   obtain ⟨j,hj,rfl,hF⟩:=hrel
   clear FX
   by_cases hlt:j < l0.length
   ·have hlt':(j:Int) < (l0.length:Int):=by omega
    have hj0:(0:Int)≤(j:Int):=by omega
    obtain ⟨b1,o1,k1,s1,l1,a1,c1,rfl,e1,g0,g1,g2,r1⟩:=NdS.kid HT.out j hlt
    have hb1:b1 < H:=by rw [←HH.out];exact lt_of_cell g0
    have y0:=(hF.out.b.cell (p:=⟨b1,o1+j*3,none⟩) hb1).trans g0
    have y1:=(hF.out.b.cell (p:=⟨b1,o1+j*3+1,none⟩) hb1).trans g1
    have y2:=(hF.out.b.cell (p:=⟨b1,o1+j*3+2,none⟩) hb1).trans g2
    clear g0 g1 g2
    obtain ⟨oa,oc,dr,kd,hown⟩:=hF.out.d
    have pj:=(hF.out.b.cell (p:=⟨b,o,none⟩) (by rw [←HH.out];exact lt_of_cell H00.out)).trans H00.out
    have hDr:=dr.lt
    have hHw:H≤wr.heap.size:=by omega
    have SD:Sx2 H (H+1+1+1) b1 o1 j (.slice oa j oc) (.slice (some ⟨b1,o1,none⟩) l0.length c0) (.int .i64 kx) (.string sx) (.slice ax lx.length c9) (.int .i64 k1) (.string s1) (.slice a1 l1.length c1) w wr wr.drew :=
     ⟨hF.out.n.cells.1.2.2,hF.out.x.cells.1.1,hF.out.x.cells.1.2.1,hF.out.x.cells.1.2.2,y0,y1,y2,qh (Kp2.refl hF.out.b).drew⟩
    have SXO:=qh (fun (w'':World) (k:Kp2 H (H+1+1+1) (.slice oa j oc) w wr w'')=>sx_of SD (Nat.le_refl _) (by omega) hb1 hDr hown (fun _ _=>rfl) k)
    have d5:wr.drew.cell? ⟨H+1+1+1,2,none⟩=some (.slice oa j oc):=dr.cells.1.2.2
    have DR:=qh dr
    have KD:=qh kd
    have HOWN:=qh hown
    have HOWB:=qh (fun g e=>kd.base0.own g e)
    obtain ⟨⟨n0,n1,n2⟩,_⟩:=hF.out.n.cells
    have hli:(l'.take j).length=j:=by rw [List.length_take,HLL.out];omega
    have HLI:=qh hli
    clear kd hown dr hli
    by_cases hjm:j=m
    ·subst hjm
     have hjm':((j:Int)==(j:Int))=true:=by simp
     obtain ⟨kid,hkid⟩:∃ kid,l0[j]=kid:=⟨_,rfl⟩
     have HTK:Hid (l'.take (j+1)=l'.take j++[y]):=qh (by rw [List.take_succ_eq_append_getElem (by rw [HLL.out];omega)];congr 2;simp only [←HL'.out];simp)
     have CI:=qh (HIH.out l0[j] _ _ _ _ _ _ _ wr.drew (fun b' h=>by have:=HTT.out b' h;exact Nat.lt_of_lt_of_le this hHw) (by rw [e1];exact r1.keep (w':=wr.drew) fun b' h1 _=>⟨hF.out.b.block b' (HTT.out b' h1),h1⟩) (hpt.out.later (w':=wr.drew) (by rw [HH.out];exact hF.out.b.drew)) (HX.out.keep (w':=wr.drew) fun b' h1 _=>⟨hF.out.b.block b' (HTT.out b' h1),h1⟩) HG.out (by have:=szL_get l0 j hlt;have:=HZ.out;omega))
     rw [HY.out] at CI
     obtain ⟨A1,hA1⟩:∃ A1:Option Addr,(if cap=1 then some ⟨b,o,none⟩ else some ⟨b,o+1,none⟩)=A1:=⟨_,rfl⟩
     rw [hA1] at CI
     clear y0 y1 y2 r1 e1 hkid
     go_upto_region 8 with fail
     refine wp_region_held_drew (S:=(fun w'=>w'.cell? ⟨H,2,none⟩=some (.slice (some ⟨b1,o1,none⟩) l0.length c0)∧w'.cell? ⟨H+1,0,none⟩=some (.int .i64 kx)∧w'.cell? ⟨H+1,1,none⟩=some (.string sx)∧w'.cell? ⟨H+1,2,none⟩=some (.slice ax lx.length c9)∧w'.cell? ⟨b1,o1+j*3,none⟩=some (.int .i64 k1)∧w'.cell? ⟨b1,o1+j*3+1,none⟩=some (.string s1)∧w'.cell? ⟨b1,o1+j*3+2,none⟩=some (.slice a1 l1.length c1)∧Hid (Kp2 H (H+1+1+1) (.slice oa j oc) w wr w'))) (by kernel_rfl) SD (fun hHeld=>?_)
     refine wpAnyH_take (i:=0) (v:=?_) rfl (by kernel_rfl) (by kernel_rfl) (by kernel_rfl) (fun _ _ _ h=>h) (Or.inl ⟨by rfl,?_⟩) (by assumption) ?_
     rotate_left
     ·(intro w hSw;(try dsimp only at hSw);go_simp;try with_reducible rfl)
     try simp only [Act.put,List.setIfInBounds_toArray,List.set_cons_zero,List.set_cons_succ]
     refine wpAnyH_take (i:=2) (v:=?_) rfl (by kernel_rfl) (by kernel_rfl) (by kernel_rfl) (fun _ _ _ h=>h) (Or.inl ⟨by rfl,?_⟩) (by assumption) ?_
     rotate_left
     ·(intro w hSw;(try dsimp only at hSw);go_simp;try with_reducible rfl)
     try simp only [Act.put,List.setIfInBounds_toArray,List.set_cons_zero,List.set_cons_succ]
     refine wpAnyH_take (i:=3) (v:=?_) rfl (by kernel_rfl) (by kernel_rfl) (by kernel_rfl) (fun _ _ _ h=>h) (Or.inl ⟨by rfl,?_⟩) (by assumption) ?_
     rotate_left
     ·(intro w hSw;(try dsimp only at hSw);go_simp;try with_reducible rfl)
     try simp only [Act.put,List.setIfInBounds_toArray,List.set_cons_zero,List.set_cons_succ]
     refine wpAnyH_take (i:=4) (v:=?_) rfl (by kernel_rfl) (by kernel_rfl) (by kernel_rfl) (fun _ _ _ h=>h) (Or.inl ⟨by rfl,?_⟩) (by assumption) ?_
     rotate_left
     ·(intro w hSw;(try dsimp only at hSw);go_simp;try with_reducible rfl)
     try simp only [Act.put,List.setIfInBounds_toArray,List.set_cons_zero,List.set_cons_succ]
     refine wpAnyH_take (i:=5) (v:=?_) rfl (by kernel_rfl) (by kernel_rfl) (by kernel_rfl) (fun _ _ _ h=>h) (Or.inl ⟨by rfl,?_⟩) (by assumption) ?_
     rotate_left
     ·(intro w hSw;(try dsimp only at hSw);go_simp;try with_reducible rfl)
     try simp only [Act.put,List.setIfInBounds_toArray,List.set_cons_zero,List.set_cons_succ]
     refine wpAnyH_take (i:=6) (v:=?_) rfl (by kernel_rfl) (by kernel_rfl) (by kernel_rfl) (fun _ _ _ h=>h) (Or.inl ⟨by rfl,?_⟩) (by assumption) ?_
     rotate_left
     ·(intro w hSw;(try dsimp only at hSw);go_simp;try with_reducible rfl)
     try simp only [Act.put,List.setIfInBounds_toArray,List.set_cons_zero,List.set_cons_succ]
     refine wpAnyH_take (i:=7) (v:=?_) rfl (by kernel_rfl) (by kernel_rfl) (by kernel_rfl) (fun _ _ _ h=>h) (Or.inl ⟨by rfl,?_⟩) (by assumption) ?_
     rotate_left
     ·(intro w hSw;(try dsimp only at hSw);go_simp;try with_reducible rfl)
     try simp only [Act.put,List.setIfInBounds_toArray,List.set_cons_zero,List.set_cons_succ]
     refine wpAnyH_take (i:=8) (v:=?_) rfl (by kernel_rfl) (by kernel_rfl) (by kernel_rfl) (fun _ _ _ h=>h) (Or.inl ⟨by rfl,?_⟩) (by assumption) ?_
     rotate_left
     ·(intro w hSw;(try dsimp only at hSw);go_simp;try with_reducible rfl)
     try simp only [Act.put,List.setIfInBounds_toArray,List.set_cons_zero,List.set_cons_succ]
     refine wpAnyH_take (i:=9) (v:=?_) rfl (by kernel_rfl) (by kernel_rfl) (by kernel_rfl) (fun _ _ _ h=>h) (Or.inl ⟨by rfl,?_⟩) (by assumption) ?_
     rotate_left
     ·(intro w hSw;(try dsimp only at hSw);go_simp;try with_reducible rfl)
     try simp only [Act.put,List.setIfInBounds_toArray,List.set_cons_zero,List.set_cons_succ]
     refine wpAnyH_ready (rs:=[1,10]) (by kernel_rfl) (by simp) ?_
     refine AllReadyH.cons rfl (fun K hK=>?_) ?_
     ·skip
      go_simp
      refine hK.out _ _ ?_ (fun hHeld=>?_)
      ·exact SD
      clear hK K
      try simp only [Act.put,List.setIfInBounds_toArray,List.set_cons_zero,List.set_cons_succ]
      refine wpAnyH_ready (rs:=[10]) (by kernel_rfl) (by simp) ?_
      refine AllReadyH.cons rfl (fun K hK=>?_) ?_
      ·skip
       go_simp
       refine CI.out.mono ?_
       rintro e w7 ⟨u0,u1,u2,rfl,t7,b7⟩
       obtain ⟨k7,q7,l7,a7,c7,ek7,rfl,rfl,rfl,_,_⟩:=t7.form
       have KP7:=qh (SD.2.2.2.2.2.2.2.out.later hHw b7)
       have SS7:=SXO.out _ KP7.out
       have hz7:wr.heap.size≤w7.heap.size:=KP7.out.1
       have K7D:Hid (KidsS (fun b=>T b∨H+1+1+1 < b) w7 (.slice oa j oc) (l'.take j)):=qh (KD.out.keep fun b' h1 h2=>⟨b7.block b' h2,h1⟩)
       have R7D:Hid (Row3 w7 (H+1+1+1) (.int .i64 k0) (.string s0) (.slice oa j oc)):=qh ((b7.block _ hDr).trans DR.out)
       have T7:=qh t7
       have d7:w7.cell? ⟨H+1+1+1,2,none⟩=some (.slice oa j oc):=R7D.out.cells.1.2.2
       have d7':=(fun x=>(World.cell?_alloc_past (w:=w7) x (H+1+1+1) 2 (by omega)).trans d7)
       clear b7 t7 ek7
       go_wp2_with fail
       refine hK.out _ _ ?_ (fun hHeld=>?_)
       ·exact SS7
       clear hK K
       try simp only [Act.put,List.setIfInBounds_toArray,List.set_cons_zero,List.set_cons_succ]
       refine wpAnyH_ready (rs:=[11]) (by kernel_rfl) (by simp) ?_
       refine AllReadyH.cons rfl (fun K hK=>?_) ?_
       ·skip
        go_simp
        refine hK.out _ _ ?_ (fun hHeld=>?_)
        ·exact (SXO.out _ (KP7.out.alloc hHw _))
        clear hK K
        try simp only [Act.put,List.setIfInBounds_toArray,List.set_cons_zero,List.set_cons_succ]
        refine wpAnyH_ready (rs:=[12]) (by kernel_rfl) (by simp) ?_
        refine AllReadyH.cons rfl (fun K hK=>?_) ?_
        ·skip
         refine step_append_kidT rfl _ _ rfl (fun b=>T b∨H+1+1+1 < b) (.slice oa j oc) (l'.take j) rfl (K7D.out.keep fun b' h1 h2=>⟨Below.heap_alloc _ _ _ h2,h1⟩) ⟨w7.heap.size,0,none⟩ 1 (by rfl) y (.int .i64 k7) (.string q7) (.slice a7 l7.length c7) (cells3 w7 _ _ _ _ _ rfl) (T7.out.keep (fun b' (h1:T b'∨wr.heap.size≤b') h2=>⟨Below.heap_alloc _ _ _ h2,(h1.imp id (fun h=>by omega)),fun e=>by have:=HOWB.out b' e;have:=HOWN.out b' e;exact h1.elim (fun h=>by have:=HTT.out b' h;omega) (fun h=>by omega)⟩)) (by rw [HLI.out];omega) (Or.inr (show H+1+1+1 < (World.alloc w7 _).heap.size by rw [World.size_alloc];omega)) ?_
         intro g6 cap6 w8 K8 G8 hg8
         rw [HLI.out] at K8 ⊢
         have KP8:=qh ((KP7.out.alloc hHw _).grown hHw G8 HOWN.out (by omega))
         have SS8:=SXO.out _ KP8.out
         have R8:=qh ((R7D.out.alloc _).grown' G8 (fun e=>by have:=HOWN.out _ e.symm;omega))
         have HG8:Hid (H+1+1+1 < g6):=qh (by
          rcases hg8 with h | h
          ·exact HOWN.out _ h
          ·have h9:g6=(World.alloc w7 _).heap.size:=h
           rw [h9,World.size_alloc];omega)
         obtain ⟨⟨y0,y1,y2⟩,z0,z1,z2⟩:=R8.out.cells
         have HK8:=qh K8
         clear K8 G8 hg8
         refine hK.out _ _ ?_ (fun hHeld=>?_)
         ·exact SS8
         clear hK K
         try simp only [Act.put,List.setIfInBounds_toArray,List.set_cons_zero,List.set_cons_succ]
         refine wpAnyH_take (i:=13) (v:=?_) rfl (by kernel_rfl) (by kernel_rfl) (by kernel_rfl) (fun _ _ _ h=>h) (Or.inl ⟨by rfl,?_⟩) (by assumption) ?_
         rotate_left
         ·(intro w hSw;(try dsimp only at hSw);go_simp;try with_reducible rfl)
         try simp only [Act.put,List.setIfInBounds_toArray,List.set_cons_zero,List.set_cons_succ]
         refine wpAnyH_ready (rs:=[14]) (by kernel_rfl) (by simp) ?_
         refine AllReadyH.cons rfl (fun K hK=>?_) ?_
         ·skip
          go_simp
          refine hK.out _ _ ?_ (fun hHeld=>?_)
          ·exact (SXO.out _ (KP8.out.set (by omega) _))
          clear hK K
          try simp only [Act.put,List.setIfInBounds_toArray,List.set_cons_zero,List.set_cons_succ]
          refine wpAnyH_done (by kernel_rfl) ?_ _
          have HFN:=qh (Fp.next hF.out HOWN.out HTT.out KP8.out HTK.out R8.out HK8.out HG8.out)
          clear SD SS7 SS8 d5 d7 d7' y0 y1 y2 z0 z1 z2
          go_wp2
          go_roundw
          case rel=>exact ⟨j+1,hlt,by push_cast;rfl,HFN⟩
          case measure=>simp [intOf];omega
         exact AllReadyH.nil
        exact AllReadyH.nil
       exact AllReadyH.nil
      exact AllReadyH.nil
     refine AllReadyH.cons rfl (fun K hK=>?_) ?_
     ·skip
      go_simp
      refine CI.out.mono ?_
      rintro e w7 ⟨u0,u1,u2,rfl,t7,b7⟩
      obtain ⟨k7,q7,l7,a7,c7,ek7,rfl,rfl,rfl,_,_⟩:=t7.form
      have KP7:=qh (SD.2.2.2.2.2.2.2.out.later hHw b7)
      have SS7:=SXO.out _ KP7.out
      have hz7:wr.heap.size≤w7.heap.size:=KP7.out.1
      have K7D:Hid (KidsS (fun b=>T b∨H+1+1+1 < b) w7 (.slice oa j oc) (l'.take j)):=qh (KD.out.keep fun b' h1 h2=>⟨b7.block b' h2,h1⟩)
      have R7D:Hid (Row3 w7 (H+1+1+1) (.int .i64 k0) (.string s0) (.slice oa j oc)):=qh ((b7.block _ hDr).trans DR.out)
      have T7:=qh t7
      have d7:w7.cell? ⟨H+1+1+1,2,none⟩=some (.slice oa j oc):=R7D.out.cells.1.2.2
      have d7':=(fun x=>(World.cell?_alloc_past (w:=w7) x (H+1+1+1) 2 (by omega)).trans d7)
      clear b7 t7 ek7
      go_wp2_with fail
      refine hK.out _ _ ?_ (fun hHeld=>?_)
      ·exact SS7
      clear hK K
      try simp only [Act.put,List.setIfInBounds_toArray,List.set_cons_zero,List.set_cons_succ]
      refine wpAnyH_ready (rs:=[1,11]) (by kernel_rfl) (by simp) ?_
      refine AllReadyH.cons rfl (fun K hK=>?_) ?_
      ·skip
       go_simp
       refine hK.out _ _ ?_ (fun hHeld=>?_)
       ·exact SS7
       clear hK K
       try simp only [Act.put,List.setIfInBounds_toArray,List.set_cons_zero,List.set_cons_succ]
       refine wpAnyH_ready (rs:=[11]) (by kernel_rfl) (by simp) ?_
       refine AllReadyH.cons rfl (fun K hK=>?_) ?_
       ·skip
        go_simp
        refine hK.out _ _ ?_ (fun hHeld=>?_)
        ·exact (SXO.out _ (KP7.out.alloc hHw _))
        clear hK K
        try simp only [Act.put,List.setIfInBounds_toArray,List.set_cons_zero,List.set_cons_succ]
        refine wpAnyH_ready (rs:=[12]) (by kernel_rfl) (by simp) ?_
        refine AllReadyH.cons rfl (fun K hK=>?_) ?_
        ·skip
         refine step_append_kidT rfl _ _ rfl (fun b=>T b∨H+1+1+1 < b) (.slice oa j oc) (l'.take j) rfl (K7D.out.keep fun b' h1 h2=>⟨Below.heap_alloc _ _ _ h2,h1⟩) ⟨w7.heap.size,0,none⟩ 1 (by rfl) y (.int .i64 k7) (.string q7) (.slice a7 l7.length c7) (cells3 w7 _ _ _ _ _ rfl) (T7.out.keep (fun b' (h1:T b'∨wr.heap.size≤b') h2=>⟨Below.heap_alloc _ _ _ h2,(h1.imp id (fun h=>by omega)),fun e=>by have:=HOWB.out b' e;have:=HOWN.out b' e;exact h1.elim (fun h=>by have:=HTT.out b' h;omega) (fun h=>by omega)⟩)) (by rw [HLI.out];omega) (Or.inr (show H+1+1+1 < (World.alloc w7 _).heap.size by rw [World.size_alloc];omega)) ?_
         intro g6 cap6 w8 K8 G8 hg8
         rw [HLI.out] at K8 ⊢
         have KP8:=qh ((KP7.out.alloc hHw _).grown hHw G8 HOWN.out (by omega))
         have SS8:=SXO.out _ KP8.out
         have R8:=qh ((R7D.out.alloc _).grown' G8 (fun e=>by have:=HOWN.out _ e.symm;omega))
         have HG8:Hid (H+1+1+1 < g6):=qh (by
          rcases hg8 with h | h
          ·exact HOWN.out _ h
          ·have h9:g6=(World.alloc w7 _).heap.size:=h
           rw [h9,World.size_alloc];omega)
         obtain ⟨⟨y0,y1,y2⟩,z0,z1,z2⟩:=R8.out.cells
         have HK8:=qh K8
         clear K8 G8 hg8
         refine hK.out _ _ ?_ (fun hHeld=>?_)
         ·exact SS8
         clear hK K
         try simp only [Act.put,List.setIfInBounds_toArray,List.set_cons_zero,List.set_cons_succ]
         refine wpAnyH_take (i:=13) (v:=?_) rfl (by kernel_rfl) (by kernel_rfl) (by kernel_rfl) (fun _ _ _ h=>h) (Or.inl ⟨by rfl,?_⟩) (by assumption) ?_
         rotate_left
         ·(intro w hSw;(try dsimp only at hSw);go_simp;try with_reducible rfl)
         try simp only [Act.put,List.setIfInBounds_toArray,List.set_cons_zero,List.set_cons_succ]
         refine wpAnyH_ready (rs:=[14]) (by kernel_rfl) (by simp) ?_
         refine AllReadyH.cons rfl (fun K hK=>?_) ?_
         ·skip
          go_simp
          refine hK.out _ _ ?_ (fun hHeld=>?_)
          ·exact (SXO.out _ (KP8.out.set (by omega) _))
          clear hK K
          try simp only [Act.put,List.setIfInBounds_toArray,List.set_cons_zero,List.set_cons_succ]
          refine wpAnyH_done (by kernel_rfl) ?_ _
          have HFN:=qh (Fp.next hF.out HOWN.out HTT.out KP8.out HTK.out R8.out HK8.out HG8.out)
          clear SD SS7 SS8 d5 d7 d7' y0 y1 y2 z0 z1 z2
          go_wp2
          go_roundw
          case rel=>exact ⟨j+1,hlt,by push_cast;rfl,HFN⟩
          case measure=>simp [intOf];omega
         exact AllReadyH.nil
        exact AllReadyH.nil
       exact AllReadyH.nil
      refine AllReadyH.cons rfl (fun K hK=>?_) ?_
      ·skip
       go_simp
       refine hK.out _ _ ?_ (fun hHeld=>?_)
       ·exact (SXO.out _ (KP7.out.alloc hHw _))
       clear hK K
       try simp only [Act.put,List.setIfInBounds_toArray,List.set_cons_zero,List.set_cons_succ]
       refine wpAnyH_ready (rs:=[1]) (by kernel_rfl) (by simp) ?_
       refine AllReadyH.cons rfl (fun K hK=>?_) ?_
       ·skip
        go_simp
        refine hK.out _ _ ?_ (fun hHeld=>?_)
        ·exact (SXO.out _ (KP7.out.alloc hHw _))
        clear hK K
        try simp only [Act.put,List.setIfInBounds_toArray,List.set_cons_zero,List.set_cons_succ]
        refine wpAnyH_ready (rs:=[12]) (by kernel_rfl) (by simp) ?_
        refine AllReadyH.cons rfl (fun K hK=>?_) ?_
        ·skip
         refine step_append_kidT rfl _ _ rfl (fun b=>T b∨H+1+1+1 < b) (.slice oa j oc) (l'.take j) rfl (K7D.out.keep fun b' h1 h2=>⟨Below.heap_alloc _ _ _ h2,h1⟩) ⟨w7.heap.size,0,none⟩ 1 (by rfl) y (.int .i64 k7) (.string q7) (.slice a7 l7.length c7) (cells3 w7 _ _ _ _ _ rfl) (T7.out.keep (fun b' (h1:T b'∨wr.heap.size≤b') h2=>⟨Below.heap_alloc _ _ _ h2,(h1.imp id (fun h=>by omega)),fun e=>by have:=HOWB.out b' e;have:=HOWN.out b' e;exact h1.elim (fun h=>by have:=HTT.out b' h;omega) (fun h=>by omega)⟩)) (by rw [HLI.out];omega) (Or.inr (show H+1+1+1 < (World.alloc w7 _).heap.size by rw [World.size_alloc];omega)) ?_
         intro g6 cap6 w8 K8 G8 hg8
         rw [HLI.out] at K8 ⊢
         have KP8:=qh ((KP7.out.alloc hHw _).grown hHw G8 HOWN.out (by omega))
         have SS8:=SXO.out _ KP8.out
         have R8:=qh ((R7D.out.alloc _).grown' G8 (fun e=>by have:=HOWN.out _ e.symm;omega))
         have HG8:Hid (H+1+1+1 < g6):=qh (by
          rcases hg8 with h | h
          ·exact HOWN.out _ h
          ·have h9:g6=(World.alloc w7 _).heap.size:=h
           rw [h9,World.size_alloc];omega)
         obtain ⟨⟨y0,y1,y2⟩,z0,z1,z2⟩:=R8.out.cells
         have HK8:=qh K8
         clear K8 G8 hg8
         refine hK.out _ _ ?_ (fun hHeld=>?_)
         ·exact SS8
         clear hK K
         try simp only [Act.put,List.setIfInBounds_toArray,List.set_cons_zero,List.set_cons_succ]
         refine wpAnyH_take (i:=13) (v:=?_) rfl (by kernel_rfl) (by kernel_rfl) (by kernel_rfl) (fun _ _ _ h=>h) (Or.inl ⟨by rfl,?_⟩) (by assumption) ?_
         rotate_left
         ·(intro w hSw;(try dsimp only at hSw);go_simp;try with_reducible rfl)
         try simp only [Act.put,List.setIfInBounds_toArray,List.set_cons_zero,List.set_cons_succ]
         refine wpAnyH_ready (rs:=[14]) (by kernel_rfl) (by simp) ?_
         refine AllReadyH.cons rfl (fun K hK=>?_) ?_
         ·skip
          go_simp
          refine hK.out _ _ ?_ (fun hHeld=>?_)
          ·exact (SXO.out _ (KP8.out.set (by omega) _))
          clear hK K
          try simp only [Act.put,List.setIfInBounds_toArray,List.set_cons_zero,List.set_cons_succ]
          refine wpAnyH_done (by kernel_rfl) ?_ _
          have HFN:=qh (Fp.next hF.out HOWN.out HTT.out KP8.out HTK.out R8.out HK8.out HG8.out)
          clear SD SS7 SS8 d5 d7 d7' y0 y1 y2 z0 z1 z2
          go_wp2
          go_roundw
          case rel=>exact ⟨j+1,hlt,by push_cast;rfl,HFN⟩
          case measure=>simp [intOf];omega
         exact AllReadyH.nil
        exact AllReadyH.nil
       exact AllReadyH.nil
      exact AllReadyH.nil
     exact AllReadyH.nil
    ·have hjm':((j:Int)==(m:Int))=false:=by simp;omega
     have hjm2:¬ ((j:Int)=(m:Int)):=by omega
     have HTK:Hid (l'.take (j+1)=l'.take j++[.mk k1 s1 l1]):=qh (by rw [List.take_succ_eq_append_getElem (by rw [HLL.out];omega),←e1];congr 2;simp only [←HL'.out];rw [List.getElem_set_ne (fun e=>hjm e.symm)])
     have KDd:=qh (show KidsS (fun b=>T b∨H+1+1+1 < b) wr.drew (.slice oa j oc) (l'.take j) from KD.out.keep (w':=wr.drew) fun b' h1 _=>⟨rfl,h1⟩)
     have DRd:=qh (show Row3 wr.drew (H+1+1+1) (.int .i64 k0) (.string s0) (.slice oa j oc) from DR.out)
     have KPd:=qh (show Kp2 H (H+1+1+1) (.slice oa j oc) w wr wr.drew from (Kp2.refl hF.out.b).drew)
     have d5':=(fun x=>show (wr.alloc x).drew.cell? ⟨H+1+1+1,2,none⟩=some (.slice oa j oc) from (World.cell?_alloc_past (w:=wr) x (H+1+1+1) 2 hDr).trans d5)
     have d5'':=(fun x=>show (wr.alloc x).cell? ⟨H+1+1+1,2,none⟩=some (.slice oa j oc) from (World.cell?_alloc_past (w:=wr) x (H+1+1+1) 2 hDr).trans d5)
     have T1:=qh (show NdS T wr.drew (.mk k1 s1 l1) (.int .i64 k1) (.string s1) (.slice a1 l1.length c1) from r1.keep (w':=wr.drew) fun b' h1 _=>⟨hF.out.b.block b' (HTT.out b' h1),h1⟩)
     have hzd:wr.drew.heap.size=wr.heap.size:=rfl
     clear y0 y1 y2 r1 e1
     go_upto_region 9 with fail
     refine wp_region_held_drew (S:=(fun w'=>w'.cell? ⟨H,2,none⟩=some (.slice (some ⟨b1,o1,none⟩) l0.length c0)∧w'.cell? ⟨H+1,0,none⟩=some (.int .i64 kx)∧w'.cell? ⟨H+1,1,none⟩=some (.string sx)∧w'.cell? ⟨H+1,2,none⟩=some (.slice ax lx.length c9)∧w'.cell? ⟨b1,o1+j*3,none⟩=some (.int .i64 k1)∧w'.cell? ⟨b1,o1+j*3+1,none⟩=some (.string s1)∧w'.cell? ⟨b1,o1+j*3+2,none⟩=some (.slice a1 l1.length c1)∧Hid (Kp2 H (H+1+1+1) (.slice oa j oc) w wr w'))) (by kernel_rfl) SD (fun hHeld=>?_)
     refine wpAnyH_take (i:=0) (v:=?_) rfl (by kernel_rfl) (by kernel_rfl) (by kernel_rfl) (fun _ _ _ h=>h) (Or.inl ⟨by rfl,?_⟩) (by assumption) ?_
     rotate_left
     ·(intro w hSw;(try dsimp only at hSw);go_simp;try with_reducible rfl)
     try simp only [Act.put,List.setIfInBounds_toArray,List.set_cons_zero,List.set_cons_succ]
     refine wpAnyH_take (i:=2) (v:=?_) rfl (by kernel_rfl) (by kernel_rfl) (by kernel_rfl) (fun _ _ _ h=>h) (Or.inl ⟨by rfl,?_⟩) (by assumption) ?_
     rotate_left
     ·(intro w hSw;(try dsimp only at hSw);go_simp;try with_reducible rfl)
     try simp only [Act.put,List.setIfInBounds_toArray,List.set_cons_zero,List.set_cons_succ]
     refine wpAnyH_take (i:=3) (v:=?_) rfl (by kernel_rfl) (by kernel_rfl) (by kernel_rfl) (fun _ _ _ h=>h) (Or.inl ⟨by rfl,?_⟩) (by assumption) ?_
     rotate_left
     ·(intro w hSw;(try dsimp only at hSw);go_simp;try with_reducible rfl)
     try simp only [Act.put,List.setIfInBounds_toArray,List.set_cons_zero,List.set_cons_succ]
     refine wpAnyH_take (i:=4) (v:=?_) rfl (by kernel_rfl) (by kernel_rfl) (by kernel_rfl) (fun _ _ _ h=>h) (Or.inl ⟨by rfl,?_⟩) (by assumption) ?_
     rotate_left
     ·(intro w hSw;(try dsimp only at hSw);go_simp;try with_reducible rfl)
     try simp only [Act.put,List.setIfInBounds_toArray,List.set_cons_zero,List.set_cons_succ]
     refine wpAnyH_take (i:=5) (v:=?_) rfl (by kernel_rfl) (by kernel_rfl) (by kernel_rfl) (fun _ _ _ h=>h) (Or.inl ⟨by rfl,?_⟩) (by assumption) ?_
     rotate_left
     ·(intro w hSw;(try dsimp only at hSw);go_simp;try with_reducible rfl)
     try simp only [Act.put,List.setIfInBounds_toArray,List.set_cons_zero,List.set_cons_succ]
     refine wpAnyH_take (i:=6) (v:=?_) rfl (by kernel_rfl) (by kernel_rfl) (by kernel_rfl) (fun _ _ _ h=>h) (Or.inl ⟨by rfl,?_⟩) (by assumption) ?_
     rotate_left
     ·(intro w hSw;(try dsimp only at hSw);go_simp;try with_reducible rfl)
     try simp only [Act.put,List.setIfInBounds_toArray,List.set_cons_zero,List.set_cons_succ]
     refine wpAnyH_ready (rs:=[1,7]) (by kernel_rfl) (by simp) ?_
     refine AllReadyH.cons rfl (fun K hK=>?_) ?_
     ·skip
      go_simp
      refine hK.out _ _ ?_ (fun hHeld=>?_)
      ·exact SD
      clear hK K
      try simp only [Act.put,List.setIfInBounds_toArray,List.set_cons_zero,List.set_cons_succ]
      refine wpAnyH_ready (rs:=[7]) (by kernel_rfl) (by simp) ?_
      refine AllReadyH.cons rfl (fun K hK=>?_) ?_
      ·skip
       go_simp
       refine hK.out _ _ ?_ (fun hHeld=>?_)
       ·exact (SXO.out _ (KPd.out.alloc hHw _))
       clear hK K
       try simp only [Act.put,List.setIfInBounds_toArray,List.set_cons_zero,List.set_cons_succ]
       refine wpAnyH_ready (rs:=[8]) (by kernel_rfl) (by simp) ?_
       refine AllReadyH.cons rfl (fun K hK=>?_) ?_
       ·skip
        refine step_append_kidT rfl _ _ rfl (fun b=>T b∨H+1+1+1 < b) (.slice oa j oc) (l'.take j) rfl (KDd.out.keep fun b' h1 h2=>⟨Below.heap_alloc _ _ _ h2,h1⟩) ⟨wr.drew.heap.size,0,none⟩ 1 (by rfl) (.mk k1 s1 l1) (.int .i64 k1) (.string s1) (.slice a1 l1.length c1) (cells3 wr.drew _ _ _ _ _ rfl) (T1.out.keep (fun b' h1 h2=>⟨Below.heap_alloc _ _ _ h2,Or.inl h1,fun e=>by have:=HOWN.out b' e;have:=HTT.out b' h1;omega⟩)) (by rw [HLI.out];omega) (Or.inr (show H+1+1+1 < (World.alloc wr _).heap.size by rw [World.size_alloc];omega)) ?_
        intro g6 cap6 w8 K8 G8 hg8
        rw [HLI.out] at K8 ⊢
        have KP8:=qh ((KPd.out.alloc hHw _).grown hHw G8 HOWN.out (by omega))
        have SS8:=SXO.out _ KP8.out
        have R8:=qh ((DRd.out.alloc _).grown' G8 (fun e=>by have:=HOWN.out _ e.symm;omega))
        have HG8:Hid (H+1+1+1 < g6):=qh (by
         rcases hg8 with h | h
         ·exact HOWN.out _ h
         ·have h9:g6=(World.alloc wr _).heap.size:=h
          rw [h9,World.size_alloc];omega)
        obtain ⟨⟨y0,y1,y2⟩,z0,z1,z2⟩:=R8.out.cells
        have HK8:=qh K8
        clear K8 G8 hg8
        refine hK.out _ _ ?_ (fun hHeld=>?_)
        ·exact SS8
        clear hK K
        try simp only [Act.put,List.setIfInBounds_toArray,List.set_cons_zero,List.set_cons_succ]
        refine wpAnyH_take (i:=9) (v:=?_) rfl (by kernel_rfl) (by kernel_rfl) (by kernel_rfl) (fun _ _ _ h=>h) (Or.inl ⟨by rfl,?_⟩) (by assumption) ?_
        rotate_left
        ·(intro w hSw;(try dsimp only at hSw);go_simp;try with_reducible rfl)
        try simp only [Act.put,List.setIfInBounds_toArray,List.set_cons_zero,List.set_cons_succ]
        refine wpAnyH_ready (rs:=[10]) (by kernel_rfl) (by simp) ?_
        refine AllReadyH.cons rfl (fun K hK=>?_) ?_
        ·skip
         go_simp
         refine hK.out _ _ ?_ (fun hHeld=>?_)
         ·exact (SXO.out _ (KP8.out.set (by omega) _))
         clear hK K
         try simp only [Act.put,List.setIfInBounds_toArray,List.set_cons_zero,List.set_cons_succ]
         refine wpAnyH_done (by kernel_rfl) ?_ _
         have HFN:=qh (Fp.next hF.out HOWN.out HTT.out KP8.out HTK.out R8.out HK8.out HG8.out)
         clear SD  SS8 d5 d5' y0 y1 y2 z0 z1 z2
         go_wp2
         go_roundw
         case rel=>exact ⟨j+1,hlt,by push_cast;rfl,HFN⟩
         case measure=>simp [intOf];omega
        exact AllReadyH.nil
       exact AllReadyH.nil
      exact AllReadyH.nil
     refine AllReadyH.cons rfl (fun K hK=>?_) ?_
     ·skip
      go_simp
      refine hK.out _ _ ?_ (fun hHeld=>?_)
      ·exact (SXO.out _ (KPd.out.alloc hHw _))
      clear hK K
      try simp only [Act.put,List.setIfInBounds_toArray,List.set_cons_zero,List.set_cons_succ]
      refine wpAnyH_ready (rs:=[1]) (by kernel_rfl) (by simp) ?_
      refine AllReadyH.cons rfl (fun K hK=>?_) ?_
      ·skip
       go_simp
       refine hK.out _ _ ?_ (fun hHeld=>?_)
       ·exact (SXO.out _ (KPd.out.alloc hHw _))
       clear hK K
       try simp only [Act.put,List.setIfInBounds_toArray,List.set_cons_zero,List.set_cons_succ]
       refine wpAnyH_ready (rs:=[8]) (by kernel_rfl) (by simp) ?_
       refine AllReadyH.cons rfl (fun K hK=>?_) ?_
       ·skip
        refine step_append_kidT rfl _ _ rfl (fun b=>T b∨H+1+1+1 < b) (.slice oa j oc) (l'.take j) rfl (KDd.out.keep fun b' h1 h2=>⟨Below.heap_alloc _ _ _ h2,h1⟩) ⟨wr.drew.heap.size,0,none⟩ 1 (by rfl) (.mk k1 s1 l1) (.int .i64 k1) (.string s1) (.slice a1 l1.length c1) (cells3 wr.drew _ _ _ _ _ rfl) (T1.out.keep (fun b' h1 h2=>⟨Below.heap_alloc _ _ _ h2,Or.inl h1,fun e=>by have:=HOWN.out b' e;have:=HTT.out b' h1;omega⟩)) (by rw [HLI.out];omega) (Or.inr (show H+1+1+1 < (World.alloc wr _).heap.size by rw [World.size_alloc];omega)) ?_
        intro g6 cap6 w8 K8 G8 hg8
        rw [HLI.out] at K8 ⊢
        have KP8:=qh ((KPd.out.alloc hHw _).grown hHw G8 HOWN.out (by omega))
        have SS8:=SXO.out _ KP8.out
        have R8:=qh ((DRd.out.alloc _).grown' G8 (fun e=>by have:=HOWN.out _ e.symm;omega))
        have HG8:Hid (H+1+1+1 < g6):=qh (by
         rcases hg8 with h | h
         ·exact HOWN.out _ h
         ·have h9:g6=(World.alloc wr _).heap.size:=h
          rw [h9,World.size_alloc];omega)
        obtain ⟨⟨y0,y1,y2⟩,z0,z1,z2⟩:=R8.out.cells
        have HK8:=qh K8
        clear K8 G8 hg8
        refine hK.out _ _ ?_ (fun hHeld=>?_)
        ·exact SS8
        clear hK K
        try simp only [Act.put,List.setIfInBounds_toArray,List.set_cons_zero,List.set_cons_succ]
        refine wpAnyH_take (i:=9) (v:=?_) rfl (by kernel_rfl) (by kernel_rfl) (by kernel_rfl) (fun _ _ _ h=>h) (Or.inl ⟨by rfl,?_⟩) (by assumption) ?_
        rotate_left
        ·(intro w hSw;(try dsimp only at hSw);go_simp;try with_reducible rfl)
        try simp only [Act.put,List.setIfInBounds_toArray,List.set_cons_zero,List.set_cons_succ]
        refine wpAnyH_ready (rs:=[10]) (by kernel_rfl) (by simp) ?_
        refine AllReadyH.cons rfl (fun K hK=>?_) ?_
        ·skip
         go_simp
         refine hK.out _ _ ?_ (fun hHeld=>?_)
         ·exact (SXO.out _ (KP8.out.set (by omega) _))
         clear hK K
         try simp only [Act.put,List.setIfInBounds_toArray,List.set_cons_zero,List.set_cons_succ]
         refine wpAnyH_done (by kernel_rfl) ?_ _
         have HFN:=qh (Fp.next hF.out HOWN.out HTT.out KP8.out HTK.out R8.out HK8.out HG8.out)
         clear SD  SS8 d5 d5' y0 y1 y2 z0 z1 z2
         go_wp2
         go_roundw
         case rel=>exact ⟨j+1,hlt,by push_cast;rfl,HFN⟩
         case measure=>simp [intOf];omega
        exact AllReadyH.nil
       exact AllReadyH.nil
      exact AllReadyH.nil
     exact AllReadyH.nil
   ·have hlt':¬ ((j:Int) < (l0.length:Int)):=by omega
    obtain rfl:j=l0.length:=by omega
    obtain ⟨oa,oc,dr,kd,hown⟩:=hF.out.d
    have R:=hF.out.r
    have HR:=qh R
    have hhD:=dr.lt
    obtain ⟨⟨d0,d1,d2⟩,_⟩:=dr.cells
    obtain ⟨⟨r0,r1,r2⟩,q0,q1,q2⟩:=R.cells
    obtain ⟨⟨n0,n1,n2⟩,_⟩:=hF.out.n.cells
    have KD:=qh kd
    clear dr kd hown R
    go_wp2
    refine ret_node (HR.out.put _ _ _) rfl rfl rfl ?_
    have hh:=HH.out
    have kn:=KD.out
    rw [List.take_of_length_le (by rw [HLL.out];omega)] at kn
    have kn2:=kn.node k0 s0 HS0.out (by rw [HLL.out];unfold maxLen;omega)
    refine ⟨_,_,_,rfl,kn2.keep (fun b' h1 _=>⟨(Below.heap_setCell _ _ _ _ (show b'≠H+1+1 from h1.elim (fun h=>by have:=HTT.out b' h;omega) (fun h=>by omega))).trans ((Below.heap_setCell _ _ _ _ (show b'≠H+1+1 from h1.elim (fun h=>by have:=HTT.out b' h;omega) (fun h=>by omega))).trans (Below.heap_setCell _ _ _ _ (show b'≠H+1+1 from h1.elim (fun h=>by have:=HTT.out b' h;omega) (fun h=>by omega)))),h1.imp id (fun h=>by omega)⟩),?_⟩
    first
     | exact below_put3 hF.out.b (by omega) _ _ _
     | (rw [HH.out];exact below_put3 hF.out.b (by omega) _ _ _)
end Go.Proofs.YtgikhpmdpppenaaGreatDoor
namespace Go.Proofs.YtgikhpmdpppenaaGreatDoor
open Go.RowKit Go.Shelf
attribute [local go_sem] Oper.semAt_some
set_option maxRecDepth 100000 in
set_option maxHeartbeats 2000000 in
theorem rPutTree_any (t x:Nd) (v0 v1 v2 vp x0 x1 x2:Value) (p:List Int) (w:World) (ht:NdR w t v0 v1 v2) (hp:PathR w vp p) (hx:NdR w x x0 x1 x2) (er:Int) (tr:Nd) (hA:PutS (chkN t) (chkN x) (goN t p) (chkN (putN t p x)) (putN t p x) er tr) :
  Calls Tryz.prog 31 #[.agg #[v0,v1,v2],vp,.agg #[x0,x1,x2]] w (MR er tr w):=by
 obtain ⟨k0,s0,l0,a0,c0,rfl,rfl,rfl,rfl,_,_⟩:=ht.form
 obtain ⟨kx,sx,lx,ax,c9,rfl,rfl,rfl,rfl,_,_⟩:=hx.form
 obtain ⟨c,hc⟩:∃ c,chkN (.mk k0 s0 l0)=c:=⟨_,rfl⟩
 obtain ⟨d,hd⟩:∃ d,chkN (.mk kx sx lx)=d:=⟨_,rfl⟩
 obtain ⟨r,hr⟩:∃ r,goN (.mk k0 s0 l0) p=r:=⟨_,rfl⟩
 obtain ⟨pt,hpt⟩:∃ pt,putN (.mk k0 s0 l0) p (.mk kx sx lx)=pt:=⟨_,rfl⟩
 have hvp:∃ b1 c1,vp = .slice b1 p.length c1:=by obtain ⟨_,_,_,c1,b1,e,_⟩:=hp;exact ⟨b1,c1,e⟩
 obtain ⟨b1,c1,rfl⟩:=hvp
 obtain ⟨H,hH⟩:∃ H,w.heap.size=H:=⟨_,rfl⟩
 obtain ⟨W4,hW4⟩:∃ W4,((w.alloc (.cells #[.int .i64 k0,.string s0,.slice a0 l0.length c0] 24)).alloc (.cells #[.int .i64 kx,.string sx,.slice ax lx.length c9] 24)).alloc (.cells #[.int .i64 0,.string ⟨#[]⟩,.slice none 0 0,.int .i64 0] 40)=W4:=⟨_,rfl⟩
 have z4:W4.heap.size=H+1+1+1:=by rw [←hW4];simp [hH]
 have B4:Below H w W4:=by rw [←hW4,←hH];exact (((Below.refl _ w).alloc (Nat.le_refl _) _).alloc (by simp) _).alloc (by simp only [World.size_alloc];omega) _
 have N4:Row3 W4 H (.int .i64 k0) (.string s0) (.slice a0 l0.length c0):=by
  rw [←hW4,←hH];exact (Below.heap_alloc _ _ _ (by simp only [World.size_alloc];omega)).trans ((Below.heap_alloc _ _ _ (by simp only [World.size_alloc];omega)).trans (World.alloc_heap_new _ _))
 have X4:Row3 W4 (H+1) (.int .i64 kx) (.string sx) (.slice ax lx.length c9):=by
  rw [←hW4,←hH];exact (Below.heap_alloc _ _ _ (by simp only [World.size_alloc];omega)).trans (alloc_at (by simp))
 have R4:Row4 W4 (H+1+1) (.int .i64 0) (.string ⟨#[]⟩) (.slice none 0 0) (.int .i64 0):=by rw [←hW4,←hH];exact alloc_at (by simp)
 have CK:=qh (fun W (hb:Below H w W)=>rCheckN _ W _ _ _ (ht.later (by rw [hH];exact hb)))
 have CX:=qh (fun W (hb:Below H w W)=>rCheckN _ W _ _ _ (hx.later (by rw [hH];exact hb)))
 rw [hc] at CK hA
 rw [hd] at CX hA
 rw [hr,hpt] at hA
 have HT:=qh ht
 have HX:=qh hx
 have HP:=qh hp
 have HH:=qh hH
 have HZ:=qh z4
 have HC:=qh hc
 have HR:=qh hr
 have HPT:=qh hpt
 have HAS:=qh hA
 have HB4:=qh B4
 have HN4:=qh N4
 have HX4:=qh X4
 have HR4:=qh R4
 obtain ⟨⟨n0,n1,n2⟩,_⟩:=N4.cells
 clear ht hp hx hc hd hr hpt hA B4 N4 X4 R4
 go_enter Tryz.func31,Tryz.ntmps31
 go_upto_region 1 with fail
 (try rw [hW4])
 (try rw [HH.out])
 clear hW4
 go_wp2_with fail
 refine (CK.out _ HB4.out).mono ?_
 rintro e w5 ⟨rfl,b5⟩
 have zz:=HZ.out
 have HB5:=qh (HB4.out.trans (b5.mono (show H≤W4.heap.size by omega)))
 have hz5:H+1+1+1≤w5.heap.size:=by have:=b5.size;omega
 have R5:Row4 w5 (H+1+1) (.int .i64 0) (.string ⟨#[]⟩) (.slice none 0 0) (.int .i64 0):=HR4.out.below b5 HR4.out.lt
 have HR5:=qh R5
 have X5:Row3 w5 (H+1) (.int .i64 kx) (.string sx) (.slice ax lx.length c9):=HX4.out.below b5 HX4.out.lt
 obtain ⟨⟨r0,r1,r2,r3⟩,q0,q1,q2,q3⟩:=R5.cells
 obtain ⟨⟨x0,x1,x2⟩,_⟩:=X5.cells
 have Hb5:=qh b5
 clear R5 X5 b5 n0 n1 n2 CK
 by_cases hc0:c=0
 ·subst hc0
  go_wp2_with fail
  refine (CX.out _ HB5.out).mono ?_
  rintro e w6 ⟨rfl,b6⟩
  have HB6:=qh (HB5.out.trans (b6.mono (show H≤w5.heap.size by omega)))
  have Hb6:=qh (Hb5.out.trans (b6.mono Hb5.out.size))
  have hz6:H+1+1+1≤w6.heap.size:=by have:=b6.size;omega
  have R6:Row4 w6 (H+1+1) (.int .i64 0) (.string ⟨#[]⟩) (.slice none 0 0) (.int .i64 0):=HR5.out.below b6 HR5.out.lt
  have HR6:=qh R6
  have N6:Row3 w6 H (.int .i64 k0) (.string s0) (.slice a0 l0.length c0):=HN4.out.below Hb6.out HN4.out.lt
  obtain ⟨⟨r0',r1',r2',r3'⟩,q0',q1',q2',q3'⟩:=R6.cells
  obtain ⟨⟨n0,n1,n2⟩,_⟩:=N6.cells
  clear R6 N6 b6 CX r0 r1 r2 r3 q0 q1 q2 q3 x0 x1 x2 HR5
  by_cases hd0:d=0
  ·subst hd0
   clear r0' r1' r2' r3' q0' q1' q2' q3'
   obtain ⟨ea,ta,hat,hea⟩:∃ ea ta,AtS 0 r ea ta∧((r=none∧ea=3∧ta=zeroN)∨(r≠none∧ea=0)):=by
    cases r with
    | none=>exact ⟨3,zeroN,.inr (.inl ⟨rfl,rfl,rfl,rfl⟩),.inl ⟨rfl,rfl,rfl⟩⟩
    | some t'=>exact ⟨0,t',.inr (.inr ⟨rfl,rfl,rfl⟩),.inr ⟨by simp,rfl⟩⟩
   have FW:=qh (rAt_any _ _ _ _ _ p w6 (HT.out.later (by rw [HH.out];exact HB6.out)) (HP.out.later (by rw [HH.out];exact HB6.out)) ea ta (by rw [HC.out,HR.out];exact hat))
   have HEA:=qh hea
   clear hat hea
   go_wp2_with fail
   refine FW.out.mono ?_
   rintro e w7 ⟨u0,u1,u2,rfl,tu,b7⟩
   obtain ⟨ku,su,lu,au,cu,eu,rfl,rfl,rfl,_,_⟩:=tu.form
   have HB7:=qh (HB6.out.trans (b7.mono (show H≤w6.heap.size by omega)))
   have Hb7:=qh (Hb6.out.trans (b7.mono Hb6.out.size))
   have hz7:H+1+1+1≤w7.heap.size:=by have:=b7.size;omega
   have HEU:=qh eu
   clear tu b7 FW n0 n1 n2 HR6 eu
   obtain ⟨Y,hY⟩:∃ Y,w7.heap.size=Y:=⟨_,rfl⟩
   rcases HEA.out with ⟨hrn,rfl,rfl⟩ | ⟨hrn,rfl⟩
   ·have hE:Hid (er=3∧tr=zeroN):=qh (by
     rcases HAS.out with h | h | h | h
     ·exact absurd rfl h.1
     ·exact absurd rfl h.2.1
     ·exact h.2.2.2
     ·exact absurd hrn h.2.2.1)
    obtain ⟨W5,hW5⟩:∃ W5,w7.alloc (.cells #[.int .i64 ku,.string su,.slice au lu.length cu,.int .i64 3] 40)=W5:=⟨_,rfl⟩
    have A5:Row4 W5 Y (.int .i64 ku) (.string su) (.slice au lu.length cu) (.int .i64 3):=by rw [←hW5];exact alloc_at hY.symm
    have b75:Below w7.heap.size w7 W5:=by rw [←hW5];exact (Below.refl _ _).alloc (Nat.le_refl _) _
    have R5:Row4 W5 (H+1+1) (.int .i64 0) (.string ⟨#[]⟩) (.slice none 0 0) (.int .i64 0):=HR4.out.below (Hb7.out.trans (b75.mono Hb7.out.size)) HR4.out.lt
    have HR5:=qh R5
    have HB5':=qh (HB7.out.trans (b75.mono (show H≤w7.heap.size by omega)))
    obtain ⟨⟨r0,r1,r2,r3⟩,q0,q1,q2,q3⟩:=R5.cells
    obtain ⟨⟨n0,n1,n2,n3⟩,_⟩:=A5.cells
    clear R5 A5 b75
    go_wp2
    refine ret_made (HR5.out.put _ _ _ _) rfl rfl rfl ?_
    obtain ⟨rfl,rfl⟩:=hE.out
    have h9:=HEU.out
    cases h9
    exact ⟨_,_,_,rfl,(NdS.leaf (fun _=>True) _ 0 ⟨#[]⟩ (by decide) au cu).toR,by rw [HH.out];exact below_put4 HB5'.out (by omega) _ _ _ _⟩
   ·obtain ⟨W5,hW5⟩:∃ W5,w7.alloc (.cells #[.int .i64 ku,.string su,.slice au lu.length cu,.int .i64 0] 40)=W5:=⟨_,rfl⟩
    have A5:Row4 W5 Y (.int .i64 ku) (.string su) (.slice au lu.length cu) (.int .i64 0):=by rw [←hW5];exact alloc_at hY.symm
    obtain ⟨W6,hW6⟩:∃ W6,W5.setCell ⟨Y,3,none⟩ (.int .i64 0)=W6:=⟨_,rfl⟩
    have A6:Row4 W6 Y (.int .i64 ku) (.string su) (.slice au lu.length cu) (.int .i64 0):=by rw [←hW6];exact (setCell_row A5).trans rfl
    have b76:Below w7.heap.size w7 W6:=by rw [←hW6,←hW5];exact ((Below.refl _ _).alloc (Nat.le_refl _) _).setCell (p:=⟨Y,3,none⟩) (by simp only;omega) _
    have Hb46:=qh (Hb7.out.trans (b76.mono Hb7.out.size))
    have HB6':=qh (HB7.out.trans (b76.mono (show H≤w7.heap.size by omega)))
    have hz8:H+1+1+1≤W6.heap.size:=by have:=b76.size;omega
    have N6:Row3 W6 H (.int .i64 k0) (.string s0) (.slice a0 l0.length c0):=HN4.out.below Hb46.out HN4.out.lt
    have X6:Row3 W6 (H+1) (.int .i64 kx) (.string sx) (.slice ax lx.length c9):=HX4.out.below Hb46.out HX4.out.lt
    have R6:Row4 W6 (H+1+1) (.int .i64 0) (.string ⟨#[]⟩) (.slice none 0 0) (.int .i64 0):=HR4.out.below Hb46.out HR4.out.lt
    have HR6:=qh R6
    have hE:Hid (chkN pt=er∧((er≠0∧tr=zeroN)∨(er=0∧tr=pt))):=qh (by
     rcases HAS.out with h | h | h | h
     ·exact absurd rfl h.1
     ·exact absurd rfl h.2.1
     ·exact absurd h.2.2.1 hrn
     ·exact h.2.2.2)
    have hsz1:=chk_sz HC.out
    have RB:=qh (rPut_any (fun b=>b < H) (.mk kx sx lx) p (.mk k0 s0 l0) _ _ _ (.slice b1 p.length c1) _ _ _ W6 (fun b h=>by omega) (HT.out.toS.keep (w':=W6) fun b h1 h2=>⟨HB6'.out.block b (by omega),by omega⟩) (HP.out.later (by rw [HH.out];exact HB6'.out)) (HX.out.toS.keep (w':=W6) fun b h1 h2=>⟨HB6'.out.block b (by omega),by omega⟩) (by rw [HR.out];exact hrn) (by omega))
    rw [HPT.out] at RB
    obtain ⟨⟨n0,n1,n2⟩,_⟩:=N6.cells
    obtain ⟨⟨x0,x1,x2⟩,_⟩:=X6.cells
    obtain ⟨⟨y0,y1,y2,y3⟩,z0,z1,z2,z3⟩:=A5.cells
    obtain ⟨⟨g0,g1,g2,g3⟩,_⟩:=A6.cells
    clear R6 N6 X6 A5 A6 b76 hsz1
    go_wp2_with fail
    refine RB.out.mono ?_
    rintro e w8 ⟨u0,u1,u2,rfl,t8,b8⟩
    have CH:=qh (rChecked_any _ pt _ _ _ w8 t8 er tr hE.out.1 hE.out.2)
    obtain ⟨_,_,_,a6,c6,e6,rfl,rfl,rfl,_,_⟩:=t8.form
    have HB8:=qh (HB6'.out.trans (b8.mono (show H≤W6.heap.size by omega)))
    have R8:Row4 w8 (H+1+1) (.int .i64 0) (.string ⟨#[]⟩) (.slice none 0 0) (.int .i64 0):=HR6.out.below b8 HR6.out.lt
    have HR8:=qh R8
    have hz9:H+1+1+1≤w8.heap.size:=by have:=b8.size;omega
    clear R8 b8 t8 RB n0 n1 n2 x0 x1 x2 y0 y1 y2 y3 z0 z1 z2 z3 g0 g1 g2 g3
    go_wp2_with fail
    refine CH.out.mono ?_
    rintro e w9 ⟨u0,u1,u2,rfl,t9,b9⟩
    obtain ⟨_,_,_,a7,c7,e7,rfl,rfl,rfl,_,_⟩:=t9.form
    have R9:Row4 w9 (H+1+1) (.int .i64 0) (.string ⟨#[]⟩) (.slice none 0 0) (.int .i64 0):=HR8.out.below b9 HR8.out.lt
    have HR9:=qh R9
    have HB9:=qh (HB8.out.trans (b9.mono (show H≤w8.heap.size by omega)))
    have T9:=qh t9
    obtain ⟨⟨r0,r1,r2,r3⟩,q0,q1,q2,q3⟩:=R9.cells
    clear R9 b9 t9 CH
    go_wp2
    refine ret_made (HR9.out.put _ _ _ _) rfl rfl rfl ?_
    refine ⟨_,_,_,rfl,(T9.out.keep (S':=fun _=>True) (fun b (h1:b < H∨W6.heap.size≤b) _=>⟨far4 _ _ _ _ (by omega),trivial⟩)).toR,by rw [HH.out];exact below_put4 HB9.out (by omega) _ _ _ _⟩
  ·have hd1:(d==0)=false:=by simp [hd0]
   have hE:Hid (er=d∧tr=zeroN):=qh (by
    rcases HAS.out with h | h | h | h
    ·exact absurd rfl h.1
    ·exact h.2.2
    ·exact absurd h.2.1 hd0
    ·exact absurd h.2.1 hd0)
   clear n0 n1 n2
   go_wp2
   refine ret_made (HR6.out.put _ _ _ _) rfl rfl rfl ?_
   obtain ⟨rfl,rfl⟩:=hE.out
   exact ⟨_,_,_,rfl,zero_ndr _,by rw [HH.out];exact below_put4 HB6.out (by omega) _ _ _ _⟩
 ·have hc1:(c==0)=false:=by simp [hc0]
  have hE:Hid (er=c∧tr=zeroN):=qh (by
   rcases HAS.out with h | h | h | h
   ·exact h.2
   ·exact absurd h.1 hc0
   ·exact absurd h.1 hc0
   ·exact absurd h.1 hc0)
  clear x0 x1 x2 CX
  go_wp2
  refine ret_made (HR5.out.put _ _ _ _) rfl rfl rfl ?_
  obtain ⟨rfl,rfl⟩:=hE.out
  exact ⟨_,_,_,rfl,zero_ndr _,by rw [HH.out];exact below_put4 HB5.out (by omega) _ _ _ _⟩
end Go.Proofs.YtgikhpmdpppenaaGreatDoor
namespace Go.Proofs.YtgikhpmdpppenaaGreatDoor
open Go.RowKit
theorem item_of {w0:World} {b:Nat} {t:Nd} (h:t.okI) (v0 v1 v2:Value) (l:Tx) (w:World) (ht:NdR w0 t v0 v1 v2) (hp:PrI w0 b l w) (hlen:l.length+t.itm.length≤100000000) :
  Calls Tryz.prog 180 #[.pointer (some ⟨b,0,none⟩),.agg #[v0,v1,v2]] w (PrO w0 b l w t.itm):=by
 obtain ⟨k,s,kl⟩:=t
 exact item_says k s kl h.2.1 (fun i hi=>node_says _ (okL_get h.2.2 i hi)) v0 v1 v2 l w ht hp hlen
set_option maxRecDepth 100000 in
set_option maxHeartbeats 2000000 in
theorem whole_says {w0:World} {b:Nat} (t:Nd) (hok:t.okW) (v0 v1 v2:Value) (l:Tx) (w:World) (ht:NdR w0 t v0 v1 v2) (hp:PrI w0 b l w)
  (hlen:l.length+t.whl.length≤100000000):Calls Tryz.prog 139 #[.pointer (some ⟨b,0,none⟩),.agg #[v0,v1,v2]] w (PrO w0 b l w t.whl):=by
 obtain ⟨k,s,kl⟩:=t
 obtain ⟨_,_,_,a,cap,hform,rfl,rfl,rfl,hs,hl⟩:=ht.form
 cases hform
 obtain ⟨L,hL⟩:∃ L,kl.length=L:=⟨_,rfl⟩
 rw [hL] at ht hl
 rw [hL]
 obtain ⟨W,hW⟩:∃ W,w.alloc (.cells #[.int .i64 k,.string s,.slice a L cap] 24)=W:=⟨_,rfl⟩
 have R0':Row3 W w.heap.size (.int .i64 k) (.string s) (.slice a L cap):=by rw [←hW];exact Row3.new _ _ _ _
 have P0:=qh (hW▸hp.alloc (.cells #[.int .i64 k,.string s,.slice a L cap] 24))
 have K0:=qh (hW▸(Wr.refl w0.heap.size b w).alloc hp.size (.cells #[.int .i64 k,.string s,.slice a L cap] 24))
 have hne:w.heap.size≠b:=by have:=hp.p.lt;omega
 have HN:=qh ht
 have HL:=qh hlen
 unfold maxLen at hl
 obtain ⟨T,hT⟩:∃ T,(Nd.mk k s kl).whl=T:=⟨_,rfl⟩
 rw [hT] at HL hlen
 rw [hT]
 have HW:=qh hW
 have R0:=qh R0'
 have HLL:=qh hL
 clear hW R0' hp
 have hok':if k=1 then ∀ x∈kl,x.okI else if itemB (.mk k s kl)=true then (Nd.mk k s kl).okI else (Nd.mk k s kl).okP=true:=hok
 by_cases hk:k=1
 ·subst hk
  rw [if_pos rfl] at hok'
  have hXE:T=kl.flatMap fun x=>x.itm++[10]:=hT.symm
  have HXE:=qh hXE
  have HLen:=HL
  rw [hXE] at HLen
  have HK:=qh hok'
  clear hXE hT hlen hok hok' ht hL
  obtain ⟨⟨n0,n1,n2⟩,_⟩:=R0.out.cells
  go_enter Tryz.func139,Tryz.ntmps139
  go_upto_region 1 with fail
  rw [HW.out]
  go_wp2
  go_loopw [16] (fun v wr=>∃ i:Nat,i≤L∧v = .int .i64 i∧Hid (PrI w0 b (l++(kl.take i).flatMap fun x=>x.itm++[10]) wr)∧Hid (Wr w0.heap.size b w wr)) (fun v _=>L - (intOf v).toNat)
  case atStart=>exact ⟨0,Nat.zero_le _,rfl,qh (by simpa using P0.out),K0⟩
  case round =>
   obtain ⟨i,hi,rfl,PI,KI⟩:=hrel
   by_cases hlt:i < L
   ·have hlt':(i:Int) < (L:Int):=by omega
    have hi0:(0:Int)≤(i:Int):=by omega
    have hik:i < kl.length:=by rw [HLL.out];exact hlt
    have hm1:(i:Int)+1≤(L:Int):=by omega
    obtain ⟨bb,o,k1,s1,l1,a1,c1,rfl,e1,x0,x1,x2,r1⟩:=HN.out.kid i hik
    have y0:=PI.out.cell x0
    have y1:=PI.out.cell x1
    have y2:=PI.out.cell x2
    have yb:=lt_of_cell y0
    have hG:(kl.take (i+1)).flatMap (fun x=>x.itm++[10])=(kl.take i).flatMap (fun x=>x.itm++[10])++((kl[i]).itm++[10]):=by
     rw [List.take_succ_eq_append_getElem hik,List.flatMap_append]
     simp
    have hGl:((kl.take (i+1)).flatMap (fun x=>x.itm++[10])).length≤(kl.flatMap (fun x=>x.itm++[10])).length:=by
     conv=>rhs;rw [←List.take_append_drop (i+1) kl]
     rw [List.flatMap_append,List.length_append]
     omega
    have hlen3:=HLen.out
    rw [hG] at hGl
    simp only [List.length_append,List.length_cons,List.length_nil] at hGl
    generalize hU:(kl.take i).flatMap (fun x=>x.itm++[10])=U at *
    have hki:(kl[i]).okI:=HK.out _ (List.getElem_mem hik)
    obtain ⟨A,hA⟩:∃ A,(kl[i]).itm=A:=⟨_,rfl⟩
    rw [hA] at hG hGl
    have HG:=qh hG
    have CP:=qh (fun w' (h:PrI w0 b ((l++U)++A) w') n (hn:n=w'.heap.size)=>put1 h n hn ⟨#[10]⟩ (by have h1:(bs ⟨#[10]⟩).length=1:=rfl;simp only [List.length_append];omega))
    have CA:Hid (∀ w',PrI w0 b (l++U) w'→Calls Tryz.prog 180 #[.pointer (some ⟨b,0,none⟩),.agg #[.int .i64 k1,.string s1,.slice a1 l1.length c1]] w' (PrO w0 b (l++U) w' A)):=qh (fun w' h=>by
     have hl9:List.length (l++U)+A.length≤100000000:=by simp only [List.length_append];omega
     rw [←hA] at hl9 ⊢
     exact item_of hki _ _ _ _ w' (e1▸r1) h hl9)
    have PN:=qh (PI.out.alloc (.cells #[.int .i64 k1,.string s1,.slice a1 l1.length c1] 24))
    have KN:=qh (KI.out.alloc PI.out.size (.cells #[.int .i64 k1,.string s1,.slice a1 l1.length c1] 24))
    have hnn:wr.heap.size≠b:=by have:=PI.out.p.lt;omega
    clear hU hA hG hGl hlen3 x0 x1 x2 r1 e1 hik n0 n1 n2 hki
    go_wp2_with fail
    refine (CA.out _ PN.out).mono ?_
    rintro e w5 ⟨rfl,pp,kk⟩
    have P5:=qh pp
    have K5:=qh (KN.out.trans kk)
    clear pp kk CA y0 y1 y2 yb
    go_wp2_with fail
    refine (CP.out _ P5.out _ (by first | rfl | simp only [World.size_alloc])).mono ?_
    rintro e w6 ⟨rfl,pp,kk⟩
    have P6:Hid (PrI w0 b (l++(kl.take (i+1)).flatMap fun x=>x.itm++[10]) w6):=qh (by rw [HG.out];simpa only [List.append_assoc,bs_mk] using pp)
    have K6:=qh (K5.out.trans kk)
    clear pp kk CP
    go_wp2
    go_roundw
    case rel=>exact ⟨i+1,hlt,by push_cast;rfl,P6,K6⟩
    case measure=>simp [intOf];omega
   ·have hlt':¬ ((i:Int) < (L:Int)):=by omega
    have hG:kl.take i=kl:=List.take_of_length_le (by rw [HLL.out];omega)
    have P9:=qh (show PrI w0 b (l++T) wr by rw [HXE.out];have hh:=PI.out;rwa [hG] at hh)
    clear hG n0 n1 n2
    go_wp2
    go_end0
    exact ⟨rfl,P9.out,KI.out⟩
 ·have hk1:((k:Int)==1)=false:=by rw [beq_eq_false_iff_ne];exact hk
  rw [if_neg hk] at hok'
  obtain ⟨V,hV⟩:∃ V,itemB (.mk k s kl)=V:=⟨_,rfl⟩
  have CI:=qh (fun w' (h:PrI w0 b l w')=>isItem_any (.mk k s kl) w' _ _ _ (h.tree HN.out))
  rw [hV] at CI hok'
  cases V with
  | true =>
   rw [if_pos rfl] at hok'
   have hT2:(Nd.mk k s kl).itm=T:=by rw [←hT,Nd.whl,if_neg hk,if_pos hV]
   have C1:Hid (∀ w',PrI w0 b l w'→Calls Tryz.prog 180 #[.pointer (some ⟨b,0,none⟩),.agg #[.int .i64 k,.string s,.slice a L cap]] w' (PrO w0 b l w' T)):=qh (fun w' h=>by
    rw [←hT2] at hlen ⊢
    exact item_of hok' _ _ _ _ w' HN.out h hlen)
   clear hT hT2 hlen hok hok' ht hL hV hk HL
   obtain ⟨⟨n0,n1,n2⟩,_⟩:=R0.out.cells
   go_enter Tryz.func139,Tryz.ntmps139
   go_upto_region 1 with fail
   rw [HW.out]
   go_wp2_with fail
   refine (CI.out _ P0.out).mono ?_
   rintro e w1 ⟨rfl,bb⟩
   have P1:=qh (P0.out.later bb)
   have K1:=qh (K0.out.later bb P0.out.size)
   have R1:=qh (R0.out.below bb R0.out.lt)
   clear bb CI n0 n1 n2
   obtain ⟨⟨n0,n1,n2⟩,_⟩:=R1.out.cells
   go_wp2_with fail
   refine (C1.out _ P1.out).mono ?_
   rintro e w2 ⟨rfl,pp,kk⟩
   have P2:=qh pp
   have K2:=qh (K1.out.trans kk)
   have R2:=qh (kk.row3 R1.out hne)
   clear pp kk C1 n0 n1 n2
   go_wp2
   go_end0
   exact ⟨rfl,P2.out,K2.out⟩
  | false =>
   rw [if_neg (by decide)] at hok'
   have hT2:(Nd.mk k s kl).txt 0 false=T:=by rw [←hT,Nd.whl,if_neg hk,if_neg (by rw [hV];decide)]
   have C1:Hid (∀ (z:Int),z=((0:Nat):Int)→∀ w',PrI w0 b l w'→Calls Tryz.prog 182 #[.pointer (some ⟨b,0,none⟩),.agg #[.int .i64 k,.string s,.slice a L cap],.int .i64 z,.bool false] w' (PrO w0 b l w' T)):=qh (fun z hz w' h=>by
    subst hz
    rw [←hT2] at hlen ⊢
    exact node_says _ hok' _ _ _ 0 false _ w' (by decide) HN.out h hlen)
   clear hT hT2 hlen hok hok' ht hL hV hk HL
   obtain ⟨⟨n0,n1,n2⟩,_⟩:=R0.out.cells
   go_enter Tryz.func139,Tryz.ntmps139
   go_upto_region 1 with fail
   rw [HW.out]
   go_wp2_with fail
   refine (CI.out _ P0.out).mono ?_
   rintro e w1 ⟨rfl,bb⟩
   have P1:=qh (P0.out.later bb)
   have K1:=qh (K0.out.later bb P0.out.size)
   have R1:=qh (R0.out.below bb R0.out.lt)
   clear bb CI n0 n1 n2
   obtain ⟨⟨n0,n1,n2⟩,_⟩:=R1.out.cells
   go_wp2_with fail
   refine (C1.out _ (by first | rfl | (push_cast;rfl)) _ P1.out).mono ?_
   rintro e w2 ⟨rfl,pp,kk⟩
   have P2:=qh pp
   have K2:=qh (K1.out.trans kk)
   have R2:=qh (kk.row3 R1.out hne)
   clear pp kk C1 n0 n1 n2
   go_wp2
   go_end0
   exact ⟨rfl,P2.out,K2.out⟩
theorem pNew (w:World) (b:Nat) (hb:b=w.heap.size):PrW b b [] (w.alloc (.cells #[.pointer none,.slice none 0 0] 145)):=by
 subst hb
 exact .inl ⟨Nat.le_refl _,_,World.alloc_heap_new w _,World.ownsRow_nil _ _ _ _,by simp [Value.ownBlock]⟩
set_option maxRecDepth 100000 in
set_option maxHeartbeats 2000000 in
theorem canonical_any (t:Nd) (hv:chkN t=0) (v0 v1 v2:Value) (w:World) (ht:NdR w t v0 v1 v2) (hg:GLw w) (h2:2≤w.heap.size) :
  Calls Tryz.prog 94 #[.agg #[v0,v1,v2]] w fun e w'=>e = .returned (S_ t.whl)∧Below w.heap.size w w':=by
 obtain ⟨hok,hsz⟩:=valid_ok hv
 have hlen:=whl_len hok
 obtain ⟨k,s,kl,a,cap,rfl,rfl,rfl,rfl,hs,hl⟩:=ht.form
 obtain ⟨W,hW⟩:∃ W,w.alloc (.cells #[.int .i64 k,.string s,.slice a kl.length cap] 24)=W:=⟨_,rfl⟩
 have hb0:=(Below.refl w.heap.size w).alloc (Nat.le_refl _) (.cells #[.int .i64 k,.string s,.slice a kl.length cap] 24)
 have hsW:W.heap.size=w.heap.size+1:=by rw [←hW];simp
 have R0:Row3 W w.heap.size (.int .i64 k) (.string s) (.slice a kl.length cap):=by rw [←hW];exact Row3.new _ _ _ _
 rw [hW] at hb0
 have gW:=hg.keep fun b hb hl=>hb0.block b hl
 have tW:=ht.later hb0
 have hp0:PrI W W.heap.size [] (W.alloc (.cells #[.pointer none,.slice none 0 0] 145)):=⟨pNew W _ rfl,(Below.refl W.heap.size W).alloc (Nat.le_refl _) _,gW,by omega⟩
 obtain ⟨T,hT⟩:∃ T,(Nd.mk k s kl).whl=T:=⟨_,rfl⟩
 have CW:Hid (∀ (z:Nat),z=W.heap.size→Calls Tryz.prog 139 #[.pointer (some ⟨z,0,none⟩),.agg #[.int .i64 k,.string s,.slice a kl.length cap]] (W.alloc (.cells #[.pointer none,.slice none 0 0] 145)) (PrO W W.heap.size [] (W.alloc (.cells #[.pointer none,.slice none 0 0] 145)) T)):=qh (fun z hz=>by
  subst hz
  rw [←hT]
  exact whole_says (.mk k s kl) hok _ _ _ [] _ tW hp0 (by simp only [List.length_nil];omega))
 rw [hT]
 have HB:=qh hb0
 have HW:=qh hW
 have R1:=qh (R0.alloc (.cells #[.pointer none,.slice none 0 0] 145))
 obtain ⟨⟨n0,n1,n2⟩,_⟩:=R1.out.cells
 have HS:=qh hsW
 have HP0:=qh hp0
 obtain ⟨B,hB⟩:∃ B,W.heap.size=B:=⟨_,rfl⟩
 have HBs:=qh hB
 clear hT hlen hok hv ht hg hW hb0 gW tW hp0 R0 hsW hsz hB
 go_enter Tryz.func94,Tryz.ntmps94
 go_upto_region 1 with fail
 rw [HW.out]
 go_wp2_with fail
 refine (CW.out _ (by first | rfl | simp only [World.size_alloc])).mono ?_
 rintro e w5 ⟨rfl,pp,kk⟩
 have P5:=qh pp
 rw [List.nil_append] at P5
 have CS:=qh (pString_any W.heap.size W.heap.size T w5 P5.out.p P5.out.size)
 obtain ⟨z0,hz0⟩:∃ v,w5.cell? ⟨W.heap.size,0,none⟩=some v:=by
  rcases P5.out.p with h | h <;> exact ⟨_,h.cell0⟩
 clear pp kk CW n0 n1 n2
 go_wp2_with fail
 refine CS.out.mono ?_
 rintro e w6 ⟨rfl,hb⟩
 unfold S_
 go_wp2
 go_ret
 exact ⟨rfl,HB.out.trans ((P5.out.bl.trans hb).mono (by have:=HS.out;omega))⟩
set_option maxRecDepth 100000 in
set_option maxHeartbeats 2000000 in
theorem limited_any (s:ByteArray) (w:World) (hs:s.size≤maxLen) :
  Calls Tryz.prog 93 #[.string s] w fun e w'=>e = .returned (match Lx.scan (bs s) with | .toks _=>.tuple #[.string s,.int .i64 0] | .bad _ _=>.tuple #[.string ⟨#[]⟩,.int .i64 2])∧Below w.heap.size w w':=by
 cases hl:Lx.scan (bs s) with
 | bad i er =>
  have C:=qh (scan_bads2 s i er hl w hs)
  have her:((er:Int) != 0)=true:=by
   have:=scan_err hl
   rw [bne_iff_ne]
   omega
  clear hl
  go_enter Tryz.func93,Tryz.ntmps93
  go_wp2_with fail
  refine C.out.mono ?_
  rintro e w1 ⟨rfl,hb⟩
  have HB:=qh hb
  clear hb C
  go_wp2
  go_ret2
  exact ⟨rfl,HB.out⟩
 | toks ts =>
  have C:=qh (scan_any s w hs)
  unfold ScanOut at C
  rw [hl] at C
  clear hl
  go_enter Tryz.func93,Tryz.ntmps93
  go_wp2_with fail
  refine C.out.mono ?_
  rintro e w1 ⟨hb,v,rfl,_⟩
  have HB:=qh hb
  clear hb C
  go_wp2
  go_ret2
  exact ⟨rfl,HB.out⟩
def printP (t:Nd):Tx×Int:=if chkN t=0 then (match Lx.scan t.whl with | .toks _=>(t.whl,0) | .bad _ _=>([],2)) else ([],chkN t)
set_option maxRecDepth 100000 in
set_option maxHeartbeats 2000000 in
theorem Print_any (t:Nd) (v0 v1 v2:Value) (w:World) (ht:NdR w t v0 v1 v2) (hg:GLw w) (h2:2≤w.heap.size) :
  Calls Tryz.prog 45 #[.agg #[v0,v1,v2]] w fun e w'=>e = .returned (.tuple #[S_ (printP t).1,.int .i64 (printP t).2])∧Below w.heap.size w w':=by
 obtain ⟨k,s,kl,a,cap,rfl,rfl,rfl,rfl,hs,hl⟩:=ht.form
 obtain ⟨W,hW⟩:∃ W,w.alloc (.cells #[.int .i64 k,.string s,.slice a kl.length cap] 24)=W:=⟨_,rfl⟩
 have hb0:=(Below.refl w.heap.size w).alloc (Nat.le_refl _) (.cells #[.int .i64 k,.string s,.slice a kl.length cap] 24)
 have R0:Row3 W w.heap.size (.int .i64 k) (.string s) (.slice a kl.length cap):=by rw [←hW];exact Row3.new _ _ _ _
 rw [hW] at hb0
 have gW:=hg.keep fun b hb hl=>hb0.block b hl
 have tW:=ht.later hb0
 have hsW:W.heap.size=w.heap.size+1:=by rw [←hW];simp
 have CC:=qh (check_tree (.mk k s kl) W _ _ _ tW)
 obtain ⟨c,hc⟩:∃ c,chkN (.mk k s kl)=c:=⟨_,rfl⟩
 obtain ⟨r,hr⟩:∃ r,printP (.mk k s kl)=r:=⟨_,rfl⟩
 rw [hr]
 unfold printP at hr
 rw [hc] at CC hr
 have HB:=qh hb0
 have HW:=qh hW
 have HR:=qh R0
 have HS:=qh hsW
 have GW:=qh gW
 have TW:=qh tW
 by_cases h0:c=0
 ·subst h0
  rw [if_pos rfl] at hr
  obtain ⟨hok,hsz⟩:=valid_ok hc
  have hlen:=whl_len hok
  have CP:=qh (fun w' (hb:Below W.heap.size W w')=>canonical_any (.mk k s kl) hc _ _ _ w' (TW.out.later hb) (GW.out.keep fun b h1 h3=>hb.block b h3) (by have:=hb.size;have:=HS.out;omega))
  obtain ⟨T,hT⟩:∃ T,(Nd.mk k s kl).whl=T:=⟨_,rfl⟩
  rw [hT] at CP hr hlen
  have CL:=qh (fun w'=>limited_any ⟨T.toArray⟩ w' (by show T.toArray.size≤maxLen;unfold maxLen;simp;omega))
  have hq:∃ q,(match Lx.scan (bs ⟨T.toArray⟩) with | .toks _=>Value.tuple #[.string ⟨T.toArray⟩,.int .i64 0] | .bad _ _=>.tuple #[.string ⟨#[]⟩,.int .i64 2]) = .tuple #[.string ⟨r.1.toArray⟩,.int .i64 r.2]:=⟨0,by
   rw [←hr,bs_mk]
   cases Lx.scan T <;> rfl⟩
  obtain ⟨_,hq⟩:=hq
  simp only [hq] at CL
  obtain ⟨⟨n0,n1,n2⟩,_⟩:=R0.cells
  unfold S_ at CP
  unfold S_
  obtain ⟨r1,r2⟩:=r
  simp only at CL ⊢
  clear hT hlen hok hc hr ht hg hW hb0 gW tW R0 hsW hsz hq
  go_enter Tryz.func45,Tryz.ntmps45
  go_upto_region 1 with fail
  rw [HW.out]
  go_wp2_with fail
  refine CC.out.mono ?_
  rintro e w1 ⟨rfl,hb⟩
  have B1:=qh hb
  have R1:=qh (HR.out.below hb HR.out.lt)
  clear hb CC n0 n1 n2
  obtain ⟨⟨n0,n1,n2⟩,_⟩:=R1.out.cells
  go_wp2_with fail
  refine (CP.out _ B1.out).mono ?_
  rintro e w2 ⟨rfl,hb⟩
  have B2:=qh (B1.out.trans (hb.mono B1.out.size))
  clear hb CP n0 n1 n2
  go_wp2_with fail
  refine (CL.out _).mono ?_
  rintro e w3 ⟨rfl,hb⟩
  have B3:=qh (B2.out.trans (hb.mono B2.out.size))
  clear hb CL
  go_wp2
  go_ret2
  exact ⟨rfl,HB.out.trans (B3.out.mono (by have:=HS.out;omega))⟩
 ·rw [if_neg h0] at hr
  have hc0:((c:Int)==0)=false:=by rw [beq_eq_false_iff_ne];exact h0
  have hc1:((c:Int) != 0)=true:=by rw [bne_iff_ne];exact h0
  subst hr
  obtain ⟨⟨n0,n1,n2⟩,_⟩:=R0.cells
  clear hc ht hg hW hb0 gW tW R0 hsW h0
  go_enter Tryz.func45,Tryz.ntmps45
  go_upto_region 1 with fail
  rw [HW.out]
  go_wp2_with fail
  refine CC.out.mono ?_
  rintro e w1 ⟨rfl,hb⟩
  have B1:=qh hb
  clear hb CC n0 n1 n2
  go_wp2
  go_ret2
  exact ⟨rfl,HB.out.trans (B1.out.mono (by have:=HS.out;omega))⟩
end Go.Proofs.YtgikhpmdpppenaaGreatDoor
namespace Go.Proofs.YtgikhpmdpppenaaGreatDoor
def nm_ (c:UInt8):Nd:=.mk 15 ⟨#[c]⟩ []
def tree1:Nd:=.mk 25 ⟨#[]⟩ [nm_ 97,.mk 23 ⟨#[]⟩ [.mk 22 ⟨#[]⟩ [nm_ 98,nm_ 99],nm_ 100]]
def tree2:Nd:=.mk 27 ⟨#[]⟩ [.mk 27 ⟨#[]⟩ [nm_ 97,.mk 28 ⟨#[]⟩ [nm_ 98,nm_ 99]],nm_ 100]
def tree3:Nd:=.mk 22 ⟨#[]⟩ [.mk 29 ⟨#[]⟩ [.mk 18 ⟨#[120]⟩ [.mk 15 ⟨#[112]⟩ [nm_ 120]]],nm_ 113]
def varX:Nd:=.mk 16 ⟨#[88]⟩ []
def tree6:Nd:=.mk 1 ⟨#[]⟩ [.mk 4 ⟨#[112]⟩ [nm_ 105,.mk 31 ⟨#[]⟩ [nm_ 105,nm_ 105]],.mk 8 ⟨#[114]⟩ [.mk 27 ⟨#[]⟩ [.mk 15 ⟨#[112]⟩ [varX],.mk 15 ⟨#[113]⟩ [varX]]]]
abbrev txt1:ByteArray:={ data:=#[97,32,45,111,32,98,32,42,32,99,32,38,32,100] }
abbrev txt2:ByteArray:={ data:=#[97,32,111,45,32,40,98,32,60,61,32,99,41,32,111,45,32,40,40,100,41,41] }
abbrev txt4:ByteArray:={ data:=#[97,32,45,111] }
abbrev txt5:ByteArray:={ data:=#[97,32,41,32,98] }
abbrev txt6:ByteArray:={ data:=#[112,114,101,100,32,112,32,105,32,40,105,32,45,62,32,105,41,46,32,114,117,108,101,32,114,58,32,112,32,88,32,111,45,32,113,32,88,46] }
theorem parse1:parseP (bs txt1) 18=(some tree1,0,0):=by kernel_rfl
theorem parse2:parseP (bs txt2) 18=(some tree2,0,0):=by kernel_rfl
theorem parse4:parseP (bs txt4) 18=(none,4,20):=by kernel_rfl
theorem parse5:parseP (bs txt5) 18=(none,2,20):=by kernel_rfl
theorem parse6:parseP (bs txt6) 1=(some tree6,0,0):=by kernel_rfl
abbrev out2:ByteArray:={ data:=#[97,32,111,45,32,40,98,32,60,61,32,99,41,32,111,45,32,100] }
abbrev out3:ByteArray:={ data:=#[33,40,97,108,108,32,120,46,32,112,32,120,41,32,42,32,113] }
abbrev out6:ByteArray:={ data:=#[112,114,101,100,32,112,32,105,32,40,105,32,45,62,32,105,41,46,10,114,117,108,101,32,114,58,32,112,32,88,32,111,45,32,113,32,88,46,10] }
theorem print1:printP tree1=(bs txt1,0):=by kernel_rfl
theorem print2:printP tree2=(bs out2,0):=by kernel_rfl
theorem print3:printP tree3=(bs out3,0):=by kernel_rfl
theorem print6:printP tree6=(bs out6,0):=by kernel_rfl
theorem vars6:occs 16 (preN 0 [] false tree6)=[⟨#[88]⟩]:=by kernel_rfl
theorem valid6:chkN tree6=0:=by kernel_rfl
end Go.Proofs.YtgikhpmdpppenaaGreatDoor
namespace Go.Proofs.YtgikhpmdpppenaaGreatDoor
open Go.RowKit Go.Shelf
theorem rowS_cells {n₁:Nat} {w:World} {a:Option Addr} {n c:Nat} {ss:List ByteArray} (h:RowS n₁ w (.slice a n c) ss) :
  n=ss.length∧(ss=[]∨∃ g,a=some ⟨g,0,none⟩∧∀ j,j < ss.length→w.cell? ⟨g,0+j,none⟩=some (.string (ss.getD j ByteArray.empty))):=by
 have h':w.ownsRow n₁ 9 1 (.slice a n c) (ss.map Value.string).length (ss.map Value.string):=h
 obtain ⟨a',c',e⟩:=row_shape h'
 cases e
 refine ⟨by simp,?_⟩
 rcases h'.2 with ⟨_,h0⟩ | ⟨g,cap,cur,hv,_⟩
 ·left
  simpa using h0
 ·right
  cases hv
  refine ⟨g,rfl,fun j hj=>?_⟩
  have hc:=h'.cells (g:=g) rfl j (.string (ss.getD j ByteArray.empty)) (by
   rw [List.getElem?_map,List.getD_eq_getElem?_getD,List.getElem?_eq_getElem hj]
   rfl)
  have hadd:(⟨g,0,none⟩:Addr).add j=⟨g,0+j,none⟩:=by unfold Addr.add;split <;> simp_all
  rwa [hadd] at hc
theorem containsS_nil (x:ByteArray):Lib.containsS [] x=false:=by
 rw [←Bool.not_eq_true,Lib.containsS_iff]
 simp
theorem contains_row {n₁:Nat} (w:World) (a:Option Addr) (n c:Nat) (ss:List ByteArray) (x:ByteArray) (h:RowS n₁ w (.slice a n c) ss) (hl:ss.length≤9000000000000000000) :
  Calls Tryz.prog 71 #[.slice a n c,.string x] w fun e w'=>e = .returned (.bool (Lib.containsS ss x))∧w'=w:=by
 obtain ⟨rfl,h0 | ⟨g,rfl,hc⟩⟩:=rowS_cells h
 ·subst h0
  rw [containsS_nil]
  exact Tryz.slices_Contains_string_empty a c x w
 ·refine (Tryz.slices_Contains_string g 0 ss.length c ss x w (Nat.le_refl _) (by omega) hc).mono ?_
  rintro e w' ⟨rfl,rfl⟩
  rw [List.take_of_length_le (Nat.le_refl _)]
  exact ⟨rfl,rfl⟩
set_option maxRecDepth 100000 in
set_option maxHeartbeats 1000000 in
theorem frees_any (n₁:Nat) (ap ai:Option Addr) (np cp ni ci:Nat) (wd:Bool) (k:Int) (s:ByteArray) (a:Option Addr) (n cap:Nat) (ss:List ByteArray) (w:World) (hi:RowS n₁ w (.slice ai ni ci) ss) (hl:ss.length≤90000) :
  Calls Tryz.prog 70 #[.agg #[.slice ap np cp,.slice ai ni ci,.bool wd],.agg #[.int .i64 k,.string s,.slice a n cap]] w fun e w'=>e = .returned (.bool ((k==15 || k==16) && (!wd && !Lib.containsS ss s)))∧Below w.heap.size w w':=by
 obtain ⟨W,hW⟩:∃ W,(w.alloc (.cells #[.slice ap np cp,.slice ai ni ci,.bool wd] 80)).alloc (.cells #[.int .i64 k,.string s,.slice a n cap] 24)=W:=⟨_,rfl⟩
 have hb:Below w.heap.size w W:=by rw [←hW];exact ((Below.refl _ w).alloc (Nat.le_refl _) _).alloc (by simp) _
 have hi2:RowS n₁ W (.slice ai ni ci) ss:=row_keep hi fun g e=>hb.block g (World.ownsRow.lt hi g e).2
 have CC:=qh (contains_row W ai ni ci ss s hi2 (by omega))
 obtain ⟨V,hV⟩:∃ V,Lib.containsS ss s=V:=⟨_,rfl⟩
 rw [hV] at CC ⊢
 have HB:=qh hb
 have HW:=qh hW
 have hA:RowP W w.heap.size (.slice ap np cp) (.slice ai ni ci) (.bool wd):=by rw [←hW];exact (Below.heap_alloc _ _ _ (by simp only [World.size_alloc];omega)).trans (World.alloc_heap_new _ _)
 have hN:Row3 W (w.heap.size+1) (.int .i64 k) (.string s) (.slice a n cap):=by rw [←hW];exact alloc_at (by simp)
 obtain ⟨⟨p0,p1,p2⟩,_⟩:=hA.cells
 obtain ⟨⟨n0,n1,n2⟩,_⟩:=hN.cells
 obtain ⟨X,hX⟩:∃ X,(k==15 || k==16)=X:=⟨_,rfl⟩
 rw [hX]
 have HX:=qh hX
 clear hV hb hW hi hi2 hA hN hX hl
 cases h15:(k==15) with
 | true =>
  have HE:Hid (X=true):=qh (by rw [←HX.out,h15];rfl)
  clear HX
  cases wd with
  | true =>
   go_enter Tryz.func70,Tryz.ntmps70
   go_upto_region 1 with fail
   rw [HW.out]
   go_wp2
   go_ret
   exact ⟨by rw [HE.out];rfl,HB.out⟩
  | false =>
   go_enter Tryz.func70,Tryz.ntmps70
   go_upto_region 1 with fail
   rw [HW.out]
   go_wp2_with fail
   refine CC.out.mono ?_
   rintro e w1 ⟨rfl,rfl⟩
   go_wp2
   go_ret
   exact ⟨by rw [HE.out];rfl,HB.out⟩
 | false =>
  cases h16:(k==16) with
  | true =>
   have HE:Hid (X=true):=qh (by rw [←HX.out,h15,h16];rfl)
   clear HX
   cases wd with
   | true =>
    go_enter Tryz.func70,Tryz.ntmps70
    go_upto_region 1 with fail
    rw [HW.out]
    go_wp2
    go_ret
    exact ⟨by rw [HE.out];rfl,HB.out⟩
   | false =>
    go_enter Tryz.func70,Tryz.ntmps70
    go_upto_region 1 with fail
    rw [HW.out]
    go_wp2_with fail
    refine CC.out.mono ?_
    rintro e w1 ⟨rfl,rfl⟩
    go_wp2
    go_ret
    exact ⟨by rw [HE.out];rfl,HB.out⟩
  | false =>
   have HE:Hid (X=false):=qh (by rw [←HX.out,h15,h16];rfl)
   clear HX
   go_enter Tryz.func70,Tryz.ntmps70
   go_upto_region 1 with fail
   rw [HW.out]
   go_wp2
   go_ret
   exact ⟨by rw [HE.out];rfl,HB.out⟩
end Go.Proofs.YtgikhpmdpppenaaGreatDoor
namespace Go.Proofs.YtgikhpmdpppenaaGreatDoor
open Go.RowKit Go.Shelf
def mapOf (out:List ByteArray):List (List UInt8×Value):=out.map fun s=>(bs s,.bool true)
theorem S_bs (s:ByteArray):S_ (bs s) = .string s:=rfl
theorem found_map (out:List ByteArray) (s:ByteArray):found (mapOf out) (bs s)=if Lib.containsS out s=true then some (.bool true) else none:=by
 unfold found mapOf
 rw [List.find?_map]
 by_cases h:s∈out
 ·rw [if_pos ((Lib.containsS_iff _ _).2 h)]
  cases hf:out.find? ((fun p:List UInt8×Value=>p.1==bs s)∘fun s=>(bs s,Value.bool true)) with
  | none =>
   rw [List.find?_eq_none] at hf
   have:=hf s h
   simp at this
  | some x=>rfl
 ·rw [if_neg (fun e=>h ((Lib.containsS_iff _ _).1 e))]
  cases hf:out.find? ((fun p:List UInt8×Value=>p.1==bs s)∘fun s=>(bs s,Value.bool true)) with
  | none=>rfl
  | some x =>
   have h1:=List.mem_of_find?_eq_some hf
   have h2:=List.find?_some hf
   simp only [Function.comp_apply,beq_iff_eq] at h2
   rw [bs_inj h2] at h1
   exact absurd h1 h
theorem run_lookup_one {P:Program} {w:World} {t k e:TypeId} (ht:P.underlying t=some (.map k e)) (hk:P.underlying k=some .string) {z:Value} (hz:(zeroValue e).run P w = .ok z w) {b:Nat} {L:List (List UInt8×Value)} (hm:StrMap w b L) (s:List UInt8) :
  (Instr.lookup t (.map (some b)) (S_ s) false).run P w = .ok ((found L s).getD z) w:=by
 obtain ⟨es,c,h1,h2⟩:=hm
 obtain ⟨r,h3,h4⟩:=findNow_str s es.toList L 0 h2
 unfold S_ at h3 ⊢
 cases r with
 | none =>
  have h5:found L s=none:=by rw [←h4];rfl
  simp [Instr.lookup,run_underlying ht,MapKept.run_getObj_map h1,checkStr,hk,run_underlying hk,Instr.findKey,h3,hz,Result.andThen,h5]
 | some p =>
  have h5:found L s=some p.2:=by rw [←h4];rfl
  simp [Instr.lookup,run_underlying ht,MapKept.run_getObj_map h1,checkStr,hk,run_underlying hk,Instr.findKey,h3,hz,Result.andThen,h5]
theorem run_met {w:World} {b:Nat} {out:List ByteArray} (hm:StrMap w b (mapOf out)) (s:ByteArray) :
  (Instr.lookup 111 (.map (some b)) (.string s) false).run Tryz.prog w = .ok (.bool (Lib.containsS out s)) w:=by
 have:=run_lookup_one (P:=Tryz.prog) (z:=.bool false) Tryz.underlying111 Tryz.underlying9 (by kernel_rfl) hm (bs s)
 rw [S_bs,found_map] at this
 rw [this]
 cases Lib.containsS out s <;> rfl
theorem run_meet {w:World} {b:Nat} {out:List ByteArray} (hm:StrMap w b (mapOf out)) (s:ByteArray) (hs:Lib.containsS out s=false) :
  ∃ w',(Instr.mapUpdate 111 (.map (some b)) (.string s) (.bool true)).run Tryz.prog w = .ok () w'∧StrMap w' b (mapOf (out++[s]))∧w'.heap.size=w.heap.size∧(∀ B,B≤b→Below B w w')∧∀ j,j≠b→w'.heap[j]?=w.heap[j]?:=by
 obtain ⟨w',h1,h2,h3,h4,h5,h6,h7⟩:=run_insert_str (P:=Tryz.prog) Tryz.underlying111 Tryz.underlying9 hm (bs s) (.bool true) (by rw [found_map,if_neg (by rw [hs];decide)])
 refine ⟨w',h1,?_,h3,fun B hB=>⟨h4,h5,h6,Nat.le_of_eq h3.symm,fun j hj=>h7 j (by omega)⟩,h7⟩
 unfold mapOf at h2 ⊢
 rw [List.map_append]
 exact h2
structure JFc (L1 T:Nat) (w1:World) (out:List ByteArray) (W:World):Prop where
 b:Below L1 w1 W
 z:T+1+1 < W.heap.size
 d:W.heap[T+1]?=some (.deferred (some []))
 m:StrMap W (L1+1) (mapOf out)
 v:W.heap[L1+1+1]?=some (.cells #[.map (some (L1+1))] 111 (0,0))
 c:∃ vl,W.heap[L1]?=some (.cells #[vl] 31 (0,0))∧RowS (T+1+1+1) W vl out
def Oo (L1:Nat) (W:World) (b:Nat):Prop:=b=L1∨∃ v,W.cell? ⟨L1,0,none⟩=some v∧v.ownBlock=some b
theorem JFc.keep {L1 T:Nat} {w1 W W':World} {out:List ByteArray} (j:JFc L1 T w1 out W) (hT:L1+1+1+1=T) (hb:Below L1 w1 W') (hz:W.heap.size≤W'.heap.size)
  (hk:∀ b,b < W.heap.size→b≠T+1+1→(b < T+1+1∨Oo L1 W b)→W'.heap[b]?=W.heap[b]?):JFc L1 T w1 out W':=by
 have z:=j.z
 obtain ⟨vl,c1,c2⟩:=j.c
 refine ⟨hb,by omega,(hk _ (by omega) (by omega) (.inl (by omega))).trans j.d,j.m.keep (hk _ (by omega) (by omega) (.inl (by omega))),(hk _ (by omega) (by omega) (.inl (by omega))).trans j.v,vl,(hk _ (by omega) (by omega) (.inl (by omega))).trans c1,row_keep c2 fun g e=>?_⟩
 have:=World.ownsRow.lt c2 g e
 exact hk g this.2 (by omega) (.inr (.inr ⟨vl,cell_of_row _ _ _ _ _ _ c1,e⟩))
theorem JFc.own {L1 T:Nat} {w1 W:World} {out:List ByteArray} (j:JFc L1 T w1 out W) {b:Nat} (h:Oo L1 W b):b=L1∨(T+1+1+1≤b∧b < W.heap.size):=by
 rcases h with h | ⟨v,h1,h2⟩
 ·exact .inl h
 ·obtain ⟨vl,c1,c2⟩:=j.c
  rw [cell_of_row _ _ _ _ _ _ c1] at h1
  cases h1
  exact .inr (World.ownsRow.lt c2 b h2)
theorem JFc.add {L1 T:Nat} {w1 w6 w8:World} {out:List ByteArray} {s:ByteArray} {vl v':Value} (hT:L1+1+1+1=T) (hb:Below L1 w1 w8) (z:T+1+1 < w6.heap.size) (hz:w6.heap.size≤w8.heap.size) (d:w6.heap[T+1]?=some (.deferred (some [])))
  (m:StrMap w6 (L1+1) (mapOf (out++[s]))) (v:w6.heap[L1+1+1]?=some (.cells #[.map (some (L1+1))] 111 (0,0)))
  (c:w6.heap[L1]?=some (.cells #[vl] 31 (0,0))) (ho:∀ g,vl.ownBlock=some g→T+1+1+1≤g) (hk:∀ b,b < w6.heap.size→vl.ownBlock≠some b→w8.heap[b]?=w6.heap[b]?) (r:RowS (T+1+1+1) w8 v' (out++[s])) :
  JFc L1 T w1 (out++[s]) (w8.setCell ⟨L1,0,none⟩ v'):=by
 have far:∀ b,b≠L1→(w8.setCell ⟨L1,0,none⟩ v').heap[b]?=w8.heap[b]?:=fun b hb=>Below.heap_setCell _ _ _ _ (by simp only;exact hb)
 have lo:∀ b,b < T+1+1+1→w8.heap[b]?=w6.heap[b]?:=fun b hb=>hk b (by omega) (fun e=>by have:=ho b e;omega)
 refine ⟨hb.setCell (p:=⟨L1,0,none⟩) (Nat.le_refl _) _,by rw [setCell_size];omega,(far _ (by omega)).trans ((lo _ (by omega)).trans d),m.keep ((far _ (by omega)).trans (lo _ (by omega))),(far _ (by omega)).trans ((lo _ (by omega)).trans v),v',heap_setCell_same _ _ 0 _ _ _ ((lo _ (by omega)).trans c),row_keep r fun g e=>far g (by have:=World.ownsRow.lt r g e;omega)⟩
theorem JFc.putLoop {L1 T:Nat} {w1 W:World} {out:List ByteArray} (j:JFc L1 T w1 out W) (hT:L1+1+1+1=T) (rl:Loop):JFc L1 T w1 out (W.putObj (T+1+1) (.loop rl)) :=
 j.keep hT (below_put j.b _ _ (by omega)) (by rw [World.putObj_size];exact Nat.le_refl _) (fun b _ h2 _=>World.putObj_heap_other h2)
theorem Kc.putLoop {L1 T:Nat} {A W:World} {r:Loop} (k:Kc (Oo L1) A W) (hT:L1+1+1+1=T) (hl:A.heap[T+1+1]?=some (.loop r)) (rl:Loop):Kc (Oo L1) A (W.putObj (T+1+1) (.loop rl)):=by
 refine ⟨by rw [World.putObj_size];exact k.1,fun b c t z h1 e=>(World.putObj_heap_other (by rintro rfl;rw [hl] at e;cases e)).trans (k.2.1 b c t z h1 e),fun b hb=>k.2.2 b ?_⟩
 rcases hb with h | ⟨v,h1,h2⟩
 ·exact .inl h
 ·exact .inr ⟨v,(World.cell?_of_block (w:=W) (World.putObj_heap_other (by simp only;omega))).symm.trans h1,h2⟩
theorem Kc.same {L1 T:Nat} {A W:World} {r:Loop} (hT:L1+1+1+1=T) (hz:A.heap.size≤W.heap.size) (hl:A.heap[T+1+1]?=some (.loop r)) (hk:∀ b,b < A.heap.size→b≠T+1+1→W.heap[b]?=A.heap[b]?):Kc (Oo L1) A W:=by
 have:=heap_lt hl
 refine ⟨hz,fun b c t z h1 e=>(hk b (heap_lt e) (by rintro rfl;rw [hl] at e;cases e)).trans e,fun b hb=>.inl ?_⟩
 rcases hb with h | ⟨v,h1,h2⟩
 ·exact .inl h
 ·exact .inr ⟨v,(World.cell?_of_block (w:=A) (hk L1 (by omega) (by omega))).symm.trans h1,h2⟩
theorem Kc.added {L1 T:Nat} {A W:World} {r:Loop} {vl v':Value} {L:List (List UInt8×Value)} (hz:A.heap.size≤W.heap.size) (hl:A.heap[T+1+1]?=some (.loop r)) (hm:StrMap A (L1+1) L)
  (hc:A.heap[L1]?=some (.cells #[vl] 31 (0,0))) (hc':W.heap[L1]?=some (.cells #[v'] 31 (0,0))) (hv:∀ g,v'.ownBlock=some g→vl.ownBlock=some g∨A.heap.size≤g)
  (hk:∀ b,b < A.heap.size→b≠T+1+1→b≠L1+1→b≠L1→vl.ownBlock≠some b→W.heap[b]?=A.heap[b]?):Kc (Oo L1) A W:=by
 have hcl:A.cell? ⟨L1,0,none⟩=some vl:=cell_of_row _ _ _ _ _ _ hc
 refine ⟨hz,fun b c t z h1 e=>(hk b (heap_lt e) (by rintro rfl;rw [hl] at e;cases e) (by rintro rfl;obtain ⟨es,cl,h2,_⟩:=hm;rw [h2] at e;cases e) (fun e2=>h1 (.inl e2)) (fun e2=>h1 (.inr ⟨vl,hcl,e2⟩))).trans e,fun b hb=>?_⟩
 rcases hb with h | ⟨v,h1,h2⟩
 ·exact .inl (.inl h)
 ·rw [cell_of_row _ _ _ _ _ _ hc'] at h1
  cases h1
  exact (hv b h2).imp (fun e=>.inr ⟨vl,hcl,e⟩) id
theorem app_same {w6 w7 w8:World} {vl:Value} {o:Obj} (hb7:Below w6.drew.heap.size w6.drew w7) (g:(w7.alloc o).grownBy w8 vl.ownBlock) :
  (∀ b,b < w6.heap.size→vl.ownBlock≠some b→w8.heap[b]?=w6.heap[b]?)∧w6.heap.size≤w8.heap.size∧(∀ B,B≤w6.heap.size→(∀ k,vl.ownBlock=some k→B≤k)→Below B w6 w8):=by
 have hz:w6.heap.size≤w7.heap.size:=hb7.size
 have hz2:(w7.alloc o).heap.size≤w8.heap.size:=g.size
 rw [World.size_alloc] at hz2
 refine ⟨fun b hb hne=>?_,by omega,fun B hB hk=>?_⟩
 ·exact (g.block b (by rw [World.size_alloc];omega) (fun e=>hne e.symm)).trans ((Below.heap_alloc _ _ _ (by omega)).trans (hb7.block b hb))
 ·exact (((Below.refl B w6).drew.trans (hb7.mono (show B≤w6.drew.heap.size from hB))).alloc (by omega) _).grown g (by rw [World.size_alloc];omega) hk
theorem stepIn_append {F:Fence} {n:Nat} {P:Program} {ops:Array Oper} {o:Oper} {a:Act} {w w':World} {K:Act→World→Prop} {Q:Exit→Act→World→Prop} {E:Prop} {r v u:Value} (hgd:o.guard=none) (s x:Operand) (t:TypeId)
  (ho:o.op = .call { callee:=.builtin .append,args:=#[s,x],argTypes:=#[t,t] }) (hs:a.eval s=v) (hx:a.eval x=u) (hrun:(Builtin.append_ #[t,t] o.type #[v,u]).run P w = .ok r w') (h:K (a.put o.dst r) w') :
  if Region.wanted o (yielded ops a.tmps)=true then Oper.wpIn F n P o a w K Q else E:=by
 have hw:Region.wanted o (yielded ops a.tmps)=true:=by simp [Region.wanted,hgd]
 rw [if_pos hw]
 unfold Oper.wpIn
 refine ⟨?_,?_⟩
 ·simp [Oper.about,ho,resolve,Target.leads,Sem.run_pure]
 ·rw [Oper.semAt_plain F _ _ (by rw [ho];intro c hc';cases hc')]
  simp [execOp,ho,resolve,invoke,builtin,hs,hx,hrun,Result.andThen]
  exact h
end Go.Proofs.YtgikhpmdpppenaaGreatDoor
