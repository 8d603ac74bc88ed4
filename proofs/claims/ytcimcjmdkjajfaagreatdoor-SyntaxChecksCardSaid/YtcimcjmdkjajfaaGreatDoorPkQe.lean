/- A part of the proof, packed: see the last text of this claim. -/
import Derived.Test.YtcimcjmdkjajfaaGreatDoorPkQa
import Derived.Test.YtcimcjmdkjajfaaGreatDoorPkQb
import Derived.Test.YtcimcjmdkjajfaaGreatDoorPkQc
import Derived.Test.YtcimcjmdkjajfaaGreatDoorPkQd
import Derived.Lib.FrozenHead
import Derived.OwnWalkIn
import Derived.Stop.RegionWithIn
import Derived.BigGuardIn
namespace Go.Proofs.YtcimcjmdkjajfaaGreatDoor
open Go.RowKit
set_option maxRecDepth 100000 in
set_option maxHeartbeats 2000000 in
theorem binder_of {w0:World} {b:Nat} (k:Int) (s:ByteArray) (kl:List Nd) (h12:kl.length=1∨kl.length=2) (hk:∀ i (h:i < kl.length),SaysT w0 b kl[i]) (v0 v1 v2:Value) (l:Tx) (w:World) (ht:NdR w0 (.mk k s kl) v0 v1 v2) (hp:PrI w0 b l w)
  (hlen:l.length+(binderF s kl (Nd.bareL kl)).length≤100000000):Calls Tryz.prog 248 #[.pointer (some ⟨b,0,none⟩),.agg #[v0,v1,v2]] w (PrO w0 b l w (binderF s kl (Nd.bareL kl))):=by
 obtain ⟨_,_,_,a,cap,hform,rfl,rfl,rfl,hs,hl⟩:=ht.form
 cases hform
 obtain ⟨L,hL⟩:∃ L,kl.length=L:=⟨_,rfl⟩
 rw [hL] at ht hl
 rw [hL]
 obtain ⟨W,hW⟩:∃ W,w.alloc (.cells #[.int .i64 k,.string s,.slice a L cap] 24)=W:=⟨_,rfl⟩
 have R0':Row3 W w.heap.size (.int .i64 k) (.string s) (.slice a L cap):=by rw [←hW];exact Row3.new _ _ _ _
 have P0:=qh (hW▸hp.alloc (.cells #[.int .i64 k,.string s,.slice a L cap] 24))
 have K0:=qh (hW▸(Wr.refl w0.heap.size b w).alloc hp.size (.cells #[.int .i64 k,.string s,.slice a L cap] 24))
 have hne:w.heap.size≠b:=by have:=hp.p.lt;omega
 have HN:=qh ht
 have HL:=qh hlen
 unfold maxLen at hl
 obtain ⟨T,hT⟩:∃ T,binderF s kl (Nd.bareL kl)=T:=⟨_,rfl⟩
 rw [hT] at HL
 rw [hT]
 rw [hL] at h12
 rcases h12 with rfl | rfl
 ·obtain ⟨bb,o,k0',s0',l0',a0',c0',rfl,e0,x00,x01,x02,r0⟩:=ht.kid 0 (by omega)
  simp only [Nat.zero_mul,Nat.add_zero] at x00 x01 x02
  have X0:=qh (And.intro x00 (And.intro x01 x02))
  obtain ⟨Y0,hY0⟩:∃ Y,(kl[0]'(by omega)).txt 0 false=Y:=⟨_,rfl⟩
  have hE:T=bs s++(bs ⟨#[46,32]⟩++Y0):=by
   rw [←hT,binderF,if_neg (by omega),←hY0]
   have h1:kl.length - 1=0:=by omega
   rw [h1,kidF_at (by omega)]
   rfl
  have hlen2:l.length+(bs s).length+2+Y0.length≤100000000:=by
   have:=HL.out
   rw [hE] at this
   simp [bs] at this ⊢
   omega
  have C1:=qh (fun w' (h:PrI w0 b l w') n (hn:n=w'.heap.size)=>put1 h n hn s (by simp [bs] at hlen2 ⊢;omega))
  have C3:=qh (fun w' (h:PrI w0 b (l++bs s) w') n (hn:n=w'.heap.size)=>put1 h n hn ⟨#[46,32]⟩ (by simp [bs] at hlen2 ⊢;omega))
  have C4:Hid (∀ (z:Int),z=((0:Nat):Int)→∀ w',PrI w0 b ((l++bs s)++bs ⟨#[46,32]⟩) w'→Calls Tryz.prog 195 #[.pointer (some ⟨b,0,none⟩),.agg #[.int .i64 k0',.string s0',.slice a0' l0'.length c0'],.int .i64 z,.bool false] w' (PrO w0 b ((l++bs s)++bs ⟨#[46,32]⟩) w' Y0)):=qh (fun z hz w' h=>by
   subst hz
   have hl9:List.length ((l++bs s)++bs ⟨#[46,32]⟩)+Y0.length≤100000000:=by (try simp [bs] at hlen2 ⊢);omega
   rw [←hY0] at hl9 ⊢
   exact hk 0 (by omega) _ _ _ (0) false _ w' (by omega) (e0▸r0) h hl9)
  have HE:=qh hE
  have HW:=qh hW
  have R0:=qh R0'
  obtain ⟨⟨n0,n1,n2⟩,_⟩:=R0'.cells
  clear hT hlen hlen2 hE hW R0' hp hk ht HN HL hY0 x00 x01 x02 r0 e0 hL
  go_enter Tryz.func248,Tryz.ntmps248
  go_upto_region 1 with fail
  rw [HW.out]
  have y00:=P0.out.cell X0.out.1
  have y01:=P0.out.cell X0.out.2.1
  have y02:=P0.out.cell X0.out.2.2
  have yb0:=lt_of_cell y00
  go_wp2_with fail
  refine (C1.out _ P0.out _ (by first | rfl | simp only [World.size_alloc])).mono ?_
  rintro e w1 ⟨rfl,pp,kk⟩
  have P1:=qh pp
  have K1:=qh (K0.out.trans kk)
  have R1:=qh (kk.row3 R0.out hne)
  clear pp kk C1 n0 n1 n2 y00 y01 y02 yb0
  obtain ⟨⟨n0,n1,n2⟩,_⟩:=R1.out.cells
  have y00:=P1.out.cell X0.out.1
  have y01:=P1.out.cell X0.out.2.1
  have y02:=P1.out.cell X0.out.2.2
  have yb0:=lt_of_cell y00
  go_wp2_with fail
  refine (C3.out _ P1.out _ (by first | rfl | simp only [World.size_alloc])).mono ?_
  rintro e w2 ⟨rfl,pp,kk⟩
  have P2:=qh pp
  have K2:=qh (K1.out.trans kk)
  have R2:=qh (kk.row3 R1.out hne)
  clear pp kk C3 n0 n1 n2 y00 y01 y02 yb0
  obtain ⟨⟨n0,n1,n2⟩,_⟩:=R2.out.cells
  have y00:=P2.out.cell X0.out.1
  have y01:=P2.out.cell X0.out.2.1
  have y02:=P2.out.cell X0.out.2.2
  have yb0:=lt_of_cell y00
  go_wp2_with fail
  refine (C4.out _ (by first | rfl | (push_cast;rfl)) _ P2.out).mono ?_
  rintro e w3 ⟨rfl,pp,kk⟩
  have P3:=qh pp
  have K3:=qh (K2.out.trans kk)
  have R3:=qh (kk.row3 R2.out hne)
  clear pp kk C4 n0 n1 n2 y00 y01 y02 yb0
  go_wp2
  go_end0
  exact ⟨rfl,by rw [HE.out];simpa only [List.append_assoc,bs_mk] using P3.out,K3.out⟩
 ·obtain ⟨bb,o,k0',s0',l0',a0',c0',rfl,e0,x00,x01,x02,r0⟩:=ht.kid 0 (by omega)
  simp only [Nat.zero_mul,Nat.add_zero] at x00 x01 x02
  have X0:=qh (And.intro x00 (And.intro x01 x02))
  obtain ⟨bb1,o1',k1',s1',l1',a1',c1',hbo1,e1,x10,x11,x12,r1⟩:=ht.kid 1 (by omega)
  obtain ⟨rfl,rfl⟩:bb=bb1∧o=o1':=by simpa using hbo1
  simp only [Nat.one_mul] at x10 x11 x12
  have X1:=qh (And.intro x10 (And.intro x11 x12))
  obtain ⟨Y0,hY0⟩:∃ Y,(kl[0]'(by omega)).txt 6 false=Y:=⟨_,rfl⟩
  obtain ⟨Y1,hY1⟩:∃ Y,(kl[1]'(by omega)).txt 0 false=Y:=⟨_,rfl⟩
  have hE:T=bs s++((bs ⟨#[58,32]⟩++Y0)++(bs ⟨#[46,32]⟩++Y1)):=by
   rw [←hT,binderF,if_pos (by omega),←hY0,←hY1]
   have h1:kl.length - 1=1:=by omega
   rw [h1,kidF_at (by omega),kidF_at (by omega)]
   rfl
  have hlen2:l.length+(bs s).length+2+Y0.length+2+Y1.length≤100000000:=by
   have:=HL.out
   rw [hE] at this
   simp [bs] at this ⊢
   omega
  have C1:=qh (fun w' (h:PrI w0 b l w') n (hn:n=w'.heap.size)=>put1 h n hn s (by simp [bs] at hlen2 ⊢;omega))
  have C3:=qh (fun w' (h:PrI w0 b (l++bs s) w') n (hn:n=w'.heap.size)=>put1 h n hn ⟨#[58,32]⟩ (by simp [bs] at hlen2 ⊢;omega))
  have C4:Hid (∀ (z:Int),z=((6:Nat):Int)→∀ w',PrI w0 b ((l++bs s)++bs ⟨#[58,32]⟩) w'→Calls Tryz.prog 195 #[.pointer (some ⟨b,0,none⟩),.agg #[.int .i64 k0',.string s0',.slice a0' l0'.length c0'],.int .i64 z,.bool false] w' (PrO w0 b ((l++bs s)++bs ⟨#[58,32]⟩) w' Y0)):=qh (fun z hz w' h=>by
   subst hz
   have hl9:List.length ((l++bs s)++bs ⟨#[58,32]⟩)+Y0.length≤100000000:=by (try simp [bs] at hlen2 ⊢);omega
   rw [←hY0] at hl9 ⊢
   exact hk 0 (by omega) _ _ _ (6) false _ w' (by omega) (e0▸r0) h hl9)
  have C5:=qh (fun w' (h:PrI w0 b (((l++bs s)++bs ⟨#[58,32]⟩)++Y0) w') n (hn:n=w'.heap.size)=>put1 h n hn ⟨#[46,32]⟩ (by simp [bs] at hlen2 ⊢;omega))
  have C6:Hid (∀ (z:Int),z=((0:Nat):Int)→∀ w',PrI w0 b ((((l++bs s)++bs ⟨#[58,32]⟩)++Y0)++bs ⟨#[46,32]⟩) w'→Calls Tryz.prog 195 #[.pointer (some ⟨b,0,none⟩),.agg #[.int .i64 k1',.string s1',.slice a1' l1'.length c1'],.int .i64 z,.bool false] w' (PrO w0 b ((((l++bs s)++bs ⟨#[58,32]⟩)++Y0)++bs ⟨#[46,32]⟩) w' Y1)):=qh (fun z hz w' h=>by
   subst hz
   have hl9:List.length ((((l++bs s)++bs ⟨#[58,32]⟩)++Y0)++bs ⟨#[46,32]⟩)+Y1.length≤100000000:=by (try simp [bs] at hlen2 ⊢);omega
   rw [←hY1] at hl9 ⊢
   exact hk 1 (by omega) _ _ _ (0) false _ w' (by omega) (e1▸r1) h hl9)
  have HE:=qh hE
  have HW:=qh hW
  have R0:=qh R0'
  obtain ⟨⟨n0,n1,n2⟩,_⟩:=R0'.cells
  clear hT hlen hlen2 hE hW R0' hp hk ht HN HL hY0 hY1 x00 x01 x02 x10 x11 x12 r0 r1 e0 e1 hL hbo1
  go_enter Tryz.func248,Tryz.ntmps248
  go_upto_region 1 with fail
  rw [HW.out]
  have y00:=P0.out.cell X0.out.1
  have y01:=P0.out.cell X0.out.2.1
  have y02:=P0.out.cell X0.out.2.2
  have yb0:=lt_of_cell y00
  have y10:=P0.out.cell X1.out.1
  have y11:=P0.out.cell X1.out.2.1
  have y12:=P0.out.cell X1.out.2.2
  have yb1:=lt_of_cell y10
  go_wp2_with fail
  refine (C1.out _ P0.out _ (by first | rfl | simp only [World.size_alloc])).mono ?_
  rintro e w1 ⟨rfl,pp,kk⟩
  have P1:=qh pp
  have K1:=qh (K0.out.trans kk)
  have R1:=qh (kk.row3 R0.out hne)
  clear pp kk C1 n0 n1 n2 y00 y01 y02 yb0 y10 y11 y12 yb1
  obtain ⟨⟨n0,n1,n2⟩,_⟩:=R1.out.cells
  have y00:=P1.out.cell X0.out.1
  have y01:=P1.out.cell X0.out.2.1
  have y02:=P1.out.cell X0.out.2.2
  have yb0:=lt_of_cell y00
  have y10:=P1.out.cell X1.out.1
  have y11:=P1.out.cell X1.out.2.1
  have y12:=P1.out.cell X1.out.2.2
  have yb1:=lt_of_cell y10
  go_wp2_with fail
  refine (C3.out _ P1.out _ (by first | rfl | simp only [World.size_alloc])).mono ?_
  rintro e w2 ⟨rfl,pp,kk⟩
  have P2:=qh pp
  have K2:=qh (K1.out.trans kk)
  have R2:=qh (kk.row3 R1.out hne)
  clear pp kk C3 n0 n1 n2 y00 y01 y02 yb0 y10 y11 y12 yb1
  obtain ⟨⟨n0,n1,n2⟩,_⟩:=R2.out.cells
  have y00:=P2.out.cell X0.out.1
  have y01:=P2.out.cell X0.out.2.1
  have y02:=P2.out.cell X0.out.2.2
  have yb0:=lt_of_cell y00
  have y10:=P2.out.cell X1.out.1
  have y11:=P2.out.cell X1.out.2.1
  have y12:=P2.out.cell X1.out.2.2
  have yb1:=lt_of_cell y10
  go_wp2_with fail
  refine (C4.out _ (by first | rfl | (push_cast;rfl)) _ P2.out).mono ?_
  rintro e w3 ⟨rfl,pp,kk⟩
  have P3:=qh pp
  have K3:=qh (K2.out.trans kk)
  have R3:=qh (kk.row3 R2.out hne)
  clear pp kk C4 n0 n1 n2 y00 y01 y02 yb0 y10 y11 y12 yb1
  obtain ⟨⟨n0,n1,n2⟩,_⟩:=R3.out.cells
  have y00:=P3.out.cell X0.out.1
  have y01:=P3.out.cell X0.out.2.1
  have y02:=P3.out.cell X0.out.2.2
  have yb0:=lt_of_cell y00
  have y10:=P3.out.cell X1.out.1
  have y11:=P3.out.cell X1.out.2.1
  have y12:=P3.out.cell X1.out.2.2
  have yb1:=lt_of_cell y10
  go_wp2_with fail
  refine (C5.out _ P3.out _ (by first | rfl | simp only [World.size_alloc])).mono ?_
  rintro e w4 ⟨rfl,pp,kk⟩
  have P4:=qh pp
  have K4:=qh (K3.out.trans kk)
  have R4:=qh (kk.row3 R3.out hne)
  clear pp kk C5 n0 n1 n2 y00 y01 y02 yb0 y10 y11 y12 yb1
  obtain ⟨⟨n0,n1,n2⟩,_⟩:=R4.out.cells
  have y00:=P4.out.cell X0.out.1
  have y01:=P4.out.cell X0.out.2.1
  have y02:=P4.out.cell X0.out.2.2
  have yb0:=lt_of_cell y00
  have y10:=P4.out.cell X1.out.1
  have y11:=P4.out.cell X1.out.2.1
  have y12:=P4.out.cell X1.out.2.2
  have yb1:=lt_of_cell y10
  go_wp2_with fail
  refine (C6.out _ (by first | rfl | (push_cast;rfl)) _ P4.out).mono ?_
  rintro e w5 ⟨rfl,pp,kk⟩
  have P5:=qh pp
  have K5:=qh (K4.out.trans kk)
  have R5:=qh (kk.row3 R4.out hne)
  clear pp kk C6 n0 n1 n2 y00 y01 y02 yb0 y10 y11 y12 yb1
  go_wp2
  go_end0
  exact ⟨rfl,by rw [HE.out];simpa only [List.append_assoc,bs_mk] using P5.out,K5.out⟩
end Go.Proofs.YtcimcjmdkjajfaaGreatDoor
namespace Go.Proofs.YtcimcjmdkjajfaaGreatDoor
open Go.RowKit
theorem opOf_le {k:Int} {sg:List UInt8} {bd:Nat} (h:opOf k=some (sg,bd)):bd≤6:=by
 unfold opOf opsL at h
 simp only [findP] at h
 repeat' split at h
 all_goals first | (cases h;decide) | cases h
theorem opOf_some {k:Int} (h:(22≤k∧k≤28)∨k=31):∃ sg bd,opOf k=some (sg,bd):=by
 have:k=22∨k=23∨k=24∨k=25∨k=26∨k=27∨k=28∨k=31:=by omega
 rcases this with rfl | rfl | rfl | rfl | rfl | rfl | rfl | rfl <;> exact ⟨_,_,rfl⟩
set_option maxRecDepth 100000 in
set_option maxHeartbeats 2000000 in
theorem binary_of {w0:World} {b:Nat} (k:Int) (s:ByteArray) (kl:List Nd) (h2:2≤kl.length) (sg:List UInt8) (bd:Nat) (hop:opOf k=some (sg,bd)) (hk:∀ i (h:i < kl.length),SaysT w0 b kl[i]) (v0 v1 v2:Value) (more:Bool) (l:Tx) (w:World) (ht:NdR w0 (.mk k s kl) v0 v1 v2) (hp:PrI w0 b l w) (T:Tx)
  (hT:kidF kl (Nd.bareL kl) 0 (leftB bd) true++(([32]++(sg++[32]))++kidF kl (Nd.bareL kl) 1 (rightB bd) more)=T) (hlen:l.length+T.length≤100000000):Calls Tryz.prog 249 #[.pointer (some ⟨b,0,none⟩),.agg #[v0,v1,v2],.bool more] w (PrO w0 b l w T):=by
 have hbd:=opOf_le hop
 obtain ⟨_,_,_,a,cap,hform,rfl,rfl,rfl,hs,hl⟩:=ht.form
 cases hform
 obtain ⟨L,hL⟩:∃ L,kl.length=L:=⟨_,rfl⟩
 rw [hL] at ht hl
 rw [hL]
 obtain ⟨W,hW⟩:∃ W,w.alloc (.cells #[.int .i64 k,.string s,.slice a L cap] 24)=W:=⟨_,rfl⟩
 have R0':Row3 W w.heap.size (.int .i64 k) (.string s) (.slice a L cap):=by rw [←hW];exact Row3.new _ _ _ _
 have P0:=qh (hW▸hp.alloc (.cells #[.int .i64 k,.string s,.slice a L cap] 24))
 have K0:=qh (hW▸(Wr.refl w0.heap.size b w).alloc hp.size (.cells #[.int .i64 k,.string s,.slice a L cap] 24))
 have hne:w.heap.size≠b:=by have:=hp.p.lt;omega
 have HN:=qh ht
 unfold maxLen at hl
 have i0:(0:Int) < (L:Int):=by omega
 have i1:(1:Int) < (L:Int):=by omega
 have j0:0 < L:=by omega
 have j1:1 < L:=by omega
 obtain ⟨bb,o,k0',s0',l0',a0',c0',rfl,eK0,x00,x01,x02,r0⟩:=ht.kid 0 (by omega)
 simp only [Nat.zero_mul,Nat.add_zero] at x00 x01 x02
 have X0:=qh (And.intro x00 (And.intro x01 x02))
 obtain ⟨bb1,o1',k1',s1',l1',a1',c1',hbo1,eK1,x10,x11,x12,r1⟩:=ht.kid 1 (by omega)
 obtain ⟨rfl,rfl⟩:bb=bb1∧o=o1':=by simpa using hbo1
 simp only [Nat.one_mul] at x10 x11 x12
 have X1:=qh (And.intro x10 (And.intro x11 x12))
 obtain ⟨Y0,hY0⟩:∃ Y,(kl[0]'(by omega)).txt (leftB bd) true=Y:=⟨_,rfl⟩
 obtain ⟨Y1,hY1⟩:∃ Y,(kl[1]'(by omega)).txt (rightB bd) more=Y:=⟨_,rfl⟩
 have hE:T=Y0++((bs ⟨#[32]⟩++(bs ⟨sg.toArray⟩++bs ⟨#[32]⟩))++Y1):=by
  rw [←hT,←hY0,←hY1,kidF_at (by omega),kidF_at (by omega)]
  rfl
 have hlen2:l.length+Y0.length+sg.length+2+Y1.length≤100000000:=by
  have:=hlen
  rw [hE] at this
  simp [bs] at this ⊢
  omega
 have CO:Hid (∀ w',PrI w0 b l w'→_):=qh (fun w' (h:PrI w0 b l w')=>operatorOf_any k s (some ⟨bb,o,none⟩) L cap w' h.glw h.two')
 rw [hop] at CO
 unfold opRes S_ at CO
 have C3:=qh (fun w' (h:PrI w0 b (l++Y0) w') n (hn:n=w'.heap.size)=>put3 h n hn ⟨#[32]⟩ ⟨sg.toArray⟩ ⟨#[32]⟩ (by simp [bs] at hlen2 ⊢;omega))
 have HE:=qh hE
 have HW:=qh hW
 have R0:=qh R0'
 by_cases hb0:bd=0
 ·have e0:((bd:Int)==0)=true:=by rw [hb0];rfl
  have hlb:leftB bd=bd:=by rw [hb0];rfl
  have hrb:rightB bd=bd+1:=by rw [hb0];rfl
  rw [hlb] at hY0
  rw [hrb] at hY1
  have C4:Hid (∀ (z:Int),z=((bd:Nat):Int)→∀ w',PrI w0 b l w'→Calls Tryz.prog 195 #[.pointer (some ⟨b,0,none⟩),.agg #[.int .i64 k0',.string s0',.slice a0' l0'.length c0'],.int .i64 z,.bool true] w' (PrO w0 b l w' Y0)):=qh (fun z hz w' h=>by
   subst hz
   have hl9:List.length l+Y0.length≤100000000:=by (try simp [bs] at hlen2 ⊢);omega
   rw [←hY0] at hl9 ⊢
   exact hk 0 (by omega) _ _ _ (bd) true _ w' (by omega) (eK0▸r0) h hl9)
  have C5:Hid (∀ (z:Int),z=((bd+1:Nat):Int)→∀ w',PrI w0 b ((l++Y0)++(bs ⟨#[32]⟩++(bs ⟨sg.toArray⟩++bs ⟨#[32]⟩))) w'→Calls Tryz.prog 195 #[.pointer (some ⟨b,0,none⟩),.agg #[.int .i64 k1',.string s1',.slice a1' l1'.length c1'],.int .i64 z,.bool more] w' (PrO w0 b ((l++Y0)++(bs ⟨#[32]⟩++(bs ⟨sg.toArray⟩++bs ⟨#[32]⟩))) w' Y1)):=qh (fun z hz w' h=>by
   subst hz
   have hl9:List.length ((l++Y0)++(bs ⟨#[32]⟩++(bs ⟨sg.toArray⟩++bs ⟨#[32]⟩)))+Y1.length≤100000000:=by (try simp [bs] at hlen2 ⊢);omega
   rw [←hY1] at hl9 ⊢
   exact hk 1 (by omega) _ _ _ (bd+1) more _ w' (by omega) (eK1▸r1) h hl9)
  obtain ⟨⟨n0,n1,n2⟩,_⟩:=R0'.cells
  clear hT hlen hlen2 hE hW R0' hp hk ht HN hY0 hY1 x00 x01 x02 x10 x11 x12 r0 r1 eK0 eK1 hL hbo1 hlb hrb hb0 h2 hop
  go_enter Tryz.func249,Tryz.ntmps249
  go_upto_region 1 with fail
  rw [HW.out]
  have y00:=P0.out.cell X0.out.1
  have y01:=P0.out.cell X0.out.2.1
  have y02:=P0.out.cell X0.out.2.2
  have yb0:=lt_of_cell y00
  have y10:=P0.out.cell X1.out.1
  have y11:=P0.out.cell X1.out.2.1
  have y12:=P0.out.cell X1.out.2.2
  have yb1:=lt_of_cell y10
  go_wp2_with fail
  refine (CO.out _ P0.out).mono ?_
  rintro e w1 ⟨rfl,bb⟩
  have P1:=qh (P0.out.later bb)
  have K1:=qh (K0.out.later bb P0.out.size)
  have R1:=qh (R0.out.below bb R0.out.lt)
  clear bb CO n0 n1 n2 y00 y01 y02 yb0 y10 y11 y12 yb1
  obtain ⟨⟨n0,n1,n2⟩,_⟩:=R1.out.cells
  have y00:=P1.out.cell X0.out.1
  have y01:=P1.out.cell X0.out.2.1
  have y02:=P1.out.cell X0.out.2.2
  have yb0:=lt_of_cell y00
  have y10:=P1.out.cell X1.out.1
  have y11:=P1.out.cell X1.out.2.1
  have y12:=P1.out.cell X1.out.2.2
  have yb1:=lt_of_cell y10
  have P1o:=qh (P1.out.alloc (.cells #[.string ⟨sg.toArray⟩,.int .i64 k,.int .i64 (bd:Nat)] 183))
  have K1o:=qh (K1.out.alloc P1.out.size (.cells #[.string ⟨sg.toArray⟩,.int .i64 k,.int .i64 (bd:Nat)] 183))
  have R1o:=qh (R1.out.alloc (.cells #[.string ⟨sg.toArray⟩,.int .i64 k,.int .i64 (bd:Nat)] 183))
  have O1:Hid (RowO (w1.alloc (.cells #[.string ⟨sg.toArray⟩,.int .i64 k,.int .i64 (bd:Nat)] 183)) w1.heap.size _ _ _):=qh (World.alloc_heap_new w1 _)
  have hno:w1.heap.size≠b:=by have:=P1.out.p.lt;omega
  clear n0 n1 n2 y00 y01 y02 yb0 y10 y11 y12 yb1 P1 K1 R1
  have P1:=P1o
  have K1:=K1o
  have R1:=R1o
  clear P1o K1o R1o
  obtain ⟨⟨n0,n1,n2⟩,_⟩:=R1.out.cells
  have y00:=P1.out.cell X0.out.1
  have y01:=P1.out.cell X0.out.2.1
  have y02:=P1.out.cell X0.out.2.2
  have yb0:=lt_of_cell y00
  have y10:=P1.out.cell X1.out.1
  have y11:=P1.out.cell X1.out.2.1
  have y12:=P1.out.cell X1.out.2.2
  have yb1:=lt_of_cell y10
  obtain ⟨⟨o0,o1,o2⟩,p0,p1,p2⟩:=O1.out.cells
  go_wp2_with fail
  go_quiet (fail)
  generalize hQ:World.drewN _ _=w2
  have P2:Hid (PrI w0 b _ w2):=qh (by rw [←hQ];exact P1.out.later (below_drewN (Below.refl _ _) _))
  have K2:Hid (Wr w0.heap.size b w w2):=qh (by rw [←hQ];exact K1.out.later (below_drewN (Below.refl _ _) _) P1.out.size)
  have R2:Hid (Row3 w2 w.heap.size _ _ _):=qh (by rw [←hQ];exact R1.out)
  have O2:Hid (RowO w2 _ _ _ _):=qh (by rw [←hQ];exact O1.out)
  clear hQ n0 n1 n2 y00 y01 y02 yb0 y10 y11 y12 yb1 o0 o1 o2 p0 p1 p2
  obtain ⟨⟨n0,n1,n2⟩,_⟩:=R2.out.cells
  have y00:=P2.out.cell X0.out.1
  have y01:=P2.out.cell X0.out.2.1
  have y02:=P2.out.cell X0.out.2.2
  have yb0:=lt_of_cell y00
  have y10:=P2.out.cell X1.out.1
  have y11:=P2.out.cell X1.out.2.1
  have y12:=P2.out.cell X1.out.2.2
  have yb1:=lt_of_cell y10
  obtain ⟨⟨o0,o1,o2⟩,p0,p1,p2⟩:=O2.out.cells
  go_wp2_with fail
  go_quiet (fail)
  generalize hQ:World.drewN _ _=w3
  have P3:Hid (PrI w0 b _ w3):=qh (by rw [←hQ];exact P2.out.later (below_drewN (Below.refl _ _) _))
  have K3:Hid (Wr w0.heap.size b w w3):=qh (by rw [←hQ];exact K2.out.later (below_drewN (Below.refl _ _) _) P2.out.size)
  have R3:Hid (Row3 w3 w.heap.size _ _ _):=qh (by rw [←hQ];exact R2.out)
  have O3:Hid (RowO w3 _ _ _ _):=qh (by rw [←hQ];exact O2.out)
  clear hQ n0 n1 n2 y00 y01 y02 yb0 y10 y11 y12 yb1 o0 o1 o2 p0 p1 p2
  obtain ⟨⟨n0,n1,n2⟩,_⟩:=R3.out.cells
  have y00:=P3.out.cell X0.out.1
  have y01:=P3.out.cell X0.out.2.1
  have y02:=P3.out.cell X0.out.2.2
  have yb0:=lt_of_cell y00
  have y10:=P3.out.cell X1.out.1
  have y11:=P3.out.cell X1.out.2.1
  have y12:=P3.out.cell X1.out.2.2
  have yb1:=lt_of_cell y10
  obtain ⟨⟨o0,o1,o2⟩,p0,p1,p2⟩:=O3.out.cells
  go_wp2_with fail
  refine (C4.out _ (by first | rfl | (push_cast;rfl)) _ P3.out).mono ?_
  rintro e w4 ⟨rfl,pp,kk⟩
  have P4:=qh pp
  have K4:=qh (K3.out.trans kk)
  have R4:=qh (kk.row3 R3.out hne)
  have O4:=qh (kk.rowO O3.out hno)
  clear pp kk C4 n0 n1 n2 y00 y01 y02 yb0 y10 y11 y12 yb1 o0 o1 o2 p0 p1 p2
  obtain ⟨⟨n0,n1,n2⟩,_⟩:=R4.out.cells
  have y00:=P4.out.cell X0.out.1
  have y01:=P4.out.cell X0.out.2.1
  have y02:=P4.out.cell X0.out.2.2
  have yb0:=lt_of_cell y00
  have y10:=P4.out.cell X1.out.1
  have y11:=P4.out.cell X1.out.2.1
  have y12:=P4.out.cell X1.out.2.2
  have yb1:=lt_of_cell y10
  obtain ⟨⟨o0,o1,o2⟩,p0,p1,p2⟩:=O4.out.cells
  go_wp2_with fail
  refine (C3.out _ P4.out _ (by first | rfl | simp only [World.size_alloc])).mono ?_
  rintro e w5 ⟨rfl,pp,kk⟩
  have P5:=qh pp
  have K5:=qh (K4.out.trans kk)
  have R5:=qh (kk.row3 R4.out hne)
  have O5:=qh (kk.rowO O4.out hno)
  clear pp kk C3 n0 n1 n2 y00 y01 y02 yb0 y10 y11 y12 yb1 o0 o1 o2 p0 p1 p2
  obtain ⟨⟨n0,n1,n2⟩,_⟩:=R5.out.cells
  have y00:=P5.out.cell X0.out.1
  have y01:=P5.out.cell X0.out.2.1
  have y02:=P5.out.cell X0.out.2.2
  have yb0:=lt_of_cell y00
  have y10:=P5.out.cell X1.out.1
  have y11:=P5.out.cell X1.out.2.1
  have y12:=P5.out.cell X1.out.2.2
  have yb1:=lt_of_cell y10
  obtain ⟨⟨o0,o1,o2⟩,p0,p1,p2⟩:=O5.out.cells
  go_wp2_with fail
  refine (C5.out _ (by first | rfl | (push_cast;rfl)) _ P5.out).mono ?_
  rintro e w6 ⟨rfl,pp,kk⟩
  have P6:=qh pp
  have K6:=qh (K5.out.trans kk)
  have R6:=qh (kk.row3 R5.out hne)
  have O6:=qh (kk.rowO O5.out hno)
  clear pp kk C5 n0 n1 n2 y00 y01 y02 yb0 y10 y11 y12 yb1 o0 o1 o2 p0 p1 p2
  go_wp2
  go_end0
  exact ⟨rfl,by rw [HE.out];simpa only [List.append_assoc,bs_mk] using P6.out,K6.out⟩
 ·have e0:((bd:Int)==0)=false:=by rw [beq_eq_false_iff_ne];omega
  have hlb:leftB bd=bd+1:=if_neg hb0
  have hrb:rightB bd=bd:=if_neg hb0
  rw [hlb] at hY0
  rw [hrb] at hY1
  have C4:Hid (∀ (z:Int),z=((bd+1:Nat):Int)→∀ w',PrI w0 b l w'→Calls Tryz.prog 195 #[.pointer (some ⟨b,0,none⟩),.agg #[.int .i64 k0',.string s0',.slice a0' l0'.length c0'],.int .i64 z,.bool true] w' (PrO w0 b l w' Y0)):=qh (fun z hz w' h=>by
   subst hz
   have hl9:List.length l+Y0.length≤100000000:=by (try simp [bs] at hlen2 ⊢);omega
   rw [←hY0] at hl9 ⊢
   exact hk 0 (by omega) _ _ _ (bd+1) true _ w' (by omega) (eK0▸r0) h hl9)
  have C5:Hid (∀ (z:Int),z=((bd:Nat):Int)→∀ w',PrI w0 b ((l++Y0)++(bs ⟨#[32]⟩++(bs ⟨sg.toArray⟩++bs ⟨#[32]⟩))) w'→Calls Tryz.prog 195 #[.pointer (some ⟨b,0,none⟩),.agg #[.int .i64 k1',.string s1',.slice a1' l1'.length c1'],.int .i64 z,.bool more] w' (PrO w0 b ((l++Y0)++(bs ⟨#[32]⟩++(bs ⟨sg.toArray⟩++bs ⟨#[32]⟩))) w' Y1)):=qh (fun z hz w' h=>by
   subst hz
   have hl9:List.length ((l++Y0)++(bs ⟨#[32]⟩++(bs ⟨sg.toArray⟩++bs ⟨#[32]⟩)))+Y1.length≤100000000:=by (try simp [bs] at hlen2 ⊢);omega
   rw [←hY1] at hl9 ⊢
   exact hk 1 (by omega) _ _ _ (bd) more _ w' (by omega) (eK1▸r1) h hl9)
  obtain ⟨⟨n0,n1,n2⟩,_⟩:=R0'.cells
  clear hT hlen hlen2 hE hW R0' hp hk ht HN hY0 hY1 x00 x01 x02 x10 x11 x12 r0 r1 eK0 eK1 hL hbo1 hlb hrb hb0 h2 hop
  go_enter Tryz.func249,Tryz.ntmps249
  go_upto_region 1 with fail
  rw [HW.out]
  have y00:=P0.out.cell X0.out.1
  have y01:=P0.out.cell X0.out.2.1
  have y02:=P0.out.cell X0.out.2.2
  have yb0:=lt_of_cell y00
  have y10:=P0.out.cell X1.out.1
  have y11:=P0.out.cell X1.out.2.1
  have y12:=P0.out.cell X1.out.2.2
  have yb1:=lt_of_cell y10
  go_wp2_with fail
  refine (CO.out _ P0.out).mono ?_
  rintro e w1 ⟨rfl,bb⟩
  have P1:=qh (P0.out.later bb)
  have K1:=qh (K0.out.later bb P0.out.size)
  have R1:=qh (R0.out.below bb R0.out.lt)
  clear bb CO n0 n1 n2 y00 y01 y02 yb0 y10 y11 y12 yb1
  obtain ⟨⟨n0,n1,n2⟩,_⟩:=R1.out.cells
  have y00:=P1.out.cell X0.out.1
  have y01:=P1.out.cell X0.out.2.1
  have y02:=P1.out.cell X0.out.2.2
  have yb0:=lt_of_cell y00
  have y10:=P1.out.cell X1.out.1
  have y11:=P1.out.cell X1.out.2.1
  have y12:=P1.out.cell X1.out.2.2
  have yb1:=lt_of_cell y10
  have P1o:=qh (P1.out.alloc (.cells #[.string ⟨sg.toArray⟩,.int .i64 k,.int .i64 (bd:Nat)] 183))
  have K1o:=qh (K1.out.alloc P1.out.size (.cells #[.string ⟨sg.toArray⟩,.int .i64 k,.int .i64 (bd:Nat)] 183))
  have R1o:=qh (R1.out.alloc (.cells #[.string ⟨sg.toArray⟩,.int .i64 k,.int .i64 (bd:Nat)] 183))
  have O1:Hid (RowO (w1.alloc (.cells #[.string ⟨sg.toArray⟩,.int .i64 k,.int .i64 (bd:Nat)] 183)) w1.heap.size _ _ _):=qh (World.alloc_heap_new w1 _)
  have hno:w1.heap.size≠b:=by have:=P1.out.p.lt;omega
  clear n0 n1 n2 y00 y01 y02 yb0 y10 y11 y12 yb1 P1 K1 R1
  have P1:=P1o
  have K1:=K1o
  have R1:=R1o
  clear P1o K1o R1o
  obtain ⟨⟨n0,n1,n2⟩,_⟩:=R1.out.cells
  have y00:=P1.out.cell X0.out.1
  have y01:=P1.out.cell X0.out.2.1
  have y02:=P1.out.cell X0.out.2.2
  have yb0:=lt_of_cell y00
  have y10:=P1.out.cell X1.out.1
  have y11:=P1.out.cell X1.out.2.1
  have y12:=P1.out.cell X1.out.2.2
  have yb1:=lt_of_cell y10
  obtain ⟨⟨o0,o1,o2⟩,p0,p1,p2⟩:=O1.out.cells
  go_wp2_with fail
  go_quiet (fail)
  generalize hQ:World.drewN _ _=w2
  have P2:Hid (PrI w0 b _ w2):=qh (by rw [←hQ];exact P1.out.later (below_drewN (Below.refl _ _) _))
  have K2:Hid (Wr w0.heap.size b w w2):=qh (by rw [←hQ];exact K1.out.later (below_drewN (Below.refl _ _) _) P1.out.size)
  have R2:Hid (Row3 w2 w.heap.size _ _ _):=qh (by rw [←hQ];exact R1.out)
  have O2:Hid (RowO w2 _ _ _ _):=qh (by rw [←hQ];exact O1.out)
  clear hQ n0 n1 n2 y00 y01 y02 yb0 y10 y11 y12 yb1 o0 o1 o2 p0 p1 p2
  obtain ⟨⟨n0,n1,n2⟩,_⟩:=R2.out.cells
  have y00:=P2.out.cell X0.out.1
  have y01:=P2.out.cell X0.out.2.1
  have y02:=P2.out.cell X0.out.2.2
  have yb0:=lt_of_cell y00
  have y10:=P2.out.cell X1.out.1
  have y11:=P2.out.cell X1.out.2.1
  have y12:=P2.out.cell X1.out.2.2
  have yb1:=lt_of_cell y10
  obtain ⟨⟨o0,o1,o2⟩,p0,p1,p2⟩:=O2.out.cells
  go_wp2_with fail
  refine (C4.out _ (by first | rfl | (push_cast;rfl)) _ P2.out).mono ?_
  rintro e w3 ⟨rfl,pp,kk⟩
  have P3:=qh pp
  have K3:=qh (K2.out.trans kk)
  have R3:=qh (kk.row3 R2.out hne)
  have O3:=qh (kk.rowO O2.out hno)
  clear pp kk C4 n0 n1 n2 y00 y01 y02 yb0 y10 y11 y12 yb1 o0 o1 o2 p0 p1 p2
  obtain ⟨⟨n0,n1,n2⟩,_⟩:=R3.out.cells
  have y00:=P3.out.cell X0.out.1
  have y01:=P3.out.cell X0.out.2.1
  have y02:=P3.out.cell X0.out.2.2
  have yb0:=lt_of_cell y00
  have y10:=P3.out.cell X1.out.1
  have y11:=P3.out.cell X1.out.2.1
  have y12:=P3.out.cell X1.out.2.2
  have yb1:=lt_of_cell y10
  obtain ⟨⟨o0,o1,o2⟩,p0,p1,p2⟩:=O3.out.cells
  go_wp2_with fail
  refine (C3.out _ P3.out _ (by first | rfl | simp only [World.size_alloc])).mono ?_
  rintro e w4 ⟨rfl,pp,kk⟩
  have P4:=qh pp
  have K4:=qh (K3.out.trans kk)
  have R4:=qh (kk.row3 R3.out hne)
  have O4:=qh (kk.rowO O3.out hno)
  clear pp kk C3 n0 n1 n2 y00 y01 y02 yb0 y10 y11 y12 yb1 o0 o1 o2 p0 p1 p2
  obtain ⟨⟨n0,n1,n2⟩,_⟩:=R4.out.cells
  have y00:=P4.out.cell X0.out.1
  have y01:=P4.out.cell X0.out.2.1
  have y02:=P4.out.cell X0.out.2.2
  have yb0:=lt_of_cell y00
  have y10:=P4.out.cell X1.out.1
  have y11:=P4.out.cell X1.out.2.1
  have y12:=P4.out.cell X1.out.2.2
  have yb1:=lt_of_cell y10
  obtain ⟨⟨o0,o1,o2⟩,p0,p1,p2⟩:=O4.out.cells
  go_wp2_with fail
  refine (C5.out _ (by first | rfl | (push_cast;rfl)) _ P4.out).mono ?_
  rintro e w5 ⟨rfl,pp,kk⟩
  have P5:=qh pp
  have K5:=qh (K4.out.trans kk)
  have R5:=qh (kk.row3 R4.out hne)
  have O5:=qh (kk.rowO O4.out hno)
  clear pp kk C5 n0 n1 n2 y00 y01 y02 yb0 y10 y11 y12 yb1 o0 o1 o2 p0 p1 p2
  go_wp2
  go_end0
  exact ⟨rfl,by rw [HE.out];simpa only [List.append_assoc,bs_mk] using P5.out,K5.out⟩
end Go.Proofs.YtcimcjmdkjajfaaGreatDoor
namespace Go.Proofs.YtcimcjmdkjajfaaGreatDoor
open Go.RowKit
set_option maxRecDepth 100000 in
set_option maxHeartbeats 2000000 in
theorem bare_of {w0:World} {b:Nat} (k:Int) (s:ByteArray) (kl:List Nd) (hsh:shapeB k kl.length=true) (hk:∀ i (h:i < kl.length),SaysT w0 b kl[i]) (hka:∀ i (h:i < kl.length),SaysA w0 b kl[i]):SaysB w0 b (.mk k s kl):=by
 intro v0 v1 v2 more l w ht hp hlen
 obtain ⟨_,_,_,a,cap,hform,rfl,rfl,rfl,hs,hl⟩:=ht.form
 cases hform
 obtain ⟨L,hL⟩:∃ L,kl.length=L:=⟨_,rfl⟩
 rw [hL] at ht hl
 rw [hL]
 obtain ⟨W,hW⟩:∃ W,w.alloc (.cells #[.int .i64 k,.string s,.slice a L cap] 24)=W:=⟨_,rfl⟩
 have R0':Row3 W w.heap.size (.int .i64 k) (.string s) (.slice a L cap):=by rw [←hW];exact Row3.new _ _ _ _
 have P0:=qh (hW▸hp.alloc (.cells #[.int .i64 k,.string s,.slice a L cap] 24))
 have K0:=qh (hW▸(Wr.refl w0.heap.size b w).alloc hp.size (.cells #[.int .i64 k,.string s,.slice a L cap] 24))
 have hne:w.heap.size≠b:=by have:=hp.p.lt;omega
 have HN:=qh ht
 have HL:=qh hlen
 unfold maxLen at hl
 rw [hL] at hsh
 obtain ⟨T,hT⟩:∃ T,(Nd.mk k s kl).bare more=T:=⟨_,rfl⟩
 rw [hT] at HL hlen
 rw [hT]
 have HW:=qh hW
 have R0:=qh R0'
 clear hW R0' hp
 obtain ⟨ow,how⟩:∃ ow,opensW k=ow:=⟨_,rfl⟩
 have CO:Hid (∀ w',PrI w0 b l w'→_):=qh (fun w' (h:PrI w0 b l w')=>opens_any k s a L cap w' h.glw h.two')
 rw [how] at CO
 unfold S_ at CO
 by_cases hc:k=15
 ·subst hc
  have hE:T=bs s++kl.flatMap fun x=>32 :: x.arg:=by rw [←hT];exact bare_name (by decide) s kl more
  have HE:=qh hE
  have hlen2:=HL.out
  rw [hE] at hlen2
  simp only [List.length_append] at hlen2
  have C1:=qh (fun w' (h:PrI w0 b l w') n (hn:n=w'.heap.size)=>put1 h n hn s (by omega))
  have HA:=qh hka
  have HLL:=qh hL
  have HLen:=qh hlen2
  clear CO how hT hE hlen hlen2 hk hka ht HL hsh hL
  obtain ⟨⟨n0,n1,n2⟩,_⟩:=R0.out.cells
  go_enter Tryz.func229,Tryz.ntmps229
  go_upto_region 1 with fail
  rw [HW.out]
  go_wp2_with fail
  refine (C1.out _ P0.out _ (by first | rfl | simp only [World.size_alloc])).mono ?_
  rintro e w1 ⟨rfl,pp,kk⟩
  have P1:=qh pp
  have K1:=qh (K0.out.trans kk)
  have R1:=qh (kk.row3 R0.out hne)
  clear pp kk C1 n0 n1 n2
  obtain ⟨⟨n0,n1,n2⟩,_⟩:=R1.out.cells
  go_wp2
  go_loopw [25] (fun v wr=>∃ i:Nat,i≤L∧v = .int .i64 i∧Hid (PrI w0 b ((l++bs s)++(kl.take i).flatMap fun x=>32 :: x.arg) wr)∧Hid (Wr w0.heap.size b w wr)) (fun v _=>L - (intOf v).toNat)
  case atStart=>exact ⟨0,Nat.zero_le _,rfl,qh (by simpa using P1.out),K1⟩
  case round =>
   obtain ⟨i,hi,rfl,PI,KI⟩:=hrel
   by_cases hlt:i < L
   ·have hlt':(i:Int) < (L:Int):=by omega
    have hi0:(0:Int)≤(i:Int):=by omega
    have hik:i < kl.length:=by rw [HLL.out];exact hlt
    have hm1:(i:Int)+1≤(L:Int):=by omega
    obtain ⟨bb,o,k1,s1,l1,a1,c1,rfl,e1,x0,x1,x2,r1⟩:=HN.out.kid i hik
    have y0:=PI.out.cell x0
    have y1:=PI.out.cell x1
    have y2:=PI.out.cell x2
    have yb:=lt_of_cell y0
    have hG:(kl.take (i+1)).flatMap (fun x=>(32:UInt8) :: x.arg)=(kl.take i).flatMap (fun x=>32 :: x.arg)++(32 :: (kl[i]).arg):=by
     rw [List.take_succ_eq_append_getElem hik,List.flatMap_append]
     simp
    have hGl:((kl.take (i+1)).flatMap (fun x=>(32:UInt8) :: x.arg)).length≤(kl.flatMap (fun x=>(32:UInt8) :: x.arg)).length:=by
     conv=>rhs;rw [←List.take_append_drop (i+1) kl]
     rw [List.flatMap_append,List.length_append]
     omega
    have hlen3:=HLen.out
    rw [hG] at hGl
    simp only [List.length_append,List.length_cons] at hGl
    generalize hU:(kl.take i).flatMap (fun x=>(32:UInt8) :: x.arg)=U at *
    obtain ⟨A,hA⟩:∃ A,(kl[i]).arg=A:=⟨_,rfl⟩
    rw [hA] at hG hGl
    have HG:=qh hG
    have CP:=qh (fun w' (h:PrI w0 b ((l++bs s)++U) w') n (hn:n=w'.heap.size)=>put1 h n hn ⟨#[32]⟩ (by have h1:(bs ⟨#[32]⟩).length=1:=rfl;simp only [List.length_append];omega))
    have CA:Hid (∀ w',PrI w0 b (((l++bs s)++U)++bs ⟨#[32]⟩) w'→Calls Tryz.prog 247 #[.pointer (some ⟨b,0,none⟩),.agg #[.int .i64 k1,.string s1,.slice a1 l1.length c1]] w' (PrO w0 b (((l++bs s)++U)++bs ⟨#[32]⟩) w' A)):=qh (fun w' h=>by
     have hl9:List.length (((l++bs s)++U)++bs ⟨#[32]⟩)+A.length≤100000000:=by have h1:(bs ⟨#[32]⟩).length=1:=rfl;simp only [List.length_append];omega
     rw [←hA] at hl9 ⊢
     exact HA.out i hik _ _ _ _ w' (e1▸r1) h hl9)
    have RN:=qh (Row3.new wr (.int .i64 k1) (.string s1) (.slice a1 l1.length c1))
    have PN:=qh (PI.out.alloc (.cells #[.int .i64 k1,.string s1,.slice a1 l1.length c1] 24))
    have KN:=qh (KI.out.alloc PI.out.size (.cells #[.int .i64 k1,.string s1,.slice a1 l1.length c1] 24))
    have hnn:wr.heap.size≠b:=by have:=PI.out.p.lt;omega
    clear hU hA hG hGl hlen3 x0 x1 x2 r1 e1 hik n0 n1 n2
    go_wp2_with fail
    refine (CP.out _ PN.out _ (by first | rfl | simp only [World.size_alloc])).mono ?_
    rintro e w5 ⟨rfl,pp,kk⟩
    have P5:=qh pp
    have K5:=qh (KN.out.trans kk)
    have R5:=qh (kk.row3 RN.out hnn)
    obtain ⟨⟨n0,n1,n2⟩,_⟩:=R5.out.cells
    clear pp kk CP y0 y1 y2 yb
    go_wp2_with fail
    refine (CA.out _ P5.out).mono ?_
    rintro e w6 ⟨rfl,pp,kk⟩
    have P6:Hid (PrI w0 b ((l++bs s)++(kl.take (i+1)).flatMap fun x=>32 :: x.arg) w6):=qh (by rw [HG.out];simpa [bs] using pp)
    have K6:=qh (K5.out.trans kk)
    clear pp kk CA n0 n1 n2
    go_wp2
    go_roundw
    case rel=>exact ⟨i+1,hlt,by push_cast;rfl,P6,K6⟩
    case measure=>simp [intOf];omega
   ·have hlt':¬ ((i:Int) < (L:Int)):=by omega
    have hG:kl.take i=kl:=List.take_of_length_le (by rw [HLL.out];omega)
    have P6:=qh (show PrI w0 b (l++T) wr by rw [HE.out];have:=PI.out;rw [hG] at this;simpa [bs] using this)
    clear hG
    go_wp2
    go_end0
    exact ⟨rfl,P6.out,KI.out⟩
 ·have m15:¬ k=15:=hc
  have hk15:((k:Int)==15)=false:=by rw [beq_eq_false_iff_ne];exact hc
  clear hc
  by_cases hc:k=16
  ·subst hc
   have hE:T=bs s++kl.flatMap fun x=>32 :: x.arg:=by rw [←hT];exact bare_name (by decide) s kl more
   have HE:=qh hE
   have hlen2:=HL.out
   rw [hE] at hlen2
   simp only [List.length_append] at hlen2
   have C1:=qh (fun w' (h:PrI w0 b l w') n (hn:n=w'.heap.size)=>put1 h n hn s (by omega))
   have HA:=qh hka
   have HLL:=qh hL
   have HLen:=qh hlen2
   clear CO how hT hE hlen hlen2 hk hka ht HL hsh hL
   obtain ⟨⟨n0,n1,n2⟩,_⟩:=R0.out.cells
   go_enter Tryz.func229,Tryz.ntmps229
   go_upto_region 1 with fail
   rw [HW.out]
   go_wp2_with fail
   refine (C1.out _ P0.out _ (by first | rfl | simp only [World.size_alloc])).mono ?_
   rintro e w1 ⟨rfl,pp,kk⟩
   have P1:=qh pp
   have K1:=qh (K0.out.trans kk)
   have R1:=qh (kk.row3 R0.out hne)
   clear pp kk C1 n0 n1 n2
   obtain ⟨⟨n0,n1,n2⟩,_⟩:=R1.out.cells
   go_wp2
   go_loopw [25] (fun v wr=>∃ i:Nat,i≤L∧v = .int .i64 i∧Hid (PrI w0 b ((l++bs s)++(kl.take i).flatMap fun x=>32 :: x.arg) wr)∧Hid (Wr w0.heap.size b w wr)) (fun v _=>L - (intOf v).toNat)
   case atStart=>exact ⟨0,Nat.zero_le _,rfl,qh (by simpa using P1.out),K1⟩
   case round =>
    obtain ⟨i,hi,rfl,PI,KI⟩:=hrel
    by_cases hlt:i < L
    ·have hlt':(i:Int) < (L:Int):=by omega
     have hi0:(0:Int)≤(i:Int):=by omega
     have hik:i < kl.length:=by rw [HLL.out];exact hlt
     have hm1:(i:Int)+1≤(L:Int):=by omega
     obtain ⟨bb,o,k1,s1,l1,a1,c1,rfl,e1,x0,x1,x2,r1⟩:=HN.out.kid i hik
     have y0:=PI.out.cell x0
     have y1:=PI.out.cell x1
     have y2:=PI.out.cell x2
     have yb:=lt_of_cell y0
     have hG:(kl.take (i+1)).flatMap (fun x=>(32:UInt8) :: x.arg)=(kl.take i).flatMap (fun x=>32 :: x.arg)++(32 :: (kl[i]).arg):=by
      rw [List.take_succ_eq_append_getElem hik,List.flatMap_append]
      simp
     have hGl:((kl.take (i+1)).flatMap (fun x=>(32:UInt8) :: x.arg)).length≤(kl.flatMap (fun x=>(32:UInt8) :: x.arg)).length:=by
      conv=>rhs;rw [←List.take_append_drop (i+1) kl]
      rw [List.flatMap_append,List.length_append]
      omega
     have hlen3:=HLen.out
     rw [hG] at hGl
     simp only [List.length_append,List.length_cons] at hGl
     generalize hU:(kl.take i).flatMap (fun x=>(32:UInt8) :: x.arg)=U at *
     obtain ⟨A,hA⟩:∃ A,(kl[i]).arg=A:=⟨_,rfl⟩
     rw [hA] at hG hGl
     have HG:=qh hG
     have CP:=qh (fun w' (h:PrI w0 b ((l++bs s)++U) w') n (hn:n=w'.heap.size)=>put1 h n hn ⟨#[32]⟩ (by have h1:(bs ⟨#[32]⟩).length=1:=rfl;simp only [List.length_append];omega))
     have CA:Hid (∀ w',PrI w0 b (((l++bs s)++U)++bs ⟨#[32]⟩) w'→Calls Tryz.prog 247 #[.pointer (some ⟨b,0,none⟩),.agg #[.int .i64 k1,.string s1,.slice a1 l1.length c1]] w' (PrO w0 b (((l++bs s)++U)++bs ⟨#[32]⟩) w' A)):=qh (fun w' h=>by
      have hl9:List.length (((l++bs s)++U)++bs ⟨#[32]⟩)+A.length≤100000000:=by have h1:(bs ⟨#[32]⟩).length=1:=rfl;simp only [List.length_append];omega
      rw [←hA] at hl9 ⊢
      exact HA.out i hik _ _ _ _ w' (e1▸r1) h hl9)
     have RN:=qh (Row3.new wr (.int .i64 k1) (.string s1) (.slice a1 l1.length c1))
     have PN:=qh (PI.out.alloc (.cells #[.int .i64 k1,.string s1,.slice a1 l1.length c1] 24))
     have KN:=qh (KI.out.alloc PI.out.size (.cells #[.int .i64 k1,.string s1,.slice a1 l1.length c1] 24))
     have hnn:wr.heap.size≠b:=by have:=PI.out.p.lt;omega
     clear hU hA hG hGl hlen3 x0 x1 x2 r1 e1 hik n0 n1 n2
     go_wp2_with fail
     refine (CP.out _ PN.out _ (by first | rfl | simp only [World.size_alloc])).mono ?_
     rintro e w5 ⟨rfl,pp,kk⟩
     have P5:=qh pp
     have K5:=qh (KN.out.trans kk)
     have R5:=qh (kk.row3 RN.out hnn)
     obtain ⟨⟨n0,n1,n2⟩,_⟩:=R5.out.cells
     clear pp kk CP y0 y1 y2 yb
     go_wp2_with fail
     refine (CA.out _ P5.out).mono ?_
     rintro e w6 ⟨rfl,pp,kk⟩
     have P6:Hid (PrI w0 b ((l++bs s)++(kl.take (i+1)).flatMap fun x=>32 :: x.arg) w6):=qh (by rw [HG.out];simpa [bs] using pp)
     have K6:=qh (K5.out.trans kk)
     clear pp kk CA n0 n1 n2
     go_wp2
     go_roundw
     case rel=>exact ⟨i+1,hlt,by push_cast;rfl,P6,K6⟩
     case measure=>simp [intOf];omega
    ·have hlt':¬ ((i:Int) < (L:Int)):=by omega
     have hG:kl.take i=kl:=List.take_of_length_le (by rw [HLL.out];omega)
     have P6:=qh (show PrI w0 b (l++T) wr by rw [HE.out];have:=PI.out;rw [hG] at this;simpa [bs] using this)
     clear hG
     go_wp2
     go_end0
     exact ⟨rfl,P6.out,KI.out⟩
  ·have m16:¬ k=16:=hc
   have hk16:((k:Int)==16)=false:=by rw [beq_eq_false_iff_ne];exact hc
   clear hc
   by_cases hc:k=17
   ·subst hc
    have h12:L=1∨L=2:=by simpa [shapeB] using hsh
    obtain ⟨X,hX⟩:∃ X,binderF s kl (Nd.bareL kl)=X:=⟨_,rfl⟩
    have hE:T=ow++X:=by rw [←hT,←how,←hX];rfl
    have HE:=qh hE
    have hlen2:=HL.out
    rw [hE] at hlen2
    simp only [List.length_append] at hlen2
    have C1:=qh (fun w' (h:PrI w0 b l w') n (hn:n=w'.heap.size)=>put1 h n hn ⟨ow.toArray⟩ (by simp [bs];omega))
    have C2:Hid (∀ w',PrI w0 b (l++ow) w'→Calls Tryz.prog 248 #[.pointer (some ⟨b,0,none⟩),.agg #[.int .i64 17,.string s,.slice a L cap]] w' (PrO w0 b (l++ow) w' X)):=qh (fun w' h=>by
     have hl9:List.length (l++ow)+X.length≤100000000:=by simp only [List.length_append];omega
     rw [←hX] at hl9 ⊢
     exact binder_of 17 s kl (by rw [hL];exact h12) hk _ _ _ _ w' HN.out h hl9)
    clear how hX hT hE hlen hlen2 hk hka ht HL hsh hL h12
    obtain ⟨⟨n0,n1,n2⟩,_⟩:=R0.out.cells
    go_enter Tryz.func229,Tryz.ntmps229
    go_upto_region 1 with fail
    rw [HW.out]
    go_wp2_with fail
    refine (CO.out _ P0.out).mono ?_
    rintro e w1 ⟨rfl,bb⟩
    have P1:=qh (P0.out.later bb)
    have K1:=qh (K0.out.later bb P0.out.size)
    have R1:=qh (R0.out.below bb R0.out.lt)
    clear bb CO n0 n1 n2
    obtain ⟨⟨n0,n1,n2⟩,_⟩:=R1.out.cells
    go_wp2_with fail
    refine (C1.out _ P1.out _ (by first | rfl | simp only [World.size_alloc])).mono ?_
    rintro e w2 ⟨rfl,pp,kk⟩
    have P2:=qh pp
    have K2:=qh (K1.out.trans kk)
    have R2:=qh (kk.row3 R1.out hne)
    clear pp kk C1 n0 n1 n2
    obtain ⟨⟨n0,n1,n2⟩,_⟩:=R2.out.cells
    go_wp2_with fail
    refine (C2.out _ P2.out).mono ?_
    rintro e w3 ⟨rfl,pp,kk⟩
    have P3:=qh pp
    have K3:=qh (K2.out.trans kk)
    have R3:=qh (kk.row3 R2.out hne)
    clear pp kk C2 n0 n1 n2
    go_wp2
    go_end0
    exact ⟨rfl,by rw [HE.out];simpa only [List.append_assoc,bs_mk] using P3.out,K3.out⟩
   ·have m17:¬ k=17:=hc
    have hk17:((k:Int)==17)=false:=by rw [beq_eq_false_iff_ne];exact hc
    clear hc
    by_cases hc:k=18
    ·subst hc
     have h12:L=1∨L=2:=by simpa [shapeB] using hsh
     obtain ⟨X,hX⟩:∃ X,binderF s kl (Nd.bareL kl)=X:=⟨_,rfl⟩
     have hE:T=(ow++[32])++X:=by rw [←hT,←how,←hX];rfl
     have HE:=qh hE
     have hlen2:=HL.out
     rw [hE] at hlen2
     simp only [List.length_append] at hlen2
     have C1:=qh (fun w' (h:PrI w0 b l w') n (hn:n=w'.heap.size)=>put2 h n hn ⟨ow.toArray⟩ ⟨#[32]⟩ (by simp [bs] at hlen2 ⊢;omega))
     have C2:Hid (∀ w',PrI w0 b (l++(ow++[32])) w'→Calls Tryz.prog 248 #[.pointer (some ⟨b,0,none⟩),.agg #[.int .i64 18,.string s,.slice a L cap]] w' (PrO w0 b (l++(ow++[32])) w' X)):=qh (fun w' h=>by
      have hl9:List.length (l++(ow++[32]))+X.length≤100000000:=by simp only [List.length_append];omega
      rw [←hX] at hl9 ⊢
      exact binder_of 18 s kl (by rw [hL];exact h12) hk _ _ _ _ w' HN.out h hl9)
     clear how hX hT hE hlen hlen2 hk hka ht HL hsh hL h12
     obtain ⟨⟨n0,n1,n2⟩,_⟩:=R0.out.cells
     go_enter Tryz.func229,Tryz.ntmps229
     go_upto_region 1 with fail
     rw [HW.out]
     go_wp2_with fail
     refine (CO.out _ P0.out).mono ?_
     rintro e w1 ⟨rfl,bb⟩
     have P1:=qh (P0.out.later bb)
     have K1:=qh (K0.out.later bb P0.out.size)
     have R1:=qh (R0.out.below bb R0.out.lt)
     clear bb CO n0 n1 n2
     obtain ⟨⟨n0,n1,n2⟩,_⟩:=R1.out.cells
     go_wp2_with fail
     refine (C1.out _ P1.out _ (by first | rfl | simp only [World.size_alloc])).mono ?_
     rintro e w2 ⟨rfl,pp,kk⟩
     have P2:=qh pp
     have K2:=qh (K1.out.trans kk)
     have R2:=qh (kk.row3 R1.out hne)
     clear pp kk C1 n0 n1 n2
     obtain ⟨⟨n0,n1,n2⟩,_⟩:=R2.out.cells
     go_wp2_with fail
     refine (C2.out _ P2.out).mono ?_
     rintro e w3 ⟨rfl,pp,kk⟩
     have P3:=qh pp
     have K3:=qh (K2.out.trans kk)
     have R3:=qh (kk.row3 R2.out hne)
     clear pp kk C2 n0 n1 n2
     go_wp2
     go_end0
     exact ⟨rfl,by rw [HE.out];simpa only [List.append_assoc,bs_mk] using P3.out,K3.out⟩
    ·have m18:¬ k=18:=hc
     have hk18:((k:Int)==18)=false:=by rw [beq_eq_false_iff_ne];exact hc
     clear hc
     by_cases hc:k=19
     ·subst hc
      have h12:L=1∨L=2:=by simpa [shapeB] using hsh
      obtain ⟨X,hX⟩:∃ X,binderF s kl (Nd.bareL kl)=X:=⟨_,rfl⟩
      have hE:T=(ow++[32])++X:=by rw [←hT,←how,←hX];rfl
      have HE:=qh hE
      have hlen2:=HL.out
      rw [hE] at hlen2
      simp only [List.length_append] at hlen2
      have C1:=qh (fun w' (h:PrI w0 b l w') n (hn:n=w'.heap.size)=>put2 h n hn ⟨ow.toArray⟩ ⟨#[32]⟩ (by simp [bs] at hlen2 ⊢;omega))
      have C2:Hid (∀ w',PrI w0 b (l++(ow++[32])) w'→Calls Tryz.prog 248 #[.pointer (some ⟨b,0,none⟩),.agg #[.int .i64 19,.string s,.slice a L cap]] w' (PrO w0 b (l++(ow++[32])) w' X)):=qh (fun w' h=>by
       have hl9:List.length (l++(ow++[32]))+X.length≤100000000:=by simp only [List.length_append];omega
       rw [←hX] at hl9 ⊢
       exact binder_of 19 s kl (by rw [hL];exact h12) hk _ _ _ _ w' HN.out h hl9)
      clear how hX hT hE hlen hlen2 hk hka ht HL hsh hL h12
      obtain ⟨⟨n0,n1,n2⟩,_⟩:=R0.out.cells
      go_enter Tryz.func229,Tryz.ntmps229
      go_upto_region 1 with fail
      rw [HW.out]
      go_wp2_with fail
      refine (CO.out _ P0.out).mono ?_
      rintro e w1 ⟨rfl,bb⟩
      have P1:=qh (P0.out.later bb)
      have K1:=qh (K0.out.later bb P0.out.size)
      have R1:=qh (R0.out.below bb R0.out.lt)
      clear bb CO n0 n1 n2
      obtain ⟨⟨n0,n1,n2⟩,_⟩:=R1.out.cells
      go_wp2_with fail
      refine (C1.out _ P1.out _ (by first | rfl | simp only [World.size_alloc])).mono ?_
      rintro e w2 ⟨rfl,pp,kk⟩
      have P2:=qh pp
      have K2:=qh (K1.out.trans kk)
      have R2:=qh (kk.row3 R1.out hne)
      clear pp kk C1 n0 n1 n2
      obtain ⟨⟨n0,n1,n2⟩,_⟩:=R2.out.cells
      go_wp2_with fail
      refine (C2.out _ P2.out).mono ?_
      rintro e w3 ⟨rfl,pp,kk⟩
      have P3:=qh pp
      have K3:=qh (K2.out.trans kk)
      have R3:=qh (kk.row3 R2.out hne)
      clear pp kk C2 n0 n1 n2
      go_wp2
      go_end0
      exact ⟨rfl,by rw [HE.out];simpa only [List.append_assoc,bs_mk] using P3.out,K3.out⟩
     ·have m19:¬ k=19:=hc
      have hk19:((k:Int)==19)=false:=by rw [beq_eq_false_iff_ne];exact hc
      clear hc
      by_cases hc:k=20
      ·subst hc
       have hE:T=ow:=by rw [←hT,←how];rfl
       have HE:=qh hE
       have hlen2:=HL.out
       rw [hE] at hlen2
       have C1:=qh (fun w' (h:PrI w0 b l w') n (hn:n=w'.heap.size)=>put1 h n hn ⟨ow.toArray⟩ (by simp [bs];omega))
       clear how hT hE hlen hlen2 hk hka ht HL hsh hL
       obtain ⟨⟨n0,n1,n2⟩,_⟩:=R0.out.cells
       go_enter Tryz.func229,Tryz.ntmps229
       go_upto_region 1 with fail
       rw [HW.out]
       go_wp2_with fail
       refine (CO.out _ P0.out).mono ?_
       rintro e w1 ⟨rfl,bb⟩
       have P1:=qh (P0.out.later bb)
       have K1:=qh (K0.out.later bb P0.out.size)
       have R1:=qh (R0.out.below bb R0.out.lt)
       clear bb CO n0 n1 n2
       obtain ⟨⟨n0,n1,n2⟩,_⟩:=R1.out.cells
       go_wp2_with fail
       refine (C1.out _ P1.out _ (by first | rfl | simp only [World.size_alloc])).mono ?_
       rintro e w2 ⟨rfl,pp,kk⟩
       have P2:=qh pp
       have K2:=qh (K1.out.trans kk)
       have R2:=qh (kk.row3 R1.out hne)
       clear pp kk C1 n0 n1 n2
       go_wp2
       go_end0
       exact ⟨rfl,by rw [HE.out];simpa only [List.append_assoc,bs_mk] using P2.out,K2.out⟩
      ·have m20:¬ k=20:=hc
       have hk20:((k:Int)==20)=false:=by rw [beq_eq_false_iff_ne];exact hc
       clear hc
       by_cases hc:k=21
       ·subst hc
        have hE:T=ow:=by rw [←hT,←how];rfl
        have HE:=qh hE
        have hlen2:=HL.out
        rw [hE] at hlen2
        have C1:=qh (fun w' (h:PrI w0 b l w') n (hn:n=w'.heap.size)=>put1 h n hn ⟨ow.toArray⟩ (by simp [bs];omega))
        clear how hT hE hlen hlen2 hk hka ht HL hsh hL
        obtain ⟨⟨n0,n1,n2⟩,_⟩:=R0.out.cells
        go_enter Tryz.func229,Tryz.ntmps229
        go_upto_region 1 with fail
        rw [HW.out]
        go_wp2_with fail
        refine (CO.out _ P0.out).mono ?_
        rintro e w1 ⟨rfl,bb⟩
        have P1:=qh (P0.out.later bb)
        have K1:=qh (K0.out.later bb P0.out.size)
        have R1:=qh (R0.out.below bb R0.out.lt)
        clear bb CO n0 n1 n2
        obtain ⟨⟨n0,n1,n2⟩,_⟩:=R1.out.cells
        go_wp2_with fail
        refine (C1.out _ P1.out _ (by first | rfl | simp only [World.size_alloc])).mono ?_
        rintro e w2 ⟨rfl,pp,kk⟩
        have P2:=qh pp
        have K2:=qh (K1.out.trans kk)
        have R2:=qh (kk.row3 R1.out hne)
        clear pp kk C1 n0 n1 n2
        go_wp2
        go_end0
        exact ⟨rfl,by rw [HE.out];simpa only [List.append_assoc,bs_mk] using P2.out,K2.out⟩
       ·have m21:¬ k=21:=hc
        have hk21:((k:Int)==21)=false:=by rw [beq_eq_false_iff_ne];exact hc
        clear hc
        by_cases hc:k=29
        ·subst hc
         have j0:1≤L:=by simpa [shapeB] using hsh
         have i0:(0:Int) < (L:Int):=by omega
         obtain ⟨bb,o,k0',s0',l0',a0',c0',rfl,eK0,x00,x01,x02,r0⟩:=ht.kid 0 (by omega)
         simp only [Nat.zero_mul,Nat.add_zero] at x00 x01 x02
         have X0:=qh (And.intro x00 (And.intro x01 x02))
         obtain ⟨Y0,hY0⟩:∃ Y,(kl[0]'(by omega)).txt 5 more=Y:=⟨_,rfl⟩
         have hE:T=ow++Y0:=by
          rw [←hT,←how,←hY0,←kidF_at]
          rfl
         have HE:=qh hE
         have hlen2:=HL.out
         rw [hE] at hlen2
         simp only [List.length_append] at hlen2
         have C1:=qh (fun w' (h:PrI w0 b l w') n (hn:n=w'.heap.size)=>put1 h n hn ⟨ow.toArray⟩ (by simp [bs];omega))
         have C2:Hid (∀ (z:Int),z=((5:Nat):Int)→∀ w',PrI w0 b (l++bs ⟨ow.toArray⟩) w'→Calls Tryz.prog 195 #[.pointer (some ⟨b,0,none⟩),.agg #[.int .i64 k0',.string s0',.slice a0' l0'.length c0'],.int .i64 z,.bool more] w' (PrO w0 b (l++bs ⟨ow.toArray⟩) w' Y0)):=qh (fun z hz w' h=>by
          subst hz
          have hl9:List.length (l++bs ⟨ow.toArray⟩)+Y0.length≤100000000:=by (try simp [bs] at hlen2 ⊢);omega
          rw [←hY0] at hl9 ⊢
          exact hk 0 (by omega) _ _ _ (5) more _ w' (by omega) (eK0▸r0) h hl9)
         clear how hY0 hT hE hlen hlen2 hk hka ht HL hsh hL eK0 r0 x00 x01 x02
         obtain ⟨⟨n0,n1,n2⟩,_⟩:=R0.out.cells
         go_enter Tryz.func229,Tryz.ntmps229
         go_upto_region 1 with fail
         rw [HW.out]
         have y00:=P0.out.cell X0.out.1
         have y01:=P0.out.cell X0.out.2.1
         have y02:=P0.out.cell X0.out.2.2
         have yb0:=lt_of_cell y00
         go_wp2_with fail
         refine (CO.out _ P0.out).mono ?_
         rintro e w1 ⟨rfl,bb⟩
         have P1:=qh (P0.out.later bb)
         have K1:=qh (K0.out.later bb P0.out.size)
         have R1:=qh (R0.out.below bb R0.out.lt)
         clear bb CO n0 n1 n2 y00 y01 y02 yb0
         obtain ⟨⟨n0,n1,n2⟩,_⟩:=R1.out.cells
         have y00:=P1.out.cell X0.out.1
         have y01:=P1.out.cell X0.out.2.1
         have y02:=P1.out.cell X0.out.2.2
         have yb0:=lt_of_cell y00
         go_wp2_with fail
         refine (C1.out _ P1.out _ (by first | rfl | simp only [World.size_alloc])).mono ?_
         rintro e w2 ⟨rfl,pp,kk⟩
         have P2:=qh pp
         have K2:=qh (K1.out.trans kk)
         have R2:=qh (kk.row3 R1.out hne)
         clear pp kk C1 n0 n1 n2 y00 y01 y02 yb0
         obtain ⟨⟨n0,n1,n2⟩,_⟩:=R2.out.cells
         have y00:=P2.out.cell X0.out.1
         have y01:=P2.out.cell X0.out.2.1
         have y02:=P2.out.cell X0.out.2.2
         have yb0:=lt_of_cell y00
         go_wp2_with fail
         refine (C2.out _ (by first | rfl | (push_cast;rfl)) _ P2.out).mono ?_
         rintro e w3 ⟨rfl,pp,kk⟩
         have P3:=qh pp
         have K3:=qh (K2.out.trans kk)
         have R3:=qh (kk.row3 R2.out hne)
         clear pp kk C2 n0 n1 n2 y00 y01 y02 yb0
         go_wp2
         go_end0
         exact ⟨rfl,by rw [HE.out];simpa only [List.append_assoc,bs_mk] using P3.out,K3.out⟩
        ·have m29:¬ k=29:=hc
         have hk29:((k:Int)==29)=false:=by rw [beq_eq_false_iff_ne];exact hc
         clear hc
         by_cases hc:k=30
         ·subst hc
          have j0:1≤L:=by simpa [shapeB] using hsh
          have i0:(0:Int) < (L:Int):=by omega
          obtain ⟨bb,o,k0',s0',l0',a0',c0',rfl,eK0,x00,x01,x02,r0⟩:=ht.kid 0 (by omega)
          simp only [Nat.zero_mul,Nat.add_zero] at x00 x01 x02
          have X0:=qh (And.intro x00 (And.intro x01 x02))
          obtain ⟨Y0,hY0⟩:∃ Y,(kl[0]'(by omega)).txt 0 false=Y:=⟨_,rfl⟩
          have hE:T=ow++(Y0++[125]):=by
           rw [←hT,←how,←hY0,←kidF_at]
           rfl
          have HE:=qh hE
          have hlen2:=HL.out
          rw [hE] at hlen2
          simp only [List.length_append] at hlen2
          have C1:=qh (fun w' (h:PrI w0 b l w') n (hn:n=w'.heap.size)=>put1 h n hn ⟨ow.toArray⟩ (by simp [bs];omega))
          have C2:Hid (∀ (z:Int),z=((0:Nat):Int)→∀ w',PrI w0 b (l++bs ⟨ow.toArray⟩) w'→Calls Tryz.prog 195 #[.pointer (some ⟨b,0,none⟩),.agg #[.int .i64 k0',.string s0',.slice a0' l0'.length c0'],.int .i64 z,.bool false] w' (PrO w0 b (l++bs ⟨ow.toArray⟩) w' Y0)):=qh (fun z hz w' h=>by
           subst hz
           have hl9:List.length (l++bs ⟨ow.toArray⟩)+Y0.length≤100000000:=by (try simp [bs] at hlen2 ⊢);omega
           rw [←hY0] at hl9 ⊢
           exact hk 0 (by omega) _ _ _ (0) false _ w' (by omega) (eK0▸r0) h hl9)
          have C3:=qh (fun w' (h:PrI w0 b ((l++bs ⟨ow.toArray⟩)++Y0) w') n (hn:n=w'.heap.size)=>put1 h n hn ⟨#[125]⟩ (by simp [bs] at hlen2 ⊢;omega))
          clear how hY0 hT hE hlen hlen2 hk hka ht HL hsh hL eK0 r0 x00 x01 x02
          obtain ⟨⟨n0,n1,n2⟩,_⟩:=R0.out.cells
          go_enter Tryz.func229,Tryz.ntmps229
          go_upto_region 1 with fail
          rw [HW.out]
          have y00:=P0.out.cell X0.out.1
          have y01:=P0.out.cell X0.out.2.1
          have y02:=P0.out.cell X0.out.2.2
          have yb0:=lt_of_cell y00
          go_wp2_with fail
          refine (CO.out _ P0.out).mono ?_
          rintro e w1 ⟨rfl,bb⟩
          have P1:=qh (P0.out.later bb)
          have K1:=qh (K0.out.later bb P0.out.size)
          have R1:=qh (R0.out.below bb R0.out.lt)
          clear bb CO n0 n1 n2 y00 y01 y02 yb0
          obtain ⟨⟨n0,n1,n2⟩,_⟩:=R1.out.cells
          have y00:=P1.out.cell X0.out.1
          have y01:=P1.out.cell X0.out.2.1
          have y02:=P1.out.cell X0.out.2.2
          have yb0:=lt_of_cell y00
          go_wp2_with fail
          refine (C1.out _ P1.out _ (by first | rfl | simp only [World.size_alloc])).mono ?_
          rintro e w2 ⟨rfl,pp,kk⟩
          have P2:=qh pp
          have K2:=qh (K1.out.trans kk)
          have R2:=qh (kk.row3 R1.out hne)
          clear pp kk C1 n0 n1 n2 y00 y01 y02 yb0
          obtain ⟨⟨n0,n1,n2⟩,_⟩:=R2.out.cells
          have y00:=P2.out.cell X0.out.1
          have y01:=P2.out.cell X0.out.2.1
          have y02:=P2.out.cell X0.out.2.2
          have yb0:=lt_of_cell y00
          go_wp2_with fail
          refine (C2.out _ (by first | rfl | (push_cast;rfl)) _ P2.out).mono ?_
          rintro e w3 ⟨rfl,pp,kk⟩
          have P3:=qh pp
          have K3:=qh (K2.out.trans kk)
          have R3:=qh (kk.row3 R2.out hne)
          clear pp kk C2 n0 n1 n2 y00 y01 y02 yb0
          obtain ⟨⟨n0,n1,n2⟩,_⟩:=R3.out.cells
          have y00:=P3.out.cell X0.out.1
          have y01:=P3.out.cell X0.out.2.1
          have y02:=P3.out.cell X0.out.2.2
          have yb0:=lt_of_cell y00
          go_wp2_with fail
          refine (C3.out _ P3.out _ (by first | rfl | simp only [World.size_alloc])).mono ?_
          rintro e w4 ⟨rfl,pp,kk⟩
          have P4:=qh pp
          have K4:=qh (K3.out.trans kk)
          have R4:=qh (kk.row3 R3.out hne)
          clear pp kk C3 n0 n1 n2 y00 y01 y02 yb0
          go_wp2
          go_end0
          exact ⟨rfl,by rw [HE.out];simpa only [List.append_assoc,bs_mk] using P4.out,K4.out⟩
         ·have m30:¬ k=30:=hc
          have hk30:((k:Int)==30)=false:=by rw [beq_eq_false_iff_ne];exact hc
          clear hc
          have hkk:((22≤k∧k≤28)∨k=31)∧2≤L:=by
           simp only [shapeB,decide_eq_false m15,decide_eq_false m16,decide_eq_false m20,decide_eq_false m21,decide_eq_false m29,decide_eq_false m30,Bool.false_or,Bool.or_eq_true,Bool.and_eq_true,decide_eq_true_eq,Bool.false_and] at hsh
           omega
          obtain ⟨sg,bd,hop⟩:=opOf_some hkk.1
          have C1:Hid (∀ w',PrI w0 b l w'→Calls Tryz.prog 249 #[.pointer (some ⟨b,0,none⟩),.agg #[.int .i64 k,.string s,.slice a L cap],.bool more] w' (PrO w0 b l w' T)):=qh (fun w' h=>by
           refine binary_of k s kl (by rw [hL];exact hkk.2) sg bd hop hk _ _ _ more _ w' HN.out h T ?_ hlen
           rw [←hT]
           simp only [Nd.bare,bareF]
           rw [if_neg (by omega),if_neg m17,if_neg (by omega),if_neg (by omega),if_neg m29,if_neg m30]
           simp only [opBind,opSign,hop])
          clear CO how hT hlen hk hka ht HL hsh hL hop hkk m15 m16 m17 m18 m19 m20 m21 m29 m30
          obtain ⟨⟨n0,n1,n2⟩,_⟩:=R0.out.cells
          go_enter Tryz.func229,Tryz.ntmps229
          go_upto_region 1 with fail
          rw [HW.out]
          go_wp2_with fail
          refine (C1.out _ P0.out).mono ?_
          rintro e w1 ⟨rfl,pp,kk⟩
          have P1:=qh pp
          have K1:=qh (K0.out.trans kk)
          have R1:=qh (kk.row3 R0.out hne)
          clear pp kk C1 n0 n1 n2
          go_wp2
          go_end0
          exact ⟨rfl,P1.out,K1.out⟩
theorem printer_says {w0:World} {b:Nat}:∀ (N:Nat) (t:Nd),t.sz≤N→t.okP=true→SaysB w0 b t:=by
 intro N
 induction N with
 | zero =>
  rintro ⟨k,s,kl⟩ h
  simp only [Nd.sz] at h
  omega
 | succ N ih =>
  rintro ⟨k,s,kl⟩ h ho
  simp only [Nd.okP,Bool.and_eq_true] at ho
  have hB:∀ i (hi:i < kl.length),SaysB w0 b kl[i]:=fun i hi=>ih _ (by have:=Nd.kid_lt k s kl i hi;omega) (okL_get ho.2.2 i hi)
  exact bare_of k s kl ho.1 (fun i hi=>node_of (hB i hi)) (fun i hi=>argument_of (hB i hi))
theorem node_says {w0:World} {b:Nat} (t:Nd) (h:t.okP=true):SaysT w0 b t:=node_of (printer_says _ t (Nat.le_refl _) h)
end Go.Proofs.YtcimcjmdkjajfaaGreatDoor
namespace Go.Proofs.YtcimcjmdkjajfaaGreatDoor
open Go.RowKit
def Nd.nm:Nd→Tx | .mk _ s _=>bs s
def comF:List Nd→Bool→Tx
 | [],_=>[]
 | x :: l,first=>(if first then [] else [44,32])++(x.nm++comF l false)
theorem comF_step:∀ (l:List Nd) (i:Nat) (h:i < l.length) (f:Bool),comF (l.take (i+1)) f=comF (l.take i) f++((if i=0∧f=true then [] else [44,32])++(l[i]).nm)
 | x :: l,0,_,f=>by cases f <;> simp [comF]
 | x :: l,i+1,h,f=>by
  simp only [List.take_succ_cons,comF,List.getElem_cons_succ]
  rw [comF_step l i (by simpa using h) false]
  simp
theorem comF_mono (l:List Nd) (f:Bool) (i:Nat):(comF (l.take i) f).length≤(comF l f).length:=by
 induction l generalizing i f with
 | nil=>simp [comF]
 | cons x l ih =>
  cases i with
  | zero=>simp [comF]
  | succ i =>
   simp only [List.take_succ_cons,comF,List.length_append]
   have:=ih false i
   omega
set_option maxRecDepth 100000 in
set_option maxHeartbeats 2000000 in
theorem names_any {w0:World} {b:Nat} (k:Int) (s:ByteArray) (kl:List Nd) (n cap':Nat) (hn:n≤kl.length) (v0 v1:Value) (a:Option Addr) (m cap:Nat) (l:Tx) (w:World) (ht:NdR w0 (.mk k s kl) v0 v1 (.slice a m cap)) (hp:PrI w0 b l w)
  (hlen:l.length+(comF (kl.take n) true).length≤100000000):Calls Tryz.prog 227 #[.pointer (some ⟨b,0,none⟩),.slice a n cap'] w (PrO w0 b l w (comF (kl.take n) true)):=by
 have hl:kl.length≤maxLen:=by
  obtain ⟨_,_,_,_,_,e,_,_,_,_,h⟩:=ht.form
  cases e
  exact h
 unfold maxLen at hl
 have HN:=qh ht
 have P0:=qh hp
 have K0:=qh (Wr.refl w0.heap.size b w)
 have HL:=qh hlen
 have Hn:=qh hn
 obtain ⟨T,hT⟩:∃ T,comF (kl.take n) true=T:=⟨_,rfl⟩
 rw [hT] at HL
 rw [hT]
 have HT:=qh hT
 have hn2:n≤9223372036854775807:=by omega
 clear ht hp hlen hT hn hl
 go_enter Tryz.func227,Tryz.ntmps227
 go_wp2
 go_loopw [8] (fun v wr=>∃ i:Nat,i≤n∧v = .int .i64 i∧Hid (PrI w0 b (l++comF (kl.take i) true) wr)∧Hid (Wr w0.heap.size b w wr)) (fun v _=>n - (intOf v).toNat)
 case atStart=>exact ⟨0,Nat.zero_le _,rfl,qh (by simpa [comF] using P0.out),K0⟩
 case round =>
  obtain ⟨i,hi,rfl,PI,KI⟩:=hrel
  by_cases hlt:i < n
  ·have hlt':(i:Int) < (n:Int):=by omega
   have hi0:(0:Int)≤(i:Int):=by omega
   have hik:i < kl.length:=Nat.lt_of_lt_of_le hlt Hn.out
   have hm1:(i:Int)+1≤(n:Int):=by omega
   obtain ⟨bb,o,k1,s1,l1,a1,c1,rfl,e1,x0,x1,x2,r1⟩:=HN.out.kid i hik
   have y0:=PI.out.cell x0
   have y1:=PI.out.cell x1
   have y2:=PI.out.cell x2
   have yb:=lt_of_cell y0
   have hG:=comF_step kl i hik true
   have hGl:(comF (kl.take (i+1)) true).length≤T.length:=by
    rw [←HT.out]
    have:=comF_mono (kl.take n) true (i+1)
    rwa [List.take_take,Nat.min_eq_left hlt] at this
   have hnm:(kl[i]).nm=bs s1:=by rw [e1];rfl
   rw [hG,hnm] at hGl
   rw [hnm] at hG
   have hlen3:=HL.out
   generalize hU:comF (kl.take i) true=U at *
   have HG:=qh hG
   have RN:=qh (Row3.new wr (.int .i64 k1) (.string s1) (.slice a1 l1.length c1))
   have PN:=qh (PI.out.alloc (.cells #[.int .i64 k1,.string s1,.slice a1 l1.length c1] 24))
   have KN:=qh (KI.out.alloc PI.out.size (.cells #[.int .i64 k1,.string s1,.slice a1 l1.length c1] 24))
   have hnn:wr.heap.size≠b:=by have:=PI.out.p.lt;omega
   by_cases hz:i=0
   ·have HG2:Hid (comF (kl.take (i+1)) true=U++bs s1):=qh (by rw [hG,if_pos ⟨hz,rfl⟩];rfl)
    rw [if_pos ⟨hz,rfl⟩] at hGl
    simp only [List.length_append,List.length_nil] at hGl
    have CA:=qh (fun w' (h:PrI w0 b (l++U) w') n (hn:n=w'.heap.size)=>put1 h n hn s1 (by simp only [List.length_append];omega))
    have hz':¬ ((0:Int) < (i:Int)):=by omega
    clear hU hG hGl hlen3 x0 x1 x2 r1 e1 hik HG hnm hz
    go_wp2_with fail
    refine (CA.out _ PN.out _ (by first | rfl | simp only [World.size_alloc])).mono ?_
    rintro e w6 ⟨rfl,pp,kk⟩
    have P6:Hid (PrI w0 b (l++comF (kl.take (i+1)) true) w6):=qh (by rw [HG2.out,←List.append_assoc];exact pp)
    have K6:=qh (KN.out.trans kk)
    clear pp kk CA y0 y1 y2 yb
    go_wp2
    go_roundw
    case rel=>exact ⟨i+1,hlt,by push_cast;rfl,P6,K6⟩
    case measure=>simp [intOf];omega
   ·have HG2:Hid (comF (kl.take (i+1)) true=U++(bs ⟨#[44,32]⟩++bs s1)):=qh (by rw [hG,if_neg (fun h=>hz h.1)];rfl)
    rw [if_neg (fun h=>hz h.1)] at hGl
    simp only [List.length_append,List.length_cons,List.length_nil] at hGl
    have CP:=qh (fun w' (h:PrI w0 b (l++U) w') n (hn:n=w'.heap.size)=>put1 h n hn ⟨#[44,32]⟩ (by have h1:(bs ⟨#[44,32]⟩).length=2:=rfl;simp only [List.length_append];omega))
    have CA:=qh (fun w' (h:PrI w0 b ((l++U)++bs ⟨#[44,32]⟩) w') n (hn:n=w'.heap.size)=>put1 h n hn s1 (by have h1:(bs ⟨#[44,32]⟩).length=2:=rfl;simp only [List.length_append];omega))
    have hz':(0:Int) < (i:Int):=by omega
    clear hU hG hGl hlen3 x0 x1 x2 r1 e1 hik HG hnm hz
    go_wp2_with fail
    refine (CP.out _ PN.out _ (by first | rfl | simp only [World.size_alloc])).mono ?_
    rintro e w5 ⟨rfl,pp,kk⟩
    have P5:=qh pp
    have K5:=qh (KN.out.trans kk)
    have R5:=qh (kk.row3 RN.out hnn)
    obtain ⟨⟨n0,n1,n2⟩,_⟩:=R5.out.cells
    clear pp kk CP y0 y1 y2 yb
    go_wp2_with fail
    refine (CA.out _ P5.out _ (by first | rfl | simp only [World.size_alloc])).mono ?_
    rintro e w6 ⟨rfl,pp,kk⟩
    have P6:Hid (PrI w0 b (l++comF (kl.take (i+1)) true) w6):=qh (by rw [HG2.out];simpa only [List.append_assoc] using pp)
    have K6:=qh (K5.out.trans kk)
    clear pp kk CA n0 n1 n2
    go_wp2
    go_roundw
    case rel=>exact ⟨i+1,hlt,by push_cast;rfl,P6,K6⟩
    case measure=>simp [intOf];omega
  ·have hlt':¬ ((i:Int) < (n:Int)):=by omega
   obtain rfl:i=n:=by omega
   have P6:=qh (show PrI w0 b (l++T) wr by rw [←HT.out];exact PI.out)
   go_wp2
   go_end0
   exact ⟨rfl,P6.out,KI.out⟩
def kidT (l:List Nd) (i bind:Nat):Tx:=match l[i]? with | some x=>x.txt bind false | none=>[]
theorem kidT_at {l:List Nd} {i:Nat} (h:i < l.length) (bind:Nat):kidT l i bind=(l[i]).txt bind false:=by unfold kidT;rw [List.getElem?_eq_getElem h]
def itemBody (k:Int) (l:List Nd):Tx :=
 if k=2∨k=14 then comF l true
 else if k=3 then comF (l.take (l.length - 1)) true++([58,32]++kidT l (l.length - 1) 6)
 else if k=4∨k=5∨k=6∨k=7 then l.flatMap fun x=>32 :: x.txt 7 false
 else if k=8∨k=9∨k=10∨k=11 then [58,32]++kidT l 0 0
 else []
def Nd.itm:Nd→Tx | .mk k s l=>(opensW k++([32]++bs s))++(itemBody k l++[46])
def itemOk (k:Int) (n:Nat):Prop:=((k=3∨k=8∨k=9∨k=10∨k=11)→1≤n)
theorem PrI.drew {w0:World} {b:Nat} {l:Tx} {w:World} (h:PrI w0 b l w):PrI w0 b l w.drew:=h.later (Below.refl _ _).drew
theorem Wr.drew {B b:Nat} {w w':World} (h:Wr B b w w'):Wr B b w w'.drew:=⟨h.bl.drew,h.kp.drew⟩
set_option maxRecDepth 100000 in
set_option maxHeartbeats 2000000 in
theorem item_says {w0:World} {b:Nat} (k:Int) (s:ByteArray) (kl:List Nd) (hok:itemOk k kl.length) (hk:∀ i (h:i < kl.length),SaysT w0 b kl[i]) (v0 v1 v2:Value) (l:Tx) (w:World) (ht:NdR w0 (.mk k s kl) v0 v1 v2) (hp:PrI w0 b l w)
  (hlen:l.length+(Nd.mk k s kl).itm.length≤100000000):Calls Tryz.prog 193 #[.pointer (some ⟨b,0,none⟩),.agg #[v0,v1,v2]] w (PrO w0 b l w (Nd.mk k s kl).itm):=by
 obtain ⟨_,_,_,a,cap,hform,rfl,rfl,rfl,hs,hl⟩:=ht.form
 cases hform
 obtain ⟨L,hL⟩:∃ L,kl.length=L:=⟨_,rfl⟩
 rw [hL] at ht hl
 rw [hL]
 obtain ⟨W,hW⟩:∃ W,w.alloc (.cells #[.int .i64 k,.string s,.slice a L cap] 24)=W:=⟨_,rfl⟩
 have R0':Row3 W w.heap.size (.int .i64 k) (.string s) (.slice a L cap):=by rw [←hW];exact Row3.new _ _ _ _
 have P0:=qh (hW▸hp.alloc (.cells #[.int .i64 k,.string s,.slice a L cap] 24))
 have K0:=qh (hW▸(Wr.refl w0.heap.size b w).alloc hp.size (.cells #[.int .i64 k,.string s,.slice a L cap] 24))
 have hne:w.heap.size≠b:=by have:=hp.p.lt;omega
 have HN:=qh ht
 have HL:=qh hlen
 unfold maxLen at hl
 rw [hL] at hok
 obtain ⟨T,hT⟩:∃ T,(Nd.mk k s kl).itm=T:=⟨_,rfl⟩
 rw [hT] at HL hlen
 rw [hT]
 have HW:=qh hW
 have R0:=qh R0'
 have hcap:=ht.cap
 rw [hL] at hcap
 clear hW R0' hp
 obtain ⟨ow,how⟩:∃ ow,opensW k=ow:=⟨_,rfl⟩
 have CO:Hid (∀ w',PrI w0 b l w'→_):=qh (fun w' (h:PrI w0 b l w')=>opens_any k s a L cap w' h.glw h.two')
 rw [how] at CO
 unfold S_ at CO
 obtain ⟨X,hX⟩:∃ X,itemBody k kl=X:=⟨_,rfl⟩
 have hE:T=(bs ⟨ow.toArray⟩++(bs ⟨#[32]⟩++bs s))++(X++bs ⟨#[46]⟩):=by rw [←hT,←hX,←how];rfl
 have HE:=qh hE
 have hlen2:=HL.out
 rw [hE] at hlen2
 simp only [List.length_append] at hlen2
 have C1:=qh (fun w' (h:PrI w0 b l w') n (hn:n=w'.heap.size)=>put3 h n hn ⟨ow.toArray⟩ ⟨#[32]⟩ s (by simp only [List.length_append];omega))
 have CE:=qh (fun w' (h:PrI w0 b ((l++(bs ⟨ow.toArray⟩++(bs ⟨#[32]⟩++bs s)))++X) w') n (hn:n=w'.heap.size)=>put1 h n hn ⟨#[46]⟩ (by simp only [List.length_append];omega))
 have HX:=qh hX
 have HK:=qh hk
 have HLL:=qh hL
 have Hok:=qh hok
 obtain ⟨p,hp⟩:∃ p,l++(bs ⟨ow.toArray⟩++(bs ⟨#[32]⟩++bs s))=p:=⟨_,rfl⟩
 have HP:=qh hp
 have HL3:Hid (p.length+X.length+1≤100000000):=qh (by
  rw [←hp]
  have h1:(bs ⟨#[46]⟩).length=1:=rfl
  simp only [List.length_append]
  omega)
 rw [hp] at CE
 clear how hX hE hlen hlen2 hk ht HL hL hok hT hp
 have P0d:=qh P0.out.drew
 have K0d:=qh K0.out.drew
 have R0d:=qh (show Row3 W.drew _ _ _ _ from R0.out)
 obtain ⟨⟨n0,n1,n2⟩,_⟩:=R0.out.cells
 have S0:=R0d.out.cells.1
 go_enter Tryz.func193,Tryz.ntmps193
 go_upto_region 1 with fail
 rw [HW.out]
 go_cut [] (fun wx=>Hid (PrI w0 b p wx)∧Hid (Wr w0.heap.size b w wx)∧Hid (Row3 wx w.heap.size (.int .i64 k) (.string s) (.slice a L cap)))
 case first =>
  go_region_held3 (fun w'=>w'.cell? ⟨w.heap.size,0,none⟩=some (.int .i64 k)∧w'.cell? ⟨w.heap.size,1,none⟩=some (.string s)∧w'.cell? ⟨w.heap.size,2,none⟩=some (.slice a L cap))
   (first | with_reducible exact S0 | with_reducible exact S1 | with_reducible exact S1a | with_reducible exact S2 | (trace_state;fail))
   (first
    | (go_at_call 226;refine (CO.out _ P0d.out).mono ?_;rintro e w1 ⟨rfl,bb⟩;have P1:=qh (P0d.out.later bb);have K1:=qh (K0d.out.later bb P0d.out.size);have R1:=qh (R0d.out.below bb R0d.out.lt);have S1:=R1.out.cells.1;have S1a:=(R1.out.alloc (.cells #[.string ⟨ow.toArray⟩,.string ⟨#[32]⟩,.string s] 9)).cells.1;clear bb)
    | (go_at_call 194;refine (C1.out _ P1.out _ (by first | rfl | simp only [World.size_alloc])).mono ?_;rintro e w2 ⟨rfl,pp,kk⟩;have P2:=qh pp;have K2:=qh (K1.out.trans kk);have R2:=qh (kk.row3 R1.out hne);have S2:=R2.out.cells.1;clear pp kk))
  all_goals go_wp2
  all_goals go_meet
  all_goals exact ⟨by rw [←HP.out];exact P2,K2,R2⟩
 case rest =>
  obtain ⟨P0,K0,R0⟩:=hcut
  by_cases hc:k=2
  ·subst hc
   have hX2:comF (kl.take L) true=X:=by
    rw [←HX.out,←HLL.out,List.take_length,itemBody,if_pos (by decide)]
   have C2:Hid (∀ w',PrI w0 b p w'→Calls Tryz.prog 227 #[.pointer (some ⟨b,0,none⟩),.slice a L cap] w' (PrO w0 b p w' X)):=qh (fun w' h=>by
    have hl9:p.length+X.length≤100000000:=by have:=HL3.out;omega
    rw [←hX2] at hl9 ⊢
    exact names_any _ s kl L cap (by rw [HLL.out];exact Nat.le_refl _) _ _ _ _ _ _ w' HN.out h hl9)
   clear hX2
   obtain ⟨⟨n0,n1,n2⟩,_⟩:=R0.out.cells
   go_wp2_with fail
   refine (C2.out _ P0.out).mono ?_
   rintro e w1 ⟨rfl,pp,kk⟩
   have P1:=qh pp
   have K1:=qh (K0.out.trans kk)
   have R1:=qh (kk.row3 R0.out hne)
   clear pp kk C2 n0 n1 n2
   obtain ⟨⟨n0,n1,n2⟩,_⟩:=R1.out.cells
   go_wp2_with fail
   refine (CE.out _ P1.out _ (by first | rfl | simp only [World.size_alloc])).mono ?_
   rintro e w2 ⟨rfl,pp,kk⟩
   have P2:=qh pp
   have K2:=qh (K1.out.trans kk)
   have R2:=qh (kk.row3 R1.out hne)
   clear pp kk CE n0 n1 n2
   go_wp2
   go_end0
   exact ⟨rfl,by rw [HE.out];have hh:=P2.out;rw [←HP.out] at hh;simpa only [List.append_assoc,bs_mk] using hh,K2.out⟩
  ·have hk2:((k:Int)==2)=false:=by rw [beq_eq_false_iff_ne];exact hc
   have m2:¬ k=2:=hc
   clear hc
   by_cases hc:k=3
   ·subst hc
    have hL1:1≤L:=Hok.out (by decide)
    obtain ⟨M,hM⟩:∃ M,L - 1=M:=⟨_,rfl⟩
    have hML:((L:Nat):Int) - 1=(M:Int):=by omega
    have hMk:M < kl.length:=by rw [HLL.out];omega
    have hMc:M≤cap:=by omega
    have hML2:(M:Int) < (L:Int):=by omega
    have hML3:M < L:=by omega
    have hM0:(0:Int)≤(M:Int):=by omega
    obtain ⟨bb,o,k0',s0',l0',a0',c0',rfl,eK0,x00,x01,x02,r0⟩:=HN.out.kid M hMk
    have X0:=qh (And.intro x00 (And.intro x01 x02))
    obtain ⟨Y0,hY0⟩:∃ Y,(kl[M]'hMk).txt 6 false=Y:=⟨_,rfl⟩
    obtain ⟨Z,hZ⟩:∃ Z,comF (kl.take M) true=Z:=⟨_,rfl⟩
    have hXE:X=Z++(bs ⟨#[58,32]⟩++Y0):=by
     rw [←HX.out,itemBody,if_neg (by decide),if_pos rfl,HLL.out,hM,hZ,kidT_at hMk,hY0]
     rfl
    have HXE:=qh hXE
    have hlen2:=HL3.out
    rw [hXE] at hlen2
    simp only [List.length_append] at hlen2
    have C2:Hid (∀ w',PrI w0 b p w'→Calls Tryz.prog 227 #[.pointer (some ⟨b,0,none⟩),.slice (some ⟨bb,o,none⟩) M cap] w' (PrO w0 b p w' Z)):=qh (fun w' h=>by
     have hl9:p.length+Z.length≤100000000:=by omega
     rw [←hZ] at hl9 ⊢
     exact names_any _ s kl M cap (Nat.le_of_lt hMk) _ _ _ _ _ _ w' HN.out h hl9)
    have C3:=qh (fun w' (h:PrI w0 b (p++Z) w') n (hn:n=w'.heap.size)=>put1 h n hn ⟨#[58,32]⟩ (by simp only [List.length_append];omega))
    have hk:=HK.out
    have C4:Hid (∀ (z:Int),z=((6:Nat):Int)→∀ w',PrI w0 b ((p++Z)++bs ⟨#[58,32]⟩) w'→Calls Tryz.prog 195 #[.pointer (some ⟨b,0,none⟩),.agg #[.int .i64 k0',.string s0',.slice a0' l0'.length c0'],.int .i64 z,.bool false] w' (PrO w0 b ((p++Z)++bs ⟨#[58,32]⟩) w' Y0)):=qh (fun z hz w' h=>by
     subst hz
     have hl9:List.length ((p++Z)++bs ⟨#[58,32]⟩)+Y0.length≤100000000:=by (try simp [bs] at hlen2 ⊢);omega
     rw [←hY0] at hl9 ⊢
     exact hk M hMk _ _ _ (6) false _ w' (by omega) (eK0▸r0) h hl9)
    clear hY0 hZ hXE hlen2 hk eK0 r0 x00 x01 x02 hM hL1 hMk
    obtain ⟨⟨n0,n1,n2⟩,_⟩:=R0.out.cells
    have y00:=P0.out.cell X0.out.1
    have y01:=P0.out.cell X0.out.2.1
    have y02:=P0.out.cell X0.out.2.2
    have yb0:=lt_of_cell y00
    go_wp2_with fail
    refine (C2.out _ P0.out).mono ?_
    rintro e w1 ⟨rfl,pp,kk⟩
    have P1:=qh pp
    have K1:=qh (K0.out.trans kk)
    have R1:=qh (kk.row3 R0.out hne)
    clear pp kk C2 n0 n1 n2 y00 y01 y02 yb0
    obtain ⟨⟨n0,n1,n2⟩,_⟩:=R1.out.cells
    have y00:=P1.out.cell X0.out.1
    have y01:=P1.out.cell X0.out.2.1
    have y02:=P1.out.cell X0.out.2.2
    have yb0:=lt_of_cell y00
    go_wp2_with fail
    refine (C3.out _ P1.out _ (by first | rfl | simp only [World.size_alloc])).mono ?_
    rintro e w2 ⟨rfl,pp,kk⟩
    have P2:=qh pp
    have K2:=qh (K1.out.trans kk)
    have R2:=qh (kk.row3 R1.out hne)
    clear pp kk C3 n0 n1 n2 y00 y01 y02 yb0
    obtain ⟨⟨n0,n1,n2⟩,_⟩:=R2.out.cells
    have y00:=P2.out.cell X0.out.1
    have y01:=P2.out.cell X0.out.2.1
    have y02:=P2.out.cell X0.out.2.2
    have yb0:=lt_of_cell y00
    go_wp2_with fail
    refine (C4.out _ (by first | rfl | (push_cast;rfl)) _ P2.out).mono ?_
    rintro e w3 ⟨rfl,pp,kk⟩
    have P3:=qh pp
    have K3:=qh (K2.out.trans kk)
    have R3:=qh (kk.row3 R2.out hne)
    clear pp kk C4 n0 n1 n2 y00 y01 y02 yb0
    obtain ⟨⟨n0,n1,n2⟩,_⟩:=R3.out.cells
    have y00:=P3.out.cell X0.out.1
    have y01:=P3.out.cell X0.out.2.1
    have y02:=P3.out.cell X0.out.2.2
    have yb0:=lt_of_cell y00
    have P3x:Hid (PrI w0 b (p++X) w3):=qh (by rw [HXE.out];simpa only [List.append_assoc] using P3.out)
    clear P3
    have P3:=P3x
    clear P3x
    go_wp2_with fail
    refine (CE.out _ P3.out _ (by first | rfl | simp only [World.size_alloc])).mono ?_
    rintro e w4 ⟨rfl,pp,kk⟩
    have P4:=qh pp
    have K4:=qh (K3.out.trans kk)
    have R4:=qh (kk.row3 R3.out hne)
    clear pp kk CE n0 n1 n2 y00 y01 y02 yb0
    go_wp2
    go_end0
    exact ⟨rfl,by rw [HE.out];have hh:=P4.out;rw [←HP.out] at hh;simpa only [List.append_assoc,bs_mk] using hh,K4.out⟩
   ·have hk3:((k:Int)==3)=false:=by rw [beq_eq_false_iff_ne];exact hc
    have m3:¬ k=3:=hc
    clear hc
    by_cases hc:k=4
    ·subst hc
     have hXE:X=kl.flatMap fun x=>32 :: x.txt 7 false:=by rw [←HX.out,itemBody,if_neg (by decide),if_neg (by decide),if_pos (by decide)]
     have HXE:=qh hXE
     have HLen:=HL3
     rw [hXE] at HLen
     clear hXE
     obtain ⟨⟨n0,n1,n2⟩,_⟩:=R0.out.cells
     go_wp2
     go_loopw [53] (fun v wr=>∃ i:Nat,i≤L∧v = .int .i64 i∧Hid (PrI w0 b (p++(kl.take i).flatMap fun x=>32 :: x.txt 7 false) wr)∧Hid (Wr w0.heap.size b w wr)∧Hid (Row3 wr w.heap.size (.int .i64 4) (.string s) (.slice a L cap))) (fun v _=>L - (intOf v).toNat)
     case atStart=>exact ⟨0,Nat.zero_le _,rfl,qh (by simpa using P0.out),K0,R0⟩
     case round =>
      obtain ⟨i,hi,rfl,PI,KI,RI⟩:=hrel
      by_cases hlt:i < L
      ·have hlt':(i:Int) < (L:Int):=by omega
       have hi0:(0:Int)≤(i:Int):=by omega
       have hik:i < kl.length:=by rw [HLL.out];exact hlt
       have hm1:(i:Int)+1≤(L:Int):=by omega
       obtain ⟨bb,o,k1,s1,l1,a1,c1,rfl,e1,x0,x1,x2,r1⟩:=HN.out.kid i hik
       have y0:=PI.out.cell x0
       have y1:=PI.out.cell x1
       have y2:=PI.out.cell x2
       have yb:=lt_of_cell y0
       have hG:(kl.take (i+1)).flatMap (fun x=>(32:UInt8) :: x.txt 7 false)=(kl.take i).flatMap (fun x=>32 :: x.txt 7 false)++(32 :: (kl[i]).txt 7 false):=by
        rw [List.take_succ_eq_append_getElem hik,List.flatMap_append]
        simp
       have hGl:((kl.take (i+1)).flatMap (fun x=>(32:UInt8) :: x.txt 7 false)).length≤(kl.flatMap (fun x=>(32:UInt8) :: x.txt 7 false)).length:=by
        conv=>rhs;rw [←List.take_append_drop (i+1) kl]
        rw [List.flatMap_append,List.length_append]
        omega
       have hlen3:=HLen.out
       rw [hG] at hGl
       simp only [List.length_append,List.length_cons] at hGl
       generalize hU:(kl.take i).flatMap (fun x=>(32:UInt8) :: x.txt 7 false)=U at *
       obtain ⟨A,hA⟩:∃ A,(kl[i]).txt 7 false=A:=⟨_,rfl⟩
       rw [hA] at hG hGl
       have HG:=qh hG
       have CP:=qh (fun w' (h:PrI w0 b (p++U) w') n (hn:n=w'.heap.size)=>put1 h n hn ⟨#[32]⟩ (by have h1:(bs ⟨#[32]⟩).length=1:=rfl;simp only [List.length_append];omega))
       have CA:Hid (∀ (z:Int),z=((7:Nat):Int)→∀ w',PrI w0 b ((p++U)++bs ⟨#[32]⟩) w'→Calls Tryz.prog 195 #[.pointer (some ⟨b,0,none⟩),.agg #[.int .i64 k1,.string s1,.slice a1 l1.length c1],.int .i64 z,.bool false] w' (PrO w0 b ((p++U)++bs ⟨#[32]⟩) w' A)):=qh (fun z hz w' h=>by
        subst hz
        have hl9:List.length ((p++U)++bs ⟨#[32]⟩)+A.length≤100000000:=by have h1:(bs ⟨#[32]⟩).length=1:=rfl;simp only [List.length_append];omega
        rw [←hA] at hl9 ⊢
        exact HK.out i hik _ _ _ 7 false _ w' (by decide) (e1▸r1) h hl9)
       have RN:=qh (Row3.new wr (.int .i64 k1) (.string s1) (.slice a1 l1.length c1))
       have PN:=qh (PI.out.alloc (.cells #[.int .i64 k1,.string s1,.slice a1 l1.length c1] 24))
       have KN:=qh (KI.out.alloc PI.out.size (.cells #[.int .i64 k1,.string s1,.slice a1 l1.length c1] 24))
       have RIN:=qh (RI.out.alloc (.cells #[.int .i64 k1,.string s1,.slice a1 l1.length c1] 24))
       have hnn:wr.heap.size≠b:=by have:=PI.out.p.lt;omega
       clear hU hA hG hGl hlen3 x0 x1 x2 r1 e1 hik n0 n1 n2
       go_wp2_with fail
       refine (CP.out _ PN.out _ (by first | rfl | simp only [World.size_alloc])).mono ?_
       rintro e w5 ⟨rfl,pp,kk⟩
       have P5:=qh pp
       have K5:=qh (KN.out.trans kk)
       have R5:=qh (kk.row3 RN.out hnn)
       have RI5:=qh (kk.row3 RIN.out hne)
       obtain ⟨⟨n0,n1,n2⟩,_⟩:=R5.out.cells
       clear pp kk CP y0 y1 y2 yb
       go_wp2_with fail
       refine (CA.out _ (by first | rfl | (push_cast;rfl)) _ P5.out).mono ?_
       rintro e w6 ⟨rfl,pp,kk⟩
       have P6:Hid (PrI w0 b (p++(kl.take (i+1)).flatMap fun x=>32 :: x.txt 7 false) w6):=qh (by rw [HG.out];simpa [bs] using pp)
       have K6:=qh (K5.out.trans kk)
       have R6:=qh (kk.row3 RI5.out hne)
       clear pp kk CA n0 n1 n2
       go_wp2
       go_roundw
       case rel=>exact ⟨i+1,hlt,by push_cast;rfl,P6,K6,R6⟩
       case measure=>simp [intOf];omega
      ·have hlt':¬ ((i:Int) < (L:Int)):=by omega
       have hG:kl.take i=kl:=List.take_of_length_le (by rw [HLL.out];omega)
       have P9:=qh (show PrI w0 b (p++X) wr by rw [HXE.out];have hh:=PI.out;rwa [hG] at hh)
       clear hG n0 n1 n2
       clear P0 K0 R0
       have P0:=P9
       have K0:=KI
       have R0:=RI
       obtain ⟨⟨n0,n1,n2⟩,_⟩:=R0.out.cells
       go_wp2_with fail
       refine (CE.out _ P0.out _ (by first | rfl | simp only [World.size_alloc])).mono ?_
       rintro e w1 ⟨rfl,pp,kk⟩
       have P1:=qh pp
       have K1:=qh (K0.out.trans kk)
       have R1:=qh (kk.row3 R0.out hne)
       clear pp kk CE n0 n1 n2
       go_wp2
       go_end0
       exact ⟨rfl,by rw [HE.out];have hh:=P1.out;rw [←HP.out] at hh;simpa only [List.append_assoc,bs_mk] using hh,K1.out⟩
    ·have hk4:((k:Int)==4)=false:=by rw [beq_eq_false_iff_ne];exact hc
     have m4:¬ k=4:=hc
     clear hc
     by_cases hc:k=5
     ·subst hc
      have hXE:X=kl.flatMap fun x=>32 :: x.txt 7 false:=by rw [←HX.out,itemBody,if_neg (by decide),if_neg (by decide),if_pos (by decide)]
      have HXE:=qh hXE
      have HLen:=HL3
      rw [hXE] at HLen
      clear hXE
      obtain ⟨⟨n0,n1,n2⟩,_⟩:=R0.out.cells
      go_wp2
      go_loopw [53] (fun v wr=>∃ i:Nat,i≤L∧v = .int .i64 i∧Hid (PrI w0 b (p++(kl.take i).flatMap fun x=>32 :: x.txt 7 false) wr)∧Hid (Wr w0.heap.size b w wr)∧Hid (Row3 wr w.heap.size (.int .i64 5) (.string s) (.slice a L cap))) (fun v _=>L - (intOf v).toNat)
      case atStart=>exact ⟨0,Nat.zero_le _,rfl,qh (by simpa using P0.out),K0,R0⟩
      case round =>
       obtain ⟨i,hi,rfl,PI,KI,RI⟩:=hrel
       by_cases hlt:i < L
       ·have hlt':(i:Int) < (L:Int):=by omega
        have hi0:(0:Int)≤(i:Int):=by omega
        have hik:i < kl.length:=by rw [HLL.out];exact hlt
        have hm1:(i:Int)+1≤(L:Int):=by omega
        obtain ⟨bb,o,k1,s1,l1,a1,c1,rfl,e1,x0,x1,x2,r1⟩:=HN.out.kid i hik
        have y0:=PI.out.cell x0
        have y1:=PI.out.cell x1
        have y2:=PI.out.cell x2
        have yb:=lt_of_cell y0
        have hG:(kl.take (i+1)).flatMap (fun x=>(32:UInt8) :: x.txt 7 false)=(kl.take i).flatMap (fun x=>32 :: x.txt 7 false)++(32 :: (kl[i]).txt 7 false):=by
         rw [List.take_succ_eq_append_getElem hik,List.flatMap_append]
         simp
        have hGl:((kl.take (i+1)).flatMap (fun x=>(32:UInt8) :: x.txt 7 false)).length≤(kl.flatMap (fun x=>(32:UInt8) :: x.txt 7 false)).length:=by
         conv=>rhs;rw [←List.take_append_drop (i+1) kl]
         rw [List.flatMap_append,List.length_append]
         omega
        have hlen3:=HLen.out
        rw [hG] at hGl
        simp only [List.length_append,List.length_cons] at hGl
        generalize hU:(kl.take i).flatMap (fun x=>(32:UInt8) :: x.txt 7 false)=U at *
        obtain ⟨A,hA⟩:∃ A,(kl[i]).txt 7 false=A:=⟨_,rfl⟩
        rw [hA] at hG hGl
        have HG:=qh hG
        have CP:=qh (fun w' (h:PrI w0 b (p++U) w') n (hn:n=w'.heap.size)=>put1 h n hn ⟨#[32]⟩ (by have h1:(bs ⟨#[32]⟩).length=1:=rfl;simp only [List.length_append];omega))
        have CA:Hid (∀ (z:Int),z=((7:Nat):Int)→∀ w',PrI w0 b ((p++U)++bs ⟨#[32]⟩) w'→Calls Tryz.prog 195 #[.pointer (some ⟨b,0,none⟩),.agg #[.int .i64 k1,.string s1,.slice a1 l1.length c1],.int .i64 z,.bool false] w' (PrO w0 b ((p++U)++bs ⟨#[32]⟩) w' A)):=qh (fun z hz w' h=>by
         subst hz
         have hl9:List.length ((p++U)++bs ⟨#[32]⟩)+A.length≤100000000:=by have h1:(bs ⟨#[32]⟩).length=1:=rfl;simp only [List.length_append];omega
         rw [←hA] at hl9 ⊢
         exact HK.out i hik _ _ _ 7 false _ w' (by decide) (e1▸r1) h hl9)
        have RN:=qh (Row3.new wr (.int .i64 k1) (.string s1) (.slice a1 l1.length c1))
        have PN:=qh (PI.out.alloc (.cells #[.int .i64 k1,.string s1,.slice a1 l1.length c1] 24))
        have KN:=qh (KI.out.alloc PI.out.size (.cells #[.int .i64 k1,.string s1,.slice a1 l1.length c1] 24))
        have RIN:=qh (RI.out.alloc (.cells #[.int .i64 k1,.string s1,.slice a1 l1.length c1] 24))
        have hnn:wr.heap.size≠b:=by have:=PI.out.p.lt;omega
        clear hU hA hG hGl hlen3 x0 x1 x2 r1 e1 hik n0 n1 n2
        go_wp2_with fail
        refine (CP.out _ PN.out _ (by first | rfl | simp only [World.size_alloc])).mono ?_
        rintro e w5 ⟨rfl,pp,kk⟩
        have P5:=qh pp
        have K5:=qh (KN.out.trans kk)
        have R5:=qh (kk.row3 RN.out hnn)
        have RI5:=qh (kk.row3 RIN.out hne)
        obtain ⟨⟨n0,n1,n2⟩,_⟩:=R5.out.cells
        clear pp kk CP y0 y1 y2 yb
        go_wp2_with fail
        refine (CA.out _ (by first | rfl | (push_cast;rfl)) _ P5.out).mono ?_
        rintro e w6 ⟨rfl,pp,kk⟩
        have P6:Hid (PrI w0 b (p++(kl.take (i+1)).flatMap fun x=>32 :: x.txt 7 false) w6):=qh (by rw [HG.out];simpa [bs] using pp)
        have K6:=qh (K5.out.trans kk)
        have R6:=qh (kk.row3 RI5.out hne)
        clear pp kk CA n0 n1 n2
        go_wp2
        go_roundw
        case rel=>exact ⟨i+1,hlt,by push_cast;rfl,P6,K6,R6⟩
        case measure=>simp [intOf];omega
       ·have hlt':¬ ((i:Int) < (L:Int)):=by omega
        have hG:kl.take i=kl:=List.take_of_length_le (by rw [HLL.out];omega)
        have P9:=qh (show PrI w0 b (p++X) wr by rw [HXE.out];have hh:=PI.out;rwa [hG] at hh)
        clear hG n0 n1 n2
        clear P0 K0 R0
        have P0:=P9
        have K0:=KI
        have R0:=RI
        obtain ⟨⟨n0,n1,n2⟩,_⟩:=R0.out.cells
        go_wp2_with fail
        refine (CE.out _ P0.out _ (by first | rfl | simp only [World.size_alloc])).mono ?_
        rintro e w1 ⟨rfl,pp,kk⟩
        have P1:=qh pp
        have K1:=qh (K0.out.trans kk)
        have R1:=qh (kk.row3 R0.out hne)
        clear pp kk CE n0 n1 n2
        go_wp2
        go_end0
        exact ⟨rfl,by rw [HE.out];have hh:=P1.out;rw [←HP.out] at hh;simpa only [List.append_assoc,bs_mk] using hh,K1.out⟩
     ·have hk5:((k:Int)==5)=false:=by rw [beq_eq_false_iff_ne];exact hc
      have m5:¬ k=5:=hc
      clear hc
      by_cases hc:k=6
      ·subst hc
       have hXE:X=kl.flatMap fun x=>32 :: x.txt 7 false:=by rw [←HX.out,itemBody,if_neg (by decide),if_neg (by decide),if_pos (by decide)]
       have HXE:=qh hXE
       have HLen:=HL3
       rw [hXE] at HLen
       clear hXE
       obtain ⟨⟨n0,n1,n2⟩,_⟩:=R0.out.cells
       go_wp2
       go_loopw [53] (fun v wr=>∃ i:Nat,i≤L∧v = .int .i64 i∧Hid (PrI w0 b (p++(kl.take i).flatMap fun x=>32 :: x.txt 7 false) wr)∧Hid (Wr w0.heap.size b w wr)∧Hid (Row3 wr w.heap.size (.int .i64 6) (.string s) (.slice a L cap))) (fun v _=>L - (intOf v).toNat)
       case atStart=>exact ⟨0,Nat.zero_le _,rfl,qh (by simpa using P0.out),K0,R0⟩
       case round =>
        obtain ⟨i,hi,rfl,PI,KI,RI⟩:=hrel
        by_cases hlt:i < L
        ·have hlt':(i:Int) < (L:Int):=by omega
         have hi0:(0:Int)≤(i:Int):=by omega
         have hik:i < kl.length:=by rw [HLL.out];exact hlt
         have hm1:(i:Int)+1≤(L:Int):=by omega
         obtain ⟨bb,o,k1,s1,l1,a1,c1,rfl,e1,x0,x1,x2,r1⟩:=HN.out.kid i hik
         have y0:=PI.out.cell x0
         have y1:=PI.out.cell x1
         have y2:=PI.out.cell x2
         have yb:=lt_of_cell y0
         have hG:(kl.take (i+1)).flatMap (fun x=>(32:UInt8) :: x.txt 7 false)=(kl.take i).flatMap (fun x=>32 :: x.txt 7 false)++(32 :: (kl[i]).txt 7 false):=by
          rw [List.take_succ_eq_append_getElem hik,List.flatMap_append]
          simp
         have hGl:((kl.take (i+1)).flatMap (fun x=>(32:UInt8) :: x.txt 7 false)).length≤(kl.flatMap (fun x=>(32:UInt8) :: x.txt 7 false)).length:=by
          conv=>rhs;rw [←List.take_append_drop (i+1) kl]
          rw [List.flatMap_append,List.length_append]
          omega
         have hlen3:=HLen.out
         rw [hG] at hGl
         simp only [List.length_append,List.length_cons] at hGl
         generalize hU:(kl.take i).flatMap (fun x=>(32:UInt8) :: x.txt 7 false)=U at *
         obtain ⟨A,hA⟩:∃ A,(kl[i]).txt 7 false=A:=⟨_,rfl⟩
         rw [hA] at hG hGl
         have HG:=qh hG
         have CP:=qh (fun w' (h:PrI w0 b (p++U) w') n (hn:n=w'.heap.size)=>put1 h n hn ⟨#[32]⟩ (by have h1:(bs ⟨#[32]⟩).length=1:=rfl;simp only [List.length_append];omega))
         have CA:Hid (∀ (z:Int),z=((7:Nat):Int)→∀ w',PrI w0 b ((p++U)++bs ⟨#[32]⟩) w'→Calls Tryz.prog 195 #[.pointer (some ⟨b,0,none⟩),.agg #[.int .i64 k1,.string s1,.slice a1 l1.length c1],.int .i64 z,.bool false] w' (PrO w0 b ((p++U)++bs ⟨#[32]⟩) w' A)):=qh (fun z hz w' h=>by
          subst hz
          have hl9:List.length ((p++U)++bs ⟨#[32]⟩)+A.length≤100000000:=by have h1:(bs ⟨#[32]⟩).length=1:=rfl;simp only [List.length_append];omega
          rw [←hA] at hl9 ⊢
          exact HK.out i hik _ _ _ 7 false _ w' (by decide) (e1▸r1) h hl9)
         have RN:=qh (Row3.new wr (.int .i64 k1) (.string s1) (.slice a1 l1.length c1))
         have PN:=qh (PI.out.alloc (.cells #[.int .i64 k1,.string s1,.slice a1 l1.length c1] 24))
         have KN:=qh (KI.out.alloc PI.out.size (.cells #[.int .i64 k1,.string s1,.slice a1 l1.length c1] 24))
         have RIN:=qh (RI.out.alloc (.cells #[.int .i64 k1,.string s1,.slice a1 l1.length c1] 24))
         have hnn:wr.heap.size≠b:=by have:=PI.out.p.lt;omega
         clear hU hA hG hGl hlen3 x0 x1 x2 r1 e1 hik n0 n1 n2
         go_wp2_with fail
         refine (CP.out _ PN.out _ (by first | rfl | simp only [World.size_alloc])).mono ?_
         rintro e w5 ⟨rfl,pp,kk⟩
         have P5:=qh pp
         have K5:=qh (KN.out.trans kk)
         have R5:=qh (kk.row3 RN.out hnn)
         have RI5:=qh (kk.row3 RIN.out hne)
         obtain ⟨⟨n0,n1,n2⟩,_⟩:=R5.out.cells
         clear pp kk CP y0 y1 y2 yb
         go_wp2_with fail
         refine (CA.out _ (by first | rfl | (push_cast;rfl)) _ P5.out).mono ?_
         rintro e w6 ⟨rfl,pp,kk⟩
         have P6:Hid (PrI w0 b (p++(kl.take (i+1)).flatMap fun x=>32 :: x.txt 7 false) w6):=qh (by rw [HG.out];simpa [bs] using pp)
         have K6:=qh (K5.out.trans kk)
         have R6:=qh (kk.row3 RI5.out hne)
         clear pp kk CA n0 n1 n2
         go_wp2
         go_roundw
         case rel=>exact ⟨i+1,hlt,by push_cast;rfl,P6,K6,R6⟩
         case measure=>simp [intOf];omega
        ·have hlt':¬ ((i:Int) < (L:Int)):=by omega
         have hG:kl.take i=kl:=List.take_of_length_le (by rw [HLL.out];omega)
         have P9:=qh (show PrI w0 b (p++X) wr by rw [HXE.out];have hh:=PI.out;rwa [hG] at hh)
         clear hG n0 n1 n2
         clear P0 K0 R0
         have P0:=P9
         have K0:=KI
         have R0:=RI
         obtain ⟨⟨n0,n1,n2⟩,_⟩:=R0.out.cells
         go_wp2_with fail
         refine (CE.out _ P0.out _ (by first | rfl | simp only [World.size_alloc])).mono ?_
         rintro e w1 ⟨rfl,pp,kk⟩
         have P1:=qh pp
         have K1:=qh (K0.out.trans kk)
         have R1:=qh (kk.row3 R0.out hne)
         clear pp kk CE n0 n1 n2
         go_wp2
         go_end0
         exact ⟨rfl,by rw [HE.out];have hh:=P1.out;rw [←HP.out] at hh;simpa only [List.append_assoc,bs_mk] using hh,K1.out⟩
      ·have hk6:((k:Int)==6)=false:=by rw [beq_eq_false_iff_ne];exact hc
       have m6:¬ k=6:=hc
       clear hc
       by_cases hc:k=7
       ·subst hc
        have hXE:X=kl.flatMap fun x=>32 :: x.txt 7 false:=by rw [←HX.out,itemBody,if_neg (by decide),if_neg (by decide),if_pos (by decide)]
        have HXE:=qh hXE
        have HLen:=HL3
        rw [hXE] at HLen
        clear hXE
        obtain ⟨⟨n0,n1,n2⟩,_⟩:=R0.out.cells
        go_wp2
        go_loopw [53] (fun v wr=>∃ i:Nat,i≤L∧v = .int .i64 i∧Hid (PrI w0 b (p++(kl.take i).flatMap fun x=>32 :: x.txt 7 false) wr)∧Hid (Wr w0.heap.size b w wr)∧Hid (Row3 wr w.heap.size (.int .i64 7) (.string s) (.slice a L cap))) (fun v _=>L - (intOf v).toNat)
        case atStart=>exact ⟨0,Nat.zero_le _,rfl,qh (by simpa using P0.out),K0,R0⟩
        case round =>
         obtain ⟨i,hi,rfl,PI,KI,RI⟩:=hrel
         by_cases hlt:i < L
         ·have hlt':(i:Int) < (L:Int):=by omega
          have hi0:(0:Int)≤(i:Int):=by omega
          have hik:i < kl.length:=by rw [HLL.out];exact hlt
          have hm1:(i:Int)+1≤(L:Int):=by omega
          obtain ⟨bb,o,k1,s1,l1,a1,c1,rfl,e1,x0,x1,x2,r1⟩:=HN.out.kid i hik
          have y0:=PI.out.cell x0
          have y1:=PI.out.cell x1
          have y2:=PI.out.cell x2
          have yb:=lt_of_cell y0
          have hG:(kl.take (i+1)).flatMap (fun x=>(32:UInt8) :: x.txt 7 false)=(kl.take i).flatMap (fun x=>32 :: x.txt 7 false)++(32 :: (kl[i]).txt 7 false):=by
           rw [List.take_succ_eq_append_getElem hik,List.flatMap_append]
           simp
          have hGl:((kl.take (i+1)).flatMap (fun x=>(32:UInt8) :: x.txt 7 false)).length≤(kl.flatMap (fun x=>(32:UInt8) :: x.txt 7 false)).length:=by
           conv=>rhs;rw [←List.take_append_drop (i+1) kl]
           rw [List.flatMap_append,List.length_append]
           omega
          have hlen3:=HLen.out
          rw [hG] at hGl
          simp only [List.length_append,List.length_cons] at hGl
          generalize hU:(kl.take i).flatMap (fun x=>(32:UInt8) :: x.txt 7 false)=U at *
          obtain ⟨A,hA⟩:∃ A,(kl[i]).txt 7 false=A:=⟨_,rfl⟩
          rw [hA] at hG hGl
          have HG:=qh hG
          have CP:=qh (fun w' (h:PrI w0 b (p++U) w') n (hn:n=w'.heap.size)=>put1 h n hn ⟨#[32]⟩ (by have h1:(bs ⟨#[32]⟩).length=1:=rfl;simp only [List.length_append];omega))
          have CA:Hid (∀ (z:Int),z=((7:Nat):Int)→∀ w',PrI w0 b ((p++U)++bs ⟨#[32]⟩) w'→Calls Tryz.prog 195 #[.pointer (some ⟨b,0,none⟩),.agg #[.int .i64 k1,.string s1,.slice a1 l1.length c1],.int .i64 z,.bool false] w' (PrO w0 b ((p++U)++bs ⟨#[32]⟩) w' A)):=qh (fun z hz w' h=>by
           subst hz
           have hl9:List.length ((p++U)++bs ⟨#[32]⟩)+A.length≤100000000:=by have h1:(bs ⟨#[32]⟩).length=1:=rfl;simp only [List.length_append];omega
           rw [←hA] at hl9 ⊢
           exact HK.out i hik _ _ _ 7 false _ w' (by decide) (e1▸r1) h hl9)
          have RN:=qh (Row3.new wr (.int .i64 k1) (.string s1) (.slice a1 l1.length c1))
          have PN:=qh (PI.out.alloc (.cells #[.int .i64 k1,.string s1,.slice a1 l1.length c1] 24))
          have KN:=qh (KI.out.alloc PI.out.size (.cells #[.int .i64 k1,.string s1,.slice a1 l1.length c1] 24))
          have RIN:=qh (RI.out.alloc (.cells #[.int .i64 k1,.string s1,.slice a1 l1.length c1] 24))
          have hnn:wr.heap.size≠b:=by have:=PI.out.p.lt;omega
          clear hU hA hG hGl hlen3 x0 x1 x2 r1 e1 hik n0 n1 n2
          go_wp2_with fail
          refine (CP.out _ PN.out _ (by first | rfl | simp only [World.size_alloc])).mono ?_
          rintro e w5 ⟨rfl,pp,kk⟩
          have P5:=qh pp
          have K5:=qh (KN.out.trans kk)
          have R5:=qh (kk.row3 RN.out hnn)
          have RI5:=qh (kk.row3 RIN.out hne)
          obtain ⟨⟨n0,n1,n2⟩,_⟩:=R5.out.cells
          clear pp kk CP y0 y1 y2 yb
          go_wp2_with fail
          refine (CA.out _ (by first | rfl | (push_cast;rfl)) _ P5.out).mono ?_
          rintro e w6 ⟨rfl,pp,kk⟩
          have P6:Hid (PrI w0 b (p++(kl.take (i+1)).flatMap fun x=>32 :: x.txt 7 false) w6):=qh (by rw [HG.out];simpa [bs] using pp)
          have K6:=qh (K5.out.trans kk)
          have R6:=qh (kk.row3 RI5.out hne)
          clear pp kk CA n0 n1 n2
          go_wp2
          go_roundw
          case rel=>exact ⟨i+1,hlt,by push_cast;rfl,P6,K6,R6⟩
          case measure=>simp [intOf];omega
         ·have hlt':¬ ((i:Int) < (L:Int)):=by omega
          have hG:kl.take i=kl:=List.take_of_length_le (by rw [HLL.out];omega)
          have P9:=qh (show PrI w0 b (p++X) wr by rw [HXE.out];have hh:=PI.out;rwa [hG] at hh)
          clear hG n0 n1 n2
          clear P0 K0 R0
          have P0:=P9
          have K0:=KI
          have R0:=RI
          obtain ⟨⟨n0,n1,n2⟩,_⟩:=R0.out.cells
          go_wp2_with fail
          refine (CE.out _ P0.out _ (by first | rfl | simp only [World.size_alloc])).mono ?_
          rintro e w1 ⟨rfl,pp,kk⟩
          have P1:=qh pp
          have K1:=qh (K0.out.trans kk)
          have R1:=qh (kk.row3 R0.out hne)
          clear pp kk CE n0 n1 n2
          go_wp2
          go_end0
          exact ⟨rfl,by rw [HE.out];have hh:=P1.out;rw [←HP.out] at hh;simpa only [List.append_assoc,bs_mk] using hh,K1.out⟩
       ·have hk7:((k:Int)==7)=false:=by rw [beq_eq_false_iff_ne];exact hc
        have m7:¬ k=7:=hc
        clear hc
        by_cases hc:k=8
        ·subst hc
         have j0:1≤L:=Hok.out (by decide)
         have i0:(0:Int) < (L:Int):=by omega
         have j1:0 < L:=by omega
         have hMk:0 < kl.length:=by rw [HLL.out];omega
         obtain ⟨bb,o,k0',s0',l0',a0',c0',rfl,eK0,x00,x01,x02,r0⟩:=HN.out.kid 0 hMk
         simp only [Nat.zero_mul,Nat.add_zero] at x00 x01 x02
         have X0:=qh (And.intro x00 (And.intro x01 x02))
         obtain ⟨Y0,hY0⟩:∃ Y,(kl[0]'hMk).txt 0 false=Y:=⟨_,rfl⟩
         have hXE:X=bs ⟨#[58,32]⟩++Y0:=by
          rw [←HX.out,itemBody,if_neg (by decide),if_neg (by decide),if_neg (by decide),if_pos (by decide),kidT_at hMk,hY0]
          rfl
         have HXE:=qh hXE
         have hlen2:=HL3.out
         rw [hXE] at hlen2
         simp only [List.length_append] at hlen2
         have C3:=qh (fun w' (h:PrI w0 b p w') n (hn:n=w'.heap.size)=>put1 h n hn ⟨#[58,32]⟩ (by omega))
         have hk:=HK.out
         have C4:Hid (∀ (z:Int),z=((0:Nat):Int)→∀ w',PrI w0 b (p++bs ⟨#[58,32]⟩) w'→Calls Tryz.prog 195 #[.pointer (some ⟨b,0,none⟩),.agg #[.int .i64 k0',.string s0',.slice a0' l0'.length c0'],.int .i64 z,.bool false] w' (PrO w0 b (p++bs ⟨#[58,32]⟩) w' Y0)):=qh (fun z hz w' h=>by
          subst hz
          have hl9:List.length (p++bs ⟨#[58,32]⟩)+Y0.length≤100000000:=by (try simp [bs] at hlen2 ⊢);omega
          rw [←hY0] at hl9 ⊢
          exact hk 0 hMk _ _ _ (0) false _ w' (by omega) (eK0▸r0) h hl9)
         clear hY0 hXE hlen2 hk eK0 r0 x00 x01 x02 hMk
         obtain ⟨⟨n0,n1,n2⟩,_⟩:=R0.out.cells
         have y00:=P0.out.cell X0.out.1
         have y01:=P0.out.cell X0.out.2.1
         have y02:=P0.out.cell X0.out.2.2
         have yb0:=lt_of_cell y00
         go_wp2_with fail
         refine (C3.out _ P0.out _ (by first | rfl | simp only [World.size_alloc])).mono ?_
         rintro e w1 ⟨rfl,pp,kk⟩
         have P1:=qh pp
         have K1:=qh (K0.out.trans kk)
         have R1:=qh (kk.row3 R0.out hne)
         clear pp kk C3 n0 n1 n2 y00 y01 y02 yb0
         obtain ⟨⟨n0,n1,n2⟩,_⟩:=R1.out.cells
         have y00:=P1.out.cell X0.out.1
         have y01:=P1.out.cell X0.out.2.1
         have y02:=P1.out.cell X0.out.2.2
         have yb0:=lt_of_cell y00
         go_wp2_with fail
         refine (C4.out _ (by first | rfl | (push_cast;rfl)) _ P1.out).mono ?_
         rintro e w2 ⟨rfl,pp,kk⟩
         have P2:=qh pp
         have K2:=qh (K1.out.trans kk)
         have R2:=qh (kk.row3 R1.out hne)
         clear pp kk C4 n0 n1 n2 y00 y01 y02 yb0
         obtain ⟨⟨n0,n1,n2⟩,_⟩:=R2.out.cells
         have y00:=P2.out.cell X0.out.1
         have y01:=P2.out.cell X0.out.2.1
         have y02:=P2.out.cell X0.out.2.2
         have yb0:=lt_of_cell y00
         have P2x:Hid (PrI w0 b (p++X) w2):=qh (by rw [HXE.out];simpa only [List.append_assoc] using P2.out)
         clear P2
         have P2:=P2x
         clear P2x
         go_wp2_with fail
         refine (CE.out _ P2.out _ (by first | rfl | simp only [World.size_alloc])).mono ?_
         rintro e w3 ⟨rfl,pp,kk⟩
         have P3:=qh pp
         have K3:=qh (K2.out.trans kk)
         have R3:=qh (kk.row3 R2.out hne)
         clear pp kk CE n0 n1 n2 y00 y01 y02 yb0
         go_wp2
         go_end0
         exact ⟨rfl,by rw [HE.out];have hh:=P3.out;rw [←HP.out] at hh;simpa only [List.append_assoc,bs_mk] using hh,K3.out⟩
        ·have hk8:((k:Int)==8)=false:=by rw [beq_eq_false_iff_ne];exact hc
         have m8:¬ k=8:=hc
         clear hc
         by_cases hc:k=9
         ·subst hc
          have j0:1≤L:=Hok.out (by decide)
          have i0:(0:Int) < (L:Int):=by omega
          have j1:0 < L:=by omega
          have hMk:0 < kl.length:=by rw [HLL.out];omega
          obtain ⟨bb,o,k0',s0',l0',a0',c0',rfl,eK0,x00,x01,x02,r0⟩:=HN.out.kid 0 hMk
          simp only [Nat.zero_mul,Nat.add_zero] at x00 x01 x02
          have X0:=qh (And.intro x00 (And.intro x01 x02))
          obtain ⟨Y0,hY0⟩:∃ Y,(kl[0]'hMk).txt 0 false=Y:=⟨_,rfl⟩
          have hXE:X=bs ⟨#[58,32]⟩++Y0:=by
           rw [←HX.out,itemBody,if_neg (by decide),if_neg (by decide),if_neg (by decide),if_pos (by decide),kidT_at hMk,hY0]
           rfl
          have HXE:=qh hXE
          have hlen2:=HL3.out
          rw [hXE] at hlen2
          simp only [List.length_append] at hlen2
          have C3:=qh (fun w' (h:PrI w0 b p w') n (hn:n=w'.heap.size)=>put1 h n hn ⟨#[58,32]⟩ (by omega))
          have hk:=HK.out
          have C4:Hid (∀ (z:Int),z=((0:Nat):Int)→∀ w',PrI w0 b (p++bs ⟨#[58,32]⟩) w'→Calls Tryz.prog 195 #[.pointer (some ⟨b,0,none⟩),.agg #[.int .i64 k0',.string s0',.slice a0' l0'.length c0'],.int .i64 z,.bool false] w' (PrO w0 b (p++bs ⟨#[58,32]⟩) w' Y0)):=qh (fun z hz w' h=>by
           subst hz
           have hl9:List.length (p++bs ⟨#[58,32]⟩)+Y0.length≤100000000:=by (try simp [bs] at hlen2 ⊢);omega
           rw [←hY0] at hl9 ⊢
           exact hk 0 hMk _ _ _ (0) false _ w' (by omega) (eK0▸r0) h hl9)
          clear hY0 hXE hlen2 hk eK0 r0 x00 x01 x02 hMk
          obtain ⟨⟨n0,n1,n2⟩,_⟩:=R0.out.cells
          have y00:=P0.out.cell X0.out.1
          have y01:=P0.out.cell X0.out.2.1
          have y02:=P0.out.cell X0.out.2.2
          have yb0:=lt_of_cell y00
          go_wp2_with fail
          refine (C3.out _ P0.out _ (by first | rfl | simp only [World.size_alloc])).mono ?_
          rintro e w1 ⟨rfl,pp,kk⟩
          have P1:=qh pp
          have K1:=qh (K0.out.trans kk)
          have R1:=qh (kk.row3 R0.out hne)
          clear pp kk C3 n0 n1 n2 y00 y01 y02 yb0
          obtain ⟨⟨n0,n1,n2⟩,_⟩:=R1.out.cells
          have y00:=P1.out.cell X0.out.1
          have y01:=P1.out.cell X0.out.2.1
          have y02:=P1.out.cell X0.out.2.2
          have yb0:=lt_of_cell y00
          go_wp2_with fail
          refine (C4.out _ (by first | rfl | (push_cast;rfl)) _ P1.out).mono ?_
          rintro e w2 ⟨rfl,pp,kk⟩
          have P2:=qh pp
          have K2:=qh (K1.out.trans kk)
          have R2:=qh (kk.row3 R1.out hne)
          clear pp kk C4 n0 n1 n2 y00 y01 y02 yb0
          obtain ⟨⟨n0,n1,n2⟩,_⟩:=R2.out.cells
          have y00:=P2.out.cell X0.out.1
          have y01:=P2.out.cell X0.out.2.1
          have y02:=P2.out.cell X0.out.2.2
          have yb0:=lt_of_cell y00
          have P2x:Hid (PrI w0 b (p++X) w2):=qh (by rw [HXE.out];simpa only [List.append_assoc] using P2.out)
          clear P2
          have P2:=P2x
          clear P2x
          go_wp2_with fail
          refine (CE.out _ P2.out _ (by first | rfl | simp only [World.size_alloc])).mono ?_
          rintro e w3 ⟨rfl,pp,kk⟩
          have P3:=qh pp
          have K3:=qh (K2.out.trans kk)
          have R3:=qh (kk.row3 R2.out hne)
          clear pp kk CE n0 n1 n2 y00 y01 y02 yb0
          go_wp2
          go_end0
          exact ⟨rfl,by rw [HE.out];have hh:=P3.out;rw [←HP.out] at hh;simpa only [List.append_assoc,bs_mk] using hh,K3.out⟩
         ·have hk9:((k:Int)==9)=false:=by rw [beq_eq_false_iff_ne];exact hc
          have m9:¬ k=9:=hc
          clear hc
          by_cases hc:k=10
          ·subst hc
           have j0:1≤L:=Hok.out (by decide)
           have i0:(0:Int) < (L:Int):=by omega
           have j1:0 < L:=by omega
           have hMk:0 < kl.length:=by rw [HLL.out];omega
           obtain ⟨bb,o,k0',s0',l0',a0',c0',rfl,eK0,x00,x01,x02,r0⟩:=HN.out.kid 0 hMk
           simp only [Nat.zero_mul,Nat.add_zero] at x00 x01 x02
           have X0:=qh (And.intro x00 (And.intro x01 x02))
           obtain ⟨Y0,hY0⟩:∃ Y,(kl[0]'hMk).txt 0 false=Y:=⟨_,rfl⟩
           have hXE:X=bs ⟨#[58,32]⟩++Y0:=by
            rw [←HX.out,itemBody,if_neg (by decide),if_neg (by decide),if_neg (by decide),if_pos (by decide),kidT_at hMk,hY0]
            rfl
           have HXE:=qh hXE
           have hlen2:=HL3.out
           rw [hXE] at hlen2
           simp only [List.length_append] at hlen2
           have C3:=qh (fun w' (h:PrI w0 b p w') n (hn:n=w'.heap.size)=>put1 h n hn ⟨#[58,32]⟩ (by omega))
           have hk:=HK.out
           have C4:Hid (∀ (z:Int),z=((0:Nat):Int)→∀ w',PrI w0 b (p++bs ⟨#[58,32]⟩) w'→Calls Tryz.prog 195 #[.pointer (some ⟨b,0,none⟩),.agg #[.int .i64 k0',.string s0',.slice a0' l0'.length c0'],.int .i64 z,.bool false] w' (PrO w0 b (p++bs ⟨#[58,32]⟩) w' Y0)):=qh (fun z hz w' h=>by
            subst hz
            have hl9:List.length (p++bs ⟨#[58,32]⟩)+Y0.length≤100000000:=by (try simp [bs] at hlen2 ⊢);omega
            rw [←hY0] at hl9 ⊢
            exact hk 0 hMk _ _ _ (0) false _ w' (by omega) (eK0▸r0) h hl9)
           clear hY0 hXE hlen2 hk eK0 r0 x00 x01 x02 hMk
           obtain ⟨⟨n0,n1,n2⟩,_⟩:=R0.out.cells
           have y00:=P0.out.cell X0.out.1
           have y01:=P0.out.cell X0.out.2.1
           have y02:=P0.out.cell X0.out.2.2
           have yb0:=lt_of_cell y00
           go_wp2_with fail
           refine (C3.out _ P0.out _ (by first | rfl | simp only [World.size_alloc])).mono ?_
           rintro e w1 ⟨rfl,pp,kk⟩
           have P1:=qh pp
           have K1:=qh (K0.out.trans kk)
           have R1:=qh (kk.row3 R0.out hne)
           clear pp kk C3 n0 n1 n2 y00 y01 y02 yb0
           obtain ⟨⟨n0,n1,n2⟩,_⟩:=R1.out.cells
           have y00:=P1.out.cell X0.out.1
           have y01:=P1.out.cell X0.out.2.1
           have y02:=P1.out.cell X0.out.2.2
           have yb0:=lt_of_cell y00
           go_wp2_with fail
           refine (C4.out _ (by first | rfl | (push_cast;rfl)) _ P1.out).mono ?_
           rintro e w2 ⟨rfl,pp,kk⟩
           have P2:=qh pp
           have K2:=qh (K1.out.trans kk)
           have R2:=qh (kk.row3 R1.out hne)
           clear pp kk C4 n0 n1 n2 y00 y01 y02 yb0
           obtain ⟨⟨n0,n1,n2⟩,_⟩:=R2.out.cells
           have y00:=P2.out.cell X0.out.1
           have y01:=P2.out.cell X0.out.2.1
           have y02:=P2.out.cell X0.out.2.2
           have yb0:=lt_of_cell y00
           have P2x:Hid (PrI w0 b (p++X) w2):=qh (by rw [HXE.out];simpa only [List.append_assoc] using P2.out)
           clear P2
           have P2:=P2x
           clear P2x
           go_wp2_with fail
           refine (CE.out _ P2.out _ (by first | rfl | simp only [World.size_alloc])).mono ?_
           rintro e w3 ⟨rfl,pp,kk⟩
           have P3:=qh pp
           have K3:=qh (K2.out.trans kk)
           have R3:=qh (kk.row3 R2.out hne)
           clear pp kk CE n0 n1 n2 y00 y01 y02 yb0
           go_wp2
           go_end0
           exact ⟨rfl,by rw [HE.out];have hh:=P3.out;rw [←HP.out] at hh;simpa only [List.append_assoc,bs_mk] using hh,K3.out⟩
          ·have hk10:((k:Int)==10)=false:=by rw [beq_eq_false_iff_ne];exact hc
           have m10:¬ k=10:=hc
           clear hc
           by_cases hc:k=11
           ·subst hc
            have j0:1≤L:=Hok.out (by decide)
            have i0:(0:Int) < (L:Int):=by omega
            have j1:0 < L:=by omega
            have hMk:0 < kl.length:=by rw [HLL.out];omega
            obtain ⟨bb,o,k0',s0',l0',a0',c0',rfl,eK0,x00,x01,x02,r0⟩:=HN.out.kid 0 hMk
            simp only [Nat.zero_mul,Nat.add_zero] at x00 x01 x02
            have X0:=qh (And.intro x00 (And.intro x01 x02))
            obtain ⟨Y0,hY0⟩:∃ Y,(kl[0]'hMk).txt 0 false=Y:=⟨_,rfl⟩
            have hXE:X=bs ⟨#[58,32]⟩++Y0:=by
             rw [←HX.out,itemBody,if_neg (by decide),if_neg (by decide),if_neg (by decide),if_pos (by decide),kidT_at hMk,hY0]
             rfl
            have HXE:=qh hXE
            have hlen2:=HL3.out
            rw [hXE] at hlen2
            simp only [List.length_append] at hlen2
            have C3:=qh (fun w' (h:PrI w0 b p w') n (hn:n=w'.heap.size)=>put1 h n hn ⟨#[58,32]⟩ (by omega))
            have hk:=HK.out
            have C4:Hid (∀ (z:Int),z=((0:Nat):Int)→∀ w',PrI w0 b (p++bs ⟨#[58,32]⟩) w'→Calls Tryz.prog 195 #[.pointer (some ⟨b,0,none⟩),.agg #[.int .i64 k0',.string s0',.slice a0' l0'.length c0'],.int .i64 z,.bool false] w' (PrO w0 b (p++bs ⟨#[58,32]⟩) w' Y0)):=qh (fun z hz w' h=>by
             subst hz
             have hl9:List.length (p++bs ⟨#[58,32]⟩)+Y0.length≤100000000:=by (try simp [bs] at hlen2 ⊢);omega
             rw [←hY0] at hl9 ⊢
             exact hk 0 hMk _ _ _ (0) false _ w' (by omega) (eK0▸r0) h hl9)
            clear hY0 hXE hlen2 hk eK0 r0 x00 x01 x02 hMk
            obtain ⟨⟨n0,n1,n2⟩,_⟩:=R0.out.cells
            have y00:=P0.out.cell X0.out.1
            have y01:=P0.out.cell X0.out.2.1
            have y02:=P0.out.cell X0.out.2.2
            have yb0:=lt_of_cell y00
            go_wp2_with fail
            refine (C3.out _ P0.out _ (by first | rfl | simp only [World.size_alloc])).mono ?_
            rintro e w1 ⟨rfl,pp,kk⟩
            have P1:=qh pp
            have K1:=qh (K0.out.trans kk)
            have R1:=qh (kk.row3 R0.out hne)
            clear pp kk C3 n0 n1 n2 y00 y01 y02 yb0
            obtain ⟨⟨n0,n1,n2⟩,_⟩:=R1.out.cells
            have y00:=P1.out.cell X0.out.1
            have y01:=P1.out.cell X0.out.2.1
            have y02:=P1.out.cell X0.out.2.2
            have yb0:=lt_of_cell y00
            go_wp2_with fail
            refine (C4.out _ (by first | rfl | (push_cast;rfl)) _ P1.out).mono ?_
            rintro e w2 ⟨rfl,pp,kk⟩
            have P2:=qh pp
            have K2:=qh (K1.out.trans kk)
            have R2:=qh (kk.row3 R1.out hne)
            clear pp kk C4 n0 n1 n2 y00 y01 y02 yb0
            obtain ⟨⟨n0,n1,n2⟩,_⟩:=R2.out.cells
            have y00:=P2.out.cell X0.out.1
            have y01:=P2.out.cell X0.out.2.1
            have y02:=P2.out.cell X0.out.2.2
            have yb0:=lt_of_cell y00
            have P2x:Hid (PrI w0 b (p++X) w2):=qh (by rw [HXE.out];simpa only [List.append_assoc] using P2.out)
            clear P2
            have P2:=P2x
            clear P2x
            go_wp2_with fail
            refine (CE.out _ P2.out _ (by first | rfl | simp only [World.size_alloc])).mono ?_
            rintro e w3 ⟨rfl,pp,kk⟩
            have P3:=qh pp
            have K3:=qh (K2.out.trans kk)
            have R3:=qh (kk.row3 R2.out hne)
            clear pp kk CE n0 n1 n2 y00 y01 y02 yb0
            go_wp2
            go_end0
            exact ⟨rfl,by rw [HE.out];have hh:=P3.out;rw [←HP.out] at hh;simpa only [List.append_assoc,bs_mk] using hh,K3.out⟩
           ·have hk11:((k:Int)==11)=false:=by rw [beq_eq_false_iff_ne];exact hc
            have m11:¬ k=11:=hc
            clear hc
            by_cases hc:k=14
            ·subst hc
             have hX2:comF (kl.take L) true=X:=by
              rw [←HX.out,←HLL.out,List.take_length,itemBody,if_pos (by decide)]
             have C2:Hid (∀ w',PrI w0 b p w'→Calls Tryz.prog 227 #[.pointer (some ⟨b,0,none⟩),.slice a L cap] w' (PrO w0 b p w' X)):=qh (fun w' h=>by
              have hl9:p.length+X.length≤100000000:=by have:=HL3.out;omega
              rw [←hX2] at hl9 ⊢
              exact names_any _ s kl L cap (by rw [HLL.out];exact Nat.le_refl _) _ _ _ _ _ _ w' HN.out h hl9)
             clear hX2
             obtain ⟨⟨n0,n1,n2⟩,_⟩:=R0.out.cells
             go_wp2_with fail
             refine (C2.out _ P0.out).mono ?_
             rintro e w1 ⟨rfl,pp,kk⟩
             have P1:=qh pp
             have K1:=qh (K0.out.trans kk)
             have R1:=qh (kk.row3 R0.out hne)
             clear pp kk C2 n0 n1 n2
             obtain ⟨⟨n0,n1,n2⟩,_⟩:=R1.out.cells
             go_wp2_with fail
             refine (CE.out _ P1.out _ (by first | rfl | simp only [World.size_alloc])).mono ?_
             rintro e w2 ⟨rfl,pp,kk⟩
             have P2:=qh pp
             have K2:=qh (K1.out.trans kk)
             have R2:=qh (kk.row3 R1.out hne)
             clear pp kk CE n0 n1 n2
             go_wp2
             go_end0
             exact ⟨rfl,by rw [HE.out];have hh:=P2.out;rw [←HP.out] at hh;simpa only [List.append_assoc,bs_mk] using hh,K2.out⟩
            ·have hk14:((k:Int)==14)=false:=by rw [beq_eq_false_iff_ne];exact hc
             have m14:¬ k=14:=hc
             clear hc
             have hXE:X=[]:=by
              rw [←HX.out,itemBody,if_neg (by omega),if_neg (by omega),if_neg (by omega),if_neg (by omega)]
             have P9:=qh (show PrI w0 b (p++X) _ by rw [hXE,List.append_nil];exact P0.out)
             clear P0 hXE
             have P0:=P9
             clear P9 m2 m3 m4 m5 m6 m7 m8 m9 m10 m11 m14
             obtain ⟨⟨n0,n1,n2⟩,_⟩:=R0.out.cells
             go_wp2_with fail
             refine (CE.out _ P0.out _ (by first | rfl | simp only [World.size_alloc])).mono ?_
             rintro e w1 ⟨rfl,pp,kk⟩
             have P1:=qh pp
             have K1:=qh (K0.out.trans kk)
             have R1:=qh (kk.row3 R0.out hne)
             clear pp kk CE n0 n1 n2
             go_wp2
             go_end0
             exact ⟨rfl,by rw [HE.out];have hh:=P1.out;rw [←HP.out] at hh;simpa only [List.append_assoc,bs_mk] using hh,K1.out⟩
end Go.Proofs.YtcimcjmdkjajfaaGreatDoor
namespace Go.Proofs.YtcimcjmdkjajfaaGreatDoor
open Go.RowKit Go.Shelf
theorem pCellsByte:Tryz.prog.cellsOf 5=1:=by kernel_rfl
set_option maxHeartbeats 1000000 in
set_option maxRecDepth 100000 in
theorem pString_some (B b:Nat) (l:List UInt8) (w:World) (h:PrW B b l w) (h0:l≠[]) :
  Calls Tryz.prog 148 #[.pointer (some ⟨b,0,none⟩)] w fun e w'=>e = .returned (.string ⟨l.toArray⟩)∧Below B w w':=by
 obtain ⟨p,hB,v,hbk,hown,hne⟩:∃ p,Lib.BuilderAt 152 5 B b p (Lib.byteCells l) w:=by
  rcases h with h | h
  ·exact ⟨_,h⟩
  ·exact ⟨_,h⟩
 have hl0:l.length≠0:=by simpa using h0
 rw [Lib.byteCells_length] at hown
 obtain ⟨g,cap,cur,rfl,hbg,hg,hnc,hcm,hcs,htake⟩:∃ g cap cur,v = .slice (some ⟨g,0,none⟩) l.length cap∧B≤g∧w.heap[g]?=some (.cells cur 5 (0,0))∧l.length≤cap∧cap≤maxLen∧cur.size=cap*1∧cur.toList.take (l.length*1)=Lib.byteCells l:=by
  rcases hown.2 with ⟨_,hz⟩ | ⟨g,cap,cur,hv,r⟩
  ·exact absurd hz hl0
  ·exact ⟨g,cap,cur,hv,r⟩
 have c1:w.drew.cell? ⟨b,1,none⟩=some (.slice (some ⟨g,0,none⟩) l.length cap):=by
  have:w.drew.heap[b]?=some (.cells #[p,.slice (some ⟨g,0,none⟩) l.length cap] 152 (0,0)):=hbk
  rw [Lib.cell_of_heap this];rfl
 have hSD:(Builtin.unsafeSliceData_ #[148] 187 #[.slice (some ⟨g,0,none⟩) l.length cap]).run Tryz.prog w.drew = .ok (.pointer (some ⟨g,0,none⟩)) w.drew :=
  Lib.run_unsafeSliceData_row _ _ _ _ _ _ (by omega)
 have hUS:(Builtin.unsafeString_ #[187,3] 9 #[.pointer (some ⟨g,0,none⟩),.int .i64 l.length]).run Tryz.prog w.drew = .ok (.string ⟨l.toArray⟩) (w.drew.freeze ⟨g,0,none⟩ l.length):=by
  refine Lib.run_unsafeString_row w.drew 187 3 9 5 Tryz.underlying187 pCellsByte g cur.size (by have hg':w.drew.heap[g]?=some (.cells cur 5 (0,0)):=hg;simp [World.shape?,hg']) l h0 (by omega) (by unfold maxLen at hcm;omega) ?_
  intro j x hx
  have:=hown.cells (g:=g) rfl j (.int .u8 x.toNat) (by simp [Lib.byteCells,hx])
  exact this
 go_enter Tryz.func148,Tryz.ntmps148
 go_wp2
 go_region
 all_goals (go_wp2;go_ret;exact ⟨rfl,Lib.below_freeze (Below.drew (Below.refl B w)) (p:=⟨g,0,none⟩) hbg _⟩)
theorem pUnsafe_none (W:World) (q:Option Addr):(Builtin.unsafeString_ #[187,3] 9 #[.pointer q,.int .i64 0]).run Tryz.prog W = .ok (.string .empty) W :=
 Lib.run_unsafeString_none W _ _ _ q
set_option maxHeartbeats 2000000 in
set_option maxRecDepth 100000 in
theorem pString_nil (B b:Nat) (p:Value) (w:World) (hbk:w.heap[b]?=some (.cells #[p,.slice none 0 0] 152 (0,0))) :
  Calls Tryz.prog 148 #[.pointer (some ⟨b,0,none⟩)] w fun e w'=>e = .returned (.string ⟨#[]⟩)∧Below B w w':=by
 have hUS:=pUnsafe_none
 have c1:w.drew.cell? ⟨b,1,none⟩=some (.slice none 0 0):=by
  have:w.drew.heap[b]?=some (.cells #[p,.slice none 0 0] 152 (0,0)):=hbk
  rw [Lib.cell_of_heap this];rfl
 have hSD:(Builtin.unsafeSliceData_ #[148] 187 #[.slice none 0 0]).run Tryz.prog w.drew = .ok (.pointer none) w.drew:=rfl
 go_enter Tryz.func148,Tryz.ntmps148
 go_wp2
 go_region
 all_goals (go_wp2;go_ret;exact ⟨rfl,Below.drew (Below.refl B w)⟩)
set_option maxHeartbeats 2000000 in
set_option maxRecDepth 100000 in
theorem pString_noroom (B b g:Nat) (p:Value) (cur:Array Value) (w:World) (hBw:B≤w.heap.size) (hbk:w.heap[b]?=some (.cells #[p,.slice (some ⟨g,0,none⟩) 0 0] 152 (0,0))) (hg:w.heap[g]?=some (.cells cur 5 (0,0))) :
  Calls Tryz.prog 148 #[.pointer (some ⟨b,0,none⟩)] w fun e w'=>e = .returned (.string ⟨#[]⟩)∧Below B w w':=by
 have hUS:=pUnsafe_none
 have hlt:b < w.heap.size:=heap_lt hbk
 have c1:w.drew.cell? ⟨b,1,none⟩=some (.slice (some ⟨g,0,none⟩) 0 0):=by
  have:w.drew.heap[b]?=some (.cells #[p,.slice (some ⟨g,0,none⟩) 0 0] 152 (0,0)):=hbk
  rw [Lib.cell_of_heap this];rfl
 have hSD:(Builtin.unsafeSliceData_ #[148] 187 #[.slice (some ⟨g,0,none⟩) 0 0]).run Tryz.prog w.drew = .ok (.pointer (some ⟨w.drew.heap.size,0,none⟩)) (w.drew.alloc (.view ⟨g,0,none⟩ 5)) :=
  Lib.run_unsafeSliceData_zero w.drew _ _ 5 Tryz.underlying187 ⟨g,0,none⟩ 0 (5,cur.size) (by have hg':w.drew.heap[g]?=some (.cells cur 5 (0,0)):=hg;simp [World.shape?,hg'])
 have c2:(w.drew.alloc (.view ⟨g,0,none⟩ 5)).cell? ⟨b,1,none⟩=some (.slice (some ⟨g,0,none⟩) 0 0):=by
  have:(w.drew.alloc (.view ⟨g,0,none⟩ 5)).heap[b]?=_:=(Lib.alloc_old w.drew _ b hlt).trans hbk
  rw [Lib.cell_of_heap this];rfl
 have c3:(w.alloc (.view ⟨g,0,none⟩ 5)).drew.cell? ⟨b,1,none⟩=some (.slice (some ⟨g,0,none⟩) 0 0):=c2
 have c0:w.cell? ⟨b,1,none⟩=some (.slice (some ⟨g,0,none⟩) 0 0):=c1
 go_enter Tryz.func148,Tryz.ntmps148
 go_wp2
 go_region
 all_goals (go_wp2;go_ret;exact ⟨rfl,(Below.drew (Below.refl B w)).alloc hBw _⟩)
set_option maxHeartbeats 2000000 in
set_option maxRecDepth 100000 in
theorem pString_room (B b g cap:Nat) (p:Value) (w:World) (hc0:cap≠0) (hbk:w.heap[b]?=some (.cells #[p,.slice (some ⟨g,0,none⟩) 0 cap] 152 (0,0))) :
  Calls Tryz.prog 148 #[.pointer (some ⟨b,0,none⟩)] w fun e w'=>e = .returned (.string ⟨#[]⟩)∧Below B w w':=by
 have hUS:=pUnsafe_none
 have c1:w.drew.cell? ⟨b,1,none⟩=some (.slice (some ⟨g,0,none⟩) 0 cap):=by
  have:w.drew.heap[b]?=some (.cells #[p,.slice (some ⟨g,0,none⟩) 0 cap] 152 (0,0)):=hbk
  rw [Lib.cell_of_heap this];rfl
 have hSD:(Builtin.unsafeSliceData_ #[148] 187 #[.slice (some ⟨g,0,none⟩) 0 cap]).run Tryz.prog w.drew = .ok (.pointer (some ⟨g,0,none⟩)) w.drew :=
  Lib.run_unsafeSliceData_row _ _ _ _ _ _ hc0
 clear hc0
 go_enter Tryz.func148,Tryz.ntmps148
 go_wp2
 go_region
 all_goals (go_wp2;go_ret;exact ⟨rfl,Below.drew (Below.refl B w)⟩)
theorem pString_any (B b:Nat) (l:List UInt8) (w:World) (h:PrW B b l w) (hBw:B≤w.heap.size) :
  Calls Tryz.prog 148 #[.pointer (some ⟨b,0,none⟩)] w fun e w'=>e = .returned (S_ l)∧Below B w w':=by
 cases l with
 | cons x r=>exact pString_some B b (x :: r) w h (by simp)
 | nil =>
  obtain ⟨p,hB,v,hbk,hown,hne⟩:∃ p,Lib.BuilderAt 152 5 B b p [] w:=by
   rcases h with h | h
   ·exact ⟨_,h⟩
   ·exact ⟨_,h⟩
  rcases hown.2 with ⟨rfl,_⟩ | ⟨g,cap,cur,rfl,hbg,hg,_,_,_,_⟩
  ·exact pString_nil B b p w hbk
  ·by_cases hc0:cap=0
   ·subst hc0
    exact pString_noroom B b g p cur w hBw hbk hg
   ·exact pString_room B b g cap p w hc0 hbk
end Go.Proofs.YtcimcjmdkjajfaaGreatDoor
namespace Go.Proofs.YtcimcjmdkjajfaaGreatDoor
open Go.RowKit
theorem name_small {k p:Int} {s:ByteArray} (h:checkB ⟨k,s,p⟩=true):s.size≤64:=by
 unfold checkB scansB at h
 cases hs:Lx.scan (bs s) with
 | bad i e=>rw [hs] at h;cases h
 | toks ts =>
  rw [hs] at h
  simp only at h
  have hb:=scan_bounds hs
  match ts,h,hb with
  | [],h,_=>simp [sameB] at h
  | [t],h,hb =>
   simp only [List.map_cons,List.map_nil,sameB,ofTok] at h
   have h1:=(hb t (by simp)).1
   simp only [Bool.and_eq_true,beq_iff_eq] at h
   have h2:t.text.length=s.size:=by
    have:=h.1.2
    first | (rw [←this];simp [ByteArray.size]) | (have h3:=toList_injP this;rw [←h3];simp [ByteArray.size])
   omega
  | t :: u :: r,h,_=>simp [sameB] at h
theorem nameB_small {s:ByteArray} (h:nameB s=true):s.size≤64:=name_small h
theorem varB_small {s:ByteArray} (h:varB s=true):s.size≤64:=name_small h
theorem noneB_small {s:ByteArray} (h:noneB s=true):s.size≤64:=by
 unfold noneB at h
 rw [ByteArray.toList_eq] at h
 have h2:s.data.toList=[]:=by simpa using h
 have:s.size=0:=by
  show s.data.size=0
  rw [←Array.length_toList,h2]
  rfl
 omega
theorem okL_mem:∀ {l:List Nd},(∀ x∈l,x.okP=true)→Nd.okL l=true
 | [],_=>by simp only [Nd.okL]
 | a :: l,h=>by
  simp only [Nd.okL,Bool.and_eq_true]
  exact ⟨h a (by simp),okL_mem fun x hx=>h x (by simp [hx])⟩
theorem okL_all:∀ {l:List Nd},Nd.okL l=true→∀ x∈l,x.okP=true
 | a :: l,h,x,hx=>by
  simp only [Nd.okL,Bool.and_eq_true] at h
  rcases List.mem_cons.1 hx with rfl | hx
  ·exact h.1
  ·exact okL_all h.2 x hx
theorem szL_mem:∀ {l:List Nd} {x:Nd},x∈l→x.sz≤Nd.szL l
 | a :: l,x,hx=>by
  simp only [Nd.szL]
  rcases List.mem_cons.1 hx with rfl | hx
  ·omega
  ·have:=szL_mem hx;omega
theorem typL_mem:∀ {l:List Nd},typL l=true→∀ x∈l,typB x=true
 | a :: l,h,x,hx=>by
  simp only [typL,Bool.and_eq_true] at h
  rcases List.mem_cons.1 hx with rfl | hx
  ·exact h.1
  ·exact typL_mem h.2 x hx
theorem termL_mem:∀ {l:List Nd},termL l=true→∀ x∈l,termB x=true
 | a :: l,h,x,hx=>by
  simp only [termL,Bool.and_eq_true] at h
  rcases List.mem_cons.1 hx with rfl | hx
  ·exact h.1
  ·exact termL_mem h.2 x hx
theorem formL_mem:∀ {l:List Nd},formL l=true→∀ x∈l,formB x=true
 | a :: l,h,x,hx=>by
  simp only [formL,Bool.and_eq_true] at h
  rcases List.mem_cons.1 hx with rfl | hx
  ·exact h.1
  ·exact formL_mem h.2 x hx
theorem ok_mk {k:Int} {s:ByteArray} {l:List Nd} (h1:shapeB k l.length=true) (h2:s.size≤64) (h3:Nd.okL l=true):(Nd.mk k s l).okP=true:=by
 simp only [Nd.okP,Bool.and_eq_true,decide_eq_true_eq]
 exact ⟨h1,h2,h3⟩
theorem typ_ok:∀ (N:Nat) (t:Nd),t.sz≤N→typB t=true→t.okP=true:=by
 intro N
 induction N with
 | zero=>rintro ⟨k,s,l⟩ h;simp only [Nd.sz] at h;omega
 | succ N ih =>
  rintro ⟨k,s,l⟩ h ht
  simp only [Nd.sz] at h
  simp only [typB] at ht
  split at ht
  ·rename_i hk
   subst hk
   simp only [Bool.and_eq_true,decide_eq_true_eq] at ht
   exact ok_mk (by rw [ht.2.1];decide) (noneB_small ht.1) (okL_mem fun x hx=>ih x (by have:=szL_mem hx;omega) (typL_mem ht.2.2 x hx))
  ·simp only [Bool.and_eq_true,decide_eq_true_eq] at ht
   obtain ⟨rfl,hl,hn⟩:=ht
   have:l=[]:=List.eq_nil_of_length_eq_zero hl
   subst this
   exact ok_mk (by decide) (nameB_small hn) (by simp only [Nd.okL])
theorem bind_small {s:ByteArray} {l:List Nd} (h:bindB s l=true):s.size≤64∧(l.length=1∨l.length=2)∧(l.length=2→headTyp l=true):=by
 simp only [bindB,Bool.and_eq_true,Bool.or_eq_true,decide_eq_true_eq] at h
 refine ⟨h.1.elim nameB_small varB_small,h.2.imp id (·.1),fun e=>?_⟩
 rcases h.2 with h2 | h2
 ·omega
 ·exact h2.2
theorem term_ok:∀ (N:Nat) (t:Nd),t.sz≤N→termB t=true→t.okP=true:=by
 intro N
 induction N with
 | zero=>rintro ⟨k,s,l⟩ h;simp only [Nd.sz] at h;omega
 | succ N ih =>
  rintro ⟨k,s,l⟩ h ht
  simp only [Nd.sz] at h
  simp only [termB] at ht
  split at ht
  ·rename_i hk
   subst hk
   simp only [Bool.and_eq_true,decide_eq_true_eq] at ht
   exact ok_mk rfl (nameB_small ht.1) (okL_mem fun x hx=>ih x (by have:=szL_mem hx;omega) (termL_mem ht.2.1 x hx))
  ·split at ht
   ·rename_i hk
    subst hk
    simp only [Bool.and_eq_true,decide_eq_true_eq] at ht
    exact ok_mk rfl (varB_small ht.1) (okL_mem fun x hx=>ih x (by have:=szL_mem hx;omega) (termL_mem ht.2.1 x hx))
   ·simp only [Bool.and_eq_true,decide_eq_true_eq] at ht
    obtain ⟨rfl,hb,he⟩:=ht
    obtain ⟨h1,h2,h3⟩:=bind_small hb
    refine ok_mk (by rcases h2 with e | e <;> rw [e] <;> decide) h1 ?_
    match l,h2,h3,he,h with
    | [x],_,_,he,h =>
     simp only [termE,List.isEmpty_nil,if_true,Nd.szL] at he h
     exact okL_mem fun y hy=>by rw [List.mem_singleton.1 hy];exact ih x (by omega) he
    | [x,y],_,h3,he,h =>
     have hx:=h3 rfl
     simp only [headTyp] at hx
     simp only [termE,List.isEmpty_cons,List.isEmpty_nil,if_true,Nd.szL] at he h
     refine okL_mem fun z hz=>?_
     rcases List.mem_cons.1 hz with rfl | hz
     ·exact typ_ok _ z (Nat.le_refl _) hx
     ·rw [List.mem_singleton.1 hz];exact ih y (by omega) (by simpa using he)
    | [],h2,_,_,_=>simp at h2
    | _ :: _ :: _ :: _,h2,_,_,_=>simp at h2
theorem form_ok:∀ (N:Nat) (t:Nd),t.sz≤N→formB t=true→t.okP=true:=by
 intro N
 induction N with
 | zero=>rintro ⟨k,s,l⟩ h;simp only [Nd.sz] at h;omega
 | succ N ih =>
  rintro ⟨k,s,l⟩ h ht
  simp only [Nd.sz] at h
  simp only [formB] at ht
  split at ht
  ·exact term_ok _ _ (Nat.le_refl _) ht
  ·split at ht
   ·rename_i _ hk
    simp only [Bool.and_eq_true] at ht
    obtain ⟨hb,he⟩:=ht
    obtain ⟨h1,h2,h3⟩:=bind_small hb
    refine ok_mk (by rcases hk with rfl | rfl <;> rcases h2 with e | e <;> rw [e] <;> decide) h1 ?_
    match l,h2,h3,he,h with
    | [x],_,_,he,h =>
     simp only [formE,List.isEmpty_nil,if_true,Nd.szL] at he h
     exact okL_mem fun y hy=>by rw [List.mem_singleton.1 hy];exact ih x (by omega) he
    | [x,y],_,h3,he,h =>
     have hx:=h3 rfl
     simp only [headTyp] at hx
     simp only [formE,List.isEmpty_cons,List.isEmpty_nil,if_true,Nd.szL] at he h
     refine okL_mem fun z hz=>?_
     rcases List.mem_cons.1 hz with rfl | hz
     ·exact typ_ok _ z (Nat.le_refl _) hx
     ·rw [List.mem_singleton.1 hz];exact ih y (by omega) (by simpa using he)
    | [],h2,_,_,_=>simp at h2
    | _ :: _ :: _ :: _,h2,_,_,_=>simp at h2
   ·split at ht
    ·rename_i _ _ hk
     simp only [Bool.and_eq_true,decide_eq_true_eq] at ht
     have:l=[]:=List.eq_nil_of_length_eq_zero ht.2
     subst this
     exact ok_mk (by rcases hk with rfl | rfl <;> decide) (noneB_small ht.1) (by simp only [Nd.okL])
    ·split at ht
     ·rename_i _ _ _ hk
      simp only [Bool.and_eq_true,decide_eq_true_eq] at ht
      exact ok_mk (by rw [ht.2.1];rcases hk with rfl | rfl <;> decide) (noneB_small ht.1) (okL_mem fun x hx=>ih x (by have:=szL_mem hx;omega) (formL_mem ht.2.2 x hx))
     ·simp only [Bool.and_eq_true,decide_eq_true_eq,isBinary] at ht
      have hk:=ht.1
      exact ok_mk (by rw [ht.2.2.1]; have : k = 22 ∨ k = 23 ∨ k = 24 ∨ k = 25 ∨ k = 26 ∨ k = 27 ∨ k = 28 := by omega
                      rcases this with rfl | rfl | rfl | rfl | rfl | rfl | rfl <;> decide) (noneB_small ht.2.1) (okL_mem fun x hx => ih x (by have := szL_mem hx; omega) (formL_mem ht.2.2.2 x hx))
def Nd.okI:Nd→Prop | .mk k s l=>s.size≤64∧itemOk k l.length∧Nd.okL l=true
theorem lone_ok {t:Nd} (h:loneB t=true):t.okP=true:=by
 obtain ⟨k,s,l⟩:=t
 simp only [loneB,Bool.and_eq_true,decide_eq_true_eq] at h
 obtain ⟨rfl,hl,hn⟩:=h
 have:l=[]:=List.eq_nil_of_length_eq_zero hl
 subst this
 exact ok_mk (by decide) (nameB_small hn) (by simp only [Nd.okL])
theorem mode_ok {t:Nd} (h:modeB t=true):t.okP=true:=by
 obtain ⟨k,s,l⟩:=t
 simp only [modeB,Bool.and_eq_true,Bool.or_eq_true,decide_eq_true_eq] at h
 obtain ⟨rfl,hl,hn⟩:=h
 have:l=[]:=List.eq_nil_of_length_eq_zero hl
 subst this
 exact ok_mk (by decide) (by rcases hn with rfl | rfl | rfl <;> decide) (by simp only [Nd.okL])
theorem okL_idx {l:List Nd} (h:∀ i (hi:i < l.length),(l[i]).okP=true):Nd.okL l=true:=okL_mem fun x hx=>by
 obtain ⟨i,hi,rfl⟩:=List.getElem_of_mem hx
 exact h i hi
theorem item_ok {t:Nd} (h:itemB t=true):t.okI:=by
 obtain ⟨k,s,l⟩:=t
 simp only [itemB] at h
 split at h
 ·rename_i hk
  simp only [Bool.and_eq_true,decide_eq_true_eq] at h
  exact ⟨noneB_small h.1,fun e=>by omega,okL_idx fun i hi=>lone_ok ((nameL_iff l).1 h.2.2 i hi)⟩
 ·split at h
  ·simp only [Bool.and_eq_true,decide_eq_true_eq] at h
   refine ⟨noneB_small h.1,fun e=>by omega,okL_idx fun i hi=>?_⟩
   by_cases he:i=l.length - 1
   ·subst he
    have h9:=h.2.2.2
    rw [typE_get (by omega)] at h9
    exact typ_ok _ _ (Nat.le_refl _) h9
   ·have:=(nameL_iff _).1 h.2.2.1 i (by rw [List.length_take];omega)
    rw [List.getElem_take] at this
    exact lone_ok this
  ·simp only [Bool.and_eq_true] at h
   have hs:=nameB_small h.1
   split at h
   ·simp only [Bool.and_eq_true] at h
    exact ⟨hs,fun e=>by omega,okL_mem fun x hx=>typ_ok _ x (Nat.le_refl _) (typL_mem h.2.1 x hx)⟩
   ·split at h
    ·simp only [Bool.and_eq_true] at h
     exact ⟨hs,fun e=>by omega,okL_idx fun i hi=>mode_ok ((modeL_iff l).1 h.2.1 i hi)⟩
    ·split at h
     ·simp only [Bool.and_eq_true,decide_eq_true_eq] at h
      exact ⟨hs,fun e=>by omega,okL_mem fun x hx=>form_ok _ x (Nat.le_refl _) (formL_mem h.2.2 x hx)⟩
     ·split at h
      ·simp only [decide_eq_true_eq] at h
       have:l=[]:=List.eq_nil_of_length_eq_zero h.2
       subst this
       exact ⟨hs,fun e=>by omega,by simp only [Nd.okL]⟩
      ·simp at h
def Nd.okW:Nd→Prop | .mk k s l=>if k=1 then ∀ x∈l,x.okI else if itemB (.mk k s l)=true then (Nd.mk k s l).okI else (Nd.mk k s l).okP=true
theorem valid_ok {t:Nd} (h:chkN t=0):t.okW∧t.sz≤4000:=by
 unfold chkN at h
 split at h
 ·cases h
 ·split at h
  ·cases h
  ·split at h
   ·rename_i h1 _ hv
    refine ⟨?_,by omega⟩
    obtain ⟨k,s,l⟩:=t
    simp only [Bool.or_eq_true] at hv
    show if k=1 then ∀ x∈l,x.okI else if itemB (.mk k s l)=true then (Nd.mk k s l).okI else (Nd.mk k s l).okP=true
    have hp:typB (.mk k s l)=true∨termB (.mk k s l)=true∨formB (.mk k s l)=true→(Nd.mk k s l).okP=true:=by
     rintro (h | h | h)
     ·exact typ_ok _ _ (Nat.le_refl _) h
     ·exact term_ok _ _ (Nat.le_refl _) h
     ·exact form_ok _ _ (Nat.le_refl _) h
    by_cases hk:k=1
    ·subst hk
     rw [if_pos rfl]
     rcases hv with h | h | h | h | h
     ·have:=hp (.inl h);simp [Nd.okP,shapeB] at this
     ·have:=hp (.inr (.inl h));simp [Nd.okP,shapeB] at this
     ·have:=hp (.inr (.inr h));simp [Nd.okP,shapeB] at this
     ·simp [itemB] at h
     ·simp only [textB,Bool.and_eq_true] at h
      intro x hx
      obtain ⟨i,hi,rfl⟩:=List.getElem_of_mem hx
      exact item_ok ((itemL_iff l).1 h.2.2 i hi)
    ·rw [if_neg hk]
     split
     ·rename_i h;exact item_ok h
     ·rename_i hi
      rcases hv with h | h | h | h | h
      ·exact hp (.inl h)
      ·exact hp (.inr (.inl h))
      ·exact hp (.inr (.inr h))
      ·exact absurd h hi
      ·simp only [textB,Bool.and_eq_true,decide_eq_true_eq] at h
       exact absurd h.1 hk
   ·cases h
def Nd.whl:Nd→Tx | .mk k s l=>if k=1 then l.flatMap fun x=>x.itm++[10] else if itemB (.mk k s l)=true then (Nd.mk k s l).itm else (Nd.mk k s l).txt 0 false
theorem findO_len (k:Int):∀ l:List (List UInt8×Int),(∀ o∈l,o.1.length≤8)→(findO k l).length≤8
 | [],_=>by simp [findO]
 | o :: l,h=>by
  simp only [findO]
  split
  ·exact h o (by simp)
  ·exact findO_len k l fun o ho=>h o (by simp [ho])
theorem opensW_len (k:Int):(opensW k).length≤8:=findO_len k _ (by decide)
theorem opSign_len (k:Int):(opSign k).length≤2:=by
 unfold opSign
 split
 ·rename_i sg bd h
  unfold opOf opsL at h
  simp only [findP] at h
  repeat' split at h
  all_goals first | (cases h;decide) | cases h
 ·simp
theorem txtF_len (k:Int) (f:Bool→Tx) (n:Nat) (h:∀ m,(f m).length≤n) (bind:Nat) (more:Bool):(txtF k f bind more).length≤n+2:=by
 unfold txtF
 split
 ·have:=h false
  simp
  omega
 ·have:=h more
  omega
theorem txt_len {t:Nd} (h:∀ m,(t.bare m).length+10≤100*t.sz) (bind:Nat) (more:Bool):(t.txt bind more).length+8≤100*t.sz:=by
 have h0:=h false
 have:=txtF_len t.kd t.bare (100*t.sz - 10) (fun m=>by have:=h m;omega) bind more
 unfold Nd.txt
 omega
theorem sum_len {l:List Nd} (F:Nd→Tx) (h:∀ x∈l,(F x).length≤100*x.sz):(l.flatMap F).length≤100*Nd.szL l:=by
 induction l with
 | nil=>simp
 | cons a l ih =>
  have h1:=h a (by simp)
  have h2:=ih fun x hx=>h x (by simp [hx])
  simp only [List.flatMap_cons,List.length_append,Nd.szL]
  omega
theorem arg_len {t:Nd} (ho:t.okP=true) (h:∀ m,(t.bare m).length+10≤100*t.sz):t.arg.length+8≤100*t.sz:=by
 have h0:=h false
 obtain ⟨k,s,l⟩:=t
 unfold Nd.arg argF
 simp only [Nd.okP,Bool.and_eq_true,decide_eq_true_eq] at ho
 have h1:1≤(Nd.mk k s l).sz:=by simp only [Nd.sz];omega
 simp only
 split
 ·simp
  omega
 ·rw [bs_len]
  omega
theorem kidF_len {l:List Nd} (h:∀ x∈l,∀ m,(x.bare m).length+10≤100*x.sz) (i:Nat) (hi:i < l.length) (bind:Nat) (more:Bool):(kidF l (Nd.bareL l) i bind more).length+8≤100*(l[i]).sz:=by
 rw [kidF_at hi]
 exact txt_len (h _ (List.getElem_mem hi)) bind more
theorem bare_len:∀ (N:Nat) (t:Nd),t.sz≤N→t.okP=true→∀ m,(t.bare m).length+10≤100*t.sz:=by
 intro N
 induction N with
 | zero=>rintro ⟨k,s,l⟩ h;simp only [Nd.sz] at h;omega
 | succ N ih =>
  rintro ⟨k,s,l⟩ h ho m
  simp only [Nd.okP,Bool.and_eq_true,decide_eq_true_eq] at ho
  obtain ⟨h1,h2,h3⟩:=ho
  simp only [Nd.sz] at h ⊢
  have hk:∀ x∈l,∀ m,(x.bare m).length+10≤100*x.sz:=fun x hx=>ih x (by have:=szL_mem hx;omega) (okL_all h3 x hx)
  have hsb:(bs s).length≤64:=by rw [bs_len];exact h2
  have how:=opensW_len k
  have hsg:=opSign_len k
  by_cases h15:k=15∨k=16
  ·rw [bare_name h15]
   have:=sum_len (l:=l) (fun x=>32 :: x.arg) (fun x hx=>by have:=arg_len (okL_all h3 x hx) (hk x hx);simp only [List.length_cons];omega)
   rw [List.length_append]
   omega
  ·simp only [Nd.bare,bareF]
   rw [if_neg h15]
   by_cases hb:17≤k∧k≤19
   ·have h12:l.length=1∨l.length=2:=by
     have:k=17∨k=18∨k=19:=by omega
     rcases this with rfl | rfl | rfl <;> simpa [shapeB] using h1
    have hbf:(binderF s l (Nd.bareL l)).length≤72+100*Nd.szL l:=by
     unfold binderF
     rcases h12 with e | e
     ·match l,e with
      | [x],_ =>
       have h0:=kidF_len hk 0 (by simp) 0 false
       simp only [List.length_singleton,Nat.sub_self,List.length_append,Nd.szL,List.getElem_cons_zero] at h0 ⊢
       rw [if_neg (by omega)]
       simp
       omega
     ·match l,e with
      | [x,y],_ =>
       have h0:=kidF_len hk 0 (by simp) 6 false
       have h9:=kidF_len hk 1 (by simp) 0 false
       simp only [List.length_cons,List.length_nil,Nat.zero_add,Nat.reduceAdd,List.length_append,Nd.szL,List.getElem_cons_zero,List.getElem_cons_succ] at h0 h9 ⊢
       rw [if_pos (by omega)]
       simp
       omega
    split
    ·rw [List.length_append];omega
    ·rw [if_pos (by omega),List.length_append,List.length_append]
     simp
     omega
   ·rw [if_neg (by omega),if_neg (by omega)]
    split
    ·omega
    ·split
     ·rename_i _ hk29
      subst hk29
      have:1≤l.length:=by simpa [shapeB] using h1
      have h0:=kidF_len hk 0 (by omega) 5 m
      have h9:=szL_get l 0 (by omega)
      rw [List.length_append]
      omega
     ·split
      ·rename_i _ _ hk30
       subst hk30
       have:1≤l.length:=by simpa [shapeB] using h1
       have h0:=kidF_len hk 0 (by omega) 0 false
       have h9:=szL_get l 0 (by omega)
       rw [List.length_append,List.length_append]
       simp
       omega
      ·rename_i m20 m29 m30
       have hl2:2≤l.length:=by
        simp only [shapeB,decide_eq_false (fun e=>h15 (.inl e)),decide_eq_false (fun e=>h15 (.inr e)),decide_eq_false (fun e=>m20 (.inl e)),decide_eq_false (fun e=>m20 (.inr e)),decide_eq_false m29,decide_eq_false m30,Bool.false_or,Bool.or_eq_true,Bool.and_eq_true,decide_eq_true_eq,Bool.false_and] at h1
        omega
       match l,hl2 with
       | x :: y :: r,_ =>
        have h0:=kidF_len hk 0 (by simp) (leftB (opBind k)) true
        have h9:=kidF_len hk 1 (by simp) (rightB (opBind k)) m
        simp only [Nd.szL,List.length_append,List.getElem_cons_zero,List.getElem_cons_succ,List.length_cons,List.length_nil] at h0 h9 ⊢
        omega
theorem node_len {t:Nd} (ho:t.okP=true) (bind:Nat) (more:Bool):(t.txt bind more).length+8≤100*t.sz:=txt_len (bare_len _ t (Nat.le_refl _) ho) bind more
theorem comF_len:∀ {l:List Nd} (f:Bool),Nd.okL l=true→(comF l f).length≤66*Nd.szL l
 | [],f,_=>by simp [comF]
 | ⟨k,s,kl⟩ :: l,f,h=>by
  simp only [Nd.okL,Bool.and_eq_true,Nd.okP,decide_eq_true_eq] at h
  have:=comF_len false h.2
  simp only [comF,Nd.nm,List.length_append,Nd.szL,Nd.sz]
  have h2:(if f=true then ([]:Tx) else [44,32]).length≤2:=by split <;> simp
  rw [bs_len]
  omega
theorem okL_take {l:List Nd} (h:Nd.okL l=true) (n:Nat):Nd.okL (l.take n)=true:=okL_mem fun x hx=>okL_all h x (List.mem_of_mem_take hx)
theorem itm_len {t:Nd} (h:t.okI):t.itm.length≤100*t.sz:=by
 obtain ⟨k,s,l⟩:=t
 obtain ⟨h1,h2,h3⟩:=h
 have how:=opensW_len k
 have hb:(itemBody k l).length≤100*Nd.szL l+10:=by
  unfold itemBody
  split
  ·have:=comF_len true h3;omega
  ·split
   ·rename_i hk
    have hl:=h2 (.inl hk)
    have e:l.length - 1 < l.length:=by omega
    have h4:=comF_len true (okL_take h3 (l.length - 1))
    have h5:=node_len (okL_all h3 _ (List.getElem_mem e)) 6 false
    have h6:=szL_take l (l.length - 1) e
    rw [List.take_of_length_le (by omega)] at h6
    rw [kidT_at e]
    simp only [List.length_append,List.length_cons,List.length_nil]
    omega
   ·split
    ·have:=sum_len (l:=l) (fun x=>32 :: x.txt 7 false) (fun x hx=>by have:=node_len (okL_all h3 x hx) 7 false;simp only [List.length_cons];omega)
     omega
    ·split
     ·rename_i hk
      have hl:=h2 (by omega)
      have h5:=node_len (okL_all h3 _ (List.getElem_mem (show 0 < l.length by omega))) 0 false
      have h6:=szL_get l 0 (by omega)
      rw [kidT_at (by omega)]
      simp only [List.length_append,List.length_cons,List.length_nil]
      omega
     ·simp
 simp only [Nd.itm,List.length_append,List.length_cons,List.length_nil,bs_len,Nd.sz]
 omega
theorem whl_len {t:Nd} (h:t.okW):t.whl.length≤200*t.sz:=by
 obtain ⟨k,s,l⟩:=t
 unfold Nd.whl
 have h':if k=1 then ∀ x∈l,x.okI else if itemB (.mk k s l)=true then (Nd.mk k s l).okI else (Nd.mk k s l).okP=true:=h
 simp only
 split
 ·rename_i hk
  rw [if_pos hk] at h'
  have:∀ l:List Nd,(∀ x∈l,x.okI)→(l.flatMap fun x=>x.itm++[10]).length≤200*Nd.szL l:=by
   intro l
   induction l with
   | nil=>simp
   | cons a l ih =>
    intro hl
    have h1:=itm_len (hl a (by simp))
    have h2:=ih fun x hx=>hl x (by simp [hx])
    have h3:1≤a.sz:=by obtain ⟨k,s,l⟩:=a;simp only [Nd.sz];omega
    simp only [List.flatMap_cons,List.length_append,Nd.szL,List.length_cons,List.length_nil]
    omega
  have:=this l h'
  simp only [Nd.sz]
  omega
 ·rename_i hk
  rw [if_neg hk] at h'
  split
  ·rename_i hi
   rw [if_pos hi] at h'
   have:=itm_len h'
   omega
  ·rename_i hi
   rw [if_neg hi] at h'
   have:=node_len h' 0 false
   omega
end Go.Proofs.YtcimcjmdkjajfaaGreatDoor
namespace Go.Proofs.YtcimcjmdkjajfaaGreatDoor
theorem shape_not7 {n:Nat}:shapeB 7 n=false:=by
 unfold shapeB
 simp
mutual
theorem okP_facts:∀ t:Nd,t.okP=true→smN t∧mdOk t
 | .mk k s l,h=>by
  simp only [Nd.okP,Bool.and_eq_true,decide_eq_true_eq] at h
  obtain ⟨h1,h2,h3⟩:=h
  have:=okL_facts l h3
  simp only [smN,mdOk]
  refine ⟨⟨h2,this.1⟩,?_⟩
  split
  ·rename_i hk
   subst hk
   rw [shape_not7] at h1
   cases h1
  ·exact this.2
theorem okL_facts:∀ l:List Nd,Nd.okL l=true→smL l∧mdL l
 | [],_=>by simp only [smL,mdL];exact ⟨trivial,trivial⟩
 | a :: l,h=>by
  simp only [Nd.okL,Bool.and_eq_true] at h
  have h1:=okP_facts a h.1
  have h2:=okL_facts l h.2
  simp only [smL,mdL]
  exact ⟨⟨h1.1,h2.1⟩,h1.2,h2.2⟩
end
theorem modeB_leaf {t:Nd} (h:modeB t=true):∃ k s,t = .mk k s []:=by
 obtain ⟨k,s,l⟩:=t
 simp only [modeB,Bool.and_eq_true,decide_eq_true_eq] at h
 have:l=[]:=List.eq_nil_of_length_eq_zero h.2.1
 subst this
 exact ⟨k,s,rfl⟩
theorem item_facts {t:Nd} (h:itemB t=true):smN t∧mdOk t:=by
 have ho:=item_ok h
 obtain ⟨k,s,l⟩:=t
 obtain ⟨h1,_,h3⟩:=ho
 have hf:=okL_facts l h3
 simp only [smN,mdOk]
 refine ⟨⟨h1,hf.1⟩,?_⟩
 split
 ·rename_i hk
  subst hk
  simp only [itemB,Int.reduceEq,or_self,if_false,if_true,Bool.and_eq_true] at h
  intro x hx
  obtain ⟨i,hi,rfl⟩:=List.getElem_of_mem hx
  exact modeB_leaf ((modeL_iff l).1 h.2.1 i hi)
 ·exact hf.2
theorem valid_facts {t:Nd} (h:chkN t=0):smN t∧mdOk t:=by
 unfold chkN at h
 split at h
 ·cases h
 ·split at h
  ·cases h
  ·split at h
   ·rename_i hv
    simp only [Bool.or_eq_true] at hv
    rcases hv with h | h | h | h | h
    ·exact okP_facts t (typ_ok _ _ (Nat.le_refl _) h)
    ·exact okP_facts t (term_ok _ _ (Nat.le_refl _) h)
    ·exact okP_facts t (form_ok _ _ (Nat.le_refl _) h)
    ·exact item_facts h
    ·obtain ⟨k,s,l⟩:=t
     simp only [textB,Bool.and_eq_true,decide_eq_true_eq] at h
     obtain ⟨rfl,hs,hl⟩:=h
     have hi:∀ x∈l,smN x∧mdOk x:=fun x hx=>by
      obtain ⟨i,hi,rfl⟩:=List.getElem_of_mem hx
      exact item_facts ((itemL_iff l).1 hl i hi)
     simp only [smN,mdOk]
     refine ⟨⟨noneB_small hs,(smL_iff l).2 fun x hx=>(hi x hx).1⟩,?_⟩
     rw [if_neg (by decide)]
     exact (mdL_iff l).2 fun x hx=>(hi x hx).2
   ·cases h
end Go.Proofs.YtcimcjmdkjajfaaGreatDoor
namespace Go.Proofs.YtcimcjmdkjajfaaGreatDoor
open Go.RowKit Go.Shelf
attribute [local go_sem] Oper.semAt_some
abbrev zeroN:Nd:=.mk 0 ⟨#[]⟩ []
theorem zero_ndr (w:World):NdR w zeroN (.int .i64 0) (.string ⟨#[]⟩) (.slice none 0 0):=(NdS.leaf (fun _=>True) w 0 ⟨#[]⟩ (by decide) none 0).toR
theorem chk_sz {t:Nd} (h:chkN t=0):t.sz≤4000:=by
 unfold chkN at h
 split at h
 ·cases h
 ·omega
def PR (er:Int) (tr:Nd) (W:World) (e:Ending) (W':World):Prop :=
 ∃ u0 u1 u2,e = .returned (.tuple #[.agg #[u0,u1,u2],.int .i64 er])∧NdR W' tr u0 u1 u2∧Below W.heap.size W W'
end Go.Proofs.YtcimcjmdkjajfaaGreatDoor
namespace Go.Proofs.YtcimcjmdkjajfaaGreatDoor
open Go.RowKit Go.Shelf
attribute [local go_sem] Oper.semAt_some
def chPl:Nd→Nd
 | .mk k s (a :: b :: l)=>if k=27 then .mk 25 ⟨#[]⟩ [b,a] else if k=28 then .mk 26 ⟨#[]⟩ [b,a] else .mk k s (a :: b :: l)
 | t=>t
def PPl:Nd→Prop
 | .mk k _ l=>k=27∨k=28→∃ a b l',l=a :: b :: l'
theorem chPl_other {k:Int} (s:ByteArray) (l:List Nd) (h1:k≠27) (h2:k≠28):chPl (.mk k s l) = .mk k s l:=by
 match l with
 | []=>rfl
 | [_]=>rfl
 | a :: b :: l=>simp only [chPl,if_neg h1,if_neg h2]
abbrev Sp2 (X b o n c:Nat) (x0 x1 x2 y0 y1 y2:Value) (w:World):Prop:=w.cell? ⟨X,2,none⟩=some (.slice (some ⟨b,o,none⟩) n c)∧w.cell? ⟨b,o,none⟩=some x0∧w.cell? ⟨b,o+1,none⟩=some x1∧w.cell? ⟨b,o+2,none⟩=some x2∧w.cell? ⟨b,o+3,none⟩=some y0∧w.cell? ⟨b,o+3+1,none⟩=some y1∧w.cell? ⟨b,o+3+2,none⟩=some y2
theorem sp_of {X b o n c:Nat} {x0 x1 x2 y0 y1 y2:Value} {w w':World} (S:Sp2 X b o n c x0 x1 x2 y0 y1 y2 w) (hX:w'.heap[X]?=w.heap[X]?) (hb:w'.heap[b]?=w.heap[b]?):Sp2 X b o n c x0 x1 x2 y0 y1 y2 w':=by
 obtain ⟨c0,c1,c2,c3,c4,c5,c6⟩:=S
 exact ⟨(World.cell?_of_block (w:=w) hX).trans c0,(World.cell?_of_block (w:=w) hb).trans c1,(World.cell?_of_block (w:=w) hb).trans c2,(World.cell?_of_block (w:=w) hb).trans c3,(World.cell?_of_block (w:=w) hb).trans c4,(World.cell?_of_block (w:=w) hb).trans c5,(World.cell?_of_block (w:=w) hb).trans c6⟩
set_option maxRecDepth 100000 in
set_option maxHeartbeats 2000000 in
theorem plain1_all (n₁ H:Nat) (A:World) (vp vi v0 v1 v2:Value) (ps:List Value) (ins:List ByteArray) (wd:Bool) (t:Nd) (_hH:H≤A.heap.size) (hp:RowI n₁ A vp ps) (hi:RowS n₁ A vi ins) (hpn:∀ g,vp.ownBlock=some g→g < A.heap.size) (hin:∀ g,vi.ownBlock=some g→g < A.heap.size) (ht:NdO (fun b=>b < H) vp vi A t v0 v1 v2) (hP:PPl t) :
  Calls Tryz.prog 84 (#[.agg #[vp,vi,.bool wd],.agg #[v0,v1,v2]]++#[]) A fun e W'=>∃ u0 u1 u2,e = .returned (.agg #[u0,u1,u2])∧NdO (fun b=>b < H∨A.heap.size≤b) vp vi W' (chPl t) u0 u1 u2∧Below A.heap.size A W':=by
 obtain ⟨k,s,l,a,c,rfl,rfl,rfl,rfl,_,_⟩:=ht.form
 obtain ⟨ap,cp,rfl⟩:=row_shape hp
 obtain ⟨ai,ci,hvi⟩:=row_shape hi
 (try rw [List.length_map] at hvi)
 (try rw [List.length_map] at hvi)
 subst hvi
 obtain ⟨h,hh⟩:∃ h,A.heap.size=h:=⟨_,rfl⟩
 obtain ⟨W3,hW3⟩:∃ W3,((A.alloc (.cells #[.slice ap ps.length cp,.slice ai ins.length ci,.bool wd] 88)).alloc (.cells #[.int .i64 k,.string s,.slice a l.length c] 24)).alloc (.cells #[.int .i64 0,.string ⟨#[]⟩,.slice none 0 0] 24)=W3:=⟨_,rfl⟩
 have z3:W3.heap.size=h+1+1+1:=by rw [←hW3];simp [hh]
 have B3:Below h A W3:=by rw [←hW3,←hh];exact (((Below.refl _ A).alloc (Nat.le_refl _) _).alloc (by simp) _).alloc (by simp only [World.size_alloc];omega) _
 have N3:Row3 W3 (h+1) (.int .i64 k) (.string s) (.slice a l.length c):=by
  rw [←hW3,←hh];exact (Below.heap_alloc _ _ _ (by simp only [World.size_alloc];omega)).trans (alloc_at (by simp))
 have R3:Row3 W3 (h+1+1) (.int .i64 0) (.string ⟨#[]⟩) (.slice none 0 0):=by rw [←hW3,←hh];exact alloc_at (by simp)
 obtain ⟨⟨n0,n1,n2⟩,_⟩:=N3.cells
 obtain ⟨⟨r0,r1,r2⟩,q0,q1,q2⟩:=R3.cells
 have HB3:=qh B3
 have HN3:=qh N3
 have HR3:=qh R3
 have HT:=qh ht
 have HZ3:=qh z3
 have HH:=qh hh
 have HP:=qh hP
 have HPN:=qh hpn
 have HIN:=qh hin
 clear hp hi ht hP hpn hin B3 N3 R3 z3
 rw [hh]
 show Calls Tryz.prog 84 #[.agg #[.slice ap ps.length cp,.slice ai ins.length ci,.bool wd],.agg #[.int .i64 k,.string s,.slice a l.length c]] A _
 go_enter Tryz.func84,Tryz.ntmps84
 go_upto_region 1 with fail
 (try rw [hW3])
 (try rw [hh])
 clear hW3
 by_cases h27:k=27
 ·subst h27
  obtain ⟨ta,tb,tl,rfl⟩:=HP.out (Or.inl rfl)
  obtain ⟨n,hn⟩:∃ n,(ta :: tb :: tl).length=n:=⟨_,rfl⟩
  have hn1:(1:Int) < (n:Int):=by rw [←hn];simp;omega
  have hn0:(0:Int) < (n:Int):=by omega
  have hn00:0 < n:=by omega
  obtain ⟨b,o,k0,s0,l0,a0,c0,rfl,e0,g0,g1,g2,t0⟩:=NdS.kid HT.out 0 (by simp)
  obtain ⟨b',o',k1,s1,l1,a1,c1,ha',e1,f0,f1,f2,t1⟩:=NdS.kid HT.out 1 (by simp)
  cases ha'
  simp only [List.getElem_cons_zero,List.getElem_cons_succ] at e0 e1
  subst e0 e1
  simp only [Nat.zero_mul,Nat.add_zero,Nat.one_mul] at g0 g1 g2 f0 f1 f2
  rw [hn] at n2 ⊢
  have hbl:b < h:=by rw [←HH.out];exact lt_of_cell g0
  have SD:Sp2 (h+1) b o n c (.int .i64 k0) (.string s0) (.slice a0 l0.length c0) (.int .i64 k1) (.string s1) (.slice a1 l1.length c1) W3.drew :=
   ⟨n2,(HB3.out.cell (p:=⟨b,o,none⟩) hbl).trans g0,(HB3.out.cell (p:=⟨b,o+1,none⟩) hbl).trans g1,(HB3.out.cell (p:=⟨b,o+2,none⟩) hbl).trans g2,(HB3.out.cell (p:=⟨b,o+3,none⟩) hbl).trans f0,(HB3.out.cell (p:=⟨b,o+3+1,none⟩) hbl).trans f1,(HB3.out.cell (p:=⟨b,o+3+2,none⟩) hbl).trans f2⟩
  have HT0:=qh t0
  have HT1:=qh t1
  have CP:=qh (fun w=>pair_any 25 k1 k0 s1 s0 a1 a0 l1.length l0.length c1 c0 w)
  have zz:=HZ3.out
  clear g0 g1 g2 f0 f1 f2 t0 t1
  go_upto_region 3 with fail
  go_region_held3 (fun w'=>w'.cell? ⟨h+1,2,none⟩=some (.slice (some ⟨b,o,none⟩) n c)∧w'.cell? ⟨b,o,none⟩=some (.int .i64 k0)∧w'.cell? ⟨b,o+1,none⟩=some (.string s0)∧w'.cell? ⟨b,o+2,none⟩=some (.slice a0 l0.length c0)∧w'.cell? ⟨b,o+3,none⟩=some (.int .i64 k1)∧w'.cell? ⟨b,o+3+1,none⟩=some (.string s1)∧w'.cell? ⟨b,o+3+2,none⟩=some (.slice a1 l1.length c1))
   (first | with_reducible exact SD | with_reducible exact S7 | exact sp_of S7 (far7 (h+1) (by omega) _ _ _) (far7 b (by omega) _ _ _))
   (first
    | (go_at_call 85;refine (CP.out _).mono ?_;rintro e w7 ⟨g,rfl,hg,tw,b7⟩;have S7:=sp_of SD (b7.block (h+1) (show h+1 < W3.heap.size by omega)) (b7.block b (show b < W3.heap.size by omega));have HB7:=qh (HB3.out.trans ((((Below.refl W3.heap.size W3).drew).trans b7).mono (show h≤W3.heap.size by omega)));have R7:Row3 w7 (h+1+1) (.int .i64 0) (.string ⟨#[]⟩) (.slice none 0 0):=(b7.block _ (show h+1+1 < W3.heap.size by omega)).trans HR3.out;have HR7:=qh R7;obtain ⟨⟨x0,x1,x2⟩,y0,y1,y2⟩:=R7.cells;have far7:=(fun b' (hb':b'≠h+1+1) u0 u1 u2=>(show (((w7.setCell ⟨h+1+1,0,none⟩ u0).setCell ⟨h+1+1,1,none⟩ u1).setCell ⟨h+1+1,2,none⟩ u2).heap[b']?=w7.heap[b']? from (Below.heap_setCell _ _ _ _ (by simp only;exact hb')).trans ((Below.heap_setCell _ _ _ _ (by simp only;exact hb')).trans (Below.heap_setCell _ _ _ _ (by simp only;exact hb')))));have HTW:=qh tw;have hg7:h+1+1+1≤g:=Nat.le_trans (show h+1+1+1≤W3.heap.size by omega) hg;clear tw b7 R7)
    | fail)
  all_goals (try go_wp2)
  refine ret_node (HR7.out.put _ _ _) rfl rfl rfl ?_
  refine ⟨_,_,_,rfl,?_,?_⟩
  ·have hh7:=HH.out
   obtain ⟨ty,htw⟩:=HTW.out
   have kp:∀ (t:Nd) (u0 u1 u2:Value),NdS (fun b=>((Value.slice ap ps.length cp).ownBlock≠some b∧(Value.slice ai ins.length ci).ownBlock≠some b)∧b < H) A t u0 u1 u2→∀ z0 z1 z2,NdS (fun b=>((Value.slice ap ps.length cp).ownBlock≠some b∧(Value.slice ai ins.length ci).ownBlock≠some b)∧(b < H∨h≤b)) (((w7.setCell ⟨h+1+1,0,none⟩ z0).setCell ⟨h+1+1,1,none⟩ z1).setCell ⟨h+1+1,2,none⟩ z2) t u0 u1 u2:=fun t u0 u1 u2 hn z0 z1 z2=>hn.keep fun b h1 h2=>⟨(below_put3 HB7.out (show h≤h+1+1 by omega) _ _ _).block b (by omega),h1.1,Or.inl h1.2⟩
   exact NdS.two ⟨ty,(far7 g (by omega) _ _ _).trans htw⟩ ⟨⟨fun e=>by have:=HPN.out g e;omega,fun e=>by have:=HIN.out g e;omega⟩,Or.inr (by omega)⟩ (kp _ _ _ _ HT1.out _ _ _) (kp _ _ _ _ HT0.out _ _ _) 25 2 (Nat.le_refl _)
  ·exact below_put3 HB7.out (by omega) _ _ _
 ·by_cases h28:k=28
  ·subst h28
   obtain ⟨ta,tb,tl,rfl⟩:=HP.out (Or.inr rfl)
   obtain ⟨n,hn⟩:∃ n,(ta :: tb :: tl).length=n:=⟨_,rfl⟩
   have hn1:(1:Int) < (n:Int):=by rw [←hn];simp;omega
   have hn0:(0:Int) < (n:Int):=by omega
   have hn00:0 < n:=by omega
   obtain ⟨b,o,k0,s0,l0,a0,c0,rfl,e0,g0,g1,g2,t0⟩:=NdS.kid HT.out 0 (by simp)
   obtain ⟨b',o',k1,s1,l1,a1,c1,ha',e1,f0,f1,f2,t1⟩:=NdS.kid HT.out 1 (by simp)
   cases ha'
   simp only [List.getElem_cons_zero,List.getElem_cons_succ] at e0 e1
   subst e0 e1
   simp only [Nat.zero_mul,Nat.add_zero,Nat.one_mul] at g0 g1 g2 f0 f1 f2
   rw [hn] at n2 ⊢
   have hbl:b < h:=by rw [←HH.out];exact lt_of_cell g0
   have SD:Sp2 (h+1) b o n c (.int .i64 k0) (.string s0) (.slice a0 l0.length c0) (.int .i64 k1) (.string s1) (.slice a1 l1.length c1) W3.drew :=
    ⟨n2,(HB3.out.cell (p:=⟨b,o,none⟩) hbl).trans g0,(HB3.out.cell (p:=⟨b,o+1,none⟩) hbl).trans g1,(HB3.out.cell (p:=⟨b,o+2,none⟩) hbl).trans g2,(HB3.out.cell (p:=⟨b,o+3,none⟩) hbl).trans f0,(HB3.out.cell (p:=⟨b,o+3+1,none⟩) hbl).trans f1,(HB3.out.cell (p:=⟨b,o+3+2,none⟩) hbl).trans f2⟩
   have HT0:=qh t0
   have HT1:=qh t1
   have CP:=qh (fun w=>pair_any 26 k1 k0 s1 s0 a1 a0 l1.length l0.length c1 c0 w)
   have zz:=HZ3.out
   clear g0 g1 g2 f0 f1 f2 t0 t1
   go_upto_region 5 with fail
   go_region_held3 (fun w'=>w'.cell? ⟨h+1,2,none⟩=some (.slice (some ⟨b,o,none⟩) n c)∧w'.cell? ⟨b,o,none⟩=some (.int .i64 k0)∧w'.cell? ⟨b,o+1,none⟩=some (.string s0)∧w'.cell? ⟨b,o+2,none⟩=some (.slice a0 l0.length c0)∧w'.cell? ⟨b,o+3,none⟩=some (.int .i64 k1)∧w'.cell? ⟨b,o+3+1,none⟩=some (.string s1)∧w'.cell? ⟨b,o+3+2,none⟩=some (.slice a1 l1.length c1))
    (first | with_reducible exact SD | with_reducible exact S7 | exact sp_of S7 (far7 (h+1) (by omega) _ _ _) (far7 b (by omega) _ _ _))
    (first
     | (go_at_call 85;refine (CP.out _).mono ?_;rintro e w7 ⟨g,rfl,hg,tw,b7⟩;have S7:=sp_of SD (b7.block (h+1) (show h+1 < W3.heap.size by omega)) (b7.block b (show b < W3.heap.size by omega));have HB7:=qh (HB3.out.trans ((((Below.refl W3.heap.size W3).drew).trans b7).mono (show h≤W3.heap.size by omega)));have R7:Row3 w7 (h+1+1) (.int .i64 0) (.string ⟨#[]⟩) (.slice none 0 0):=(b7.block _ (show h+1+1 < W3.heap.size by omega)).trans HR3.out;have HR7:=qh R7;obtain ⟨⟨x0,x1,x2⟩,y0,y1,y2⟩:=R7.cells;have far7:=(fun b' (hb':b'≠h+1+1) u0 u1 u2=>(show (((w7.setCell ⟨h+1+1,0,none⟩ u0).setCell ⟨h+1+1,1,none⟩ u1).setCell ⟨h+1+1,2,none⟩ u2).heap[b']?=w7.heap[b']? from (Below.heap_setCell _ _ _ _ (by simp only;exact hb')).trans ((Below.heap_setCell _ _ _ _ (by simp only;exact hb')).trans (Below.heap_setCell _ _ _ _ (by simp only;exact hb')))));have HTW:=qh tw;have hg7:h+1+1+1≤g:=Nat.le_trans (show h+1+1+1≤W3.heap.size by omega) hg;clear tw b7 R7)
     | fail)
   all_goals (try go_wp2)
   refine ret_node (HR7.out.put _ _ _) rfl rfl rfl ?_
   refine ⟨_,_,_,rfl,?_,?_⟩
   ·have hh7:=HH.out
    obtain ⟨ty,htw⟩:=HTW.out
    have kp:∀ (t:Nd) (u0 u1 u2:Value),NdS (fun b=>((Value.slice ap ps.length cp).ownBlock≠some b∧(Value.slice ai ins.length ci).ownBlock≠some b)∧b < H) A t u0 u1 u2→∀ z0 z1 z2,NdS (fun b=>((Value.slice ap ps.length cp).ownBlock≠some b∧(Value.slice ai ins.length ci).ownBlock≠some b)∧(b < H∨h≤b)) (((w7.setCell ⟨h+1+1,0,none⟩ z0).setCell ⟨h+1+1,1,none⟩ z1).setCell ⟨h+1+1,2,none⟩ z2) t u0 u1 u2:=fun t u0 u1 u2 hn z0 z1 z2=>hn.keep fun b h1 h2=>⟨(below_put3 HB7.out (show h≤h+1+1 by omega) _ _ _).block b (by omega),h1.1,Or.inl h1.2⟩
    exact NdS.two ⟨ty,(far7 g (by omega) _ _ _).trans htw⟩ ⟨⟨fun e=>by have:=HPN.out g e;omega,fun e=>by have:=HIN.out g e;omega⟩,Or.inr (by omega)⟩ (kp _ _ _ _ HT1.out _ _ _) (kp _ _ _ _ HT0.out _ _ _) 26 2 (Nat.le_refl _)
   ·exact below_put3 HB7.out (by omega) _ _ _
  ·have e1:(k==27)=false:=by simp [h27]
   have e2:(k==28)=false:=by simp [h28]
   go_wp2
   refine ret_node (HR3.out.put _ _ _) rfl rfl rfl ?_
   rw [chPl_other s l h27 h28]
   refine ⟨_,_,_,rfl,HT.out.keep fun b h1 h2=>⟨(below_put3 HB3.out (show h≤h+1+1 by omega) _ _ _).block b (by have:=HH.out;omega),h1.1,Or.inl h1.2⟩,?_⟩
   exact below_put3 HB3.out (by omega) _ _ _
end Go.Proofs.YtcimcjmdkjajfaaGreatDoor
namespace Go.Proofs.YtcimcjmdkjajfaaGreatDoor
def turnN (k:Int) (s:ByteArray):List Nd→Nd
 | a :: b :: l=>if k=27 then .mk 25 ⟨#[]⟩ [b,a] else if k=28 then .mk 26 ⟨#[]⟩ [b,a] else .mk k s (a :: b :: l)
 | l=>.mk k s l
mutual
def plainN:Nd→Nd
 | .mk k s l=>turnN k s (plainL l)
def plainL:List Nd→List Nd
 | []=>[]
 | a :: l=>plainN a :: plainL l
end
mutual
def okPl:Nd→Prop
 | .mk k _ l=>(k=27∨k=28→∃ a b l',l=a :: b :: l')∧okPlL l
def okPlL:List Nd→Prop
 | []=>True
 | a :: l=>okPl a∧okPlL l
end
theorem plainL_length:∀ l:List Nd,(plainL l).length=l.length
 | []=>by simp only [plainL]
 | a :: l=>by simp only [plainL,List.length_cons,plainL_length l]
theorem plainL_get:∀ (l:List Nd) (i:Nat) (h:i < l.length),(plainL l)[i]'(by rw [plainL_length];exact h)=plainN l[i]
 | a :: l,0,_=>by simp only [plainL,List.getElem_cons_zero]
 | a :: l,i+1,h=>by
  simp only [plainL,List.getElem_cons_succ]
  exact plainL_get l i (by simpa using h)
theorem okPlL_get:∀ (l:List Nd) (i:Nat) (h:i < l.length),okPlL l→okPl l[i]
 | a :: l,0,_,hl=>by simp only [okPlL] at hl;exact hl.1
 | a :: l,i+1,h,hl=>by
  simp only [okPlL] at hl
  exact okPlL_get l i (by simpa using h) hl.2
theorem plain_ch (t:Nd) (ht:okPl t):∃ k s l,chPl t = .mk k s l∧plainN t = .mk k s (plainL l)∧(∀ i (h:i < l.length),okPl l[i]∧l[i].sz < t.sz)∧PPl t:=by
 obtain ⟨k,s,l⟩:=t
 simp only [okPl] at ht
 have hk:∀ i (h:i < l.length),okPl l[i]∧l[i].sz < (Nd.mk k s l).sz:=fun i h=>⟨okPlL_get l i h ht.2,by have:=szL_get l i h;simp only [Nd.sz];omega⟩
 by_cases h:k=27∨k=28
 ·obtain ⟨a,b,l',rfl⟩:=ht.1 h
  have ha:=hk 0 (by simp)
  have hb:=hk 1 (by simp)
  simp only [List.getElem_cons_zero,List.getElem_cons_succ] at ha hb
  have hk2:∀ i (h:i < [b,a].length),okPl [b,a][i]∧[b,a][i].sz < (Nd.mk k s (a :: b :: l')).sz:=fun i h=>by
   match i,h with
   | 0,_=>exact hb
   | 1,_=>exact ha
  by_cases h27:k=27
  ·exact ⟨25,⟨#[]⟩,[b,a],by simp only [chPl,if_pos h27],by simp only [plainN,plainL,turnN,if_pos h27],hk2,fun _=>⟨a,b,l',rfl⟩⟩
  ·have h28:k=28:=by omega
   exact ⟨26,⟨#[]⟩,[b,a],by simp only [chPl,if_neg h27,if_pos h28],by simp only [plainN,plainL,turnN,if_neg h27,if_pos h28],hk2,fun _=>⟨a,b,l',rfl⟩⟩
 ·have h27:k≠27:=fun e=>h (Or.inl e)
  have h28:k≠28:=fun e=>h (Or.inr e)
  refine ⟨k,s,l,chPl_other s l h27 h28,?_,hk,fun e=>absurd e h⟩
  simp only [plainN]
  generalize plainL l=l'
  match l' with
  | []=>rfl
  | [_]=>rfl
  | a :: b :: l=>simp only [turnN,if_neg h27,if_neg h28]
theorem bld_plain:∀ (n:Nat) (t:Nd),t.sz≤n→okPl t→∀ ps ins wd,Bld (fun _ _ _ t=>PPl t) (fun _ _ _ t=>chPl t) ps ins wd t (plainN t)
 | 0,t,h,_=>by have:=sz_pos t;omega
 | n+1,t,h,ho=>fun ps ins wd=>by
  obtain ⟨k,s,l,e1,e2,hk,hP⟩:=plain_ch t ho
  rw [e2]
  refine .mk ps ins wd t k s l (plainL l) hP e1 (plainL_length l) fun i hi=>?_
  rw [plainL_get l i hi]
  exact bld_plain n l[i] (by have:=(hk i hi).2;omega) (hk i hi).1 _ _ _
end Go.Proofs.YtcimcjmdkjajfaaGreatDoor
namespace Go.Proofs.YtcimcjmdkjajfaaGreatDoor
theorem shape_two {k:Int} {n:Nat} (hk:k=27∨k=28) (h:shapeB k n=true):2≤n:=by
 unfold shapeB at h
 rcases hk with rfl | rfl <;> simp at h <;> omega
theorem two_of {l:List Nd} (h:2≤l.length):∃ a b l',l=a :: b :: l':=by
 match l,h with
 | a :: b :: l',_=>exact ⟨a,b,l',rfl⟩
mutual
theorem okP_okPl:∀ t:Nd,t.okP=true→okPl t
 | .mk k s l,h=>by
  simp only [Nd.okP,Bool.and_eq_true,decide_eq_true_eq] at h
  simp only [okPl]
  exact ⟨fun hk=>two_of (shape_two hk h.1),okL_okPl l h.2.2⟩
theorem okL_okPl:∀ l:List Nd,Nd.okL l=true→okPlL l
 | [],_=>by simp only [okPlL]
 | a :: l,h=>by
  simp only [Nd.okL,Bool.and_eq_true] at h
  simp only [okPlL]
  exact ⟨okP_okPl a h.1,okL_okPl l h.2⟩
end
theorem item_okPl {t:Nd} (h:itemB t=true):okPl t:=by
 have ho:=item_ok h
 obtain ⟨k,s,l⟩:=t
 obtain ⟨_,_,h3⟩:=ho
 simp only [okPl]
 refine ⟨fun hk=>?_,okL_okPl l h3⟩
 rcases hk with rfl | rfl <;> simp [itemB] at h
theorem okPlL_iff:∀ l:List Nd,okPlL l↔∀ x∈l,okPl x
 | []=>by simp [okPlL]
 | a :: l=>by simp [okPlL,okPlL_iff l]
theorem valid_okPl {t:Nd} (h:chkN t=0):okPl t:=by
 unfold chkN at h
 split at h
 ·cases h
 ·split at h
  ·cases h
  ·split at h
   ·rename_i hv
    simp only [Bool.or_eq_true] at hv
    rcases hv with h | h | h | h | h
    ·exact okP_okPl t (typ_ok _ _ (Nat.le_refl _) h)
    ·exact okP_okPl t (term_ok _ _ (Nat.le_refl _) h)
    ·exact okP_okPl t (form_ok _ _ (Nat.le_refl _) h)
    ·exact item_okPl h
    ·obtain ⟨k,s,l⟩:=t
     simp only [textB,Bool.and_eq_true,decide_eq_true_eq] at h
     obtain ⟨rfl,hs,hl⟩:=h
     simp only [okPl]
     refine ⟨fun hk=>by omega,(okPlL_iff l).2 fun x hx=>?_⟩
     obtain ⟨i,hi,rfl⟩:=List.getElem_of_mem hx
     exact item_okPl ((itemL_iff l).1 hl i hi)
   ·cases h
theorem turn_sm {k:Int} {s:ByteArray} {l:List Nd} (hs:s.size≤64) (hl:smL l):smN (turnN k s l)∧(turnN k s l).sz≤1+Nd.szL l:=by
 have h1:smN (.mk k s l)∧(Nd.mk k s l).sz≤1+Nd.szL l:=⟨by simp only [smN];exact ⟨hs,hl⟩,by simp only [Nd.sz];omega⟩
 match l,hl with
 | [],_=>exact h1
 | [_],_=>exact h1
 | a :: b :: l',hl =>
  simp only [smL] at hl
  have h2:∀ k':Int,smN (.mk k' ⟨#[]⟩ [b,a])∧(Nd.mk k' ⟨#[]⟩ [b,a]).sz≤1+Nd.szL (a :: b :: l'):=fun k'=>⟨by simp only [smN,smL];exact ⟨by decide,hl.2.1,hl.1,trivial⟩,by simp only [Nd.sz,Nd.szL];omega⟩
  simp only [turnN]
  split
  ·exact h2 25
  ·split
   ·exact h2 26
   ·exact h1
mutual
theorem plain_sm:∀ t:Nd,smN t→smN (plainN t)∧(plainN t).sz≤t.sz
 | .mk k s l,h=>by
  simp only [smN] at h
  have h1:=plainL_sm l h.2
  have h2:=turn_sm (k:=k) h.1 h1.1
  simp only [plainN,Nd.sz]
  exact ⟨h2.1,by omega⟩
theorem plainL_sm:∀ l:List Nd,smL l→smL (plainL l)∧Nd.szL (plainL l)≤Nd.szL l
 | [],_=>by simp only [plainL,smL];exact ⟨trivial,Nat.le_refl _⟩
 | a :: l,h=>by
  simp only [smL] at h
  have h1:=plain_sm a h.1
  have h2:=plainL_sm l h.2
  simp only [plainL,smL,Nd.szL]
  exact ⟨⟨h1.1,h2.1⟩,by omega⟩
end
end Go.Proofs.YtcimcjmdkjajfaaGreatDoor
namespace Go.Proofs.YtcimcjmdkjajfaaGreatDoor
mutual
def ex2:Nd→Prop
 | .mk k _ l=>(k=27∨k=28→l.length=2)∧ex2L l
def ex2L:List Nd→Prop
 | []=>True
 | a :: l=>ex2 a∧ex2L l
end
mutual
def turnedB:Nd→Bool
 | .mk k _ l=>(k==27 || k==28) || turnedL l
def turnedL:List Nd→Bool
 | []=>false
 | a :: l=>turnedB a || turnedL l
end
theorem ex2L_iff:∀ l:List Nd,ex2L l↔∀ x∈l,ex2 x
 | []=>by simp [ex2L]
 | a :: l=>by simp [ex2L,ex2L_iff l]
theorem turnedL_iff:∀ l:List Nd,turnedL l=false↔∀ x∈l,turnedB x=false
 | []=>by simp [turnedL]
 | a :: l=>by simp [turnedL,turnedL_iff l]
theorem turn_other {k:Int} (s:ByteArray) (l:List Nd) (h1:k≠27) (h2:k≠28):turnN k s l = .mk k s l:=by
 match l with
 | []=>rfl
 | [_]=>rfl
 | a :: b :: l=>simp only [turnN,if_neg h1,if_neg h2]
mutual
theorem plain_id:∀ t:Nd,turnedB t=false→plainN t=t
 | .mk k s l,h=>by
  simp only [turnedB,Bool.or_eq_false_iff,beq_eq_false_iff_ne] at h
  simp only [plainN]
  rw [plainL_id l h.2,turn_other s l h.1.1 h.1.2]
theorem plainL_id:∀ l:List Nd,turnedL l=false→plainL l=l
 | [],_=>by simp only [plainL]
 | a :: l,h=>by
  simp only [turnedL,Bool.or_eq_false_iff] at h
  simp only [plainL]
  rw [plain_id a h.1,plainL_id l h.2]
end
theorem plain_cases (k:Int) (s:ByteArray) (l:List Nd) (h:ex2 (.mk k s l)) :
  (∃ a b,l=[a,b]∧(k=27∨k=28)∧plainN (.mk k s l) = .mk (k - 2) ⟨#[]⟩ [plainN b,plainN a])∨(k≠27∧k≠28∧plainN (.mk k s l) = .mk k s (plainL l)):=by
 simp only [ex2] at h
 by_cases hk:k=27∨k=28
 ·left
  have h2:=h.1 hk
  match l,h2 with
  | [a,b],_ =>
   refine ⟨a,b,rfl,hk,?_⟩
   simp only [plainN,plainL]
   rcases hk with rfl | rfl
   ·simp only [turnN,if_true];rfl
   ·simp [turnN]
 ·right
  have h1:k≠27:=fun e=>hk (.inl e)
  have h2:k≠28:=fun e=>hk (.inr e)
  refine ⟨h1,h2,?_⟩
  simp only [plainN]
  rw [turn_other _ _ h1 h2]
mutual
theorem plain_facts:∀ t:Nd,ex2 t→(plainN t).sz=t.sz∧(plainN t).dp=t.dp∧turnedB (plainN t)=false
 | .mk k s l,h=>by
  have hl:=plainL_facts l (by simp only [ex2] at h;exact h.2)
  rcases plain_cases k s l h with ⟨a,b,rfl,hk,e⟩ | ⟨h1,h2,e⟩
  ·rw [e]
   simp only [plainL,Nd.szL,Nd.dpL,turnedL,Bool.or_eq_false_iff] at hl
   simp only [Nd.sz,Nd.dp,Nd.szL,Nd.dpL,turnedB,turnedL,Bool.or_eq_false_iff,beq_eq_false_iff_ne]
   refine ⟨by omega,by omega,⟨⟨by omega,by omega⟩,hl.2.2.2.1,hl.2.2.1,trivial⟩⟩
  ·rw [e]
   simp only [Nd.sz,Nd.dp,turnedB,Bool.or_eq_false_iff,beq_eq_false_iff_ne]
   exact ⟨by omega,by omega,⟨h1,h2⟩,hl.2.2⟩
theorem plainL_facts:∀ l:List Nd,ex2L l→Nd.szL (plainL l)=Nd.szL l∧Nd.dpL (plainL l)=Nd.dpL l∧turnedL (plainL l)=false
 | [],_=>by simp [plainL,turnedL]
 | a :: l,h=>by
  simp only [ex2L] at h
  have h1:=plain_facts a h.1
  have h2:=plainL_facts l h.2
  simp only [plainL,Nd.szL,Nd.dpL,turnedL,Bool.or_eq_false_iff]
  exact ⟨by omega,by omega,h1.2.2,h2.2.2⟩
end
theorem not_turned {k:Int} {s:ByteArray} {l:List Nd} (h1:k≠27) (h2:k≠28) (h:∀ x∈l,turnedB x=false):turnedB (.mk k s l)=false:=by
 simp only [turnedB,Bool.or_eq_false_iff,beq_eq_false_iff_ne]
 exact ⟨⟨h1,h2⟩,(turnedL_iff l).2 h⟩
theorem typ_not:∀ (N:Nat) (t:Nd),t.sz≤N→typB t=true→turnedB t=false:=by
 intro N
 induction N with
 | zero=>rintro ⟨k,s,l⟩ h;simp only [Nd.sz] at h;omega
 | succ N ih =>
  rintro ⟨k,s,l⟩ h ht
  simp only [Nd.sz] at h
  simp only [typB] at ht
  split at ht
  ·rename_i hk
   simp only [Bool.and_eq_true] at ht
   exact not_turned (by omega) (by omega) fun x hx=>by
    obtain ⟨i,hi,rfl⟩:=List.getElem_of_mem hx
    exact ih _ (by have:=szL_get l i hi;omega) ((typL_iff l).1 ht.2.2 i hi)
  ·simp only [Bool.and_eq_true,decide_eq_true_eq] at ht
   have hl:l=[]:=List.eq_nil_of_length_eq_zero ht.2.1
   subst hl
   exact not_turned (by omega) (by omega) fun x hx=>by simp at hx
theorem mem_one {P:Nd→Prop} {x:Nd} (h:P x):∀ y∈[x],P y:=fun y hy=>by rw [List.mem_singleton.1 hy];exact h
theorem mem_two {P:Nd→Prop} {x y:Nd} (h:P x) (h2:P y):∀ z∈[x,y],P z:=fun z hz=>by
 rcases List.mem_cons.1 hz with rfl | hz
 ·exact h
 ·rw [List.mem_singleton.1 hz];exact h2
theorem bind_form {s:ByteArray} {l:List Nd} (h:bindB s l=true):(∃ x,l=[x])∨∃ x y,l=[x,y]∧typB x=true:=by
 unfold bindB at h
 simp only [Bool.and_eq_true,Bool.or_eq_true,decide_eq_true_eq] at h
 rcases h.2 with h1 | ⟨h1,h2⟩
 ·match l,h1 with
  | [x],_=>exact .inl ⟨x,rfl⟩
 ·match l,h1,h2 with
  | [x,y],_,h2=>exact .inr ⟨x,y,rfl,h2⟩
theorem term_not:∀ (N:Nat) (t:Nd),t.sz≤N→termB t=true→turnedB t=false:=by
 intro N
 induction N with
 | zero=>rintro ⟨k,s,l⟩ h;simp only [Nd.sz] at h;omega
 | succ N ih =>
  rintro ⟨k,s,l⟩ h ht
  simp only [Nd.sz] at h
  simp only [termB] at ht
  split at ht
  ·rename_i hk
   simp only [Bool.and_eq_true] at ht
   exact not_turned (by omega) (by omega) fun x hx=>ih x (by have:=szL_mem hx;omega) (termL_mem ht.2.1 x hx)
  ·split at ht
   ·rename_i hk
    simp only [Bool.and_eq_true] at ht
    exact not_turned (by omega) (by omega) fun x hx=>ih x (by have:=szL_mem hx;omega) (termL_mem ht.2.1 x hx)
   ·simp only [Bool.and_eq_true,decide_eq_true_eq] at ht
    obtain ⟨rfl,hb,he⟩:=ht
    rcases bind_form hb with ⟨x,rfl⟩ | ⟨x,y,rfl,hx⟩
    ·simp only [termE,List.isEmpty_nil,if_true,Nd.szL] at he h
     exact not_turned (by decide) (by decide) (mem_one (P:=fun x=>turnedB x=false) (ih x (by omega) he))
    ·simp only [termE,List.isEmpty_cons,List.isEmpty_nil,if_true,Nd.szL] at he h
     exact not_turned (by decide) (by decide) (mem_two (P:=fun x=>turnedB x=false) (typ_not _ x (Nat.le_refl _) hx) (ih y (by omega) (by simpa using he)))
theorem ex2_of:∀ t:Nd,turnedB t=false→ex2 t:=by
 have:∀ (N:Nat) (t:Nd),t.sz≤N→turnedB t=false→ex2 t:=by
  intro N
  induction N with
  | zero=>rintro ⟨k,s,l⟩ h;simp only [Nd.sz] at h;omega
  | succ N ih =>
   rintro ⟨k,s,l⟩ h ht
   simp only [Nd.sz] at h
   simp only [turnedB,Bool.or_eq_false_iff,beq_eq_false_iff_ne] at ht
   simp only [ex2]
   exact ⟨fun e=>by omega,(ex2L_iff l).2 fun x hx=>ih x (by have:=szL_mem hx;omega) ((turnedL_iff l).1 ht.2 x hx)⟩
 exact fun t h=>this _ t (Nat.le_refl _) h
theorem ex2_mk {k:Int} {s:ByteArray} {l:List Nd} (h:k=27∨k=28→l.length=2) (hl:∀ x∈l,ex2 x):ex2 (.mk k s l):=by
 simp only [ex2]
 exact ⟨h,(ex2L_iff l).2 hl⟩
theorem noneB_nil:noneB ⟨#[]⟩=true:=by simp [noneB]
theorem form_plain:∀ (N:Nat) (t:Nd),t.sz≤N→formB t=true→ex2 t∧formB (plainN t)=true:=by
 intro N
 induction N with
 | zero=>rintro ⟨k,s,l⟩ h;simp only [Nd.sz] at h;omega
 | succ N ih =>
  rintro ⟨k,s,l⟩ h ht
  have ht0:=ht
  simp only [Nd.sz] at h
  simp only [formB] at ht
  split at ht
  ·have h1:=term_not _ _ (Nat.le_refl _) ht
   exact ⟨ex2_of _ h1,by rw [plain_id _ h1];exact ht0⟩
  ·rename_i hk15
   split at ht
   ·rename_i hk
    simp only [Bool.and_eq_true] at ht
    obtain ⟨hb,he⟩:=ht
    rcases bind_form hb with ⟨x,rfl⟩ | ⟨x,y,rfl,hx⟩
    ·simp only [formE,List.isEmpty_nil,if_true,Nd.szL] at he h
     obtain ⟨i1,i2⟩:=ih x (by omega) he
     refine ⟨ex2_mk (fun e=>by omega) (mem_one (P:=ex2) i1),?_⟩
     simp only [plainN,plainL]
     rw [turn_other _ _ (by omega) (by omega)]
     simp only [formB]
     rw [if_neg hk15,if_pos hk,Bool.and_eq_true]
     unfold bindB at hb ⊢
     simp only [formE,List.isEmpty_nil,if_true]
     exact ⟨by simpa using hb,i2⟩
    ·simp only [formE,List.isEmpty_cons,List.isEmpty_nil,if_true,Nd.szL] at he h
     obtain ⟨i1,i2⟩:=ih y (by omega) (by simpa using he)
     have n1:=typ_not _ x (Nat.le_refl _) hx
     refine ⟨ex2_mk (fun e=>by omega) (mem_two (P:=ex2) (ex2_of _ n1) i1),?_⟩
     simp only [plainN,plainL]
     rw [turn_other _ _ (by omega) (by omega),plain_id x n1]
     simp only [formB]
     rw [if_neg hk15,if_pos hk,Bool.and_eq_true]
     unfold bindB at hb ⊢
     simp only [formE,List.isEmpty_cons,List.isEmpty_nil,if_true,headTyp]
     simp only [headTyp] at hb
     exact ⟨by simpa using hb,by simpa using i2⟩
   ·rename_i hk18
    split at ht
    ·rename_i hk
     simp only [Bool.and_eq_true,decide_eq_true_eq] at ht
     have hl:l=[]:=List.eq_nil_of_length_eq_zero ht.2
     subst hl
     have n1:turnedB (.mk k s [])=false:=not_turned (by omega) (by omega) fun x hx=>by simp at hx
     exact ⟨ex2_of _ n1,by rw [plain_id _ n1];exact ht0⟩
    ·rename_i hk20
     split at ht
     ·rename_i hk
      simp only [Bool.and_eq_true,decide_eq_true_eq] at ht
      match l,ht.2.1,ht.2.2,h with
      | [x],_,hx,h =>
       simp only [formL,Nd.szL,Bool.and_true] at hx h
       obtain ⟨i1,i2⟩:=ih x (by omega) hx
       refine ⟨ex2_mk (fun e=>by omega) (mem_one (P:=ex2) i1),?_⟩
       simp only [plainN,plainL]
       rw [turn_other _ _ (by omega) (by omega)]
       simp only [formB]
       rw [if_neg hk15,if_neg hk18,if_neg hk20,if_pos hk]
       simp [ht.1,formL,i2]
     ·rename_i hk29
      simp only [Bool.and_eq_true,decide_eq_true_eq] at ht
      obtain ⟨hb,hs,h2,hf⟩:=ht
      match l,h2,hf,h with
      | [x,y],_,hf,h =>
       simp only [formL,Nd.szL,Bool.and_true,Bool.and_eq_true] at hf h
       obtain ⟨i1,i2⟩:=ih x (by omega) hf.1
       obtain ⟨j1,j2⟩:=ih y (by omega) hf.2
       have hex:ex2 (.mk k s [x,y]):=ex2_mk (fun _=>rfl) (mem_two (P:=ex2) i1 j1)
       refine ⟨hex,?_⟩
       simp only [isBinary,Bool.and_eq_true,decide_eq_true_eq] at hb
       rcases plain_cases k s [x,y] hex with ⟨a,b,e,hk,e2⟩ | ⟨n1,n2,e2⟩
       ·cases e
        rw [e2]
        simp only [formB]
        rw [if_neg (by omega),if_neg (by omega),if_neg (by omega),if_neg (by omega)]
        have hb2:isBinary (k - 2)=true:=by simp only [isBinary,Bool.and_eq_true,decide_eq_true_eq];omega
        simp [hb2,noneB_nil,formL,i2,j2]
       ·rw [e2]
        simp only [formB]
        rw [if_neg hk15,if_neg hk18,if_neg hk20,if_neg hk29]
        have hb2:isBinary k=true:=by simp only [isBinary,Bool.and_eq_true,decide_eq_true_eq];omega
        simp [hb2,hs,plainL,formL,i2,j2]
theorem lone_not {t:Nd} (h:loneB t=true):turnedB t=false:=by
 obtain ⟨k,s,l⟩:=t
 simp only [loneB,Bool.and_eq_true,decide_eq_true_eq] at h
 have hl:l=[]:=List.eq_nil_of_length_eq_zero h.2.1
 subst hl
 exact not_turned (by omega) (by omega) fun x hx=>by simp at hx
theorem mode_not {t:Nd} (h:modeB t=true):turnedB t=false:=by
 obtain ⟨k,s,rfl⟩:=modeB_leaf h
 simp only [modeB,Bool.and_eq_true,decide_eq_true_eq] at h
 exact not_turned (by omega) (by omega) fun x hx=>by simp at hx
theorem item_plain {t:Nd} (h:itemB t=true):ex2 t∧itemB (plainN t)=true:=by
 obtain ⟨k,s,l⟩:=t
 have key:turnedB (.mk k s l)=false→ex2 (.mk k s l)∧itemB (plainN (.mk k s l))=true:=fun n=>⟨ex2_of _ n,by rw [plain_id _ n];exact h⟩
 have h0:=h
 simp only [itemB] at h
 split at h
 ·rename_i hk
  simp only [Bool.and_eq_true] at h
  exact key (not_turned (by omega) (by omega) fun x hx=>by
   obtain ⟨i,hi,rfl⟩:=List.getElem_of_mem hx
   exact lone_not ((nameL_iff l).1 h.2.2 i hi))
 ·split at h
  ·rename_i hk
   simp only [Bool.and_eq_true,decide_eq_true_eq] at h
   refine key (not_turned (by omega) (by omega) fun x hx=>?_)
   obtain ⟨i,hi,rfl⟩:=List.getElem_of_mem hx
   by_cases hlast:i+1=l.length
   ·have:=h.2.2.2
    rw [typE_get (by omega)] at this
    have e:l[l.length - 1]'(by omega)=l[i]:=by congr 1;omega
    rw [e] at this
    exact typ_not _ _ (Nat.le_refl _) this
   ·have:=(nameL_iff _).1 h.2.2.1 i (by rw [List.length_take];omega)
    rw [List.getElem_take] at this
    exact lone_not this
  ·rename_i hk2 hk3
   simp only [Bool.and_eq_true] at h
   obtain ⟨hs,h⟩:=h
   split at h
   ·rename_i hk
    simp only [Bool.and_eq_true] at h
    exact key (not_turned (by omega) (by omega) fun x hx=>by
     obtain ⟨i,hi,rfl⟩:=List.getElem_of_mem hx
     exact typ_not _ _ (Nat.le_refl _) ((typL_iff l).1 h.1 i hi))
   ·rename_i hk4
    split at h
    ·rename_i hk
     simp only [Bool.and_eq_true] at h
     exact key (not_turned (by omega) (by omega) fun x hx=>by
      obtain ⟨i,hi,rfl⟩:=List.getElem_of_mem hx
      exact mode_not ((modeL_iff l).1 h.1 i hi))
    ·rename_i hk7
     split at h
     ·rename_i hk
      simp only [Bool.and_eq_true,decide_eq_true_eq] at h
      match l,h.1,h.2 with
      | [x],_,hx =>
       simp only [formL,Bool.and_true] at hx
       obtain ⟨i1,i2⟩:=form_plain _ x (Nat.le_refl _) hx
       refine ⟨ex2_mk (fun e=>by omega) (mem_one (P:=ex2) i1),?_⟩
       simp only [plainN,plainL]
       rw [turn_other _ _ (by omega) (by omega)]
       simp only [itemB]
       rw [if_neg hk2,if_neg hk3,if_neg hk4,if_neg hk7,if_pos hk]
       simp [hs,formL,i2]
     ·rename_i hk8
      split at h
      ·rename_i hk
       simp only [decide_eq_true_eq] at h
       have hl:l=[]:=List.eq_nil_of_length_eq_zero h
       subst hl
       exact key (not_turned (by omega) (by omega) fun x hx=>by simp at hx)
      ·cases h
theorem items_plain:∀ l:List Nd,itemL l=true→ex2L l∧itemL (plainL l)=true
 | [],_=>by simp [ex2L,plainL,itemL]
 | a :: l,h=>by
  simp only [itemL,Bool.and_eq_true] at h
  have h1:=item_plain h.1
  have h2:=items_plain l h.2
  simp only [ex2L,plainL,itemL,Bool.and_eq_true]
  exact ⟨⟨h1.1,h2.1⟩,h1.2,h2.2⟩
theorem valid_plain {t:Nd} (h:chkN t=0):ex2 t∧chkN (plainN t)=0:=by
 have main:ex2 t∧(typB (plainN t) || (termB (plainN t) || (formB (plainN t) || (itemB (plainN t) || textB (plainN t)))))=true:=by
  unfold chkN at h
  split at h
  ·cases h
  ·split at h
   ·cases h
   ·split at h
    ·rename_i hv
     simp only [Bool.or_eq_true] at hv
     rcases hv with h | h | h | h | h
     ·have n:=typ_not _ t (Nat.le_refl _) h
      exact ⟨ex2_of _ n,by rw [plain_id _ n,h];rfl⟩
     ·have n:=term_not _ t (Nat.le_refl _) h
      exact ⟨ex2_of _ n,by rw [plain_id _ n,h];simp⟩
     ·obtain ⟨i1,i2⟩:=form_plain _ t (Nat.le_refl _) h
      exact ⟨i1,by rw [i2];simp⟩
     ·obtain ⟨i1,i2⟩:=item_plain h
      exact ⟨i1,by rw [i2];simp⟩
     ·obtain ⟨k,s,l⟩:=t
      simp only [textB,Bool.and_eq_true,decide_eq_true_eq] at h
      obtain ⟨rfl,hs,hl⟩:=h
      obtain ⟨i1,i2⟩:=items_plain l hl
      refine ⟨by simp only [ex2];exact ⟨fun e=>by omega,i1⟩,?_⟩
      simp only [plainN]
      rw [turn_other _ _ (by decide) (by decide)]
      have e:textB (.mk 1 s (plainL l))=true:=by simp [textB,hs,i2]
      rw [e]
      simp
    ·cases h
 refine ⟨main.1,?_⟩
 have f:=plain_facts t main.1
 unfold chkN at h ⊢
 rw [f.1,f.2.1]
 split at h
 ·cases h
 ·rename_i h4
  split at h
  ·cases h
  ·rename_i h5
   rw [if_neg h4,if_neg h5,if_pos main.2]
end Go.Proofs.YtcimcjmdkjajfaaGreatDoor
namespace Go.Proofs.YtcimcjmdkjajfaaGreatDoor
def hit (kind:Int) (s:ByteArray) (x:It):Prop:=x.t.k'=kind∧x.fr=true∧x.t.s'=s
theorem occ_mem (kind:Int) (out:List ByteArray) (x:It) (s:ByteArray):s∈occ kind out x↔s∈out∨hit kind s x:=by
 unfold occ hit
 by_cases hk:x.t.k'=kind
 ·by_cases hf:x.fr=true
  ·by_cases hc:Lib.containsS out x.t.s'=true
   ·have hm:=(Lib.containsS_iff _ _).1 hc
    rw [if_neg (by simp [hc])]
    constructor
    ·exact fun h=>.inl h
    ·rintro (h | ⟨_,_,rfl⟩)
     ·exact h
     ·exact hm
   ·rw [if_pos (by simp [hk,hf,hc]),List.mem_append,List.mem_singleton]
    constructor
    ·rintro (h | h)
     ·exact .inl h
     ·exact .inr ⟨hk,hf,h.symm⟩
    ·rintro (h | ⟨_,_,h⟩)
     ·exact .inl h
     ·exact .inr h.symm
  ·rw [if_neg (by simp [hf])]
   constructor
   ·exact fun h=>.inl h
   ·rintro (h | ⟨_,h,_⟩)
    ·exact h
    ·exact absurd h hf
 ·rw [if_neg (by simp [hk])]
  constructor
  ·exact fun h=>.inl h
  ·rintro (h | ⟨h,_⟩)
   ·exact h
   ·exact absurd h hk
theorem fold_mem (kind:Int) (s:ByteArray):∀ (its:List It) (out:List ByteArray),s∈its.foldl (occ kind) out↔s∈out∨∃ x∈its,hit kind s x
 | [],out=>by simp
 | a :: l,out=>by
  rw [List.foldl_cons,fold_mem kind s l,occ_mem,or_assoc]
  simp only [List.mem_cons,or_and_right,exists_or,exists_eq_left]
theorem hit_head {kind:Int} (hk:kind=15∨kind=16) {s:ByteArray} {k:Int} (h:k=25∨k=26∨k=27∨k=28) (d:Nat) (ins:List ByteArray) (wd:Bool) (s':ByteArray) (l:List Nd):¬ hit kind s ⟨d,ins,wd,.mk k s' l⟩:=by
 rintro ⟨h1,_⟩
 have h1:k=kind:=h1
 omega
theorem preL_hit {kind:Int} {s:ByteArray} (il:List ByteArray):∀ (l:List Nd) (d d':Nat) (ins:List ByteArray) (wd:Bool),(∀ a∈l,∀ (d d':Nat) (ins:List ByteArray) (wd:Bool),(∃ x∈preN d ins wd a,hit kind s x)↔∃ x∈preN d' ins wd (plainN a),hit kind s x) →
  ((∃ x∈preL d ins il wd l,hit kind s x)↔∃ x∈preL d' ins il wd (plainL l),hit kind s x)
 | [],_,_,_,_,_=>by simp [preL,plainL]
 | a :: l,d,d',ins,wd,h=>by
  have h1:=h a (by simp) d d' (if l.isEmpty then il else ins) wd
  have h2:=preL_hit il l d d' ins wd fun x hx=>h x (by simp [hx])
  have he:(plainL l).isEmpty=l.isEmpty:=by
   rw [Bool.eq_iff_iff,List.isEmpty_iff,List.isEmpty_iff,←List.length_eq_zero_iff,plainL_length,List.length_eq_zero_iff]
  simp only [preL,plainL,List.mem_append,or_and_right,exists_or]
  rw [he,h1,h2]
theorem plain_hit {kind:Int} (hk:kind=15∨kind=16) (s:ByteArray):∀ (N:Nat) (t:Nd),t.sz≤N→ex2 t→∀ (d d':Nat) (ins:List ByteArray) (wd:Bool),(∃ x∈preN d ins wd t,hit kind s x)↔∃ x∈preN d' ins wd (plainN t),hit kind s x:=by
 intro N
 induction N with
 | zero=>rintro ⟨k,s',l⟩ h;simp only [Nd.sz] at h;omega
 | succ N ih =>
  rintro ⟨k,s',l⟩ h ht d d' ins wd
  simp only [Nd.sz] at h
  have hl:∀ a∈l,∀ (d d':Nat) (ins:List ByteArray) (wd:Bool),(∃ x∈preN d ins wd a,hit kind s x)↔∃ x∈preN d' ins wd (plainN a),hit kind s x:=by
   intro a ha
   simp only [ex2] at ht
   exact ih a (by have:=szL_mem ha;omega) ((ex2L_iff l).1 ht.2 a ha)
  rcases plain_cases k s' l ht with ⟨a,b,rfl,hk2,e⟩ | ⟨h1,h2,e⟩
  ·rw [e]
   have ha:=hl a (by simp) (d+1) (d'+1) ins false
   have hb:=hl b (by simp) (d+1) (d'+1) ins false
   have b1:bindK k=false:=by rcases hk2 with rfl | rfl <;> rfl
   have b2:bindK (k - 2)=false:=by rcases hk2 with rfl | rfl <;> rfl
   have b3:(k==7)=false:=by rw [beq_eq_false_iff_ne];omega
   have b4:(k - 2==7)=false:=by rw [beq_eq_false_iff_ne];omega
   have n1:=hit_head hk (s:=s) (k:=k) (by omega) d ins wd s' [a,b]
   have n2:=hit_head hk (s:=s) (k:=k - 2) (by omega) d' ins wd ⟨#[]⟩ [plainN b,plainN a]
   simp only [preN,preL,b1,b2,b3,b4,List.isEmpty_cons,List.isEmpty_nil,List.append_nil,List.mem_cons,List.mem_append,or_and_right,exists_or,exists_eq_left,n1,n2,false_or,if_true,Bool.false_eq_true,if_false]
   rw [ha,hb]
   exact Or.comm
  ·rw [e]
   have hh:=preL_hit (kind:=kind) (s:=s) (if bindK k then ins++[s'] else ins) l (d+1) (d'+1) ins (k==7) hl
   simp only [preN,List.mem_cons,or_and_right,exists_or,exists_eq_left]
   rw [hh]
   exact Iff.rfl
theorem plain_names {t:Nd} (h:chkN t=0) {kind:Int} (hk:kind=15∨kind=16) (s:ByteArray):s∈occs kind (preN 0 [] false t)↔s∈occs kind (preN 0 [] false (plainN t)):=by
 unfold occs
 rw [fold_mem,fold_mem,plain_hit hk s _ t (Nat.le_refl _) (valid_plain h).1 0 0 [] false]
end Go.Proofs.YtcimcjmdkjajfaaGreatDoor
namespace Go.Proofs.YtcimcjmdkjajfaaGreatDoor
open Go.RowKit Go.Shelf
theorem rowS_cells {n₁:Nat} {w:World} {a:Option Addr} {n c:Nat} {ss:List ByteArray} (h:RowS n₁ w (.slice a n c) ss) :
  n=ss.length∧(ss=[]∨∃ g,a=some ⟨g,0,none⟩∧∀ j,j < ss.length→w.cell? ⟨g,0+j,none⟩=some (.string (ss.getD j ByteArray.empty))):=by
 have h':w.ownsRow n₁ 9 1 (.slice a n c) (ss.map Value.string).length (ss.map Value.string):=h
 obtain ⟨a',c',e⟩:=row_shape h'
 cases e
 refine ⟨by simp,?_⟩
 rcases h'.2 with ⟨_,h0⟩ | ⟨g,cap,cur,hv,_⟩
 ·left
  simpa using h0
 ·right
  cases hv
  refine ⟨g,rfl,fun j hj=>?_⟩
  have hc:=h'.cells (g:=g) rfl j (.string (ss.getD j ByteArray.empty)) (by
   rw [List.getElem?_map,List.getD_eq_getElem?_getD,List.getElem?_eq_getElem hj]
   rfl)
  have hadd:(⟨g,0,none⟩:Addr).add j=⟨g,0+j,none⟩:=by unfold Addr.add;split <;> simp_all
  rwa [hadd] at hc
theorem containsS_nil (x:ByteArray):Lib.containsS [] x=false:=by
 rw [←Bool.not_eq_true,Lib.containsS_iff]
 simp
theorem contains_row {n₁:Nat} (w:World) (a:Option Addr) (n c:Nat) (ss:List ByteArray) (x:ByteArray) (h:RowS n₁ w (.slice a n c) ss) (hl:ss.length≤9000000000000000000) :
  Calls Tryz.prog 76 #[.slice a n c,.string x] w fun e w'=>e = .returned (.bool (Lib.containsS ss x))∧w'=w:=by
 obtain ⟨rfl,h0 | ⟨g,rfl,hc⟩⟩:=rowS_cells h
 ·subst h0
  rw [containsS_nil]
  exact Tryz.slices_Contains_string_empty a c x w
 ·refine (Tryz.slices_Contains_string g 0 ss.length c ss x w (Nat.le_refl _) (by omega) hc).mono ?_
  rintro e w' ⟨rfl,rfl⟩
  rw [List.take_of_length_le (Nat.le_refl _)]
  exact ⟨rfl,rfl⟩
set_option maxRecDepth 100000 in
set_option maxHeartbeats 1000000 in
theorem frees_any (n₁:Nat) (ap ai:Option Addr) (np cp ni ci:Nat) (wd:Bool) (k:Int) (s:ByteArray) (a:Option Addr) (n cap:Nat) (ss:List ByteArray) (w:World) (hi:RowS n₁ w (.slice ai ni ci) ss) (hl:ss.length≤90000) :
  Calls Tryz.prog 75 #[.agg #[.slice ap np cp,.slice ai ni ci,.bool wd],.agg #[.int .i64 k,.string s,.slice a n cap]] w fun e w'=>e = .returned (.bool ((k==15 || k==16) && (!wd && !Lib.containsS ss s)))∧Below w.heap.size w w':=by
 obtain ⟨W,hW⟩:∃ W,(w.alloc (.cells #[.slice ap np cp,.slice ai ni ci,.bool wd] 88)).alloc (.cells #[.int .i64 k,.string s,.slice a n cap] 24)=W:=⟨_,rfl⟩
 have hb:Below w.heap.size w W:=by rw [←hW];exact ((Below.refl _ w).alloc (Nat.le_refl _) _).alloc (by simp) _
 have hi2:RowS n₁ W (.slice ai ni ci) ss:=row_keep hi fun g e=>hb.block g (World.ownsRow.lt hi g e).2
 have CC:=qh (contains_row W ai ni ci ss s hi2 (by omega))
 obtain ⟨V,hV⟩:∃ V,Lib.containsS ss s=V:=⟨_,rfl⟩
 rw [hV] at CC ⊢
 have HB:=qh hb
 have HW:=qh hW
 have hA:RowP W w.heap.size (.slice ap np cp) (.slice ai ni ci) (.bool wd):=by rw [←hW];exact (Below.heap_alloc _ _ _ (by simp only [World.size_alloc];omega)).trans (World.alloc_heap_new _ _)
 have hN:Row3 W (w.heap.size+1) (.int .i64 k) (.string s) (.slice a n cap):=by rw [←hW];exact alloc_at (by simp)
 obtain ⟨⟨p0,p1,p2⟩,_⟩:=hA.cells
 obtain ⟨⟨n0,n1,n2⟩,_⟩:=hN.cells
 obtain ⟨X,hX⟩:∃ X,(k==15 || k==16)=X:=⟨_,rfl⟩
 rw [hX]
 have HX:=qh hX
 clear hV hb hW hi hi2 hA hN hX hl
 cases h15:(k==15) with
 | true =>
  have HE:Hid (X=true):=qh (by rw [←HX.out,h15];rfl)
  clear HX
  cases wd with
  | true =>
   go_enter Tryz.func75,Tryz.ntmps75
   go_upto_region 1 with fail
   rw [HW.out]
   go_wp2
   go_ret
   exact ⟨by rw [HE.out];rfl,HB.out⟩
  | false =>
   go_enter Tryz.func75,Tryz.ntmps75
   go_upto_region 1 with fail
   rw [HW.out]
   go_wp2_with fail
   refine CC.out.mono ?_
   rintro e w1 ⟨rfl,rfl⟩
   go_wp2
   go_ret
   exact ⟨by rw [HE.out];rfl,HB.out⟩
 | false =>
  cases h16:(k==16) with
  | true =>
   have HE:Hid (X=true):=qh (by rw [←HX.out,h15,h16];rfl)
   clear HX
   cases wd with
   | true =>
    go_enter Tryz.func75,Tryz.ntmps75
    go_upto_region 1 with fail
    rw [HW.out]
    go_wp2
    go_ret
    exact ⟨by rw [HE.out];rfl,HB.out⟩
   | false =>
    go_enter Tryz.func75,Tryz.ntmps75
    go_upto_region 1 with fail
    rw [HW.out]
    go_wp2_with fail
    refine CC.out.mono ?_
    rintro e w1 ⟨rfl,rfl⟩
    go_wp2
    go_ret
    exact ⟨by rw [HE.out];rfl,HB.out⟩
  | false =>
   have HE:Hid (X=false):=qh (by rw [←HX.out,h15,h16];rfl)
   clear HX
   go_enter Tryz.func75,Tryz.ntmps75
   go_upto_region 1 with fail
   rw [HW.out]
   go_wp2
   go_ret
   exact ⟨by rw [HE.out];rfl,HB.out⟩
end Go.Proofs.YtcimcjmdkjajfaaGreatDoor
namespace Go.Proofs.YtcimcjmdkjajfaaGreatDoor
open Go.RowKit
set_option maxRecDepth 100000 in
set_option maxHeartbeats 2000000 in
theorem rTurned (n:Nat):∀ (t:Nd) (w:World) (v0 v1 v2:Value),t.sz≤n→turnedB t=false→NdR w t v0 v1 v2 →
  Calls Tryz.prog 38 #[.agg #[v0,v1,v2]] w fun e w'=>e = .returned (.bool false)∧Below w.heap.size w w':=by
 induction n with
 | zero=>intro t w v0 v1 v2 h;cases t;simp only [Nd.sz] at h;omega
 | succ n ih =>
  intro t w v0 v1 v2 hsz htu ht
  obtain ⟨k,s,l,a,cap,rfl,rfl,rfl,rfl,hs,hl⟩:=ht.form
  have IH:=qh ih
  clear ih
  unfold maxLen at hl
  simp only [turnedB,Bool.or_eq_false_iff] at htu
  obtain ⟨⟨h27,h28⟩,hlt⟩:=htu
  have HL:=qh ((turnedL_iff l).1 hlt)
  have HT:=qh ht
  have Hsz:Hid (∀ i,(h:i < l.length)→(l[i]).sz≤n):=qh fun i h=>by have:=Nd.kid_lt k s l i h;omega
  clear ht hsz hlt
  go_enter Tryz.func38,Tryz.ntmps38
  go_wp2
  obtain ⟨h,hh⟩:∃ h,w.heap.size=h:=⟨_,rfl⟩
  obtain ⟨wz,hwz⟩:∃ wz,w.alloc (Obj.cells #[Value.int IntKind.i64 k,Value.string s,Value.slice a l.length cap] 24)=wz:=⟨_,rfl⟩
  have hB:Hid (Below w.heap.size w wz):=qh (by rw [←hwz];exact (Below.refl _ w).alloc (Nat.le_refl _) _)
  have hz:wz.heap.size=h+1:=by rw [←hwz];simp [hh]
  have g0:wz.cell? ⟨h,2,none⟩=some (.slice a l.length cap):=by
   rw [←hwz,←hh];exact (World.cell?_alloc_at _ _ _ _ rfl).trans rfl
  have HG0:=qh g0
  have Hz:=qh hz
  have HTz:=qh (HT.out.later hB.out)
  rw [hwz,hh]
  clear hwz hh hz g0 HT
  go_loopw [3] (fun v3 wr=>∃ i:Nat,i≤l.length∧v3 = .int .i64 (i:Int)∧Hid (Below wz.heap.size wz wr)) (fun v3 _=>l.length - (intOf v3).toNat)
  case atStart=>exact ⟨0,Nat.zero_le _,rfl,Below.refl _ _⟩
  case round =>
   obtain ⟨i,hi,rfl,hbl⟩:=hrel
   have g0:=(hbl.out.cell (p:=⟨h,2,none⟩) (by have:=Hz.out;simp only;omega)).trans HG0.out
   by_cases hlt:i < l.length
   ·have hlt':(i:Int) < (l.length:Int):=by omega
    have hi0:(0:Int)≤(i:Int):=by omega
    obtain ⟨b,o,k1,s1,l1,a1,c1,rfl,e1,x0,x1,x2,r1⟩:=(HTz.out.later hbl.out).kid i hlt
    have hn:=HL.out l[i] (List.getElem_mem hlt)
    have hsz1:=Hsz.out i hlt
    rw [e1] at hn hsz1
    have C:=qh (IH.out (.mk k1 s1 l1) wr _ _ _ hsz1 hn r1)
    clear e1 r1 hn hsz1
    go_wp2_with fail
    refine C.out.mono ?_
    clear C
    rintro e w5 ⟨rfl,hb5⟩
    have Hb5:Hid (Below wz.heap.size wz w5):=qh (hbl.out.trans (hb5.mono hbl.out.size))
    clear hb5 x0 x1 x2 g0
    go_wp2
    go_roundw
    case rel=>exact ⟨i+1,hlt,by push_cast;rfl,Hb5⟩
    case measure=>simp [intOf];omega
   ·have hlt':¬ ((i:Int) < (l.length:Int)):=by omega
    go_wp2
    go_ret
    exact ⟨rfl,hB.out.trans (hbl.out.mono hB.out.size)⟩
theorem anyEq_of {L:List ByteArray} {s:ByteArray} (h:s∈L):anyEq L s=true:=by
 unfold anyEq
 rw [List.any_eq_true]
 exact ⟨s,h,by simp⟩
theorem strSl_row {n₁:Nat} {w:World} {v:Value} {ss:List ByteArray} (h:RowS n₁ w v ss):StrSl w v ss:=by
 obtain ⟨a,c,e⟩:=row_shape (show w.ownsRow n₁ 9 1 v (ss.map Value.string).length (ss.map Value.string) from h)
 rw [List.length_map] at e
 subst e
 obtain ⟨_,h0⟩:=rowS_cells h
 refine ⟨a,c,rfl,fun hne=>?_⟩
 rcases h0 with rfl | ⟨g,rfl,hc⟩
 ·exact absurd rfl hne
 ·refine ⟨g,0,rfl,fun i hi=>?_⟩
  rw [hc i hi,List.getD_eq_getElem?_getD,List.getElem?_eq_getElem hi]
  rfl
set_option maxRecDepth 100000 in
set_option maxHeartbeats 1000000 in
theorem rWithin (va vb:Value) (A B:List ByteArray) (w:World) (ha:StrSl w va A) (hb:StrSl w vb B) (hA:A.length≤1000000) (hB:B.length≤1000000) (h:∀ s∈A,s∈B) :
  Calls Tryz.prog 35 #[va,vb] w fun e w'=>e = .returned (.bool true)∧w'=w:=by
 have CI:=qh (fun s=>rIndex vb B s w hb hB)
 obtain ⟨a,ca,rfl,hca⟩:=ha
 have HH:=qh h
 clear hb h
 go_enter Tryz.func35,Tryz.ntmps35
 go_wp2
 go_loopw [5] (fun v wr=>∃ k:Nat,k≤A.length∧v = .int .i64 k∧w=wr) (fun v _=>A.length - (intOf v).toNat)
 case atStart=>exact ⟨0,Nat.zero_le _,rfl,rfl⟩
 case round =>
  obtain ⟨k,hk,rfl,rfl⟩:=hrel
  by_cases hlt:k < A.length
  ·have hlt':(k:Int) < (A.length:Int):=by omega
   obtain ⟨b,o,rfl,hc⟩:=hca (by rintro rfl;simp at hlt)
   have x0:=hc k hlt
   have hin:=anyEq_of (HH.out _ (List.getElem_mem hlt))
   obtain ⟨X,hX⟩:∃ X,A[k]=X:=⟨_,rfl⟩
   rw [hX] at x0 hin
   clear hca hc hX
   go_wp2_with fail
   refine (CI.out X).mono ?_
   rintro e w' ⟨⟨n,rfl,hn⟩,rfl⟩
   rw [hin,decide_eq_true_eq] at hn
   have hn':¬ (n < 0):=by omega
   clear CI hin
   go_wp2
   go_roundw
   case rel=>exact ⟨k+1,hlt,by push_cast;rfl,by trivial⟩
   case measure=>simp [intOf];omega
  ·have hlt':¬ ((k:Int) < (A.length:Int)):=by omega
   clear hca
   go_wp2
   go_ret
   exact ⟨rfl,rfl⟩
end Go.Proofs.YtcimcjmdkjajfaaGreatDoor
namespace Go.Proofs.YtcimcjmdkjajfaaGreatDoor
open Go.RowKit Go.Shelf
attribute [local go_sem] Oper.semAt_some
set_option maxRecDepth 100000 in
set_option maxHeartbeats 1000000 in
theorem plainTree_any (t:Nd) (v0 v1 v2:Value) (w:World) (ht:NdR w t v0 v1 v2) (er:Int) (tr:Nd) (hc:chkN t=er) (hA:(er≠0∧tr=zeroN)∨(er=0∧tr=plainN t)) :
  Calls Tryz.prog 27 #[.agg #[v0,v1,v2]] w (PR er tr w):=by
 obtain ⟨k0,s0,l0,a0,c0,rfl,rfl,rfl,rfl,_,_⟩:=ht.form
 obtain ⟨H,hH⟩:∃ H,w.heap.size=H:=⟨_,rfl⟩
 obtain ⟨W2,hW2⟩:∃ W2,(w.alloc (.cells #[.int .i64 k0,.string s0,.slice a0 l0.length c0] 24)).alloc (.cells #[.int .i64 0,.string ⟨#[]⟩,.slice none 0 0] 24)=W2:=⟨_,rfl⟩
 have z2:W2.heap.size=H+1+1:=by rw [←hW2];simp [hH]
 have B2:Below H w W2:=by rw [←hW2,←hH];exact ((Below.refl _ w).alloc (Nat.le_refl _) _).alloc (by simp) _
 have N2:Row3 W2 H (.int .i64 k0) (.string s0) (.slice a0 l0.length c0):=by
  rw [←hW2,←hH];exact (Below.heap_alloc _ _ _ (by simp)).trans (World.alloc_heap_new _ _)
 have R2:Row3 W2 (H+1) (.int .i64 0) (.string ⟨#[]⟩) (.slice none 0 0):=by rw [←hW2,←hH];exact alloc_at (by simp)
 have CK:=qh (check_tree _ W2 _ _ _ (ht.later (by rw [hH];exact B2)))
 rw [hc] at CK
 have HT:=qh ht
 have HC:=qh hc
 have HH:=qh hH
 have HZ:=qh z2
 have HAS:=qh hA
 have HB2:=qh B2
 have HN2:=qh N2
 have HR2:=qh R2
 obtain ⟨⟨n0,n1,n2⟩,_⟩:=N2.cells
 clear ht hc hA B2 N2 R2
 go_enter Tryz.func27,Tryz.ntmps27
 go_upto_region 1 with fail
 (try rw [hW2])
 (try rw [HH.out])
 clear hW2
 go_wp2_with fail
 refine CK.out.mono ?_
 rintro e w3 ⟨rfl,b3⟩
 have zz:=HZ.out
 have N3:Row3 w3 H (.int .i64 k0) (.string s0) (.slice a0 l0.length c0):=HN2.out.below b3 HN2.out.lt
 have R3:Row3 w3 (H+1) (.int .i64 0) (.string ⟨#[]⟩) (.slice none 0 0):=HR2.out.below b3 HR2.out.lt
 have HB3:=qh (HB2.out.trans (b3.mono (by omega)))
 have hz3:H+1+1≤w3.heap.size:=by have:=b3.size;omega
 obtain ⟨⟨n0',n1',n2'⟩,_⟩:=N3.cells
 obtain ⟨⟨r0,r1,r2⟩,q0,q1,q2⟩:=R3.cells
 have HR3:=qh R3
 clear n0 n1 n2 N3 R3 CK HN2 HR2 HB2
 by_cases hc0:er=0
 ·subst hc0
  have hE:Hid (tr=plainN (.mk k0 s0 l0)):=qh (by
   rcases HAS.out with h | h
   ·exact absurd rfl h.1
   ·exact h.2)
  have hf:=plain_sm _ (valid_facts HC.out).1
  have hsz:=chk_sz HC.out
  have RB:=qh (rebuild_any 84 #[] w3 (fun _=>True) (fun _ _ _ t=>PPl t) (fun _ _ _ t=>chPl t) (fun _ _=>rfl) (fun _ _ _ _=>trivial) (fun n₁ H A vp vi v0 v1 v2 ps ins wd t _ _ h3 _ h5 h6 _ _ h9 h10=>plain1_all n₁ H A vp vi v0 v1 v2 ps ins wd t h3 h5 h6 (fun g e=>(World.ownsRow.lt h5 g e).2) (fun g e=>(World.ownsRow.lt h6 g e).2) h9 h10) _ _ (bld_plain _ (.mk k0 s0 l0) (Nat.le_refl _) (valid_okPl HC.out) [] [] false) _ _ _ trivial (HT.out.later (by rw [HH.out];exact HB3.out)) (by omega) hf.1)
  clear hf hsz r0 r1 r2 q0 q1 q2
  go_wp2_with fail
  refine RB.out.mono ?_
  rintro e w6 ⟨u0,u1,u2,rfl,t6,b6⟩
  obtain ⟨_,_,_,a6,c6,e6,rfl,rfl,rfl,_,_⟩:=t6.form
  have R6:Row3 w6 (H+1) (.int .i64 0) (.string ⟨#[]⟩) (.slice none 0 0):=HR3.out.below b6 HR3.out.lt
  have HR6:=qh R6
  have HB6:=qh (HB3.out.trans (b6.mono (show H≤w3.heap.size by omega)))
  have T6:=qh t6
  obtain ⟨⟨r0,r1,r2⟩,q0,q1,q2⟩:=R6.cells
  clear R6 b6 t6 RB n0' n1' n2'
  go_wp2
  refine ret_node2 (HR6.out.put _ _ _) rfl rfl rfl rfl ?_
  rw [hE.out]
  refine ⟨_,_,_,rfl,(T6.out.keep (S':=fun _=>True) (fun b (h1:w3.heap.size≤b) _=>⟨?_,trivial⟩)).toR,by rw [HH.out];exact below_put3 HB6.out (by omega) _ _ _⟩
  exact (Below.heap_setCell _ _ _ _ (by simp only;omega)).trans ((Below.heap_setCell _ _ _ _ (by simp only;omega)).trans (Below.heap_setCell _ _ _ _ (by simp only;omega)))
 ·have hc1:(er==0)=false:=by simp [hc0]
  have hE:Hid (tr=zeroN):=qh (by
   rcases HAS.out with h | h
   ·exact h.2
   ·exact absurd h.1 hc0)
  clear n0' n1' n2'
  go_wp2
  refine ret_node2 (HR3.out.put _ _ _) rfl rfl rfl rfl ?_
  rw [hE.out]
  exact ⟨_,_,_,rfl,zero_ndr _,by rw [HH.out];exact below_put3 HB3.out (by omega) _ _ _⟩
end Go.Proofs.YtcimcjmdkjajfaaGreatDoor
namespace Go.Proofs.YtcimcjmdkjajfaaGreatDoor
open Go.RowKit Go.Shelf
def mapOf (out:List ByteArray):List (List UInt8×Value):=out.map fun s=>(bs s,.bool true)
theorem S_bs (s:ByteArray):S_ (bs s) = .string s:=rfl
theorem found_map (out:List ByteArray) (s:ByteArray):found (mapOf out) (bs s)=if Lib.containsS out s=true then some (.bool true) else none:=by
 unfold found mapOf
 rw [List.find?_map]
 by_cases h:s∈out
 ·rw [if_pos ((Lib.containsS_iff _ _).2 h)]
  cases hf:out.find? ((fun p:List UInt8×Value=>p.1==bs s)∘fun s=>(bs s,Value.bool true)) with
  | none =>
   rw [List.find?_eq_none] at hf
   have:=hf s h
   simp at this
  | some x=>rfl
 ·rw [if_neg (fun e=>h ((Lib.containsS_iff _ _).1 e))]
  cases hf:out.find? ((fun p:List UInt8×Value=>p.1==bs s)∘fun s=>(bs s,Value.bool true)) with
  | none=>rfl
  | some x =>
   have h1:=List.mem_of_find?_eq_some hf
   have h2:=List.find?_some hf
   simp only [Function.comp_apply,beq_iff_eq] at h2
   rw [bs_inj h2] at h1
   exact absurd h1 h
theorem run_lookup_one {P:Program} {w:World} {t k e:TypeId} (ht:P.underlying t=some (.map k e)) (hk:P.underlying k=some .string) {z:Value} (hz:(zeroValue e).run P w = .ok z w) {b:Nat} {L:List (List UInt8×Value)} (hm:StrMap w b L) (s:List UInt8) :
  (Instr.lookup t (.map (some b)) (S_ s) false).run P w = .ok ((found L s).getD z) w:=by
 obtain ⟨es,c,h1,h2⟩:=hm
 obtain ⟨r,h3,h4⟩:=findNow_str s es.toList L 0 h2
 unfold S_ at h3 ⊢
 cases r with
 | none =>
  have h5:found L s=none:=by rw [←h4];rfl
  simp [Instr.lookup,run_underlying ht,MapKept.run_getObj_map h1,checkStr,hk,run_underlying hk,Instr.findKey,h3,hz,Result.andThen,h5]
 | some p =>
  have h5:found L s=some p.2:=by rw [←h4];rfl
  simp [Instr.lookup,run_underlying ht,MapKept.run_getObj_map h1,checkStr,hk,run_underlying hk,Instr.findKey,h3,Result.andThen,h5]
theorem run_met {w:World} {b:Nat} {out:List ByteArray} (hm:StrMap w b (mapOf out)) (s:ByteArray) :
  (Instr.lookup 121 (.map (some b)) (.string s) false).run Tryz.prog w = .ok (.bool (Lib.containsS out s)) w:=by
 have:=run_lookup_one (P:=Tryz.prog) (z:=.bool false) Tryz.underlying121 Tryz.underlying9 (by kernel_rfl) hm (bs s)
 rw [S_bs,found_map] at this
 rw [this]
 cases Lib.containsS out s <;> rfl
theorem run_meet {w:World} {b:Nat} {out:List ByteArray} (hm:StrMap w b (mapOf out)) (s:ByteArray) (hs:Lib.containsS out s=false) :
  ∃ w',(Instr.mapUpdate 121 (.map (some b)) (.string s) (.bool true)).run Tryz.prog w = .ok () w'∧StrMap w' b (mapOf (out++[s]))∧w'.heap.size=w.heap.size∧(∀ B,B≤b→Below B w w')∧∀ j,j≠b→w'.heap[j]?=w.heap[j]?:=by
 obtain ⟨w',h1,h2,h3,h4,h5,h6,h7⟩:=run_insert_str (P:=Tryz.prog) Tryz.underlying121 Tryz.underlying9 hm (bs s) (.bool true) (by rw [found_map,if_neg (by rw [hs];decide)])
 refine ⟨w',h1,?_,h3,fun B hB=>⟨h4,h5,h6,Nat.le_of_eq h3.symm,fun j hj=>h7 j (by omega)⟩,h7⟩
 unfold mapOf at h2 ⊢
 rw [List.map_append]
 exact h2
structure JFc (L1 T:Nat) (w1:World) (out:List ByteArray) (W:World):Prop where
 b:Below L1 w1 W
 z:T+1+1 < W.heap.size
 d:W.heap[T+1]?=some (.deferred (some []))
 m:StrMap W (L1+1) (mapOf out)
 v:W.heap[L1+1+1]?=some (.cells #[.map (some (L1+1))] 121 (0,0))
 c:∃ vl,W.heap[L1]?=some (.cells #[vl] 31 (0,0))∧RowS (T+1+1+1) W vl out
def Oo (L1:Nat) (W:World) (b:Nat):Prop:=b=L1∨∃ v,W.cell? ⟨L1,0,none⟩=some v∧v.ownBlock=some b
theorem JFc.keep {L1 T:Nat} {w1 W W':World} {out:List ByteArray} (j:JFc L1 T w1 out W) (hT:L1+1+1+1=T) (hb:Below L1 w1 W') (hz:W.heap.size≤W'.heap.size)
  (hk:∀ b,b < W.heap.size→b≠T+1+1→(b < T+1+1∨Oo L1 W b)→W'.heap[b]?=W.heap[b]?):JFc L1 T w1 out W':=by
 have z:=j.z
 obtain ⟨vl,c1,c2⟩:=j.c
 refine ⟨hb,by omega,(hk _ (by omega) (by omega) (.inl (by omega))).trans j.d,j.m.keep (hk _ (by omega) (by omega) (.inl (by omega))),(hk _ (by omega) (by omega) (.inl (by omega))).trans j.v,vl,(hk _ (by omega) (by omega) (.inl (by omega))).trans c1,row_keep c2 fun g e=>?_⟩
 have:=World.ownsRow.lt c2 g e
 exact hk g this.2 (by omega) (.inr (.inr ⟨vl,cell_of_row _ _ _ _ _ _ c1,e⟩))
theorem JFc.own {L1 T:Nat} {w1 W:World} {out:List ByteArray} (j:JFc L1 T w1 out W) {b:Nat} (h:Oo L1 W b):b=L1∨(T+1+1+1≤b∧b < W.heap.size):=by
 rcases h with h | ⟨v,h1,h2⟩
 ·exact .inl h
 ·obtain ⟨vl,c1,c2⟩:=j.c
  rw [cell_of_row _ _ _ _ _ _ c1] at h1
  cases h1
  exact .inr (World.ownsRow.lt c2 b h2)
theorem JFc.add {L1 T:Nat} {w1 w6 w8:World} {out:List ByteArray} {s:ByteArray} {vl v':Value} (hT:L1+1+1+1=T) (hb:Below L1 w1 w8) (z:T+1+1 < w6.heap.size) (hz:w6.heap.size≤w8.heap.size) (d:w6.heap[T+1]?=some (.deferred (some [])))
  (m:StrMap w6 (L1+1) (mapOf (out++[s]))) (v:w6.heap[L1+1+1]?=some (.cells #[.map (some (L1+1))] 121 (0,0)))
  (c:w6.heap[L1]?=some (.cells #[vl] 31 (0,0))) (ho:∀ g,vl.ownBlock=some g→T+1+1+1≤g) (hk:∀ b,b < w6.heap.size→vl.ownBlock≠some b→w8.heap[b]?=w6.heap[b]?) (r:RowS (T+1+1+1) w8 v' (out++[s])) :
  JFc L1 T w1 (out++[s]) (w8.setCell ⟨L1,0,none⟩ v'):=by
 have far:∀ b,b≠L1→(w8.setCell ⟨L1,0,none⟩ v').heap[b]?=w8.heap[b]?:=fun b hb=>Below.heap_setCell _ _ _ _ (by simp only;exact hb)
 have lo:∀ b,b < T+1+1+1→w8.heap[b]?=w6.heap[b]?:=fun b hb=>hk b (by omega) (fun e=>by have:=ho b e;omega)
 refine ⟨hb.setCell (p:=⟨L1,0,none⟩) (Nat.le_refl _) _,by rw [setCell_size];omega,(far _ (by omega)).trans ((lo _ (by omega)).trans d),m.keep ((far _ (by omega)).trans (lo _ (by omega))),(far _ (by omega)).trans ((lo _ (by omega)).trans v),v',heap_setCell_same _ _ 0 _ _ _ ((lo _ (by omega)).trans c),row_keep r fun g e=>far g (by have:=World.ownsRow.lt r g e;omega)⟩
theorem JFc.putLoop {L1 T:Nat} {w1 W:World} {out:List ByteArray} (j:JFc L1 T w1 out W) (hT:L1+1+1+1=T) (rl:Loop):JFc L1 T w1 out (W.putObj (T+1+1) (.loop rl)) :=
 j.keep hT (below_put j.b _ _ (by omega)) (by rw [World.putObj_size];exact Nat.le_refl _) (fun b _ h2 _=>World.putObj_heap_other h2)
theorem Kc.putLoop {L1 T:Nat} {A W:World} {r:Loop} (k:Kc (Oo L1) A W) (hT:L1+1+1+1=T) (hl:A.heap[T+1+1]?=some (.loop r)) (rl:Loop):Kc (Oo L1) A (W.putObj (T+1+1) (.loop rl)):=by
 refine ⟨by rw [World.putObj_size];exact k.1,fun b c t z h1 e=>(World.putObj_heap_other (by rintro rfl;rw [hl] at e;cases e)).trans (k.2.1 b c t z h1 e),fun b hb=>k.2.2 b ?_⟩
 rcases hb with h | ⟨v,h1,h2⟩
 ·exact .inl h
 ·exact .inr ⟨v,(World.cell?_of_block (w:=W) (World.putObj_heap_other (by simp only;omega))).symm.trans h1,h2⟩
theorem Kc.same {L1 T:Nat} {A W:World} {r:Loop} (hT:L1+1+1+1=T) (hz:A.heap.size≤W.heap.size) (hl:A.heap[T+1+1]?=some (.loop r)) (hk:∀ b,b < A.heap.size→b≠T+1+1→W.heap[b]?=A.heap[b]?):Kc (Oo L1) A W:=by
 have:=heap_lt hl
 refine ⟨hz,fun b c t z h1 e=>(hk b (heap_lt e) (by rintro rfl;rw [hl] at e;cases e)).trans e,fun b hb=>.inl ?_⟩
 rcases hb with h | ⟨v,h1,h2⟩
 ·exact .inl h
 ·exact .inr ⟨v,(World.cell?_of_block (w:=A) (hk L1 (by omega) (by omega))).symm.trans h1,h2⟩
theorem Kc.added {L1 T:Nat} {A W:World} {r:Loop} {vl v':Value} {L:List (List UInt8×Value)} (hz:A.heap.size≤W.heap.size) (hl:A.heap[T+1+1]?=some (.loop r)) (hm:StrMap A (L1+1) L)
  (hc:A.heap[L1]?=some (.cells #[vl] 31 (0,0))) (hc':W.heap[L1]?=some (.cells #[v'] 31 (0,0))) (hv:∀ g,v'.ownBlock=some g→vl.ownBlock=some g∨A.heap.size≤g)
  (hk:∀ b,b < A.heap.size→b≠T+1+1→b≠L1+1→b≠L1→vl.ownBlock≠some b→W.heap[b]?=A.heap[b]?):Kc (Oo L1) A W:=by
 have hcl:A.cell? ⟨L1,0,none⟩=some vl:=cell_of_row _ _ _ _ _ _ hc
 refine ⟨hz,fun b c t z h1 e=>(hk b (heap_lt e) (by rintro rfl;rw [hl] at e;cases e) (by rintro rfl;obtain ⟨es,cl,h2,_⟩:=hm;rw [h2] at e;cases e) (fun e2=>h1 (.inl e2)) (fun e2=>h1 (.inr ⟨vl,hcl,e2⟩))).trans e,fun b hb=>?_⟩
 rcases hb with h | ⟨v,h1,h2⟩
 ·exact .inl (.inl h)
 ·rw [cell_of_row _ _ _ _ _ _ hc'] at h1
  cases h1
  exact (hv b h2).imp (fun e=>.inr ⟨vl,hcl,e⟩) id
theorem app_same {w6 w7 w8:World} {vl:Value} {o:Obj} (hb7:Below w6.drew.heap.size w6.drew w7) (g:(w7.alloc o).grownBy w8 vl.ownBlock) :
  (∀ b,b < w6.heap.size→vl.ownBlock≠some b→w8.heap[b]?=w6.heap[b]?)∧w6.heap.size≤w8.heap.size∧(∀ B,B≤w6.heap.size→(∀ k,vl.ownBlock=some k→B≤k)→Below B w6 w8):=by
 have hz:w6.heap.size≤w7.heap.size:=hb7.size
 have hz2:(w7.alloc o).heap.size≤w8.heap.size:=g.size
 rw [World.size_alloc] at hz2
 refine ⟨fun b hb hne=>?_,by omega,fun B hB hk=>?_⟩
 ·exact (g.block b (by rw [World.size_alloc];omega) (fun e=>hne e.symm)).trans ((Below.heap_alloc _ _ _ (by omega)).trans (hb7.block b hb))
 ·exact (((Below.refl B w6).drew.trans (hb7.mono (show B≤w6.drew.heap.size from hB))).alloc (by omega) _).grown g (by rw [World.size_alloc];omega) hk
theorem stepIn_append {F:Fence} {n:Nat} {P:Program} {ops:Array Oper} {o:Oper} {a:Act} {w w':World} {K:Act→World→Prop} {Q:Exit→Act→World→Prop} {E:Prop} {r v u:Value} (hgd:o.guard=none) (s x:Operand) (t:TypeId)
  (ho:o.op = .call { callee:=.builtin .append,args:=#[s,x],argTypes:=#[t,t] }) (hs:a.eval s=v) (hx:a.eval x=u) (hrun:(Builtin.append_ #[t,t] o.type #[v,u]).run P w = .ok r w') (h:K (a.put o.dst r) w') :
  if Region.wanted o (yielded ops a.tmps)=true then Oper.wpIn F n P o a w K Q else E:=by
 have hw:Region.wanted o (yielded ops a.tmps)=true:=by simp [Region.wanted,hgd]
 rw [if_pos hw]
 unfold Oper.wpIn
 refine ⟨?_,?_⟩
 ·simp [Oper.about,ho,resolve,Target.leads,Sem.run_pure]
 ·rw [Oper.semAt_plain F _ _ (by rw [ho];intro c hc';cases hc')]
  simp [execOp,ho,resolve,invoke,builtin,hs,hx,hrun,Result.andThen]
  exact h
end Go.Proofs.YtcimcjmdkjajfaaGreatDoor
namespace Go.Proofs.YtcimcjmdkjajfaaGreatDoor
open Go.RowKit Go.Shelf
attribute [local go_sem] Oper.semAt_some
set_option maxRecDepth 100000 in
set_option maxHeartbeats 2000000 in
theorem occurring_ok (t:Nd) (kind:Int) (w:World) (v0 v1 v2:Value) (ht:NdR w t v0 v1 v2) (hv:chkN t=0) (hsm:smN t) (hsz:t.sz≤4000) :
  Calls Tryz.prog 70 #[.agg #[v0,v1,v2],.int .i64 kind] w fun e w'=>∃ v,e = .returned (.tuple #[v,.int .i64 0])∧RowS w.heap.size w' v (occs kind (preN 0 [] false t))∧Below w.heap.size w w':=by
 obtain ⟨k,s,kids,a,cap,rfl,rfl,rfl,rfl,hs,hl⟩:=ht.form
 have eg:∀ args w,(callFunc 127 args).run Tryz.prog w = .ok (.enter 127 args) w:=enters_of Tryz.func127 (by kernel_rfl) rfl
 have hmm:=@run_makeMap Tryz.prog
 obtain ⟨W0,hW0⟩:∃ W0,(w.alloc (.cells #[.int .i64 k,.string s,.slice a kids.length cap] 24)).alloc (.cells #[.int .i64 kind] 3)=W0:=⟨_,rfl⟩
 obtain ⟨h,hh⟩:∃ h,w.heap.size=h:=⟨_,rfl⟩
 have b0:Below h w W0:=by rw [←hW0,←hh];exact ((Below.refl _ w).alloc (Nat.le_refl _) _).alloc (by simp) _
 have r0:Row3 W0 h (.int .i64 k) (.string s) (.slice a kids.length cap):=by rw [←hW0,←hh];exact (Below.heap_alloc _ _ _ (by simp only [World.size_alloc];omega)).trans (World.alloc_heap_new _ _)
 have k0:W0.heap[h+1]?=some (.cells #[.int .i64 kind] 3 (0,0)):=by rw [←hW0,←hh];exact alloc_at (by simp)
 have z0:W0.heap.size=h+1+1:=by rw [←hW0];simp [hh]
 have t0:NdR W0 (.mk k s kids) (.int .i64 k) (.string s) (.slice a kids.length cap):=ht.later (by rw [hh];exact b0)
 have CC:=qh (check_tree _ W0 _ _ _ t0)
 rw [hv] at CC
 refine (callsIn_wide (n:=6)).1 ?_
 refine callsIn_of_wpAt Tryz.func70 rfl ?_
 simp only [Tryz.ntmps70,List.size_toArray,List.length_cons,List.length_nil,Nat.reduceAdd,Nat.reduceSub,Array.replicate_succ,Array.replicate_zero,List.push_toArray,List.append_toArray,List.nil_append,List.cons_append]
 refine wpAt_seq (wpAt_of_wpIn ?_)
 gi_wp2
 (try rw [hW0])
 (try rw [hh])
 clear hW0
 obtain ⟨⟨n0,n1,n2⟩,_⟩:=r0.cells
 refine wpAt_seq (wpAt_of_wpIn ?_)
 gi_wp2_with fail
 refine ⟨trivial,((callsIn_wide (n:=5)).2 CC.out).mono ?_⟩
 rintro e w1 ⟨rfl,hb1⟩
 have r1:Row3 w1 h (.int .i64 k) (.string s) (.slice a kids.length cap):=(hb1.block _ r0.lt).trans r0
 have k1:w1.heap[h+1]?=some (.cells #[.int .i64 kind] 3 (0,0)):=(hb1.block _ (by omega)).trans k0
 have B1:Below h w w1:=b0.trans (hb1.mono (by omega))
 have z1:h+1+1≤w1.heap.size:=by have:=hb1.size;omega
 have t1:=qh (t0.later hb1)
 clear n0 n1 n2 hb1 CC t0 k0 r0 b0
 gi_wp2
 refine wpAt_seq (wpAt_of_wpIn ?_)
 gi_wp2
 refine wpAt_seq (wpAt_of_wpIn ?_)
 gi_wp2
 obtain ⟨L1,hL1⟩:∃ L1,w1.heap.size=L1:=⟨_,rfl⟩
 obtain ⟨W3,hW3⟩:∃ W3,((w1.alloc (.cells #[.slice none 0 0] 31)).alloc (.map #[] 0)).alloc (.cells #[.map (some (L1+1))] 121)=W3:=⟨_,rfl⟩
 have z3:W3.heap.size=L1+1+1+1:=by rw [←hW3];simp [hL1]
 have o3:∀ b,b < L1→W3.heap[b]?=w1.heap[b]?:=fun b hb=>by
  rw [←hW3]
  exact (Below.heap_alloc _ _ _ (by simp only [World.size_alloc];omega)).trans ((Below.heap_alloc _ _ _ (by simp only [World.size_alloc];omega)).trans (Below.heap_alloc _ _ _ (by omega)))
 have B3:Below L1 w1 W3:=by
  rw [←hW3]
  exact (((Below.refl _ w1).alloc (by omega) _).alloc (by simp only [World.size_alloc];omega) _).alloc (by simp only [World.size_alloc];omega) _
 have l3:W3.heap[L1]?=some (.cells #[.slice none 0 0] 31 (0,0)):=by
  rw [←hW3,←hL1]
  exact (Below.heap_alloc _ _ _ (by simp only [World.size_alloc];omega)).trans ((Below.heap_alloc _ _ _ (by simp only [World.size_alloc];omega)).trans (World.alloc_heap_new _ _))
 have m3:StrMap W3 (L1+1) (mapOf []):=⟨#[],0,by
  rw [←hW3,←hL1]
  exact (Below.heap_alloc _ _ _ (by simp only [World.size_alloc];omega)).trans (alloc_at (by simp)),by simp [mapOf]⟩
 have v3:W3.heap[L1+1+1]?=some (.cells #[.map (some (L1+1))] 121 (0,0)):=by
  rw [←hW3,←hL1];exact alloc_at (by simp)
 rw [hL1] at z1
 have r3:Row3 W3 h (.int .i64 k) (.string s) (.slice a kids.length cap):=(o3 _ (by omega)).trans r1
 have k3:W3.heap[h+1]?=some (.cells #[.int .i64 kind] 3 (0,0)):=(o3 _ (by omega)).trans k1
 have t3:NdR W3 (.mk k s kids) (.int .i64 k) (.string s) (.slice a kids.length cap):=t1.out.later (by rw [hL1];exact B3)
 (try rw [hL1])
 (try rw [hW3])
 clear hW3 r1
 obtain ⟨⟨n0,n1,n2⟩,_⟩:=r3.cells
 refine wpAt_seq (wpAt_seq (wpAt_of_wpIn ?_))
 gi_wp2_with fail
 refine ⟨trivial,((callsIn_wide (n:=5)).2 (walk_any k s a kids.length cap _)).mono ?_⟩
 rintro e w2 ⟨rfl,rfl⟩
 gi_wp2
 obtain ⟨T,hT⟩:∃ T,L1+1+1+1=T:=⟨_,rfl⟩
 rw [hT] at z3
 (try rw [z3])
 (try rw [hT])
 clear n0 n1 n2
 refine wpAt_block (wpAt_rangeFunc_fn (gf:=127) (lb:=#[.pointer (some ⟨T,0,none⟩)]) rfl eg ?_)
 intro r hr
 have hr1:r.state = .ready:=by rw [hr]
 have hr2:r.pending=none:=by rw [hr]
 have hr3:r.params=#[19,20]:=by rw [hr]
 obtain ⟨W4,hW4⟩:∃ W4,W3.alloc (.cells #[.int .i64 k,.string s,.slice a kids.length cap] 24)=W4:=⟨_,rfl⟩
 have z4:W4.heap.size=T+1:=by rw [←hW4,World.size_alloc,z3]
 have b4:Row3 W4 T (.int .i64 k) (.string s) (.slice a kids.length cap):=by rw [←hW4];exact alloc_at (by omega)
 have o4:∀ b,b < T→W4.heap[b]?=W3.heap[b]?:=fun b hb=>by rw [←hW4];exact Below.heap_alloc _ _ _ (by omega)
 have B4:Below L1 w1 W4:=by rw [←hW4];exact B3.alloc (by omega) _
 rw [hW4]
 clear hW4
 obtain ⟨W1,hW1⟩:∃ W1,(W4.alloc (.deferred (some []))).alloc (.loop r)=W1:=⟨_,rfl⟩
 have old:∀ b,b < T+1→W1.heap[b]?=W4.heap[b]?:=fun b hb=>by rw [←hW1];exact (Below.heap_alloc _ _ _ (by simp only [World.size_alloc];omega)).trans (Below.heap_alloc _ _ _ (by omega))
 have zW1:W1.heap.size=T+1+1+1:=by rw [←hW1];simp [z4]
 have hd1:W1.heap[T+1]?=some (.deferred (some [])):=by rw [←hW1];exact (Below.heap_alloc _ _ _ (by simp only [World.size_alloc];omega)).trans (alloc_at (by omega))
 have hl1:W1.heap[T+1+1]?=some (.loop r):=by rw [←hW1];exact alloc_at (by simp only [World.size_alloc];omega)
 have hB1:Below L1 w1 W1:=by rw [←hW1];exact (B4.alloc (by omega) _).alloc (by simp only [World.size_alloc];omega) _
 have j0:JFc L1 T w1 (occs kind []) W1:=⟨hB1,by omega,hd1,m3.keep ((old _ (by omega)).trans (o4 _ (by omega))),((old _ (by omega)).trans (o4 _ (by omega))).trans v3,_,((old _ (by omega)).trans (o4 _ (by omega))).trans l3,World.ownsRow_nil _ _ _ _⟩
 have hsup:Sup w1 W1:=fun b c t z e=>(hB1.block b (by rw [←hL1];exact heap_lt e)).trans e
 have K1:=qh k1
 have hcall:CallsIn Fence.wide 5 Tryz.prog 127 #[.func (.yield (T+1+1)) #[] #[],.pointer (some ⟨T,0,none⟩)] W1
   (fun e w'=>(∃ v,e = .returned v)∧JFc L1 T w1 (occs kind (preN 0 [] false (.mk k s kids))) w'∧w'.heap[T+1+1]?=some (.loop r)):=by
  refine (callsIn_wide (n:=5)).2 ?_
  refine (walkI_any (Oo L1) (T+1+1) T w1 W1 (fun pre W=>pre.length≤4000∧JFc L1 T w1 (occs kind pre) W∧W.heap[T+1+1]?=some (.loop r)) (fun _ _=>False) k s kids a cap
   (fun pre W hj=>by have:=hj.1;omega) (fun pre A B hj hb hk=>⟨hj.1,hj.2.1.keep hT (hj.2.1.b.trans (hb.mono (by omega))) hb.size (fun b _ _ h3=>h3.elim (fun h=>hb.block b (by omega)) (fun h=>hk b h)),(hb.block _ (by omega)).trans hj.2.2⟩)
   (fun A B hb b h=>h.imp id (fun ⟨v,h1,h2⟩=>⟨v,(hb.cell (p:=⟨L1,0,none⟩) (by simp only;omega)).symm.trans h1,h2⟩)) (fun pre A hj b hb=>by have:=hj.2.1.z;rcases hj.2.1.own hb with h | h <;> omega)
   ?_ t1.out ((old T (by omega)).trans b4) hsup (by omega) (fun b hb=>by rcases j0.own hb with h | h <;> omega) ⟨by simp,j0,hl1⟩).mono ?_
  ·intro m pre it A vp vi u0 u1 u2 n₁ ps hn1 hj hall hpd hg
   obtain ⟨hjl,hjm,hjr⟩:=hj
   obtain ⟨hgd,hgp,hgi,hgt⟩:=hg
   have hlen:(pre++[it]).length≤4000:=by have:=hall.length_le;rw [preN_len] at this;omega
   have hsz1:it.t.s'.size≤64:=sm_pre 0 [] false _ hsm it (hall.subset (by simp))
   obtain ⟨ap,cp,rfl⟩:=row_shape hgp
   obtain ⟨ai,ci,hvi⟩:=row_shape hgi
   subst hvi
   rw [List.length_map] at hgi
   obtain ⟨k1,s1,l1,a1,c1,ht1,rfl,rfl,rfl,_,_⟩:=hgt.form
   have hil:it.ins.length≤90000:=by have:=ins_pre 0 [] false _ it (hall.subset (by simp));simp only [List.length_nil] at this;omega
   obtain ⟨V,hV⟩:∃ V,((k1==15 || k1==16) && (!it.wd && !Lib.containsS it.ins s1))=V:=⟨_,rfl⟩
   have hos:=(occs_snoc kind pre it).trans (occ_at ht1 hV kind _)
   rw [ht1] at hsz1
   simp only [Nd.s'] at hsz1
   obtain ⟨out,hout⟩:∃ out,occs kind pre=out:=⟨_,rfl⟩
   have hol:out.length≤4000:=by rw [←hout];have:=occs_len kind pre;omega
   rw [hout] at hjm hos
   obtain ⟨out',hout'⟩:∃ out',occs kind (pre++[it])=out':=⟨_,rfl⟩
   rw [hout'] at hos
   obtain ⟨R,hR⟩:∃ R:Ending→World→Prop,(fun e W'=>(e = .returned (.bool true)∧((pre++[it]).length≤4000∧JFc L1 T w1 (occs kind (pre++[it])) W'∧W'.heap[T+1+1]?=some (.loop r))∧Kc (Oo L1) A W')∨(e = .returned (.bool false)∧False∧Kc (Oo L1) A W'))=R:=⟨_,rfl⟩
   rw [hR]
   have HR:Hid (∀ W',JFc L1 T w1 out' W'→W'.heap[T+1+1]?=some (.loop r)→Kc (Oo L1) A W'→R (.returned (.bool true)) W'):=qh (fun W' j1 j2 j3=>by rw [←hR];exact .inl ⟨rfl,⟨hlen,by rw [hout'];exact j1,j2⟩,j3⟩)
   clear hR hout hout' hlen hall hjl
   refine ⟨_,_,_,_,run_yield (P:=Tryz.prog) hjr (by rw [hr3];rfl),?_⟩
   have hr4:r.fn=70:=by rw [hr]
   rw [hr4]
   refine roundIn_of_wpIn_p trivial Tryz.func70 ?_
   have hrs:=hr1
   have HJ:=qh hjm
   have HJR:=qh hjr
   have HRR:=qh hr
   have HOS:=qh hos
   have HGI:=qh hgi
   have hVH:=qh hV
   have HIL:=qh hil
   simp only [hr]
   clear hgp hgi hgt hjm hjr hr hr1 hr2 hr3 hr4 hos hV hil
   gi_wp2
   refine ⟨_,run_beginRound (r:=r) ((Below.heap_alloc _ _ _ (by have:=heap_lt HJR.out;simp only [World.size_alloc];omega)).trans ((Below.heap_alloc _ _ _ (heap_lt HJR.out)).trans HJR.out)) hrs,?_⟩
   obtain ⟨N,hN⟩:∃ N,A.heap.size=N:=⟨_,rfl⟩
   obtain ⟨W2,hW2⟩:∃ W2,((A.alloc (.cells #[.slice ap ps.length cp,.slice ai it.ins.length ci,.bool it.wd] 88)).alloc (.cells #[.int .i64 k1,.string s1,.slice a1 l1.length c1] 24)).putObj (T+1+1) (.loop { r with state:=.busy })=W2:=⟨_,rfl⟩
   have hTN:T+1+1 < N:=by have:=HJ.out.z;omega
   have ko:∀ b,b < N→b≠T+1+1→W2.heap[b]?=A.heap[b]?:=fun b hb1 hb2=>by
    rw [←hW2];exact (World.putObj_heap_other hb2).trans ((Below.heap_alloc _ _ _ (by simp only [World.size_alloc];omega)).trans (Below.heap_alloc _ _ _ (by omega)))
   have mz:W2.heap.size=N+1+1:=by rw [←hW2,World.putObj_size,World.size_alloc,World.size_alloc,hN]
   have m5:W2.heap[T+1+1]?=some (.loop { r with state:=.busy }):=by rw [←hW2];exact World.putObj_heap_same (by simp only [World.size_alloc];omega)
   have mt:RowP W2 N (.slice ap ps.length cp) (.slice ai it.ins.length ci) (.bool it.wd):=by
    rw [←hW2,←hN];exact (World.putObj_heap_other (by omega)).trans ((Below.heap_alloc _ _ _ (by simp only [World.size_alloc];omega)).trans (World.alloc_heap_new _ _))
   have mx:Row3 W2 (N+1) (.int .i64 k1) (.string s1) (.slice a1 l1.length c1):=by
    rw [←hW2,←hN];exact (World.putObj_heap_other (by omega)).trans (alloc_at (by simp))
   have mb:Below L1 w1 W2:=by rw [←hW2];exact below_put ((HJ.out.b.alloc (by omega) _).alloc (by simp only [World.size_alloc];omega) _) _ _ (by omega)
   have mj:JFc L1 T w1 out W2:=HJ.out.keep hT mb (by omega) (fun b h1 h2 _=>ko b (by omega) h2)
   have mi:RowS n₁ W2 (.slice ai it.ins.length ci) it.ins:=row_keep HGI.out fun g e=>by have:=World.ownsRow.lt HGI.out g e;exact ko g (by omega) (by omega)
   rw [hW2,hN]
   obtain ⟨⟨p0,p1,p2⟩,_⟩:=mt.cells
   obtain ⟨⟨x0,x1,x2⟩,_⟩:=mx.cells
   have hkb:=(mb.block (h+1) (by omega)).trans K1.out
   have kc:W2.cell? ⟨h+1,0,none⟩=some (.int .i64 kind):=cell_of_row _ _ _ _ _ _ hkb
   have HM:=qh mj
   have HKO:=qh ko
   have HMZ:=qh mz
   have HM5:=qh m5
   have HMX:=qh mx
   have HN:=qh hN
   have CF:=qh (frees_any n₁ ap ai ps.length cp it.ins.length ci it.wd k1 s1 a1 l1.length c1 it.ins W2 mi HIL.out)
   rw [hVH.out] at CF
   obtain ⟨wd,hwd⟩:∃ wd,it.wd=wd:=⟨_,rfl⟩
   obtain ⟨NI,hni⟩:∃ NI,it.ins.length=NI:=⟨_,rfl⟩
   obtain ⟨NP,hnp⟩:∃ NP,ps.length=NP:=⟨_,rfl⟩
   rw [hwd,hni,hnp] at CF
   rw [hwd] at p2
   rw [hni] at p1
   rw [hnp] at p0
   have e0:({ ({ r with state:=.busy }:Loop) with state:=.ready,pending:=none }:Loop)=r:=by rw [HRR.out]
   have E0:=qh e0
   have FIN:Hid (∀ W',Below W2.heap.size W2 W'→out'=out→R (.returned (.bool true)) (W'.putObj (T+1+1) (.loop r))):=qh (fun W' hb he=>by
    have kk:∀ b,b < A.heap.size→b≠T+1+1→W'.heap[b]?=A.heap[b]?:=fun b h1 h2=>(hb.block b (by omega)).trans (ko b (by omega) h2)
    have jj:JFc L1 T w1 out W':=HJ.out.keep hT (mb.trans (hb.mono (by omega))) (by have:=hb.size;omega) (fun b h1 h2 _=>kk b h1 h2)
    refine HR.out _ ?_ (World.putObj_heap_same (by have:=hb.size;omega)) ((Kc.same hT (by have:=hb.size;omega) HJR.out kk).putLoop hT HJR.out r)
    rw [he]
    exact jj.putLoop hT r)
   have FINL:Hid (∀ W',Below W2.heap.size W2 W'→W'.heap[T+1+1]?=some (.loop { r with state:=.busy })):=qh (fun W' hb=>(hb.block _ (by omega)).trans m5)
   clear ko mz m5 mt mx mj mb mi hW2 hN hkb hwd hni hnp e0
   cases hkk:(k1==kind) with
   | false =>
    have HE:Hid (out'=out):=qh (by rw [HOS.out,hkk];simp)
    gi_wp2
    refine ⟨trivial,?_⟩
    gi_wp2
    refine ⟨_,_,run_endRound none (FINL.out _ (Below.refl _ _)),?_⟩
    simp only [Option.isNone_none,if_true]
    rw [E0.out]
    exact FIN.out _ (Below.refl _ _) HE.out
   | true =>
    gi_wp2_with fail
    refine ⟨trivial,fun e=>(by cases e),(CallsIn.inRound _ ((callsIn_wide (n:=m - 1)).2 CF.out)).mono ?_⟩
    rintro e w5 ⟨rfl,hb5⟩
    have HB5:=qh hb5
    clear hb5 CF p0 p1 p2
    cases V with
    | false =>
     have HE:Hid (out'=out):=qh (by rw [HOS.out,hkk];simp)
     gi_wp2
     refine ⟨_,_,run_endRound none (FINL.out _ HB5.out),?_⟩
     simp only [Option.isNone_none,if_true]
     rw [E0.out]
     exact FIN.out _ HB5.out HE.out
    | true =>
     have hzN:=HMZ.out
     have mj5:JFc L1 T w1 out w5:=HM.out.keep hT (HM.out.b.trans (HB5.out.mono (by have:=HM.out.z;omega))) HB5.out.size (fun b h1 _ _=>HB5.out.block b h1)
     have mx5:Row3 w5 (N+1) (.int .i64 k1) (.string s1) (.slice a1 l1.length c1):=(HB5.out.block _ HMX.out.lt).trans HMX.out
     have z5:=HB5.out.size
     obtain ⟨vl,cl5,rl5⟩:=mj5.c
     have v5:w5.cell? ⟨L1+1+1,0,none⟩=some (.map (some (L1+1))):=cell_of_row _ _ _ _ _ _ mj5.v
     obtain ⟨⟨y0,y1,y2⟩,_⟩:=mx5.cells
     have hlk:=run_met mj5.m s1
     obtain ⟨X,hX⟩:∃ X,Lib.containsS out s1=X:=⟨_,rfl⟩
     have HE:Hid (out'=if X=true then out else out++[s1]):=qh (by rw [HOS.out,hkk,hX];cases X <;> rfl)
     rw [hX] at hlk
     cases X with
     | true =>
      clear y0 y2 cl5 rl5 mj5 mx5 hX x0 x1 x2 hzN z5
      gi_wp2
      refine ⟨_,_,run_endRound none (FINL.out _ HB5.out),?_⟩
      simp only [Option.isNone_none,if_true]
      rw [E0.out]
      exact FIN.out _ HB5.out (by rw [HE.out];simp)
     | false =>
      obtain ⟨w6,hmu,m6,z6,b6,o6⟩:=run_meet mj5.m s1 hX
      have hne6:∀ b,b≠L1+1→w6.heap[b]?=w5.heap[b]?:=o6
      have cl6:=(o6 L1 (by omega)).trans cl5
      have mx6:Row3 w6 (N+1) (.int .i64 k1) (.string s1) (.slice a1 l1.length c1):=(o6 _ (by omega)).trans mx5
      have rl6:RowS (T+1+1+1) w6 vl out:=row_keep rl5 fun g e=>o6 g (by have:=World.ownsRow.lt rl5 g e;omega)
      have l6:w6.cell? ⟨L1,0,none⟩=some vl:=cell_of_row _ _ _ _ _ _ cl6
      have n6:w6.cell? ⟨N+1,1,none⟩=some (.string s1):=mx6.cells.1.2.1
      have hown6:∀ g,vl.ownBlock=some g→T+1+1+1≤g∧g < w6.heap.size:=World.ownsRow.lt rl6
      have D6:=qh ((o6 (T+1) (by omega)).trans mj5.d)
      have V6:=qh ((o6 (L1+1+1) (by omega)).trans mj5.v)
      have M6:=qh m6
      have CL6:=qh cl6
      have RL6:=qh rl6
      have B6:=qh (mj5.b.trans (b6 L1 (by omega)))
      have O6:=qh hne6
      have Z6:Hid (T+1+1 < w6.heap.size∧N+1+1≤w6.heap.size):=qh (by have:=mj5.z;omega)
      have F6:=qh (show w6.frozen? ⟨L1,0,none⟩=false from frozen_of_row _ _ _ _ _ cl6)
      have CC6:=qh (clone_any s1 w6.drew (by omega))
      obtain ⟨iS,hS,hSz,hSs,hSb⟩:=info_parts infoStr
      clear y0 y2 cl5 rl5 mj5 mx5 hX x0 x1 x2 hzN z5 m6 z6 b6 o6 hne6 cl6 mx6 rl6
      gi_wp2_with fail
      have LEAF:∀ (g8 cap8:Nat) (w8:World),((∀ b,b < w6.heap.size→vl.ownBlock≠some b→w8.heap[b]?=w6.heap[b]?)∧w6.heap.size≤w8.heap.size∧(∀ B,B≤w6.heap.size→(∀ k,vl.ownBlock=some k→B≤k)→Below B w6 w8)) →
        RowS (T+1+1+1) w8 (.slice (some ⟨g8,0,none⟩) (out++[s1]).length cap8) (out++[s1])→(∀ g',(Value.slice (some ⟨g8,0,none⟩) (out++[s1]).length cap8).ownBlock=some g'→vl.ownBlock=some g'∨w6.heap.size≤g') →
        ∃ v w',(Instr.endRound (T+1+1) none).run Tryz.prog (w8.setCell ⟨L1,0,none⟩ (.slice (some ⟨g8,0,none⟩) (out.length+1) cap8)) = .ok v w'∧R (.returned v) w':=by
       intro g8 cap8 w8 ⟨hk8,hz8,hb8⟩ q8 ho8
       have e9:out.length+1=(out++[s1]).length:=by simp
       rw [e9]
       clear e9
       have hz6:=Z6.out
       have hNN:=HN.out
       have hzM:=HMZ.out
       obtain ⟨v',hv'⟩:∃ v',Value.slice (some ⟨g8,0,none⟩) (out++[s1]).length cap8=v':=⟨_,rfl⟩
       rw [hv'] at q8 ho8 ⊢
       have far:∀ b,b≠L1→(w8.setCell ⟨L1,0,none⟩ v').heap[b]?=w8.heap[b]?:=fun b hb=>Below.heap_setCell _ _ _ _ (by simp only;exact hb)
       have c6A:∀ b,b < N→b≠T+1+1→b≠L1+1→w6.heap[b]?=A.heap[b]?:=fun b h1 h2 h3=>(O6.out b h3).trans ((HB5.out.block b (by omega)).trans (HKO.out b h1 h2))
       have hlow:∀ g,vl.ownBlock=some g→T+1+1+1≤g:=fun g e=>(hown6 g e).1
       have hzJ:=HJ.out.z
       have hloop:(w8.setCell ⟨L1,0,none⟩ v').heap[T+1+1]?=some (.loop { r with state:=.busy }) :=
        (far _ (by omega)).trans ((hk8 _ (by omega) (fun e=>by have:=hlow _ e;omega)).trans ((O6.out _ (by omega)).trans (FINL.out _ HB5.out)))
       refine ⟨_,_,run_endRound none hloop,?_⟩
       simp only [Option.isNone_none,if_true]
       rw [E0.out]
       have jadd:JFc L1 T w1 (out++[s1]) (w8.setCell ⟨L1,0,none⟩ v'):=JFc.add hT (B6.out.trans (hb8 L1 (by omega) (fun k e=>by have:=hlow k e;omega))) hz6.1 hz8 D6.out M6.out V6.out CL6.out hlow hk8 q8
       have hcA:A.heap[L1]?=some (.cells #[vl] 31 (0,0)):=(c6A L1 (by omega) (by omega) (by omega)).symm.trans CL6.out
       have hc9:(w8.setCell ⟨L1,0,none⟩ v').heap[L1]?=some (.cells #[v'] 31 (0,0)):=heap_setCell_same _ _ 0 _ _ _ ((hk8 L1 (by omega) (fun e=>by have:=hlow _ e;omega)).trans CL6.out)
       have kc:Kc (Oo L1) A (w8.setCell ⟨L1,0,none⟩ v'):=Kc.added (by rw [setCell_size];omega) HJR.out HJ.out.m hcA hc9 (fun g e=>(ho8 g e).imp id (fun h=>by omega))
        (fun b h1 h2 h3 h4 h5=>(far b h4).trans ((hk8 b (by omega) h5).trans (c6A b (by omega) h2 h3)))
       refine HR.out _ ?_ (World.putObj_heap_same (by rw [setCell_size];omega)) (kc.putLoop hT HJR.out r)
       have e':out'=out++[s1]:=by rw [HE.out];simp
       rw [e']
       exact jadd.putLoop hT r
      refine wpIn_region_any (by kernel_rfl) ?_
      change wpAnyIn _ _ _ _ _ _ _ _ _ (World.drew _)
      refine wpAnyIn_ready (rs:=[0,1]) (by kernel_rfl) (by simp) ?_
      refine AllReadyIn.cons rfl (fun K hK=>?_) ?_
      ·skip
       go_simp
       refine hK _ _ ?_
       clear hK K
       refine wpAnyIn_ready (rs:=[1]) (by kernel_rfl) (by simp) ?_
       refine AllReadyIn.cons rfl (fun K hK=>?_) ?_
       ·skip
        go_simp
        refine hK _ _ ?_
        clear hK K
        refine wpAnyIn_ready (rs:=[2]) (by kernel_rfl) (by simp) ?_
        refine AllReadyIn.cons rfl (fun K hK=>?_) ?_
        ·skip
         go_simp
         refine hK _ _ ?_
         clear hK K
         refine wpAnyIn_ready (rs:=[3]) (by kernel_rfl) (by simp) ?_
         refine AllReadyIn.cons rfl (fun K hK=>?_) ?_
         ·skip
          go_simp
          refine ⟨trivial,fun e=>(by cases e),?_⟩
          refine (CallsIn.inRound _ ((callsIn_wide (n:=m - 1)).2 CC6.out)).mono ?_
          rintro e w7 ⟨rfl,hb7⟩
          have hz7:w6.heap.size≤w7.heap.size:=hb7.size
          have hL7:L1 < w7.heap.size:=(by have:=Z6.out;omega)
          have l7:w7.cell? ⟨L1,0,none⟩=some vl:=(hb7.cell (p:=⟨L1,0,none⟩) (show L1 < w6.heap.size by have:=Z6.out;omega)).trans l6
          have l7a:=(fun o=>(World.cell?_alloc_past (w:=w7) o L1 0 hL7).trans l7)
          have r7:RowS (T+1+1+1) (w7.alloc (.cells #[.string s1] 9)) vl out:=row_keep RL6.out (fun g e=>(Below.heap_alloc _ _ _ (by have:=hown6 g e;omega)).trans (hb7.block g (hown6 g e).2))
          obtain ⟨g8,cap8,w8,hap,q8,p8,gr8,hg8⟩:=run_append_two (P:=Tryz.prog) (w7.alloc (.cells #[.string s1] 9)) 31 31 (T+1+1+1) 9 iS _ 16 Tryz.underlying31 hS hSz hSs hSb rfl vl (out.map Value.string) r7 ⟨w7.heap.size,0,none⟩ 1 (.string s1) (cells1 w7 _ _ _ rfl) rfl (by rw [List.length_map];unfold maxLen;omega) (by rw [List.length_map];omega) (by rw [World.size_alloc];have:=Z6.out;omega)
          have A8:=qh (app_same hb7 gr8)
          have f8:w8.frozen? ⟨L1,0,none⟩=false:=frozen_of_row _ _ _ _ _ ((A8.out.1 L1 (by have:=Z6.out;omega) (fun e=>by have:=hown6 L1 e;omega)).trans CL6.out)
          have c8:w8.cell? ⟨L1,0,none⟩=some vl:=cell_of_row _ _ _ _ _ _ ((A8.out.1 L1 (by have:=Z6.out;omega) (fun e=>by have:=hown6 L1 e;omega)).trans CL6.out)
          have Q8:=qh (rowS_snoc q8)
          have HG8:=qh (own_or (n:=(out++[s1]).length) (cap:=cap8) hg8 (by rw [World.size_alloc];exact Nat.le_succ_of_le hz7))
          rw [List.length_map] at hap
          have HAP:=qh hap
          clear q8 p8 gr8 hg8 r7 hb7 hap
          go_simp
          refine hK _ _ ?_
          clear hK K
          refine wpAnyIn_ready (rs:=[4]) (by kernel_rfl) (by simp) ?_
          refine AllReadyIn.cons rfl (fun K hK=>?_) ?_
          ·skip
           go_simp
           refine hK _ _ ?_
           clear hK K
           refine wpAnyIn_ready (rs:=[5]) (by kernel_rfl) (by simp) ?_
           refine AllReadyIn.cons rfl (fun K hK=>?_) ?_
           ·skip
            refine stepIn_append rfl _ _ 31 rfl rfl rfl HAP.out ?_
            refine hK _ _ ?_
            clear hK K
            refine wpAnyIn_ready (rs:=[6]) (by kernel_rfl) (by simp) ?_
            refine AllReadyIn.cons rfl (fun K hK=>?_) ?_
            ·skip
             go_simp
             refine hK _ _ ?_
             clear hK K
             refine wpAnyIn_done (by kernel_rfl) ?_ _
             go_simp
             simp only [roundPostP]
             exact LEAF g8 cap8 w8 A8.out Q8.out HG8.out
            exact AllReadyIn.nil
           exact AllReadyIn.nil
          exact AllReadyIn.nil
         exact AllReadyIn.nil
        exact AllReadyIn.nil
       exact AllReadyIn.nil
      refine AllReadyIn.cons rfl (fun K hK=>?_) ?_
      ·skip
       go_simp
       refine hK _ _ ?_
       clear hK K
       refine wpAnyIn_ready (rs:=[0,2]) (by kernel_rfl) (by simp) ?_
       refine AllReadyIn.cons rfl (fun K hK=>?_) ?_
       ·skip
        go_simp
        refine hK _ _ ?_
        clear hK K
        refine wpAnyIn_ready (rs:=[2]) (by kernel_rfl) (by simp) ?_
        refine AllReadyIn.cons rfl (fun K hK=>?_) ?_
        ·skip
         go_simp
         refine hK _ _ ?_
         clear hK K
         refine wpAnyIn_ready (rs:=[3]) (by kernel_rfl) (by simp) ?_
         refine AllReadyIn.cons rfl (fun K hK=>?_) ?_
         ·skip
          go_simp
          refine ⟨trivial,fun e=>(by cases e),?_⟩
          refine (CallsIn.inRound _ ((callsIn_wide (n:=m - 1)).2 CC6.out)).mono ?_
          rintro e w7 ⟨rfl,hb7⟩
          have hz7:w6.heap.size≤w7.heap.size:=hb7.size
          have hL7:L1 < w7.heap.size:=(by have:=Z6.out;omega)
          have l7:w7.cell? ⟨L1,0,none⟩=some vl:=(hb7.cell (p:=⟨L1,0,none⟩) (show L1 < w6.heap.size by have:=Z6.out;omega)).trans l6
          have l7a:=(fun o=>(World.cell?_alloc_past (w:=w7) o L1 0 hL7).trans l7)
          have r7:RowS (T+1+1+1) (w7.alloc (.cells #[.string s1] 9)) vl out:=row_keep RL6.out (fun g e=>(Below.heap_alloc _ _ _ (by have:=hown6 g e;omega)).trans (hb7.block g (hown6 g e).2))
          obtain ⟨g8,cap8,w8,hap,q8,p8,gr8,hg8⟩:=run_append_two (P:=Tryz.prog) (w7.alloc (.cells #[.string s1] 9)) 31 31 (T+1+1+1) 9 iS _ 16 Tryz.underlying31 hS hSz hSs hSb rfl vl (out.map Value.string) r7 ⟨w7.heap.size,0,none⟩ 1 (.string s1) (cells1 w7 _ _ _ rfl) rfl (by rw [List.length_map];unfold maxLen;omega) (by rw [List.length_map];omega) (by rw [World.size_alloc];have:=Z6.out;omega)
          have A8:=qh (app_same hb7 gr8)
          have f8:w8.frozen? ⟨L1,0,none⟩=false:=frozen_of_row _ _ _ _ _ ((A8.out.1 L1 (by have:=Z6.out;omega) (fun e=>by have:=hown6 L1 e;omega)).trans CL6.out)
          have c8:w8.cell? ⟨L1,0,none⟩=some vl:=cell_of_row _ _ _ _ _ _ ((A8.out.1 L1 (by have:=Z6.out;omega) (fun e=>by have:=hown6 L1 e;omega)).trans CL6.out)
          have Q8:=qh (rowS_snoc q8)
          have HG8:=qh (own_or (n:=(out++[s1]).length) (cap:=cap8) hg8 (by rw [World.size_alloc];exact Nat.le_succ_of_le hz7))
          rw [List.length_map] at hap
          have HAP:=qh hap
          clear q8 p8 gr8 hg8 r7 hb7 hap
          go_simp
          refine hK _ _ ?_
          clear hK K
          refine wpAnyIn_ready (rs:=[4]) (by kernel_rfl) (by simp) ?_
          refine AllReadyIn.cons rfl (fun K hK=>?_) ?_
          ·skip
           go_simp
           refine hK _ _ ?_
           clear hK K
           refine wpAnyIn_ready (rs:=[5]) (by kernel_rfl) (by simp) ?_
           refine AllReadyIn.cons rfl (fun K hK=>?_) ?_
           ·skip
            refine stepIn_append rfl _ _ 31 rfl rfl rfl HAP.out ?_
            refine hK _ _ ?_
            clear hK K
            refine wpAnyIn_ready (rs:=[6]) (by kernel_rfl) (by simp) ?_
            refine AllReadyIn.cons rfl (fun K hK=>?_) ?_
            ·skip
             go_simp
             refine hK _ _ ?_
             clear hK K
             refine wpAnyIn_done (by kernel_rfl) ?_ _
             go_simp
             simp only [roundPostP]
             exact LEAF g8 cap8 w8 A8.out Q8.out HG8.out
            exact AllReadyIn.nil
           exact AllReadyIn.nil
          exact AllReadyIn.nil
         exact AllReadyIn.nil
        exact AllReadyIn.nil
       refine AllReadyIn.cons rfl (fun K hK=>?_) ?_
       ·skip
        go_simp
        refine hK _ _ ?_
        clear hK K
        refine wpAnyIn_ready (rs:=[0,3]) (by kernel_rfl) (by simp) ?_
        refine AllReadyIn.cons rfl (fun K hK=>?_) ?_
        ·skip
         go_simp
         refine hK _ _ ?_
         clear hK K
         refine wpAnyIn_ready (rs:=[3]) (by kernel_rfl) (by simp) ?_
         refine AllReadyIn.cons rfl (fun K hK=>?_) ?_
         ·skip
          go_simp
          refine ⟨trivial,fun e=>(by cases e),?_⟩
          refine (CallsIn.inRound _ ((callsIn_wide (n:=m - 1)).2 CC6.out)).mono ?_
          rintro e w7 ⟨rfl,hb7⟩
          have hz7:w6.heap.size≤w7.heap.size:=hb7.size
          have hL7:L1 < w7.heap.size:=(by have:=Z6.out;omega)
          have l7:w7.cell? ⟨L1,0,none⟩=some vl:=(hb7.cell (p:=⟨L1,0,none⟩) (show L1 < w6.heap.size by have:=Z6.out;omega)).trans l6
          have l7a:=(fun o=>(World.cell?_alloc_past (w:=w7) o L1 0 hL7).trans l7)
          have r7:RowS (T+1+1+1) (w7.alloc (.cells #[.string s1] 9)) vl out:=row_keep RL6.out (fun g e=>(Below.heap_alloc _ _ _ (by have:=hown6 g e;omega)).trans (hb7.block g (hown6 g e).2))
          obtain ⟨g8,cap8,w8,hap,q8,p8,gr8,hg8⟩:=run_append_two (P:=Tryz.prog) (w7.alloc (.cells #[.string s1] 9)) 31 31 (T+1+1+1) 9 iS _ 16 Tryz.underlying31 hS hSz hSs hSb rfl vl (out.map Value.string) r7 ⟨w7.heap.size,0,none⟩ 1 (.string s1) (cells1 w7 _ _ _ rfl) rfl (by rw [List.length_map];unfold maxLen;omega) (by rw [List.length_map];omega) (by rw [World.size_alloc];have:=Z6.out;omega)
          have A8:=qh (app_same hb7 gr8)
          have f8:w8.frozen? ⟨L1,0,none⟩=false:=frozen_of_row _ _ _ _ _ ((A8.out.1 L1 (by have:=Z6.out;omega) (fun e=>by have:=hown6 L1 e;omega)).trans CL6.out)
          have c8:w8.cell? ⟨L1,0,none⟩=some vl:=cell_of_row _ _ _ _ _ _ ((A8.out.1 L1 (by have:=Z6.out;omega) (fun e=>by have:=hown6 L1 e;omega)).trans CL6.out)
          have Q8:=qh (rowS_snoc q8)
          have HG8:=qh (own_or (n:=(out++[s1]).length) (cap:=cap8) hg8 (by rw [World.size_alloc];exact Nat.le_succ_of_le hz7))
          rw [List.length_map] at hap
          have HAP:=qh hap
          clear q8 p8 gr8 hg8 r7 hb7 hap
          go_simp
          refine hK _ _ ?_
          clear hK K
          refine wpAnyIn_ready (rs:=[4]) (by kernel_rfl) (by simp) ?_
          refine AllReadyIn.cons rfl (fun K hK=>?_) ?_
          ·skip
           go_simp
           refine hK _ _ ?_
           clear hK K
           refine wpAnyIn_ready (rs:=[5]) (by kernel_rfl) (by simp) ?_
           refine AllReadyIn.cons rfl (fun K hK=>?_) ?_
           ·skip
            refine stepIn_append rfl _ _ 31 rfl rfl rfl HAP.out ?_
            refine hK _ _ ?_
            clear hK K
            refine wpAnyIn_ready (rs:=[6]) (by kernel_rfl) (by simp) ?_
            refine AllReadyIn.cons rfl (fun K hK=>?_) ?_
            ·skip
             go_simp
             refine hK _ _ ?_
             clear hK K
             refine wpAnyIn_done (by kernel_rfl) ?_ _
             go_simp
             simp only [roundPostP]
             exact LEAF g8 cap8 w8 A8.out Q8.out HG8.out
            exact AllReadyIn.nil
           exact AllReadyIn.nil
          exact AllReadyIn.nil
         exact AllReadyIn.nil
        refine AllReadyIn.cons rfl (fun K hK=>?_) ?_
        ·skip
         go_simp
         refine ⟨trivial,fun e=>(by cases e),?_⟩
         refine (CallsIn.inRound _ ((callsIn_wide (n:=m - 1)).2 CC6.out)).mono ?_
         rintro e w7 ⟨rfl,hb7⟩
         have hz7:w6.heap.size≤w7.heap.size:=hb7.size
         have hL7:L1 < w7.heap.size:=(by have:=Z6.out;omega)
         have l7:w7.cell? ⟨L1,0,none⟩=some vl:=(hb7.cell (p:=⟨L1,0,none⟩) (show L1 < w6.heap.size by have:=Z6.out;omega)).trans l6
         have l7a:=(fun o=>(World.cell?_alloc_past (w:=w7) o L1 0 hL7).trans l7)
         have r7:RowS (T+1+1+1) (w7.alloc (.cells #[.string s1] 9)) vl out:=row_keep RL6.out (fun g e=>(Below.heap_alloc _ _ _ (by have:=hown6 g e;omega)).trans (hb7.block g (hown6 g e).2))
         obtain ⟨g8,cap8,w8,hap,q8,p8,gr8,hg8⟩:=run_append_two (P:=Tryz.prog) (w7.alloc (.cells #[.string s1] 9)) 31 31 (T+1+1+1) 9 iS _ 16 Tryz.underlying31 hS hSz hSs hSb rfl vl (out.map Value.string) r7 ⟨w7.heap.size,0,none⟩ 1 (.string s1) (cells1 w7 _ _ _ rfl) rfl (by rw [List.length_map];unfold maxLen;omega) (by rw [List.length_map];omega) (by rw [World.size_alloc];have:=Z6.out;omega)
         have A8:=qh (app_same hb7 gr8)
         have f8:w8.frozen? ⟨L1,0,none⟩=false:=frozen_of_row _ _ _ _ _ ((A8.out.1 L1 (by have:=Z6.out;omega) (fun e=>by have:=hown6 L1 e;omega)).trans CL6.out)
         have c8:w8.cell? ⟨L1,0,none⟩=some vl:=cell_of_row _ _ _ _ _ _ ((A8.out.1 L1 (by have:=Z6.out;omega) (fun e=>by have:=hown6 L1 e;omega)).trans CL6.out)
         have Q8:=qh (rowS_snoc q8)
         have HG8:=qh (own_or (n:=(out++[s1]).length) (cap:=cap8) hg8 (by rw [World.size_alloc];exact Nat.le_succ_of_le hz7))
         rw [List.length_map] at hap
         have HAP:=qh hap
         clear q8 p8 gr8 hg8 r7 hb7 hap
         go_simp
         refine hK _ _ ?_
         clear hK K
         refine wpAnyIn_ready (rs:=[0,4]) (by kernel_rfl) (by simp) ?_
         refine AllReadyIn.cons rfl (fun K hK=>?_) ?_
         ·skip
          go_simp
          refine hK _ _ ?_
          clear hK K
          refine wpAnyIn_ready (rs:=[4]) (by kernel_rfl) (by simp) ?_
          refine AllReadyIn.cons rfl (fun K hK=>?_) ?_
          ·skip
           go_simp
           refine hK _ _ ?_
           clear hK K
           refine wpAnyIn_ready (rs:=[5]) (by kernel_rfl) (by simp) ?_
           refine AllReadyIn.cons rfl (fun K hK=>?_) ?_
           ·skip
            refine stepIn_append rfl _ _ 31 rfl rfl rfl HAP.out ?_
            refine hK _ _ ?_
            clear hK K
            refine wpAnyIn_ready (rs:=[6]) (by kernel_rfl) (by simp) ?_
            refine AllReadyIn.cons rfl (fun K hK=>?_) ?_
            ·skip
             go_simp
             refine hK _ _ ?_
             clear hK K
             refine wpAnyIn_done (by kernel_rfl) ?_ _
             go_simp
             simp only [roundPostP]
             exact LEAF g8 cap8 w8 A8.out Q8.out HG8.out
            exact AllReadyIn.nil
           exact AllReadyIn.nil
          exact AllReadyIn.nil
         refine AllReadyIn.cons rfl (fun K hK=>?_) ?_
         ·skip
          go_simp
          refine hK _ _ ?_
          clear hK K
          refine wpAnyIn_ready (rs:=[0]) (by kernel_rfl) (by simp) ?_
          refine AllReadyIn.cons rfl (fun K hK=>?_) ?_
          ·skip
           go_simp
           refine hK _ _ ?_
           clear hK K
           refine wpAnyIn_ready (rs:=[5]) (by kernel_rfl) (by simp) ?_
           refine AllReadyIn.cons rfl (fun K hK=>?_) ?_
           ·skip
            refine stepIn_append rfl _ _ 31 rfl rfl rfl HAP.out ?_
            refine hK _ _ ?_
            clear hK K
            refine wpAnyIn_ready (rs:=[6]) (by kernel_rfl) (by simp) ?_
            refine AllReadyIn.cons rfl (fun K hK=>?_) ?_
            ·skip
             go_simp
             refine hK _ _ ?_
             clear hK K
             refine wpAnyIn_done (by kernel_rfl) ?_ _
             go_simp
             simp only [roundPostP]
             exact LEAF g8 cap8 w8 A8.out Q8.out HG8.out
            exact AllReadyIn.nil
           exact AllReadyIn.nil
          exact AllReadyIn.nil
         exact AllReadyIn.nil
        exact AllReadyIn.nil
       exact AllReadyIn.nil
      exact AllReadyIn.nil
  ·rintro e w' ⟨hv,hj | ⟨q,_,hf⟩⟩
   ·exact ⟨hv,hj.2⟩
   ·exact hf.elim
 rw [z4,hW1]
 refine hcall.mono ?_
 clear hcall j0 hsup hd1 hl1 old o4 B4 b4 hB1 m3 v3 l3 k3 r3 t3 B3 o3
 rintro e w' ⟨⟨v0,rfl⟩,j,jl⟩
 refine ⟨none,w'.putObj (T+1+1) (.loop { r with state:=.exhausted }),?_,?_⟩
 ·refine (run_endLoop (P:=Tryz.prog) jl (by rw [hr1];simp)).trans ?_
  rw [hr2]
 ·have j5:=j.putLoop hT { r with state:=.exhausted }
  obtain ⟨W5,hW5⟩:∃ W5,w'.putObj (T+1+1) (.loop { r with state:=.exhausted })=W5:=⟨_,rfl⟩
  rw [hW5] at j5 ⊢
  dsimp only [Exit.inBlock,Exit.then]
  obtain ⟨vl,cl5,rl5⟩:=j5.c
  have c5:W5.cell? ⟨L1,0,none⟩=some vl:=cell_of_row _ _ _ _ _ _ cl5
  have J5:=qh j5
  have RL5:=qh rl5
  clear j j5 jl hW5 cl5 rl5 hr hr1 hr2 hr3 hW1
  refine wpAt_of_wpIn (n:=6) ?_
  refine wpIn_wide.2 ?_
  go_wp2
  refine ⟨by simp,.inl ⟨_,_,rfl,run_takeDeferred J5.out.d,?_⟩⟩
  refine ⟨.tuple #[vl,.int .i64 0],by simp [results,Tryz.results70,go_sem],vl,rfl,?_,below_put (B1.trans (J5.out.b.mono (by omega))) _ _ (by omega)⟩
  exact row_keep (ownsRow_base RL5.out (by omega)) fun g e=>World.putObj_heap_other (by have:=World.ownsRow.lt RL5.out g e;omega)
end Go.Proofs.YtcimcjmdkjajfaaGreatDoor
namespace Go.Proofs.YtcimcjmdkjajfaaGreatDoor
open Go.RowKit Go.Shelf
set_option maxRecDepth 100000 in
set_option maxHeartbeats 2000000 in
theorem occurring_bad (t:Nd) (kind:Int) (w:World) (v0 v1 v2:Value) (ht:NdR w t v0 v1 v2) (c:Int) (hv:chkN t=c) (hc:c≠0) :
  Calls Tryz.prog 70 #[.agg #[v0,v1,v2],.int .i64 kind] w fun e w'=>e = .returned (.tuple #[.slice none 0 0,.int .i64 c])∧Below w.heap.size w w':=by
 obtain ⟨k,s,kids,a,cap,rfl,rfl,rfl,rfl,hs,hl⟩:=ht.form
 obtain ⟨W0,hW0⟩:∃ W0,(w.alloc (.cells #[.int .i64 k,.string s,.slice a kids.length cap] 24)).alloc (.cells #[.int .i64 kind] 3)=W0:=⟨_,rfl⟩
 have b0:Below w.heap.size w W0:=by rw [←hW0];exact ((Below.refl _ w).alloc (Nat.le_refl _) _).alloc (by simp) _
 have r0:Row3 W0 w.heap.size (.int .i64 k) (.string s) (.slice a kids.length cap):=by rw [←hW0];exact (Below.heap_alloc _ _ _ (by simp only [World.size_alloc];omega)).trans (World.alloc_heap_new _ _)
 have t0:NdR W0 (.mk k s kids) (.int .i64 k) (.string s) (.slice a kids.length cap):=ht.later b0
 have CC:=qh (check_tree _ W0 _ _ _ t0)
 rw [hv] at CC
 have hcb:((c:Int) != 0)=true:=by rw [bne_iff_ne];exact hc
 obtain ⟨⟨n0,n1,n2⟩,_⟩:=r0.cells
 have HB:=qh b0
 clear b0 r0 t0 ht hv hc
 go_enter Tryz.func70,Tryz.ntmps70
 go_upto_region 1 with fail
 (try rw [hW0])
 clear hW0
 go_wp2_with fail
 refine CC.out.mono ?_
 rintro e w1 ⟨rfl,hb⟩
 have HB1:=qh hb
 clear hb CC n0 n1 n2
 go_wp2
 go_ret2
 exact ⟨rfl,HB.out.trans (HB1.out.mono HB.out.size)⟩
def OccR (kind:Int) (t:Nd) (w:World) (e:Ending) (w':World):Prop :=
 ∃ v,e = .returned (.tuple #[v,.int .i64 (chkN t)])∧RowS w.heap.size w' v (if chkN t=0 then occs kind (preN 0 [] false t) else [])∧Below w.heap.size w w'
theorem occurring_any (t:Nd) (kind:Int) (w:World) (v0 v1 v2:Value) (ht:NdR w t v0 v1 v2) :
  Calls Tryz.prog 70 #[.agg #[v0,v1,v2],.int .i64 kind] w (OccR kind t w):=by
 by_cases h:chkN t=0
 ·refine (occurring_ok t kind w v0 v1 v2 ht h (valid_facts h).1 (valid_ok h).2).mono ?_
  rintro e w' ⟨v,rfl,hr,hb⟩
  refine ⟨v,by rw [h],?_,hb⟩
  rw [if_pos h]
  exact hr
 ·refine (occurring_bad t kind w v0 v1 v2 ht _ rfl h).mono ?_
  rintro e w' ⟨rfl,hb⟩
  refine ⟨_,rfl,?_,hb⟩
  rw [if_neg h]
  exact World.ownsRow_nil _ _ _ _
set_option maxRecDepth 100000 in
set_option maxHeartbeats 2000000 in
theorem occur_any (g:Nat) (kind:Int) (hg:(g=21∧kind=15)∨(g=23∧kind=16)) (t:Nd) (w:World) (v0 v1 v2:Value) (ht:NdR w t v0 v1 v2) :
  Calls Tryz.prog g #[.agg #[v0,v1,v2]] w (OccR kind t w):=by
 obtain ⟨k,s,kids,a,cap,rfl,rfl,rfl,rfl,hs,hl⟩:=ht.form
 obtain ⟨W0,hW0⟩:∃ W0,w.alloc (.cells #[.int .i64 k,.string s,.slice a kids.length cap] 24)=W0:=⟨_,rfl⟩
 have b0:Below w.heap.size w W0:=by rw [←hW0];exact (Below.refl _ w).alloc (Nat.le_refl _) _
 have z0:W0.heap.size=w.heap.size+1:=by rw [←hW0];simp
 have r0:Row3 W0 w.heap.size (.int .i64 k) (.string s) (.slice a kids.length cap):=by rw [←hW0];exact World.alloc_heap_new _ _
 have C0:=occurring_any _ kind W0 _ _ _ (ht.later b0)
 unfold OccR at C0 ⊢
 obtain ⟨L,hL⟩:∃ L,(if chkN (.mk k s kids)=0 then occs kind (preN 0 [] false (.mk k s kids)) else [])=L:=⟨_,rfl⟩
 obtain ⟨c,hc⟩:∃ c,chkN (.mk k s kids)=c:=⟨_,rfl⟩
 rw [hL,hc] at C0
 rw [hL,hc]
 have CC:=qh C0
 obtain ⟨⟨n0,n1,n2⟩,_⟩:=r0.cells
 have HB:=qh b0
 have HZ:=qh z0
 clear b0 r0 ht hL hc C0 z0
 rcases hg with ⟨rfl,rfl⟩ | ⟨rfl,rfl⟩
 ·go_enter Tryz.func21,Tryz.ntmps21
  go_upto_region 1 with fail
  (try rw [hW0])
  clear hW0
  go_wp2_with fail
  refine CC.out.mono ?_
  rintro e w1 ⟨v,rfl,hr,hb⟩
  have HB1:=qh hb
  have HR:=qh hr
  clear hb hr CC n0 n1 n2
  go_wp2
  go_ret2
  exact ⟨v,rfl,ownsRow_base HR.out (by have:=HZ.out;omega),HB.out.trans (HB1.out.mono HB.out.size)⟩
 ·go_enter Tryz.func23,Tryz.ntmps23
  go_upto_region 1 with fail
  (try rw [hW0])
  clear hW0
  go_wp2_with fail
  refine CC.out.mono ?_
  rintro e w1 ⟨v,rfl,hr,hb⟩
  have HB1:=qh hb
  have HR:=qh hr
  clear hb hr CC n0 n1 n2
  go_wp2
  go_ret2
  exact ⟨v,rfl,ownsRow_base HR.out (by have:=HZ.out;omega),HB.out.trans (HB1.out.mono HB.out.size)⟩
end Go.Proofs.YtcimcjmdkjajfaaGreatDoor
