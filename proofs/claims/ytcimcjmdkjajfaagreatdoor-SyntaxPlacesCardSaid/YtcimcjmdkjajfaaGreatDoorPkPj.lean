/- A part of the proof, packed: see the last text of this claim. -/
import Derived.Test.YtcimcjmdkjajfaaGreatDoorPkPf
import Derived.BigQuiet
import Derived.StillTailTactics
import Derived.Deep.RegionHeld3
import Derived.OwnWalkIn
import Derived.Stop.RegionWithIn
import Derived.BigGuardIn
import Derived.Shelf.Abstract
import Derived.ProofKit
import Derived.SizedLaws
import Derived.ReadAgain
import Derived.Below
import Derived.Deep.Slices
import Derived.Deep.Fields
import Derived.ChangeSame
namespace Go.Proofs.YtcimcjmdkjajfaaGreatDoor
open Go.RowKit Go.Shelf
attribute [local go_sem] Oper.semAt_some
set_option maxRecDepth 100000 in
set_option maxHeartbeats 2000000 in
theorem places_any (t x:Nd) (p:List Int) (w:World) (v0 v1 v2 vp x0 x1 x2:Value) (ht:NdR w t v0 v1 v2) (hp:PathR w vp p) (hx:NdR w x x0 x1 x2) (hw:2≤w.heap.size) (gl:GLw w) :
  Calls Tryz.prog 5 #[.agg #[v0,v1,v2],vp,.agg #[x0,x1,x2]] w fun e w'=>e = .returned (.bool true)∧Below w.heap.size w w':=by
 obtain ⟨k,s,l,a,cap,rfl,rfl,rfl,rfl,hs,hl⟩:=ht.form
 obtain ⟨kx,sx,lx,ax,cx,rfl,rfl,rfl,rfl,hsx,hlx⟩:=hx.form
 obtain ⟨er,tr,hA⟩:=atS_ex (chkN (.mk k s l)) (goN (.mk k s l) p)
 obtain ⟨er2,tr2,hA2⟩:=putS_ex (chkN (.mk k s l)) (chkN (.mk kx sx lx)) (goN (.mk k s l) p) (chkN (putN (.mk k s l) p (.mk kx sx lx))) (putN (.mk k s l) p (.mk kx sx lx))
 have hvp:∃ b1 c1,vp = .slice b1 p.length c1:=by obtain ⟨_,_,_,c1,b1,e,_⟩:=hp;exact ⟨b1,c1,e⟩
 obtain ⟨b1,c1,rfl⟩:=hvp
 obtain ⟨W0,hW0⟩:∃ W0,(w.alloc (.cells #[.int .i64 k,.string s,.slice a l.length cap] 24)).alloc (.cells #[.int .i64 kx,.string sx,.slice ax lx.length cx] 24)=W0:=⟨_,rfl⟩
 obtain ⟨h,hh⟩:∃ h,w.heap.size=h:=⟨_,rfl⟩
 have b0:Below h w W0:=by rw [←hW0,←hh];exact ((Below.refl _ w).alloc (Nat.le_refl _) _).alloc (by simp) _
 have z0:W0.heap.size=h+1+1:=by rw [←hW0];simp [hh]
 have r0:Row3 W0 h (.int .i64 k) (.string s) (.slice a l.length cap):=by rw [←hW0,←hh];exact (Below.heap_alloc _ _ _ (by simp only [World.size_alloc];omega)).trans (World.alloc_heap_new _ _)
 have q0:Row3 W0 (h+1) (.int .i64 kx) (.string sx) (.slice ax lx.length cx):=by rw [←hW0,←hh];exact alloc_at (by simp)
 have CS:=qh (saneS_any W0 (by omega) (gl.keep fun b hb hl=>b0.block b (by omega)))
 have CA:=qh (fun W (hb:Below h w W)=>at_any _ _ _ _ _ p W (ht.later (by rw [hh];exact hb)) (hp.later (by rw [hh];exact hb)) er tr hA)
 have CB:=qh (fun W (hb:Below h w W)=>rAt_any _ _ _ _ _ p W (ht.later (by rw [hh];exact hb)) (hp.later (by rw [hh];exact hb)) er tr hA)
 have CC:=qh (fun W (hb:Below h w W)=>putTree_any _ _ _ _ _ _ _ _ _ p W (ht.later (by rw [hh];exact hb)) (hp.later (by rw [hh];exact hb)) (hx.later (by rw [hh];exact hb)) er2 tr2 hA2)
 have CD:=qh (fun W (hb:Below h w W)=>rPutTree_any _ _ _ _ _ _ _ _ _ p W (ht.later (by rw [hh];exact hb)) (hp.later (by rw [hh];exact hb)) (hx.later (by rw [hh];exact hb)) er2 tr2 hA2)
 have HB0:=qh b0
 have HR0:=qh r0
 have HQ0:=qh q0
 have HH:=qh hh
 have HZ0:=qh z0
 clear ht hp hx gl hw b0 r0 q0 hA hA2 hs hl hsx hlx
 rw [hh]
 go_enter Tryz.func5,Tryz.ntmps5
 go_upto_region 1 with fail
 (try rw [hW0])
 (try rw [hh])
 clear hW0
 go_wp2_with fail
 refine CS.out.mono ?_
 rintro e w1 ⟨rfl,hb1⟩
 have zz:=HZ0.out
 have HB1:=qh (HB0.out.trans (hb1.mono (show h≤W0.heap.size by omega)))
 have hz1:h+1+1≤w1.heap.size:=by have:=hb1.size;omega
 have HR1:=qh (HR0.out.below hb1 HR0.out.lt)
 have HQ1:=qh (HQ0.out.below hb1 HQ0.out.lt)
 clear hb1 CS HR0 HQ0
 obtain ⟨⟨n0,n1,n2⟩,_⟩:=HR1.out.cells
 go_wp2_with fail
 refine (CA.out _ HB1.out).mono ?_
 rintro e w2 ⟨u0,u1,u2,rfl,t2,b2⟩
 obtain ⟨k1,s1,l1,a1,c1',rfl,rfl,rfl,rfl,hs1,hl1⟩:=t2.form
 obtain ⟨W2,hW2⟩:∃ W2,w2.alloc (.cells #[.int .i64 k1,.string s1,.slice a1 l1.length c1'] 24)=W2:=⟨_,rfl⟩
 have b2':Below w2.heap.size w2 W2:=by rw [←hW2];exact (Below.refl _ _).alloc (Nat.le_refl _) _
 have b12:=b2.trans (b2'.mono b2.size)
 have HB2:=qh (HB1.out.trans (b12.mono (show h≤w1.heap.size by omega)))
 obtain ⟨Y1,hY1⟩:∃ Y1,w2.heap.size=Y1:=⟨_,rfl⟩
 have HA2:=qh (show Row3 W2 Y1 (.int .i64 k1) (.string s1) (.slice a1 l1.length c1') by rw [←hW2];exact alloc_at hY1.symm)
 have HT2:=qh (t2.later b2')
 have HR2:=qh (HR1.out.below b12 HR1.out.lt)
 have HQ2:=qh (HQ1.out.below b12 HQ1.out.lt)
 have hz2:h+1+1≤W2.heap.size:=by have:=b12.size;omega
 clear n0 n1 n2 HR1 HQ1 t2 b2 b2' b12 CA
 obtain ⟨⟨n0,n1,n2⟩,_⟩:=HR2.out.cells
 go_wp2_with fail
 refine (CB.out _ HB2.out).mono ?_
 rintro e w3 ⟨u0,u1,u2,rfl,t3,b3⟩
 obtain ⟨_,_,_,a3,c3,e3,rfl,rfl,rfl,_,_⟩:=t3.form
 cases e3
 obtain ⟨W3,hW3⟩:∃ W3,w3.alloc (.cells #[.int .i64 k1,.string s1,.slice a3 l1.length c3,.int .i64 er] 40)=W3:=⟨_,rfl⟩
 have b3':Below w3.heap.size w3 W3:=by rw [←hW3];exact (Below.refl _ _).alloc (Nat.le_refl _) _
 have b23:=b3.trans (b3'.mono b3.size)
 have HB3:=qh (HB2.out.trans (b23.mono (show h≤W2.heap.size by omega)))
 obtain ⟨Y2,hY2⟩:∃ Y2,w3.heap.size=Y2:=⟨_,rfl⟩
 have HA3:=qh (show Row4 W3 Y2 (.int .i64 k1) (.string s1) (.slice a3 l1.length c3) (.int .i64 er) by rw [←hW3];exact alloc_at hY2.symm)
 have HT3:=qh (t3.later b3')
 have HR3:=qh (HR2.out.below b23 HR2.out.lt)
 have HQ3:=qh (HQ2.out.below b23 HQ2.out.lt)
 have HA2':=qh (HA2.out.below b23 HA2.out.lt)
 have HT2':=qh (HT2.out.later b23)
 have hz3:h+1+1≤W3.heap.size:=by have:=b23.size;omega
 clear n0 n1 n2 HR2 HQ2 t3 b3 b3' b23 CB hW2 HA2 HT2
 obtain ⟨⟨n0,n1,n2⟩,_⟩:=HR3.out.cells
 obtain ⟨⟨m0,m1,m2⟩,_⟩:=HQ3.out.cells
 go_wp2_with fail
 refine (CC.out _ HB3.out).mono ?_
 rintro e w4 ⟨u0,u1,u2,rfl,t4,b4⟩
 obtain ⟨k4,s4,l4,a4,c4,rfl,rfl,rfl,rfl,hs4,hl4⟩:=t4.form
 obtain ⟨W4,hW4⟩:∃ W4,w4.alloc (.cells #[.int .i64 k4,.string s4,.slice a4 l4.length c4] 24)=W4:=⟨_,rfl⟩
 have b4':Below w4.heap.size w4 W4:=by rw [←hW4];exact (Below.refl _ _).alloc (Nat.le_refl _) _
 have b34:=b4.trans (b4'.mono b4.size)
 have HB4:=qh (HB3.out.trans (b34.mono (show h≤W3.heap.size by omega)))
 obtain ⟨Y3,hY3⟩:∃ Y3,w4.heap.size=Y3:=⟨_,rfl⟩
 have HA4:=qh (show Row3 W4 Y3 (.int .i64 k4) (.string s4) (.slice a4 l4.length c4) by rw [←hW4];exact alloc_at hY3.symm)
 have HT4:=qh (t4.later b4')
 have HR4:=qh (HR3.out.below b34 HR3.out.lt)
 have HQ4:=qh (HQ3.out.below b34 HQ3.out.lt)
 have HA2'':=qh (HA2'.out.below b34 HA2'.out.lt)
 have HT2'':=qh (HT2'.out.later b34)
 have HA3':=qh (HA3.out.below b34 HA3.out.lt)
 have HT3':=qh (HT3.out.later b34)
 have hz4:h+1+1≤W4.heap.size:=by have:=b34.size;omega
 clear n0 n1 n2 m0 m1 m2 HR3 HQ3 t4 b4 b4' b34 CC hW3 HA2' HT2' HA3 HT3
 obtain ⟨⟨n0,n1,n2⟩,_⟩:=HR4.out.cells
 obtain ⟨⟨m0,m1,m2⟩,_⟩:=HQ4.out.cells
 go_wp2_with fail
 refine (CD.out _ HB4.out).mono ?_
 rintro e w5 ⟨u0,u1,u2,rfl,t5,b5⟩
 obtain ⟨_,_,_,a5,c5,e5,rfl,rfl,rfl,_,_⟩:=t5.form
 cases e5
 obtain ⟨W5,hW5⟩:∃ W5,w5.alloc (.cells #[.int .i64 k4,.string s4,.slice a5 l4.length c5,.int .i64 er2] 40)=W5:=⟨_,rfl⟩
 have b5':Below w5.heap.size w5 W5:=by rw [←hW5];exact (Below.refl _ _).alloc (Nat.le_refl _) _
 have b45:=b5.trans (b5'.mono b5.size)
 have HB5:=qh (HB4.out.trans (b45.mono (show h≤W4.heap.size by omega)))
 obtain ⟨Y4,hY4⟩:∃ Y4,w5.heap.size=Y4:=⟨_,rfl⟩
 have HA5:=qh (show Row4 W5 Y4 (.int .i64 k4) (.string s4) (.slice a5 l4.length c5) (.int .i64 er2) by rw [←hW5];exact alloc_at hY4.symm)
 have hz5:h+1+1≤W5.heap.size:=by have:=b45.size;omega
 have G2:=HA2''.out.below b45 HA2''.out.lt
 have G3:=HA3'.out.below b45 HA3'.out.lt
 have G4:=HA4.out.below b45 HA4.out.lt
 have T2:=HT2''.out.later b45
 have T3:=HT3'.out.later b45
 have HT4':=qh (HT4.out.later b45)
 have HT5:=qh (t5.later b5')
 have S1:=qh (rSameN _ (.mk k1 s1 l1) (.mk k1 s1 l1) W5 _ _ _ _ _ _ (Nat.le_refl _) T2 T3)
 rw [sameN_self] at S1
 have HG4:=qh G4
 clear n0 n1 n2 m0 m1 m2 HR4 HQ4 t5 b5 b5' b45 CD hW4 HA2'' HT2'' HA3' HT3' HA4 HT4 T2 T3
 obtain ⟨⟨n0,n1,n2⟩,_⟩:=G2.cells
 obtain ⟨⟨m0,m1,m2,m3⟩,_⟩:=G3.cells
 clear G2 G3 G4
 go_wp2_with fail
 refine S1.out.mono ?_
 rintro e w6 ⟨rfl,b6⟩
 have HB6:=qh (HB5.out.trans (b6.mono (show h≤W5.heap.size by omega)))
 have hz6:h+1+1≤w6.heap.size:=by have:=b6.size;omega
 have G4:=HG4.out.below b6 HG4.out.lt
 have G5:=HA5.out.below b6 HA5.out.lt
 have S2:=qh (rSameN _ (.mk k4 s4 l4) (.mk k4 s4 l4) w6 _ _ _ _ _ _ (Nat.le_refl _) (HT4'.out.later b6) (HT5.out.later b6))
 rw [sameN_self] at S2
 clear b6 S1 n0 n1 n2 m0 m1 m2 m3 HA5 HG4 HT4' HT5
 obtain ⟨⟨n0,n1,n2⟩,_⟩:=G4.cells
 obtain ⟨⟨m0,m1,m2,m3⟩,_⟩:=G5.cells
 clear G4 G5
 go_wp2_with fail
 refine S2.out.mono ?_
 rintro e w7 ⟨rfl,b7⟩
 have HB7:=qh (HB6.out.trans (b7.mono (show h≤w6.heap.size by omega)))
 clear b7 S2
 go_wp2
 go_ret
 exact ⟨rfl,HB7.out⟩
end Go.Proofs.YtcimcjmdkjajfaaGreatDoor
