/- A part of the proof, packed: see the last text of this claim. -/
import Derived.Test.YtcimcjmdkjajfaaGreatDoorPkPf
import Derived.BigQuiet
import Derived.StillTailTactics
import Derived.Deep.RegionHeld3
import Derived.OwnWalkIn
import Derived.Stop.RegionWithIn
import Derived.BigGuardIn
import Derived.Shelf.Abstract
import Derived.ProofKit
import Derived.SizedLaws
import Derived.ReadAgain
import Derived.Below
import Derived.Deep.Slices
import Derived.Deep.Fields
import Derived.ChangeSame
import Derived.ProofKit
import Derived.LaidMore
import Derived.OpenShut
import Derived.Stop.Joined
namespace Go.Proofs.YtcimcjmdkjajfaaGreatDoor
open Go.RowKit Go.Shelf
attribute [local go_sem] Oper.semAt_some
theorem put_go:∀ (p:List Int) (t t':Nd),goN t p=some t'→putN t p t'=t
 | [],t,t',h=>by
  have e:t=t':=by cases t;simpa [goN] using h
  subst e
  cases t;rfl
 | i :: p,.mk k s l,t',h=>by
  simp only [goN] at h
  split at h
  ·rename_i hi
   simp only [putN,dif_pos hi]
   rw [put_go p _ _ h,List.set_getElem_self]
  ·cases h
theorem go_put (x:Nd):∀ (p:List Int) (t:Nd),goN t p≠none→goN (putN t p x) p=some x
 | [],t,_=>by cases t;cases x;rfl
 | i :: p,.mk k s l,h=>by
  simp only [goN] at h
  split at h
  ·rename_i hi
   simp only [putN,dif_pos hi]
   have hi2:0≤i∧i < ((l.set i.toNat (putN (l[i.toNat]'(by omega)) p x)).length:Int):=by rw [List.length_set];exact hi
   simp only [goN]
   rw [dif_pos hi2,List.getElem_set_self]
   exact go_put x p _ h
  ·exact absurd rfl h
set_option maxRecDepth 100000 in
set_option maxHeartbeats 2000000 in
theorem puts_any (t x:Nd) (p:List Int) (w:World) (v0 v1 v2 vp x0 x1 x2:Value) (ht:NdR w t v0 v1 v2) (hp:PathR w vp p) (hx:NdR w x x0 x1 x2) (hw:2≤w.heap.size) (gl:GLw w) :
  Calls Tryz.prog 6 #[.agg #[v0,v1,v2],vp,.agg #[x0,x1,x2]] w fun e w'=>e = .returned (.bool true)∧Below w.heap.size w w':=by
 obtain ⟨k,s,l,a,cap,rfl,rfl,rfl,rfl,hs,hl⟩:=ht.form
 obtain ⟨kx,sx,lx,ax,cx,rfl,rfl,rfl,rfl,hsx,hlx⟩:=hx.form
 obtain ⟨er,tr,hA⟩:=atS_ex (chkN (.mk k s l)) (goN (.mk k s l) p)
 obtain ⟨er3,tr3,hA3⟩:=putS_ex (chkN (.mk k s l)) (chkN (.mk kx sx lx)) (goN (.mk k s l) p) (chkN (putN (.mk k s l) p (.mk kx sx lx))) (putN (.mk k s l) p (.mk kx sx lx))
 have hvp:∃ b1 c1,vp = .slice b1 p.length c1:=by obtain ⟨_,_,_,c1,b1,e,_⟩:=hp;exact ⟨b1,c1,e⟩
 obtain ⟨b1,c1,rfl⟩:=hvp
 obtain ⟨W0,hW0⟩:∃ W0,(w.alloc (.cells #[.int .i64 k,.string s,.slice a l.length cap] 24)).alloc (.cells #[.int .i64 kx,.string sx,.slice ax lx.length cx] 24)=W0:=⟨_,rfl⟩
 obtain ⟨h,hh⟩:∃ h,w.heap.size=h:=⟨_,rfl⟩
 have b0:Below h w W0:=by rw [←hW0,←hh];exact ((Below.refl _ w).alloc (Nat.le_refl _) _).alloc (by simp) _
 have z0:W0.heap.size=h+1+1:=by rw [←hW0];simp [hh]
 have r0:Row3 W0 h (.int .i64 k) (.string s) (.slice a l.length cap):=by rw [←hW0,←hh];exact (Below.heap_alloc _ _ _ (by simp only [World.size_alloc];omega)).trans (World.alloc_heap_new _ _)
 have q0:Row3 W0 (h+1) (.int .i64 kx) (.string sx) (.slice ax lx.length cx):=by rw [←hW0,←hh];exact alloc_at (by simp)
 have CS:=qh (saneS_any W0 (by omega) (gl.keep fun b hb hl=>b0.block b (by omega)))
 have CA:=qh (fun W (hb:Below h w W)=>at_any _ _ _ _ _ p W (ht.later (by rw [hh];exact hb)) (hp.later (by rw [hh];exact hb)) er tr hA)
 have HT:=qh ht
 have HX:=qh hx
 have HP:=qh hp
 have HAS:=qh hA
 have HAS3:=qh hA3
 have HB0:=qh b0
 have HR0:=qh r0
 have HQ0:=qh q0
 have HH:=qh hh
 have HZ0:=qh z0
 clear ht hp hx gl hw b0 r0 q0 hA hA3 hs hl hsx hlx
 rw [hh]
 go_enter Tryz.func6,Tryz.ntmps6
 go_upto_region 1 with fail
 (try rw [hW0])
 (try rw [hh])
 clear hW0
 go_wp2_with fail
 refine CS.out.mono ?_
 rintro e w1 ⟨rfl,hb1⟩
 have zz:=HZ0.out
 have HB1:=qh (HB0.out.trans (hb1.mono (show h≤W0.heap.size by omega)))
 have hz1:h+1+1≤w1.heap.size:=by have:=hb1.size;omega
 have HR1:=qh (HR0.out.below hb1 HR0.out.lt)
 have HQ1:=qh (HQ0.out.below hb1 HQ0.out.lt)
 clear hb1 CS HR0 HQ0
 obtain ⟨⟨n0,n1,n2⟩,_⟩:=HR1.out.cells
 go_wp2_with fail
 refine (CA.out _ HB1.out).mono ?_
 rintro e w2 ⟨u0,u1,u2,rfl,t2,b2⟩
 obtain ⟨k1,s1,l1,a1,c1',rfl,rfl,rfl,rfl,hs1,hl1⟩:=t2.form
 obtain ⟨W2,hW2⟩:∃ W2,w2.alloc (.cells #[.int .i64 k1,.string s1,.slice a1 l1.length c1'] 24)=W2:=⟨_,rfl⟩
 have b2':Below w2.heap.size w2 W2:=by rw [←hW2];exact (Below.refl _ _).alloc (Nat.le_refl _) _
 have b12:=b2.trans (b2'.mono b2.size)
 have HB2:=qh (HB1.out.trans (b12.mono (show h≤w1.heap.size by omega)))
 obtain ⟨Y1,hY1⟩:∃ Y1,w2.heap.size=Y1:=⟨_,rfl⟩
 have HA2:=qh (show Row3 W2 Y1 (.int .i64 k1) (.string s1) (.slice a1 l1.length c1') by rw [←hW2];exact alloc_at hY1.symm)
 have HT2:=qh (t2.later b2')
 have HR2:=qh (HR1.out.below b12 HR1.out.lt)
 have HQ2:=qh (HQ1.out.below b12 HQ1.out.lt)
 have hz2:h+1+1≤W2.heap.size:=by have:=b12.size;omega
 clear n0 n1 n2 HR1 HQ1 t2 b2 b2' b12 CA
 by_cases hr0:er=0
 ·subst hr0
  have hfc:Hid (chkN (.mk k s l)=0∧goN (.mk k s l) p=some (.mk k1 s1 l1)):=qh (by
   rcases HAS.out with h | h | h
   ·exact absurd h.2.1.symm h.1
   ·exact absurd h.2.2.1 (by decide)
   ·exact ⟨h.1,h.2.1⟩)
  obtain ⟨⟨n0,n1,n2⟩,_⟩:=HR2.out.cells
  obtain ⟨⟨m0,m1,m2⟩,_⟩:=HA2.out.cells
  obtain ⟨d,hd⟩:∃ d,chkN (.mk k1 s1 l1)=d:=⟨_,rfl⟩
  have hpg:=put_go p _ _ hfc.out.2
  by_cases hd0:d=0
  ·subst hd0
   have CP:=qh (putTree_any _ (.mk k1 s1 l1) _ _ _ _ _ _ _ p W2 (HT.out.later (by rw [HH.out];exact HB2.out)) (HP.out.later (by rw [HH.out];exact HB2.out)) HT2.out 0 (.mk k s l) (.inr (.inr (.inr ⟨hfc.out.1,hd,by rw [hfc.out.2];simp,by rw [hpg];exact hfc.out.1,.inr ⟨rfl,hpg.symm⟩⟩))))
   clear hpg hd
   go_wp2_with fail
   refine CP.out.mono ?_
   rintro e w3 ⟨u0,u1,u2,rfl,t3,b3⟩
   obtain ⟨_,_,_,a3,c3,e3,rfl,rfl,rfl,_,_⟩:=t3.form
   cases e3
   obtain ⟨W3,hW3⟩:∃ W3,w3.alloc (.cells #[.int .i64 k,.string s,.slice a3 l.length c3] 24)=W3:=⟨_,rfl⟩
   have b3':Below w3.heap.size w3 W3:=by rw [←hW3];exact (Below.refl _ _).alloc (Nat.le_refl _) _
   have b23:=b3.trans (b3'.mono b3.size)
   have HB3:=qh (HB2.out.trans (b23.mono (show h≤W2.heap.size by omega)))
   obtain ⟨Y2,hY2⟩:∃ Y2,w3.heap.size=Y2:=⟨_,rfl⟩
   have A3:Row3 W3 Y2 (.int .i64 k) (.string s) (.slice a3 l.length c3):=by rw [←hW3];exact alloc_at hY2.symm
   have HR3:=qh (HR2.out.below b23 HR2.out.lt)
   have HQ3:=qh (HQ2.out.below b23 HQ2.out.lt)
   have hz3:h+1+1≤W3.heap.size:=by have:=b23.size;omega
   have S1:=qh (rSameN _ (.mk k s l) (.mk k s l) W3 _ _ _ _ _ _ (Nat.le_refl _) (t3.later b3') (HT.out.later (by rw [HH.out];exact HB3.out)))
   rw [sameN_self] at S1
   clear n0 n1 n2 m0 m1 m2 HR2 HQ2 t3 b3 b3' b23 CP hW2 HA2 HT2
   obtain ⟨⟨n0,n1,n2⟩,_⟩:=HR3.out.cells
   obtain ⟨⟨m0,m1,m2⟩,_⟩:=A3.cells
   clear A3
   go_wp2_with fail
   refine S1.out.mono ?_
   rintro e w4 ⟨rfl,b4⟩
   have HB4:=qh (HB3.out.trans (b4.mono (show h≤W3.heap.size by omega)))
   have hz4:h+1+1≤w4.heap.size:=by have:=b4.size;omega
   have HR4:=qh (HR3.out.below b4 HR3.out.lt)
   have HQ4:=qh (HQ3.out.below b4 HQ3.out.lt)
   clear n0 n1 n2 m0 m1 m2 b4 S1 HR3 HQ3
   have CQ:=qh (putTree_any _ _ _ _ _ _ _ _ _ p w4 (HT.out.later (by rw [HH.out];exact HB4.out)) (HP.out.later (by rw [HH.out];exact HB4.out)) (HX.out.later (by rw [HH.out];exact HB4.out)) er3 tr3 HAS3.out)
   obtain ⟨⟨n0,n1,n2⟩,_⟩:=HR4.out.cells
   obtain ⟨⟨m0,m1,m2⟩,_⟩:=HQ4.out.cells
   go_wp2_with fail
   refine CQ.out.mono ?_
   rintro e w5 ⟨u0,u1,u2,rfl,t5,b5⟩
   obtain ⟨k5,s5,l5,a5,c5,rfl,rfl,rfl,rfl,_,_⟩:=t5.form
   obtain ⟨W5,hW5⟩:∃ W5,w5.alloc (.cells #[.int .i64 k5,.string s5,.slice a5 l5.length c5] 24)=W5:=⟨_,rfl⟩
   have b5':Below w5.heap.size w5 W5:=by rw [←hW5];exact (Below.refl _ _).alloc (Nat.le_refl _) _
   have b45:=b5.trans (b5'.mono b5.size)
   have HB5:=qh (HB4.out.trans (b45.mono (show h≤w4.heap.size by omega)))
   obtain ⟨Y3,hY3⟩:∃ Y3,w5.heap.size=Y3:=⟨_,rfl⟩
   have A5:Row3 W5 Y3 (.int .i64 k5) (.string s5) (.slice a5 l5.length c5):=by rw [←hW5];exact alloc_at hY3.symm
   have HQ5:=qh (HQ4.out.below b45 HQ4.out.lt)
   have HT5:=qh (t5.later b5')
   have hz5:h+1+1≤W5.heap.size:=by have:=b45.size;omega
   clear n0 n1 n2 m0 m1 m2 HR4 HQ4 t5 b5 b5' b45 CQ hW3
   by_cases hr3:er3=0
   ·subst hr3
    have hfd:Hid (chkN (.mk k5 s5 l5)=0∧goN (.mk k5 s5 l5) p=some (.mk kx sx lx)):=qh (by
     have hg:=go_put (.mk kx sx lx) p (.mk k s l) (by rw [hfc.out.2];simp)
     rcases HAS3.out with h | h | h | h
     ·exact absurd h.2.1.symm h.1
     ·exact absurd h.2.2.1.symm h.2.1
     ·exact absurd h.2.2.2.1 (by decide)
     ·rcases h.2.2.2.2 with h9 | h9
      ·exact absurd rfl h9.1
      ·rw [h9.2];exact ⟨h.2.2.2.1,hg⟩)
    have CR:=qh (at_any _ _ _ _ _ p W5 HT5.out (HP.out.later (by rw [HH.out];exact HB5.out)) 0 (.mk kx sx lx) (.inr (.inr ⟨hfd.out.1,hfd.out.2,rfl⟩)))
    obtain ⟨⟨n0,n1,n2⟩,_⟩:=A5.cells
    clear A5
    go_wp2_with fail
    refine CR.out.mono ?_
    rintro e w6 ⟨u0,u1,u2,rfl,t6,b6⟩
    obtain ⟨_,_,_,a6,c6,e6,rfl,rfl,rfl,_,_⟩:=t6.form
    cases e6
    obtain ⟨W6,hW6⟩:∃ W6,w6.alloc (.cells #[.int .i64 kx,.string sx,.slice a6 lx.length c6] 24)=W6:=⟨_,rfl⟩
    have b6':Below w6.heap.size w6 W6:=by rw [←hW6];exact (Below.refl _ _).alloc (Nat.le_refl _) _
    have b56:=b6.trans (b6'.mono b6.size)
    have HB6:=qh (HB5.out.trans (b56.mono (show h≤W5.heap.size by omega)))
    obtain ⟨Y4,hY4⟩:∃ Y4,w6.heap.size=Y4:=⟨_,rfl⟩
    have A6:Row3 W6 Y4 (.int .i64 kx) (.string sx) (.slice a6 lx.length c6):=by rw [←hW6];exact alloc_at hY4.symm
    have Q6:=HQ5.out.below b56 HQ5.out.lt
    have hz6:h+1+1≤W6.heap.size:=by have:=b56.size;omega
    have S2:=qh (rSameN _ (.mk kx sx lx) (.mk kx sx lx) W6 _ _ _ _ _ _ (Nat.le_refl _) (t6.later b6') (HX.out.later (by rw [HH.out];exact HB6.out)))
    rw [sameN_self] at S2
    clear n0 n1 n2 t6 b6 b6' b56 CR hW5 HQ5 HT5
    obtain ⟨⟨n0,n1,n2⟩,_⟩:=A6.cells
    obtain ⟨⟨m0,m1,m2⟩,_⟩:=Q6.cells
    clear A6 Q6
    go_wp2_with fail
    refine S2.out.mono ?_
    rintro e w7 ⟨rfl,b7⟩
    have HB7:=qh (HB6.out.trans (b7.mono (show h≤W6.heap.size by omega)))
    clear b7 S2
    go_wp2
    go_ret
    exact ⟨rfl,HB7.out⟩
   ·have hr3':(er3==0)=false:=by simp [hr3]
    clear A5
    go_wp2
    go_ret
    exact ⟨rfl,HB5.out⟩
  ·have hd0':(d==0)=false:=by simp [hd0]
   have CP:=qh (putTree_any _ (.mk k1 s1 l1) _ _ _ _ _ _ _ p W2 (HT.out.later (by rw [HH.out];exact HB2.out)) (HP.out.later (by rw [HH.out];exact HB2.out)) HT2.out d zeroN (.inr (.inl ⟨hfc.out.1,by rw [hd];exact hd0,hd.symm,rfl⟩)))
   have HD:=qh hd
   clear hpg hd
   go_wp2_with fail
   refine CP.out.mono ?_
   rintro e w3 ⟨u0,u1,u2,rfl,t3,b3⟩
   obtain ⟨k3,s3,l3,a3,c3,e3,rfl,rfl,rfl,_,_⟩:=t3.form
   obtain ⟨W3,hW3⟩:∃ W3,w3.alloc (.cells #[.int .i64 k3,.string s3,.slice a3 l3.length c3] 24)=W3:=⟨_,rfl⟩
   have b3':Below w3.heap.size w3 W3:=by rw [←hW3];exact (Below.refl _ _).alloc (Nat.le_refl _) _
   have b23:=b3.trans (b3'.mono b3.size)
   have HB3:=qh (HB2.out.trans (b23.mono (show h≤W2.heap.size by omega)))
   have hz3:h+1+1≤W3.heap.size:=by have:=b23.size;omega
   have HA3:=qh (HA2.out.below b23 HA2.out.lt)
   have K1:=qh (fun W (hb:Below W2.heap.size W2 W)=>check_tree _ W _ _ _ (HT2.out.later hb))
   rw [HD.out] at K1
   have Hb23:=qh b23
   clear n0 n1 n2 m0 m1 m2 t3 b3 b3' b23 CP hW2
   obtain ⟨⟨m0,m1,m2⟩,_⟩:=HA3.out.cells
   go_wp2_with fail
   refine (K1.out _ Hb23.out).mono ?_
   rintro e w4 ⟨rfl,b4⟩
   have HB4:=qh (HB3.out.trans (b4.mono (show h≤W3.heap.size by omega)))
   have Hb24:=qh (Hb23.out.trans (b4.mono Hb23.out.size))
   have hz4:h+1+1≤w4.heap.size:=by have:=b4.size;omega
   have A4:=HA3.out.below b4 HA3.out.lt
   clear m0 m1 m2 b4
   obtain ⟨⟨m0,m1,m2⟩,_⟩:=A4.cells
   clear A4
   go_wp2_with fail
   refine (K1.out _ Hb24.out).mono ?_
   rintro e w5 ⟨rfl,b5⟩
   have HB5:=qh (HB4.out.trans (b5.mono (show h≤w4.heap.size by omega)))
   clear b5
   have hdd:(d==d)=true:=by simp
   go_wp2
   go_ret
   exact ⟨by simp [hd0],HB5.out⟩
 ·have hr0':(er==0)=false:=by simp [hr0]
  go_wp2
  go_ret
  exact ⟨rfl,HB2.out⟩
end Go.Proofs.YtcimcjmdkjajfaaGreatDoor

