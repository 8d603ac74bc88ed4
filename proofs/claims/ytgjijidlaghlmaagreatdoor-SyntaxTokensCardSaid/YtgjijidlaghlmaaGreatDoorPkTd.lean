/- A part of the proof, packed: see the last text of this claim. -/
import Derived.Test.YtgjijidlaghlmaaGreatDoorPkTb
import Derived.Test.YtgjijidlaghlmaaGreatDoorPkTc
import Derived.Lib.BufferRead
import Derived.Maps.AppendAt
import Derived.Lib.AppendStr
import Derived.Laws.Externs
import Derived.Lib.OthersKept
namespace Go.Proofs.YtgjijidlaghlmaaGreatDoor
open Go.RowKit Go.Shelf
theorem relabel {w:World} {k k':Int} {s:ByteArray} {l:List Nd} {v0 v1 v2:Value} (h:NdR w (.mk k s l) v0 v1 v2):NdR w (.mk k' ⟨#[]⟩ l) (.int .i64 k') (.string ⟨#[]⟩) v2:=by
 cases h with
 | mk _ _ _ a cap b o f0 f1 f2 hs hl hc ha h0 h1 h2 hr=>exact .mk k' ⟨#[]⟩ l a cap b o f0 f1 f2 (by decide) hl hc ha h0 h1 h2 hr
set_option maxRecDepth 100000 in
set_option maxHeartbeats 2000000 in
theorem binds_any (g:Nat) (eg:∀ args w,(callFunc g args).run Tryz.prog w = .ok (.enter g args) w) (B:Nd→Bool) (k:Int) (s:ByteArray) (l:List Nd) (a:Option Addr) (cap:Nat) (w:World) (hs:s.size≤maxLen) (hl:l.length≤maxLen)
  (hB:∀ i,(h:i < l.length)→Says g B l[i]) (ht:NdR w (.mk k s l) (.int .i64 k) (.string s) (.slice a l.length cap)) (R:Bool)
  (hR:∀ h:0 < l.length,((decide (l.length=1) || decide (l.length=2)) && ((nameB s || varB s) && ((l.take (l.length - 1)).all typB && B (l[l.length - 1]'(by omega)))))=R) (hR0:l.length=0→R=false) :
  Calls Tryz.prog 141 #[.agg #[.int .i64 k,.string s,.slice a l.length cap],.func (.func g) #[] #[]] w fun e w'=>e = .returned (.bool R)∧Below w.heap.size w w':=by
 have hb0:=(Below.refl w.heap.size w).alloc (Nat.le_refl _) (.cells #[.int .i64 k,.string s,.slice a l.length cap] 25)
 obtain ⟨h,hh⟩:∃ h,w.heap.size=h:=⟨_,rfl⟩
 obtain ⟨W1,hW1⟩:∃ W1,w.alloc (.cells #[.int .i64 k,.string s,.slice a l.length cap] 25)=W1:=⟨_,rfl⟩
 have R1:Row3 W1 h (.int .i64 k) (.string s) (.slice a l.length cap):=by rw [←hW1,←hh];exact Row3.new _ _ _ _
 have T1:=ht.later hb0
 rw [hW1] at hb0 T1
 rw [hh] at hb0
 have HB:=qh hb0
 have HT1:=qh T1
 have HR1:=qh R1
 have HW:=qh hW1
 obtain ⟨⟨n0,n1,n2⟩,_⟩:=R1.cells
 have hcap:=ht.cap
 have HL0:Hid (NdL W1 l (.slice a l.length cap)):=qh ⟨_,_,_,_,HT1.out⟩
 unfold maxLen at hl
 by_cases h0:l.length=0
 ·have hRf:=hR0 h0
  subst hRf
  have e1:((l.length:Int) - 1==0)=false:=by rw [beq_eq_false_iff_ne];omega
  have e2:((l.length:Int) - 1==1)=false:=by rw [beq_eq_false_iff_ne];omega
  clear h0 hR hR0 hB ht hb0 T1 R1 hW1
  go_enter Tryz.func141,Tryz.ntmps141
  go_upto_region 1 with fail
  rw [HW.out]
  go_wp2
  go_ret
  exact ⟨rfl,by first | exact HB.out | (rw [hh];exact HB.out)⟩
 ·have hpos:0 < l.length:=by omega
  have hRp:=hR hpos
  by_cases h12:l.length=1∨l.length=2
  ·rw [show (decide (l.length=1) || decide (l.length=2))=true from by rcases h12 with h | h <;> simp [h],Bool.true_and] at hRp
   obtain ⟨b,o,k1,s1,l1,a1,c1,rfl,e1,x0,x1,x2,r1⟩:=HT1.out.kid (l.length - 1) (by omega)
   have CN0:=isAny_any s hs W1
   have CE0:=fun w' (hb:Below W1.heap.size W1 w')=>every_any 79 ent_isType typB 0 ⟨#[]⟩ (l.take (l.length - 1)) (some ⟨b,o,none⟩) cap w' (by rw [List.length_take];unfold maxLen;omega) (fun i hi=>isType_any _ _ (Nat.le_refl _)) (by
    obtain ⟨k9,s9,u0,u1,h9⟩:=(HL0.out.later hb).take (l.length - 1) (by omega) cap (by omega)
    rw [show (l.take (l.length - 1)).length=l.length - 1 from by rw [List.length_take];omega]
    exact relabel h9)
   rw [show (l.take (l.length - 1)).length=l.length - 1 from by rw [List.length_take];omega] at CE0
   have CG0:=fun w' (hb:Below W1.heap.size W1 w')=>hB (l.length - 1) (by omega) w' (.int .i64 k1) (.string s1) (.slice a1 l1.length c1) (by rw [e1];exact r1.later hb)
   obtain ⟨VN,hVN⟩:∃ V,(nameB s || varB s)=V:=⟨_,rfl⟩
   obtain ⟨VE,hVE⟩:∃ V,(l.take (l.length - 1)).all typB=V:=⟨_,rfl⟩
   obtain ⟨VG,hVG⟩:∃ V,B (l[l.length - 1]'(by omega))=V:=⟨_,rfl⟩
   rw [hVN,hVE,hVG] at hRp
   simp only [hVN] at CN0
   rw [hVE] at CE0
   rw [hVG] at CG0
   obtain ⟨M,hM⟩:∃ M,l.length - 1=M:=⟨_,rfl⟩
   obtain ⟨L,hL⟩:∃ L,l.length=L:=⟨_,rfl⟩
   have hML:((L:Nat):Int) - 1=(M:Int):=by omega
   rw [hM] at CE0 x0 x1 x2
   rw [hL] at n2 hcap hl h12 hpos
   have CN:=qh CN0
   have CE:=qh CE0
   have CG:=qh CG0
   have HRp:=qh hRp
   have HR2:Hid (Row3 W1 h (.int .i64 k) (.string s) (.slice (some ⟨b,o,none⟩) L cap)):=by rw [←hL];exact HR1
   have HW2:Hid (w.alloc (.cells #[.int .i64 k,.string s,.slice (some ⟨b,o,none⟩) L cap] 25)=W1):=by rw [←hL];exact HW
   have L2:=qh (lt_of_cell x0)
   have HX:=qh (show W1.cell? ⟨b,o+M*3,none⟩=some (.int .i64 k1)∧W1.cell? ⟨b,o+M*3+1,none⟩=some (.string s1)∧W1.cell? ⟨b,o+M*3+2,none⟩=some (.slice a1 l1.length c1) from ⟨x0,x1,x2⟩)
   have hM2:M=0∨M=1:=by omega
   have hMc:M≤cap:=by omega
   rw [hL]
   clear hR hR0 hB ht hb0 T1 R1 hW1 hRp hVN hVE hVG CN0 CE0 CG0 e1 r1 x0 x1 x2 HT1 HL0 HR1 HW hL
   rcases hM2 with rfl | rfl
   ·have hL1:L=1:=by omega
    subst hL1
    obtain ⟨⟨n0,n1,n2⟩,_⟩:=HR2.out.cells
    go_enter Tryz.func141,Tryz.ntmps141
    go_upto_region 1 with fail
    rw [HW2.out]
    go_wp2_with fail
    refine CN.out.mono ?_
    rintro e w2 ⟨rfl,hb2⟩
    have R2:=qh (HR2.out.below hb2 HR2.out.lt)
    have HB2:=qh hb2
    clear hb2 n0 n1 n2 CN
    obtain ⟨⟨n0,n1,n2⟩,_⟩:=R2.out.cells
    cases VN with
    | false =>
     go_wp2
     go_ret
     exact ⟨by rw [←HRp.out];rfl,by first | exact HB.out.trans (HB2.out.mono (by have:=HR2.out.lt;omega)) | (rw [hh];exact HB.out.trans (HB2.out.mono (by have:=HR2.out.lt;omega)))⟩
    | true =>
     go_wp2_with fail
     refine (CE.out _ HB2.out).mono ?_
     rintro e w3 ⟨rfl,hb3⟩
     have HB3:=qh (HB2.out.trans (hb3.mono HB2.out.size))
     clear hb3 n0 n1 n2 CE
     obtain ⟨⟨n0,n1,n2⟩,_⟩:=(HR2.out.below HB3.out HR2.out.lt).cells
     have x0:=(HB3.out.cell (p:=⟨b,o+0*3,none⟩) L2.out).trans HX.out.1
     have x1:=(HB3.out.cell (p:=⟨b,o+0*3+1,none⟩) L2.out).trans HX.out.2.1
     have x2:=(HB3.out.cell (p:=⟨b,o+0*3+2,none⟩) L2.out).trans HX.out.2.2
     simp only [Nat.zero_mul,Nat.add_zero] at x0 x1 x2
     cases VE with
     | false =>
      go_wp2
      go_ret
      exact ⟨by rw [←HRp.out];rfl,by first | exact HB.out.trans (HB3.out.mono (by have:=HR2.out.lt;omega)) | (rw [hh];exact HB.out.trans (HB3.out.mono (by have:=HR2.out.lt;omega)))⟩
     | true =>
      go_wp2_with fail
      refine (CG.out _ HB3.out).mono ?_
      rintro e w4 ⟨rfl,hb4⟩
      have HB4:=qh (HB3.out.trans (hb4.mono HB3.out.size))
      clear hb4 n0 n1 n2 x0 x1 x2 CG
      cases VG
      ·skip
       go_wp2
       go_ret
       exact ⟨by rw [←HRp.out];rfl,by first | exact HB.out.trans (HB4.out.mono (by have:=HR2.out.lt;omega)) | (rw [hh];exact HB.out.trans (HB4.out.mono (by have:=HR2.out.lt;omega)))⟩
      ·skip
       go_wp2
       go_ret
       exact ⟨by rw [←HRp.out];rfl,by first | exact HB.out.trans (HB4.out.mono (by have:=HR2.out.lt;omega)) | (rw [hh];exact HB.out.trans (HB4.out.mono (by have:=HR2.out.lt;omega)))⟩
   ·have hL1:L=2:=by omega
    subst hL1
    obtain ⟨⟨n0,n1,n2⟩,_⟩:=HR2.out.cells
    go_enter Tryz.func141,Tryz.ntmps141
    go_upto_region 1 with fail
    rw [HW2.out]
    go_wp2_with fail
    refine CN.out.mono ?_
    rintro e w2 ⟨rfl,hb2⟩
    have R2:=qh (HR2.out.below hb2 HR2.out.lt)
    have HB2:=qh hb2
    clear hb2 n0 n1 n2 CN
    obtain ⟨⟨n0,n1,n2⟩,_⟩:=R2.out.cells
    cases VN with
    | false =>
     go_wp2
     go_ret
     exact ⟨by rw [←HRp.out];rfl,by first | exact HB.out.trans (HB2.out.mono (by have:=HR2.out.lt;omega)) | (rw [hh];exact HB.out.trans (HB2.out.mono (by have:=HR2.out.lt;omega)))⟩
    | true =>
     go_wp2_with fail
     refine (CE.out _ HB2.out).mono ?_
     rintro e w3 ⟨rfl,hb3⟩
     have HB3:=qh (HB2.out.trans (hb3.mono HB2.out.size))
     clear hb3 n0 n1 n2 CE
     obtain ⟨⟨n0,n1,n2⟩,_⟩:=(HR2.out.below HB3.out HR2.out.lt).cells
     have x0:=(HB3.out.cell (p:=⟨b,o+1*3,none⟩) L2.out).trans HX.out.1
     have x1:=(HB3.out.cell (p:=⟨b,o+1*3+1,none⟩) L2.out).trans HX.out.2.1
     have x2:=(HB3.out.cell (p:=⟨b,o+1*3+2,none⟩) L2.out).trans HX.out.2.2
     simp only [Nat.one_mul] at x0 x1 x2
     cases VE with
     | false =>
      go_wp2
      go_ret
      exact ⟨by rw [←HRp.out];rfl,by first | exact HB.out.trans (HB3.out.mono (by have:=HR2.out.lt;omega)) | (rw [hh];exact HB.out.trans (HB3.out.mono (by have:=HR2.out.lt;omega)))⟩
     | true =>
      go_wp2_with fail
      refine (CG.out _ HB3.out).mono ?_
      rintro e w4 ⟨rfl,hb4⟩
      have HB4:=qh (HB3.out.trans (hb4.mono HB3.out.size))
      clear hb4 n0 n1 n2 x0 x1 x2 CG
      cases VG
      ·skip
       go_wp2
       go_ret
       exact ⟨by rw [←HRp.out];rfl,by first | exact HB.out.trans (HB4.out.mono (by have:=HR2.out.lt;omega)) | (rw [hh];exact HB.out.trans (HB4.out.mono (by have:=HR2.out.lt;omega)))⟩
      ·skip
       go_wp2
       go_ret
       exact ⟨by rw [←HRp.out];rfl,by first | exact HB.out.trans (HB4.out.mono (by have:=HR2.out.lt;omega)) | (rw [hh];exact HB.out.trans (HB4.out.mono (by have:=HR2.out.lt;omega)))⟩
  ·have e1:((l.length:Int) - 1==0)=false:=by rw [beq_eq_false_iff_ne];omega
   have e2:((l.length:Int) - 1==1)=false:=by rw [beq_eq_false_iff_ne];omega
   have hRf:R=false:=by rw [←hRp,decide_eq_false (fun h=>h12 (.inl h)),decide_eq_false (fun h=>h12 (.inr h))];rfl
   subst hRf
   clear hR hR0 hB ht hb0 T1 R1 hW1 hRp
   go_enter Tryz.func141,Tryz.ntmps141
   go_upto_region 1 with fail
   rw [HW.out]
   go_wp2
   go_ret
   exact ⟨rfl,by first | exact HB.out | (rw [hh];exact HB.out)⟩
end Go.Proofs.YtgjijidlaghlmaaGreatDoor
namespace Go.Proofs.YtgjijidlaghlmaaGreatDoor
open Go.RowKit Go.Shelf
theorem bind_val (s:ByteArray) (l:List Nd) (h:0 < l.length) (X:Bool):((decide (l.length=1) || decide (l.length=2)) && ((nameB s || varB s) && ((l.take (l.length - 1)).all typB && X)))=(bindB s l && X):=by
 unfold bindB
 match l,h with
 | [a],_=>simp
 | [a,b],_=>cases (nameB s || varB s) <;> cases h:typB a <;> cases X <;> simp [headTyp,h]
 | a :: b :: c :: l,_=>simp
theorem has_v (N:ByteArray→Bool) (lo hi:Nat) (a b:Int) (ha:a=(lo:Int)) (hb:b=(hi:Int)) (B:Nd→Bool) (s:ByteArray) (l:List Nd):hasB N a b B s l=(decide (lo≤l.length) && (decide (l.length≤hi) && (N s && l.all B))):=by
 subst ha;subst hb;exact has_eq N lo hi B s l
theorem not_binary {k:Int} (h1:k≠22) (h2:k≠23) (h3:k≠24) (h4:k≠25) (h5:k≠26) (h6:k≠27) (h7:k≠28):isBinary k=false:=by
 unfold isBinary
 rw [Bool.and_eq_false_iff,decide_eq_false_iff_not,decide_eq_false_iff_not]
 omega
theorem two_dec (n m:Nat):(decide (n≤m) && decide (m≤n))=decide (m=n):=by
 by_cases h:m=n
 ·rw [decide_eq_true h,decide_eq_true (by omega),decide_eq_true (by omega)];rfl
 ·rw [decide_eq_false h]
  by_cases h2:n≤m
  ·rw [decide_eq_false (by omega:¬ m≤n),Bool.and_false]
  ·rw [decide_eq_false h2,Bool.false_and]
theorem exact_v (N:ByteArray→Bool) (n:Nat) (a:Int) (ha:a=(n:Int)) (B:Nd→Bool) (s:ByteArray) (l:List Nd):hasB N a a B s l=(N s && (decide (l.length=n) && l.all B)):=by
 rw [has_v N n n a a ha ha,←Bool.and_assoc,two_dec]
 cases N s <;> cases decide (l.length=n) <;> cases l.all B <;> rfl
theorem upto_v (N:ByteArray→Bool) (B:Nd→Bool) (s:ByteArray) (l:List Nd):hasB N 0 8 B s l=(N s && (l.all B && decide (l.length≤8))):=by
 rw [has_v N 0 8 0 8 rfl rfl,decide_eq_true (Nat.zero_le _)]
 cases N s <;> cases decide (l.length≤8) <;> cases l.all B <;> rfl
theorem from_v (N:ByteArray→Bool) (lo:Nat) (a:Int) (ha:a=(lo:Int)) (B:Nd→Bool) (s:ByteArray) (l:List Nd):hasB N a (l.length:Int) B s l=(N s && (decide (lo≤l.length) && l.all B)):=by
 rw [has_v N lo l.length a _ ha rfl,decide_eq_true (Nat.le_refl _)]
 cases N s <;> cases decide (lo≤l.length) <;> cases l.all B <;> rfl
set_option maxRecDepth 100000 in
set_option maxHeartbeats 2000000 in
theorem isTerm_any (n:Nat):∀ t:Nd,t.sz≤n→Says 78 termB t:=by
 induction n with
 | zero=>intro t h;cases t;simp only [Nd.sz] at h;omega
 | succ n ih =>
  intro t hsz w v0 v1 v2 ht
  obtain ⟨k,s,l,a,cap,rfl,rfl,rfl,rfl,hs,hl⟩:=ht.form
  have hb0:=(Below.refl w.heap.size w).alloc (Nat.le_refl _) (.cells #[.int .i64 k,.string s,.slice a l.length cap] 25)
  obtain ⟨h,hh⟩:∃ h,w.heap.size=h:=⟨_,rfl⟩
  obtain ⟨W1,hW1⟩:∃ W1,w.alloc (.cells #[.int .i64 k,.string s,.slice a l.length cap] 25)=W1:=⟨_,rfl⟩
  have R1:Row3 W1 h (.int .i64 k) (.string s) (.slice a l.length cap):=by rw [←hW1,←hh];exact Row3.new _ _ _ _
  have T1:=ht.later hb0
  rw [hW1] at hb0 T1
  rw [hh] at hb0
  have HB:=qh hb0
  have HT1:=qh T1
  have HR1:=qh R1
  have HW:=qh hW1
  obtain ⟨⟨n0,n1,n2⟩,_⟩:=R1.cells
  by_cases hk15:k=15
  ·subst hk15
   have CH:=fun w' (hb:Below W1.heap.size W1 w')=>has_any 139 78 ent_isName ent_isTerm nameB termB 0 8 15 s l a cap w' hl (name_says s hs) (fun i hi=>ih l[i] (Nat.le_of_lt_succ (Nat.lt_of_lt_of_le (Nd.kid_lt _ s l i hi) hsz))) (HT1.out.later hb)
   obtain ⟨V,hV⟩:∃ V,hasB nameB 0 8 termB s l=V:=⟨_,rfl⟩
   rw [hV] at CH
   have CC:=qh CH
   have HS:Hid (termB (.mk 15 s l)=V):=qh (by rw [←hV];rw [termB,if_pos rfl,termL_all,upto_v])
   clear CH hV
   clear ht hb0 T1 R1 hW1 ih hsz
   go_enter Tryz.func78,Tryz.ntmps78
   go_upto_region 1 with fail
   rw [HW.out]
   go_wp2_with fail
   refine (CC.out _ (Below.refl _ _)).mono ?_
   rintro e w2 ⟨rfl,hb2⟩
   have HB2:=qh hb2
   clear hb2 CC n0 n1 n2
   cases V
   ·skip
    go_wp2
    go_ret
    exact ⟨by rw [HS.out];rfl,by first | exact HB.out.trans (HB2.out.mono (by have:=HR1.out.lt;omega)) | (rw [hh];exact HB.out.trans (HB2.out.mono (by have:=HR1.out.lt;omega)))⟩
   ·skip
    go_wp2
    go_ret
    exact ⟨by rw [HS.out];rfl,by first | exact HB.out.trans (HB2.out.mono (by have:=HR1.out.lt;omega)) | (rw [hh];exact HB.out.trans (HB2.out.mono (by have:=HR1.out.lt;omega)))⟩
  ·skip
   by_cases hk16:k=16
   ·subst hk16
    have CH:=fun w' (hb:Below W1.heap.size W1 w')=>has_any 98 78 ent_isVar ent_isTerm varB termB 0 8 16 s l a cap w' hl (var_says s hs) (fun i hi=>ih l[i] (Nat.le_of_lt_succ (Nat.lt_of_lt_of_le (Nd.kid_lt _ s l i hi) hsz))) (HT1.out.later hb)
    obtain ⟨V,hV⟩:∃ V,hasB varB 0 8 termB s l=V:=⟨_,rfl⟩
    rw [hV] at CH
    have CC:=qh CH
    have HS:Hid (termB (.mk 16 s l)=V):=qh (by rw [←hV];rw [termB,if_neg (by decide),if_pos rfl,termL_all,upto_v])
    clear CH hV
    clear ht hb0 T1 R1 hW1 ih hsz
    go_enter Tryz.func78,Tryz.ntmps78
    go_upto_region 1 with fail
    rw [HW.out]
    go_wp2_with fail
    refine (CC.out _ (Below.refl _ _)).mono ?_
    rintro e w2 ⟨rfl,hb2⟩
    have HB2:=qh hb2
    clear hb2 CC n0 n1 n2
    cases V
    ·skip
     go_wp2
     go_ret
     exact ⟨by rw [HS.out];rfl,by first | exact HB.out.trans (HB2.out.mono (by have:=HR1.out.lt;omega)) | (rw [hh];exact HB.out.trans (HB2.out.mono (by have:=HR1.out.lt;omega)))⟩
    ·skip
     go_wp2
     go_ret
     exact ⟨by rw [HS.out];rfl,by first | exact HB.out.trans (HB2.out.mono (by have:=HR1.out.lt;omega)) | (rw [hh];exact HB.out.trans (HB2.out.mono (by have:=HR1.out.lt;omega)))⟩
   ·skip
    by_cases hk17:k=17
    ·subst hk17
     obtain ⟨V,hV⟩:∃ V,termB (.mk 17 s l)=V:=⟨_,rfl⟩
     have hV2:(bindB s l && termE l)=V:=by rw [←hV];rw [termB,if_neg (by decide),if_neg (by decide),decide_eq_true rfl,Bool.true_and]
     have CC:=qh (fun w' (hb:Below W1.heap.size W1 w')=>binds_any 78 ent_isTerm termB 17 s l a cap w' hs hl (fun i hi=>ih l[i] (Nat.le_of_lt_succ (Nat.lt_of_lt_of_le (Nd.kid_lt _ s l i hi) hsz))) (HT1.out.later hb) V (fun h=>by rw [bind_val s l h,←termE_get h];exact hV2) (fun h=>by rw [←hV2,List.eq_nil_of_length_eq_zero h,termE,Bool.and_false]))
     have HS:Hid (termB (.mk 17 s l)=V):=qh hV
     clear hV hV2
     clear ht hb0 T1 R1 hW1 ih hsz
     go_enter Tryz.func78,Tryz.ntmps78
     go_upto_region 1 with fail
     rw [HW.out]
     go_wp2_with fail
     refine (CC.out _ (Below.refl _ _)).mono ?_
     rintro e w2 ⟨rfl,hb2⟩
     have HB2:=qh hb2
     clear hb2 CC n0 n1 n2
     cases V
     ·skip
      go_wp2
      go_ret
      exact ⟨by rw [HS.out];rfl,by first | exact HB.out.trans (HB2.out.mono (by have:=HR1.out.lt;omega)) | (rw [hh];exact HB.out.trans (HB2.out.mono (by have:=HR1.out.lt;omega)))⟩
     ·skip
      go_wp2
      go_ret
      exact ⟨by rw [HS.out];rfl,by first | exact HB.out.trans (HB2.out.mono (by have:=HR1.out.lt;omega)) | (rw [hh];exact HB.out.trans (HB2.out.mono (by have:=HR1.out.lt;omega)))⟩
    ·skip
     have HS:Hid (termB (.mk k s l)=false):=qh (by rw [termB,if_neg hk15,if_neg hk16,decide_eq_false hk17];rfl)
     have e15:(k==15)=false:=by rw [beq_eq_false_iff_ne];exact hk15
     have e16:(k==16)=false:=by rw [beq_eq_false_iff_ne];exact hk16
     have e17:(k==17)=false:=by rw [beq_eq_false_iff_ne];exact hk17
     clear ht hb0 T1 R1 hW1 hk15 hk16 hk17 ih hsz
     go_enter Tryz.func78,Tryz.ntmps78
     go_upto_region 1 with fail
     rw [HW.out]
     go_wp2
     go_ret
     exact ⟨by rw [HS.out];rfl,by first | exact HB.out | (rw [hh];exact HB.out)⟩
set_option maxRecDepth 100000 in
set_option maxHeartbeats 2000000 in
theorem isForm_any (n:Nat):∀ t:Nd,t.sz≤n→Says 77 formB t:=by
 induction n with
 | zero=>intro t h;cases t;simp only [Nd.sz] at h;omega
 | succ n ih =>
  intro t hsz w v0 v1 v2 ht
  obtain ⟨k,s,l,a,cap,rfl,rfl,rfl,rfl,hs,hl⟩:=ht.form
  have hb0:=(Below.refl w.heap.size w).alloc (Nat.le_refl _) (.cells #[.int .i64 k,.string s,.slice a l.length cap] 25)
  obtain ⟨h,hh⟩:∃ h,w.heap.size=h:=⟨_,rfl⟩
  obtain ⟨W1,hW1⟩:∃ W1,w.alloc (.cells #[.int .i64 k,.string s,.slice a l.length cap] 25)=W1:=⟨_,rfl⟩
  have R1:Row3 W1 h (.int .i64 k) (.string s) (.slice a l.length cap):=by rw [←hW1,←hh];exact Row3.new _ _ _ _
  have T1:=ht.later hb0
  rw [hW1] at hb0 T1
  rw [hh] at hb0
  have HB:=qh hb0
  have HT1:=qh T1
  have HR1:=qh R1
  have HW:=qh hW1
  obtain ⟨⟨n0,n1,n2⟩,_⟩:=R1.cells
  by_cases hk15:k=15
  ·subst hk15
   obtain ⟨V,hV⟩:∃ V,termB (.mk 15 s l)=V:=⟨_,rfl⟩
   have CH:=fun w' (hb:Below W1.heap.size W1 w')=>isTerm_any _ (.mk 15 s l) (Nat.le_refl _) w' _ _ _ (HT1.out.later hb)
   rw [hV] at CH
   have CC:=qh CH
   have HS:Hid (formB (.mk 15 s l)=V):=qh (by rw [←hV];rw [formB,if_pos rfl])
   clear CH hV
   clear ht hb0 T1 R1 hW1 ih hsz
   go_enter Tryz.func77,Tryz.ntmps77
   go_upto_region 1 with fail
   rw [HW.out]
   go_wp2_with fail
   refine (CC.out _ (Below.refl _ _)).mono ?_
   rintro e w2 ⟨rfl,hb2⟩
   have HB2:=qh hb2
   clear hb2 CC n0 n1 n2
   cases V
   ·skip
    go_wp2
    go_ret
    exact ⟨by rw [HS.out];rfl,by first | exact HB.out.trans (HB2.out.mono (by have:=HR1.out.lt;omega)) | (rw [hh];exact HB.out.trans (HB2.out.mono (by have:=HR1.out.lt;omega)))⟩
   ·skip
    go_wp2
    go_ret
    exact ⟨by rw [HS.out];rfl,by first | exact HB.out.trans (HB2.out.mono (by have:=HR1.out.lt;omega)) | (rw [hh];exact HB.out.trans (HB2.out.mono (by have:=HR1.out.lt;omega)))⟩
  ·skip
   by_cases hk18:k=18
   ·subst hk18
    obtain ⟨V,hV⟩:∃ V,formB (.mk 18 s l)=V:=⟨_,rfl⟩
    have hV2:(bindB s l && formE l)=V:=by rw [←hV];rw [formB,if_neg (by decide),if_pos (by decide)]
    have CC:=qh (fun w' (hb:Below W1.heap.size W1 w')=>binds_any 77 ent_isForm formB 18 s l a cap w' hs hl (fun i hi=>ih l[i] (Nat.le_of_lt_succ (Nat.lt_of_lt_of_le (Nd.kid_lt _ s l i hi) hsz))) (HT1.out.later hb) V (fun h=>by rw [bind_val s l h,←formE_get h];exact hV2) (fun h=>by rw [←hV2,List.eq_nil_of_length_eq_zero h,formE,Bool.and_false]))
    have HS:Hid (formB (.mk 18 s l)=V):=qh hV
    clear hV hV2
    clear ht hb0 T1 R1 hW1 ih hsz
    go_enter Tryz.func77,Tryz.ntmps77
    go_upto_region 1 with fail
    rw [HW.out]
    go_wp2_with fail
    refine (CC.out _ (Below.refl _ _)).mono ?_
    rintro e w2 ⟨rfl,hb2⟩
    have HB2:=qh hb2
    clear hb2 CC n0 n1 n2
    cases V
    ·skip
     go_wp2
     go_ret
     exact ⟨by rw [HS.out];rfl,by first | exact HB.out.trans (HB2.out.mono (by have:=HR1.out.lt;omega)) | (rw [hh];exact HB.out.trans (HB2.out.mono (by have:=HR1.out.lt;omega)))⟩
    ·skip
     go_wp2
     go_ret
     exact ⟨by rw [HS.out];rfl,by first | exact HB.out.trans (HB2.out.mono (by have:=HR1.out.lt;omega)) | (rw [hh];exact HB.out.trans (HB2.out.mono (by have:=HR1.out.lt;omega)))⟩
   ·skip
    by_cases hk19:k=19
    ·subst hk19
     obtain ⟨V,hV⟩:∃ V,formB (.mk 19 s l)=V:=⟨_,rfl⟩
     have hV2:(bindB s l && formE l)=V:=by rw [←hV];rw [formB,if_neg (by decide),if_pos (by decide)]
     have CC:=qh (fun w' (hb:Below W1.heap.size W1 w')=>binds_any 77 ent_isForm formB 19 s l a cap w' hs hl (fun i hi=>ih l[i] (Nat.le_of_lt_succ (Nat.lt_of_lt_of_le (Nd.kid_lt _ s l i hi) hsz))) (HT1.out.later hb) V (fun h=>by rw [bind_val s l h,←formE_get h];exact hV2) (fun h=>by rw [←hV2,List.eq_nil_of_length_eq_zero h,formE,Bool.and_false]))
     have HS:Hid (formB (.mk 19 s l)=V):=qh hV
     clear hV hV2
     clear ht hb0 T1 R1 hW1 ih hsz
     go_enter Tryz.func77,Tryz.ntmps77
     go_upto_region 1 with fail
     rw [HW.out]
     go_wp2_with fail
     refine (CC.out _ (Below.refl _ _)).mono ?_
     rintro e w2 ⟨rfl,hb2⟩
     have HB2:=qh hb2
     clear hb2 CC n0 n1 n2
     cases V
     ·skip
      go_wp2
      go_ret
      exact ⟨by rw [HS.out];rfl,by first | exact HB.out.trans (HB2.out.mono (by have:=HR1.out.lt;omega)) | (rw [hh];exact HB.out.trans (HB2.out.mono (by have:=HR1.out.lt;omega)))⟩
     ·skip
      go_wp2
      go_ret
      exact ⟨by rw [HS.out];rfl,by first | exact HB.out.trans (HB2.out.mono (by have:=HR1.out.lt;omega)) | (rw [hh];exact HB.out.trans (HB2.out.mono (by have:=HR1.out.lt;omega)))⟩
    ·skip
     by_cases hk20:k=20
     ·subst hk20
      have CH:=fun w' (hb:Below W1.heap.size W1 w')=>has_any 136 77 ent_isNone ent_isForm noneB formB 0 0 20 s l a cap w' hl (isNone_any s) (fun i hi=>ih l[i] (Nat.le_of_lt_succ (Nat.lt_of_lt_of_le (Nd.kid_lt _ s l i hi) hsz))) (HT1.out.later hb)
      obtain ⟨V,hV⟩:∃ V,hasB noneB 0 0 formB s l=V:=⟨_,rfl⟩
      rw [hV] at CH
      have CC:=qh CH
      have HS:Hid (formB (.mk 20 s l)=V):=qh (by rw [←hV];rw [formB,if_neg (by decide),if_neg (by decide),if_pos (by decide),has_zero,Bool.and_comm])
      clear CH hV
      clear ht hb0 T1 R1 hW1 ih hsz
      go_enter Tryz.func77,Tryz.ntmps77
      go_upto_region 1 with fail
      rw [HW.out]
      go_wp2_with fail
      refine (CC.out _ (Below.refl _ _)).mono ?_
      rintro e w2 ⟨rfl,hb2⟩
      have HB2:=qh hb2
      clear hb2 CC n0 n1 n2
      cases V
      ·skip
       go_wp2
       go_ret
       exact ⟨by rw [HS.out];rfl,by first | exact HB.out.trans (HB2.out.mono (by have:=HR1.out.lt;omega)) | (rw [hh];exact HB.out.trans (HB2.out.mono (by have:=HR1.out.lt;omega)))⟩
      ·skip
       go_wp2
       go_ret
       exact ⟨by rw [HS.out];rfl,by first | exact HB.out.trans (HB2.out.mono (by have:=HR1.out.lt;omega)) | (rw [hh];exact HB.out.trans (HB2.out.mono (by have:=HR1.out.lt;omega)))⟩
     ·skip
      by_cases hk21:k=21
      ·subst hk21
       have CH:=fun w' (hb:Below W1.heap.size W1 w')=>has_any 136 77 ent_isNone ent_isForm noneB formB 0 0 21 s l a cap w' hl (isNone_any s) (fun i hi=>ih l[i] (Nat.le_of_lt_succ (Nat.lt_of_lt_of_le (Nd.kid_lt _ s l i hi) hsz))) (HT1.out.later hb)
       obtain ⟨V,hV⟩:∃ V,hasB noneB 0 0 formB s l=V:=⟨_,rfl⟩
       rw [hV] at CH
       have CC:=qh CH
       have HS:Hid (formB (.mk 21 s l)=V):=qh (by rw [←hV];rw [formB,if_neg (by decide),if_neg (by decide),if_pos (by decide),has_zero,Bool.and_comm])
       clear CH hV
       clear ht hb0 T1 R1 hW1 ih hsz
       go_enter Tryz.func77,Tryz.ntmps77
       go_upto_region 1 with fail
       rw [HW.out]
       go_wp2_with fail
       refine (CC.out _ (Below.refl _ _)).mono ?_
       rintro e w2 ⟨rfl,hb2⟩
       have HB2:=qh hb2
       clear hb2 CC n0 n1 n2
       cases V
       ·skip
        go_wp2
        go_ret
        exact ⟨by rw [HS.out];rfl,by first | exact HB.out.trans (HB2.out.mono (by have:=HR1.out.lt;omega)) | (rw [hh];exact HB.out.trans (HB2.out.mono (by have:=HR1.out.lt;omega)))⟩
       ·skip
        go_wp2
        go_ret
        exact ⟨by rw [HS.out];rfl,by first | exact HB.out.trans (HB2.out.mono (by have:=HR1.out.lt;omega)) | (rw [hh];exact HB.out.trans (HB2.out.mono (by have:=HR1.out.lt;omega)))⟩
      ·skip
       by_cases hk29:k=29
       ·subst hk29
        have CH:=fun w' (hb:Below W1.heap.size W1 w')=>has_any 136 77 ent_isNone ent_isForm noneB formB 1 1 29 s l a cap w' hl (isNone_any s) (fun i hi=>ih l[i] (Nat.le_of_lt_succ (Nat.lt_of_lt_of_le (Nd.kid_lt _ s l i hi) hsz))) (HT1.out.later hb)
        obtain ⟨V,hV⟩:∃ V,hasB noneB 1 1 formB s l=V:=⟨_,rfl⟩
        rw [hV] at CH
        have CC:=qh CH
        have HS:Hid (formB (.mk 29 s l)=V):=qh (by rw [←hV];rw [formB,if_neg (by decide),if_neg (by decide),if_neg (by decide),if_pos (by decide),exact_v noneB 1 1 rfl,formL_all])
        clear CH hV
        clear ht hb0 T1 R1 hW1 ih hsz
        go_enter Tryz.func77,Tryz.ntmps77
        go_upto_region 1 with fail
        rw [HW.out]
        go_wp2_with fail
        refine (CC.out _ (Below.refl _ _)).mono ?_
        rintro e w2 ⟨rfl,hb2⟩
        have HB2:=qh hb2
        clear hb2 CC n0 n1 n2
        cases V
        ·skip
         go_wp2
         go_ret
         exact ⟨by rw [HS.out];rfl,by first | exact HB.out.trans (HB2.out.mono (by have:=HR1.out.lt;omega)) | (rw [hh];exact HB.out.trans (HB2.out.mono (by have:=HR1.out.lt;omega)))⟩
        ·skip
         go_wp2
         go_ret
         exact ⟨by rw [HS.out];rfl,by first | exact HB.out.trans (HB2.out.mono (by have:=HR1.out.lt;omega)) | (rw [hh];exact HB.out.trans (HB2.out.mono (by have:=HR1.out.lt;omega)))⟩
       ·skip
        by_cases hk30:k=30
        ·subst hk30
         have CH:=fun w' (hb:Below W1.heap.size W1 w')=>has_any 136 77 ent_isNone ent_isForm noneB formB 1 1 30 s l a cap w' hl (isNone_any s) (fun i hi=>ih l[i] (Nat.le_of_lt_succ (Nat.lt_of_lt_of_le (Nd.kid_lt _ s l i hi) hsz))) (HT1.out.later hb)
         obtain ⟨V,hV⟩:∃ V,hasB noneB 1 1 formB s l=V:=⟨_,rfl⟩
         rw [hV] at CH
         have CC:=qh CH
         have HS:Hid (formB (.mk 30 s l)=V):=qh (by rw [←hV];rw [formB,if_neg (by decide),if_neg (by decide),if_neg (by decide),if_pos (by decide),exact_v noneB 1 1 rfl,formL_all])
         clear CH hV
         clear ht hb0 T1 R1 hW1 ih hsz
         go_enter Tryz.func77,Tryz.ntmps77
         go_upto_region 1 with fail
         rw [HW.out]
         go_wp2_with fail
         refine (CC.out _ (Below.refl _ _)).mono ?_
         rintro e w2 ⟨rfl,hb2⟩
         have HB2:=qh hb2
         clear hb2 CC n0 n1 n2
         cases V
         ·skip
          go_wp2
          go_ret
          exact ⟨by rw [HS.out];rfl,by first | exact HB.out.trans (HB2.out.mono (by have:=HR1.out.lt;omega)) | (rw [hh];exact HB.out.trans (HB2.out.mono (by have:=HR1.out.lt;omega)))⟩
         ·skip
          go_wp2
          go_ret
          exact ⟨by rw [HS.out];rfl,by first | exact HB.out.trans (HB2.out.mono (by have:=HR1.out.lt;omega)) | (rw [hh];exact HB.out.trans (HB2.out.mono (by have:=HR1.out.lt;omega)))⟩
        ·skip
         by_cases hk22:k=22
         ·subst hk22
          have CH:=fun w' (hb:Below W1.heap.size W1 w')=>has_any 136 77 ent_isNone ent_isForm noneB formB 2 2 22 s l a cap w' hl (isNone_any s) (fun i hi=>ih l[i] (Nat.le_of_lt_succ (Nat.lt_of_lt_of_le (Nd.kid_lt _ s l i hi) hsz))) (HT1.out.later hb)
          obtain ⟨V,hV⟩:∃ V,hasB noneB 2 2 formB s l=V:=⟨_,rfl⟩
          rw [hV] at CH
          have CC:=qh CH
          have HS:Hid (formB (.mk 22 s l)=V):=qh (by rw [←hV];rw [formB,if_neg (by decide),if_neg (by decide),if_neg (by decide),if_neg (by decide),exact_v noneB 2 2 rfl,formL_all];rfl)
          clear CH hV
          clear ht hb0 T1 R1 hW1 ih hsz
          go_enter Tryz.func77,Tryz.ntmps77
          go_upto_region 1 with fail
          rw [HW.out]
          go_wp2_with fail
          refine (CC.out _ (Below.refl _ _)).mono ?_
          rintro e w2 ⟨rfl,hb2⟩
          have HB2:=qh hb2
          clear hb2 CC n0 n1 n2
          cases V
          ·skip
           go_wp2
           go_ret
           exact ⟨by rw [HS.out];rfl,by first | exact HB.out.trans (HB2.out.mono (by have:=HR1.out.lt;omega)) | (rw [hh];exact HB.out.trans (HB2.out.mono (by have:=HR1.out.lt;omega)))⟩
          ·skip
           go_wp2
           go_ret
           exact ⟨by rw [HS.out];rfl,by first | exact HB.out.trans (HB2.out.mono (by have:=HR1.out.lt;omega)) | (rw [hh];exact HB.out.trans (HB2.out.mono (by have:=HR1.out.lt;omega)))⟩
         ·skip
          by_cases hk23:k=23
          ·subst hk23
           have CH:=fun w' (hb:Below W1.heap.size W1 w')=>has_any 136 77 ent_isNone ent_isForm noneB formB 2 2 23 s l a cap w' hl (isNone_any s) (fun i hi=>ih l[i] (Nat.le_of_lt_succ (Nat.lt_of_lt_of_le (Nd.kid_lt _ s l i hi) hsz))) (HT1.out.later hb)
           obtain ⟨V,hV⟩:∃ V,hasB noneB 2 2 formB s l=V:=⟨_,rfl⟩
           rw [hV] at CH
           have CC:=qh CH
           have HS:Hid (formB (.mk 23 s l)=V):=qh (by rw [←hV];rw [formB,if_neg (by decide),if_neg (by decide),if_neg (by decide),if_neg (by decide),exact_v noneB 2 2 rfl,formL_all];rfl)
           clear CH hV
           clear ht hb0 T1 R1 hW1 ih hsz
           go_enter Tryz.func77,Tryz.ntmps77
           go_upto_region 1 with fail
           rw [HW.out]
           go_wp2_with fail
           refine (CC.out _ (Below.refl _ _)).mono ?_
           rintro e w2 ⟨rfl,hb2⟩
           have HB2:=qh hb2
           clear hb2 CC n0 n1 n2
           cases V
           ·skip
            go_wp2
            go_ret
            exact ⟨by rw [HS.out];rfl,by first | exact HB.out.trans (HB2.out.mono (by have:=HR1.out.lt;omega)) | (rw [hh];exact HB.out.trans (HB2.out.mono (by have:=HR1.out.lt;omega)))⟩
           ·skip
            go_wp2
            go_ret
            exact ⟨by rw [HS.out];rfl,by first | exact HB.out.trans (HB2.out.mono (by have:=HR1.out.lt;omega)) | (rw [hh];exact HB.out.trans (HB2.out.mono (by have:=HR1.out.lt;omega)))⟩
          ·skip
           by_cases hk24:k=24
           ·subst hk24
            have CH:=fun w' (hb:Below W1.heap.size W1 w')=>has_any 136 77 ent_isNone ent_isForm noneB formB 2 2 24 s l a cap w' hl (isNone_any s) (fun i hi=>ih l[i] (Nat.le_of_lt_succ (Nat.lt_of_lt_of_le (Nd.kid_lt _ s l i hi) hsz))) (HT1.out.later hb)
            obtain ⟨V,hV⟩:∃ V,hasB noneB 2 2 formB s l=V:=⟨_,rfl⟩
            rw [hV] at CH
            have CC:=qh CH
            have HS:Hid (formB (.mk 24 s l)=V):=qh (by rw [←hV];rw [formB,if_neg (by decide),if_neg (by decide),if_neg (by decide),if_neg (by decide),exact_v noneB 2 2 rfl,formL_all];rfl)
            clear CH hV
            clear ht hb0 T1 R1 hW1 ih hsz
            go_enter Tryz.func77,Tryz.ntmps77
            go_upto_region 1 with fail
            rw [HW.out]
            go_wp2_with fail
            refine (CC.out _ (Below.refl _ _)).mono ?_
            rintro e w2 ⟨rfl,hb2⟩
            have HB2:=qh hb2
            clear hb2 CC n0 n1 n2
            cases V
            ·skip
             go_wp2
             go_ret
             exact ⟨by rw [HS.out];rfl,by first | exact HB.out.trans (HB2.out.mono (by have:=HR1.out.lt;omega)) | (rw [hh];exact HB.out.trans (HB2.out.mono (by have:=HR1.out.lt;omega)))⟩
            ·skip
             go_wp2
             go_ret
             exact ⟨by rw [HS.out];rfl,by first | exact HB.out.trans (HB2.out.mono (by have:=HR1.out.lt;omega)) | (rw [hh];exact HB.out.trans (HB2.out.mono (by have:=HR1.out.lt;omega)))⟩
           ·skip
            by_cases hk25:k=25
            ·subst hk25
             have CH:=fun w' (hb:Below W1.heap.size W1 w')=>has_any 136 77 ent_isNone ent_isForm noneB formB 2 2 25 s l a cap w' hl (isNone_any s) (fun i hi=>ih l[i] (Nat.le_of_lt_succ (Nat.lt_of_lt_of_le (Nd.kid_lt _ s l i hi) hsz))) (HT1.out.later hb)
             obtain ⟨V,hV⟩:∃ V,hasB noneB 2 2 formB s l=V:=⟨_,rfl⟩
             rw [hV] at CH
             have CC:=qh CH
             have HS:Hid (formB (.mk 25 s l)=V):=qh (by rw [←hV];rw [formB,if_neg (by decide),if_neg (by decide),if_neg (by decide),if_neg (by decide),exact_v noneB 2 2 rfl,formL_all];rfl)
             clear CH hV
             clear ht hb0 T1 R1 hW1 ih hsz
             go_enter Tryz.func77,Tryz.ntmps77
             go_upto_region 1 with fail
             rw [HW.out]
             go_wp2_with fail
             refine (CC.out _ (Below.refl _ _)).mono ?_
             rintro e w2 ⟨rfl,hb2⟩
             have HB2:=qh hb2
             clear hb2 CC n0 n1 n2
             cases V
             ·skip
              go_wp2
              go_ret
              exact ⟨by rw [HS.out];rfl,by first | exact HB.out.trans (HB2.out.mono (by have:=HR1.out.lt;omega)) | (rw [hh];exact HB.out.trans (HB2.out.mono (by have:=HR1.out.lt;omega)))⟩
             ·skip
              go_wp2
              go_ret
              exact ⟨by rw [HS.out];rfl,by first | exact HB.out.trans (HB2.out.mono (by have:=HR1.out.lt;omega)) | (rw [hh];exact HB.out.trans (HB2.out.mono (by have:=HR1.out.lt;omega)))⟩
            ·skip
             by_cases hk26:k=26
             ·subst hk26
              have CH:=fun w' (hb:Below W1.heap.size W1 w')=>has_any 136 77 ent_isNone ent_isForm noneB formB 2 2 26 s l a cap w' hl (isNone_any s) (fun i hi=>ih l[i] (Nat.le_of_lt_succ (Nat.lt_of_lt_of_le (Nd.kid_lt _ s l i hi) hsz))) (HT1.out.later hb)
              obtain ⟨V,hV⟩:∃ V,hasB noneB 2 2 formB s l=V:=⟨_,rfl⟩
              rw [hV] at CH
              have CC:=qh CH
              have HS:Hid (formB (.mk 26 s l)=V):=qh (by rw [←hV];rw [formB,if_neg (by decide),if_neg (by decide),if_neg (by decide),if_neg (by decide),exact_v noneB 2 2 rfl,formL_all];rfl)
              clear CH hV
              clear ht hb0 T1 R1 hW1 ih hsz
              go_enter Tryz.func77,Tryz.ntmps77
              go_upto_region 1 with fail
              rw [HW.out]
              go_wp2_with fail
              refine (CC.out _ (Below.refl _ _)).mono ?_
              rintro e w2 ⟨rfl,hb2⟩
              have HB2:=qh hb2
              clear hb2 CC n0 n1 n2
              cases V
              ·skip
               go_wp2
               go_ret
               exact ⟨by rw [HS.out];rfl,by first | exact HB.out.trans (HB2.out.mono (by have:=HR1.out.lt;omega)) | (rw [hh];exact HB.out.trans (HB2.out.mono (by have:=HR1.out.lt;omega)))⟩
              ·skip
               go_wp2
               go_ret
               exact ⟨by rw [HS.out];rfl,by first | exact HB.out.trans (HB2.out.mono (by have:=HR1.out.lt;omega)) | (rw [hh];exact HB.out.trans (HB2.out.mono (by have:=HR1.out.lt;omega)))⟩
             ·skip
              by_cases hk27:k=27
              ·subst hk27
               have CH:=fun w' (hb:Below W1.heap.size W1 w')=>has_any 136 77 ent_isNone ent_isForm noneB formB 2 2 27 s l a cap w' hl (isNone_any s) (fun i hi=>ih l[i] (Nat.le_of_lt_succ (Nat.lt_of_lt_of_le (Nd.kid_lt _ s l i hi) hsz))) (HT1.out.later hb)
               obtain ⟨V,hV⟩:∃ V,hasB noneB 2 2 formB s l=V:=⟨_,rfl⟩
               rw [hV] at CH
               have CC:=qh CH
               have HS:Hid (formB (.mk 27 s l)=V):=qh (by rw [←hV];rw [formB,if_neg (by decide),if_neg (by decide),if_neg (by decide),if_neg (by decide),exact_v noneB 2 2 rfl,formL_all];rfl)
               clear CH hV
               clear ht hb0 T1 R1 hW1 ih hsz
               go_enter Tryz.func77,Tryz.ntmps77
               go_upto_region 1 with fail
               rw [HW.out]
               go_wp2_with fail
               refine (CC.out _ (Below.refl _ _)).mono ?_
               rintro e w2 ⟨rfl,hb2⟩
               have HB2:=qh hb2
               clear hb2 CC n0 n1 n2
               cases V
               ·skip
                go_wp2
                go_ret
                exact ⟨by rw [HS.out];rfl,by first | exact HB.out.trans (HB2.out.mono (by have:=HR1.out.lt;omega)) | (rw [hh];exact HB.out.trans (HB2.out.mono (by have:=HR1.out.lt;omega)))⟩
               ·skip
                go_wp2
                go_ret
                exact ⟨by rw [HS.out];rfl,by first | exact HB.out.trans (HB2.out.mono (by have:=HR1.out.lt;omega)) | (rw [hh];exact HB.out.trans (HB2.out.mono (by have:=HR1.out.lt;omega)))⟩
              ·skip
               by_cases hk28:k=28
               ·subst hk28
                have CH:=fun w' (hb:Below W1.heap.size W1 w')=>has_any 136 77 ent_isNone ent_isForm noneB formB 2 2 28 s l a cap w' hl (isNone_any s) (fun i hi=>ih l[i] (Nat.le_of_lt_succ (Nat.lt_of_lt_of_le (Nd.kid_lt _ s l i hi) hsz))) (HT1.out.later hb)
                obtain ⟨V,hV⟩:∃ V,hasB noneB 2 2 formB s l=V:=⟨_,rfl⟩
                rw [hV] at CH
                have CC:=qh CH
                have HS:Hid (formB (.mk 28 s l)=V):=qh (by rw [←hV];rw [formB,if_neg (by decide),if_neg (by decide),if_neg (by decide),if_neg (by decide),exact_v noneB 2 2 rfl,formL_all];rfl)
                clear CH hV
                clear ht hb0 T1 R1 hW1 ih hsz
                go_enter Tryz.func77,Tryz.ntmps77
                go_upto_region 1 with fail
                rw [HW.out]
                go_wp2_with fail
                refine (CC.out _ (Below.refl _ _)).mono ?_
                rintro e w2 ⟨rfl,hb2⟩
                have HB2:=qh hb2
                clear hb2 CC n0 n1 n2
                cases V
                ·skip
                 go_wp2
                 go_ret
                 exact ⟨by rw [HS.out];rfl,by first | exact HB.out.trans (HB2.out.mono (by have:=HR1.out.lt;omega)) | (rw [hh];exact HB.out.trans (HB2.out.mono (by have:=HR1.out.lt;omega)))⟩
                ·skip
                 go_wp2
                 go_ret
                 exact ⟨by rw [HS.out];rfl,by first | exact HB.out.trans (HB2.out.mono (by have:=HR1.out.lt;omega)) | (rw [hh];exact HB.out.trans (HB2.out.mono (by have:=HR1.out.lt;omega)))⟩
               ·skip
                have HS:Hid (formB (.mk k s l)=false):=qh (by rw [formB,if_neg hk15,if_neg (by rintro (h | h) <;> contradiction),if_neg (by rintro (h | h) <;> contradiction),if_neg (by rintro (h | h) <;> contradiction),not_binary hk22 hk23 hk24 hk25 hk26 hk27 hk28];rfl)
                have e15:(k==15)=false:=by rw [beq_eq_false_iff_ne];exact hk15
                have e18:(k==18)=false:=by rw [beq_eq_false_iff_ne];exact hk18
                have e19:(k==19)=false:=by rw [beq_eq_false_iff_ne];exact hk19
                have e20:(k==20)=false:=by rw [beq_eq_false_iff_ne];exact hk20
                have e21:(k==21)=false:=by rw [beq_eq_false_iff_ne];exact hk21
                have e29:(k==29)=false:=by rw [beq_eq_false_iff_ne];exact hk29
                have e30:(k==30)=false:=by rw [beq_eq_false_iff_ne];exact hk30
                have e22:(k==22)=false:=by rw [beq_eq_false_iff_ne];exact hk22
                have e23:(k==23)=false:=by rw [beq_eq_false_iff_ne];exact hk23
                have e24:(k==24)=false:=by rw [beq_eq_false_iff_ne];exact hk24
                have e25:(k==25)=false:=by rw [beq_eq_false_iff_ne];exact hk25
                have e26:(k==26)=false:=by rw [beq_eq_false_iff_ne];exact hk26
                have e27:(k==27)=false:=by rw [beq_eq_false_iff_ne];exact hk27
                have e28:(k==28)=false:=by rw [beq_eq_false_iff_ne];exact hk28
                clear ht hb0 T1 R1 hW1 hk15 hk18 hk19 hk20 hk21 hk29 hk30 hk22 hk23 hk24 hk25 hk26 hk27 hk28 ih hsz
                go_enter Tryz.func77,Tryz.ntmps77
                go_upto_region 1 with fail
                rw [HW.out]
                go_wp2
                go_ret
                exact ⟨by rw [HS.out];rfl,by first | exact HB.out | (rw [hh];exact HB.out)⟩
end Go.Proofs.YtgjijidlaghlmaaGreatDoor
namespace Go.Proofs.YtgjijidlaghlmaaGreatDoor
open Go.RowKit Go.Shelf
set_option maxRecDepth 100000 in
set_option maxHeartbeats 2000000 in
theorem isItem_3 (s:ByteArray) (l:List Nd) (w:World) (a:Option Addr) (cap:Nat) (_hs:s.size≤maxLen) (hl:l.length≤maxLen) (ht:NdR w (.mk 3 s l) (.int .i64 3) (.string s) (.slice a l.length cap)) :
  Calls Tryz.prog 76 #[.agg #[.int .i64 3,.string s,.slice a l.length cap]] w fun e w'=>e = .returned (.bool (itemB (.mk 3 s l)))∧Below w.heap.size w w':=by
 have hb0:=(Below.refl w.heap.size w).alloc (Nat.le_refl _) (.cells #[.int .i64 3,.string s,.slice a l.length cap] 25)
 obtain ⟨h,hh⟩:∃ h,w.heap.size=h:=⟨_,rfl⟩
 obtain ⟨W1,hW1⟩:∃ W1,w.alloc (.cells #[.int .i64 3,.string s,.slice a l.length cap] 25)=W1:=⟨_,rfl⟩
 have R1:Row3 W1 h (.int .i64 3) (.string s) (.slice a l.length cap):=by rw [←hW1,←hh];exact Row3.new _ _ _ _
 have T1:=ht.later hb0
 rw [hW1] at hb0 T1
 rw [hh] at hb0
 have HB:=qh hb0
 have HT1:=qh T1
 have HR1:=qh R1
 have HW:=qh hW1
 obtain ⟨⟨n0,n1,n2⟩,_⟩:=R1.cells
 have hcap:=ht.cap
 have HL0:Hid (NdL W1 l (.slice a l.length cap)):=qh ⟨_,_,_,_,HT1.out⟩
 have hItem:itemB (.mk 3 s l)=(noneB s && (decide (2≤l.length) && ((l.take (l.length - 1)).all loneB && typE l))):=by
  rw [itemB,if_neg (by decide),if_pos rfl,nameL_all]
 unfold maxLen at hl
 by_cases h2:2≤l.length
 ·rw [decide_eq_true h2,Bool.true_and,typE_get (show 0 < l.length by omega)] at hItem
  obtain ⟨b,o,k1,s1,l1,a1,c1,rfl,e1,x0,x1,x2,r1⟩:=HT1.out.kid (l.length - 1) (by omega)
  have CN0:=isNone_any s W1
  have CE0:=fun w' (hb:Below W1.heap.size W1 w')=>every_any 137 ent_isLone loneB 0 ⟨#[]⟩ (l.take (l.length - 1)) (some ⟨b,o,none⟩) cap w' (by rw [List.length_take];unfold maxLen;omega) (fun i hi=>isLone_any _ _ (Nat.le_refl _)) (by
   obtain ⟨k9,s9,u0,u1,h9⟩:=(HL0.out.later hb).take (l.length - 1) (by omega) cap (by omega)
   rw [show (l.take (l.length - 1)).length=l.length - 1 from by rw [List.length_take];omega]
   exact relabel h9)
  rw [show (l.take (l.length - 1)).length=l.length - 1 from by rw [List.length_take];omega] at CE0
  have CG0:=fun w' (hb:Below W1.heap.size W1 w')=>isType_any _ (l[l.length - 1]'(by omega)) (Nat.le_refl _) w' (.int .i64 k1) (.string s1) (.slice a1 l1.length c1) (by rw [e1];exact r1.later hb)
  obtain ⟨VN,hVN⟩:∃ V,noneB s=V:=⟨_,rfl⟩
  obtain ⟨VE,hVE⟩:∃ V,(l.take (l.length - 1)).all loneB=V:=⟨_,rfl⟩
  obtain ⟨VG,hVG⟩:∃ V,typB (l[l.length - 1]'(by omega))=V:=⟨_,rfl⟩
  rw [hVN,hVE,hVG] at hItem
  rw [hVN] at CN0
  rw [hVE] at CE0
  rw [hVG] at CG0
  obtain ⟨R,hR⟩:∃ R,itemB (.mk 3 s l)=R:=⟨_,rfl⟩
  rw [hR] at hItem ⊢
  obtain ⟨M,hM⟩:∃ M,l.length - 1=M:=⟨_,rfl⟩
  obtain ⟨L,hL⟩:∃ L,l.length=L:=⟨_,rfl⟩
  have hML:((L:Nat):Int) - 1=(M:Int):=by omega
  rw [hM] at CE0 x0 x1 x2
  rw [hL] at n2 hcap hl h2
  have CN:=qh CN0
  have CE:=qh CE0
  have CG:=qh CG0
  have HRp:=qh hItem
  have HR2:Hid (Row3 W1 h (.int .i64 3) (.string s) (.slice (some ⟨b,o,none⟩) L cap)):=by rw [←hL];exact HR1
  have HW2:Hid (w.alloc (.cells #[.int .i64 3,.string s,.slice (some ⟨b,o,none⟩) L cap] 25)=W1):=by rw [←hL];exact HW
  have L2:=qh (lt_of_cell x0)
  have HX:=qh (show W1.cell? ⟨b,o+M*3,none⟩=some (.int .i64 k1)∧W1.cell? ⟨b,o+M*3+1,none⟩=some (.string s1)∧W1.cell? ⟨b,o+M*3+2,none⟩=some (.slice a1 l1.length c1) from ⟨x0,x1,x2⟩)
  have hM1:0 < (M:Int):=by omega
  have hM0:(0:Int)≤(M:Int):=by omega
  have hMc:(M:Int)≤(cap:Int):=by omega
  have hMl:(M:Int) < (L:Int):=by omega
  have hMn:M≤cap:=by omega
  have hMm:M < L:=by omega
  have h63:(L:Int)≤9223372036854775807:=by omega
  rw [hL]
  have HLL:=qh hL
  clear ht hb0 T1 R1 hW1 hItem hR hVN hVE hVG CN0 CE0 CG0 e1 r1 x0 x1 x2 HT1 HL0 HR1 HW hL hM
  go_enter Tryz.func76,Tryz.ntmps76
  go_upto_region 1 with fail
  rw [HW2.out]
  go_wp2_with fail
  refine CN.out.mono ?_
  rintro e w2 ⟨rfl,hb2⟩
  have R2:=qh (HR2.out.below hb2 HR2.out.lt)
  have HB2:=qh hb2
  clear hb2 n0 n1 n2 CN
  obtain ⟨⟨n0,n1,n2⟩,_⟩:=R2.out.cells
  cases VN with
  | false =>
   go_wp2
   go_ret
   exact ⟨by rw [HRp.out];rfl,by first | exact HB.out.trans (HB2.out.mono (by have:=HR2.out.lt;omega)) | (rw [hh];exact HB.out.trans (HB2.out.mono (by have:=HR2.out.lt;omega)))⟩
  | true =>
   go_wp2_with fail
   refine (CE.out _ HB2.out).mono ?_
   rintro e w3 ⟨rfl,hb3⟩
   have HB3:=qh (HB2.out.trans (hb3.mono HB2.out.size))
   clear hb3 n0 n1 n2 CE
   obtain ⟨⟨n0,n1,n2⟩,_⟩:=(HR2.out.below HB3.out HR2.out.lt).cells
   have x0:=(HB3.out.cell (p:=⟨b,o+M*3,none⟩) L2.out).trans HX.out.1
   have x1:=(HB3.out.cell (p:=⟨b,o+M*3+1,none⟩) L2.out).trans HX.out.2.1
   have x2:=(HB3.out.cell (p:=⟨b,o+M*3+2,none⟩) L2.out).trans HX.out.2.2
   cases VE with
   | false =>
    go_wp2
    go_ret
    exact ⟨by rw [HRp.out];rfl,by first | exact HB.out.trans (HB3.out.mono (by have:=HR2.out.lt;omega)) | (rw [hh];exact HB.out.trans (HB3.out.mono (by have:=HR2.out.lt;omega)))⟩
   | true =>
    go_wp2_with fail
    refine (CG.out _ HB3.out).mono ?_
    rintro e w4 ⟨rfl,hb4⟩
    have HB4:=qh (HB3.out.trans (hb4.mono HB3.out.size))
    clear hb4 n0 n1 n2 x0 x1 x2 CG
    cases VG
    ·skip
     go_wp2
     go_ret
     exact ⟨by rw [HRp.out];rfl,by first | exact HB.out.trans (HB4.out.mono (by have:=HR2.out.lt;omega)) | (rw [hh];exact HB.out.trans (HB4.out.mono (by have:=HR2.out.lt;omega)))⟩
    ·skip
     go_wp2
     go_ret
     exact ⟨by rw [HRp.out];rfl,by first | exact HB.out.trans (HB4.out.mono (by have:=HR2.out.lt;omega)) | (rw [hh];exact HB.out.trans (HB4.out.mono (by have:=HR2.out.lt;omega)))⟩
 ·have hRf:itemB (.mk 3 s l)=false:=by rw [hItem,decide_eq_false h2];simp
  have e1:¬ (0:Int) < (l.length:Int) - 1:=by omega
  have hl0:(l.length:Int)≤9223372036854775807:=by omega
  rw [hRf]
  clear ht hb0 T1 R1 hW1 hItem hRf h2
  go_enter Tryz.func76,Tryz.ntmps76
  go_upto_region 1 with fail
  rw [HW.out]
  go_wp2
  go_ret
  exact ⟨rfl,by first | exact HB.out | (rw [hh];exact HB.out)⟩
set_option maxRecDepth 100000 in
set_option maxHeartbeats 2000000 in
theorem isItem_any:∀ t:Nd,Says 76 itemB t:=by
 intro t w v0 v1 v2 ht
 obtain ⟨k,s,l,a,cap,rfl,rfl,rfl,rfl,hs,hl⟩:=ht.form
 by_cases hk3:k=3
 ·subst hk3;exact isItem_3 s l w a cap hs hl ht
 have e3:(k==3)=false:=by rw [beq_eq_false_iff_ne];exact hk3
 have hb0:=(Below.refl w.heap.size w).alloc (Nat.le_refl _) (.cells #[.int .i64 k,.string s,.slice a l.length cap] 25)
 obtain ⟨h,hh⟩:∃ h,w.heap.size=h:=⟨_,rfl⟩
 obtain ⟨W1,hW1⟩:∃ W1,w.alloc (.cells #[.int .i64 k,.string s,.slice a l.length cap] 25)=W1:=⟨_,rfl⟩
 have R1:Row3 W1 h (.int .i64 k) (.string s) (.slice a l.length cap):=by rw [←hW1,←hh];exact Row3.new _ _ _ _
 have T1:=ht.later hb0
 rw [hW1] at hb0 T1
 rw [hh] at hb0
 have HB:=qh hb0
 have HT1:=qh T1
 have HR1:=qh R1
 have HW:=qh hW1
 obtain ⟨⟨n0,n1,n2⟩,_⟩:=R1.cells
 by_cases hk2:k=2
 ·subst hk2
  clear e3 hk3
  have CH:=fun w' (hb:Below W1.heap.size W1 w')=>has_any 136 137 ent_isNone ent_isLone noneB loneB 1 l.length 2 s l a cap w' hl (isNone_any s) (fun i hi=>isLone_any _ l[i] (Nat.le_refl _)) (HT1.out.later hb)
  obtain ⟨V,hV⟩:∃ V,hasB noneB 1 l.length loneB s l=V:=⟨_,rfl⟩
  rw [hV] at CH
  have CC:=qh CH
  have HS:Hid (itemB (.mk 2 s l)=V):=qh (by rw [←hV];rw [itemB,if_pos (by decide),nameL_all,from_v noneB 1 1 rfl])
  clear CH hV
  clear ht hb0 T1 R1 hW1
  go_enter Tryz.func76,Tryz.ntmps76
  go_upto_region 1 with fail
  rw [HW.out]
  go_wp2_with fail
  refine (CC.out _ (Below.refl _ _)).mono ?_
  rintro e w2 ⟨rfl,hb2⟩
  have HB2:=qh hb2
  clear hb2 CC n0 n1 n2
  cases V
  ·skip
   go_wp2
   go_ret
   exact ⟨by rw [HS.out];rfl,by first | exact HB.out.trans (HB2.out.mono (by have:=HR1.out.lt;omega)) | (rw [hh];exact HB.out.trans (HB2.out.mono (by have:=HR1.out.lt;omega)))⟩
  ·skip
   go_wp2
   go_ret
   exact ⟨by rw [HS.out];rfl,by first | exact HB.out.trans (HB2.out.mono (by have:=HR1.out.lt;omega)) | (rw [hh];exact HB.out.trans (HB2.out.mono (by have:=HR1.out.lt;omega)))⟩
 ·skip
  by_cases hk14:k=14
  ·subst hk14
   clear e3 hk3
   have CH:=fun w' (hb:Below W1.heap.size W1 w')=>has_any 136 137 ent_isNone ent_isLone noneB loneB 1 l.length 14 s l a cap w' hl (isNone_any s) (fun i hi=>isLone_any _ l[i] (Nat.le_refl _)) (HT1.out.later hb)
   obtain ⟨V,hV⟩:∃ V,hasB noneB 1 l.length loneB s l=V:=⟨_,rfl⟩
   rw [hV] at CH
   have CC:=qh CH
   have HS:Hid (itemB (.mk 14 s l)=V):=qh (by rw [←hV];rw [itemB,if_pos (by decide),nameL_all,from_v noneB 1 1 rfl])
   clear CH hV
   clear ht hb0 T1 R1 hW1
   go_enter Tryz.func76,Tryz.ntmps76
   go_upto_region 1 with fail
   rw [HW.out]
   go_wp2_with fail
   refine (CC.out _ (Below.refl _ _)).mono ?_
   rintro e w2 ⟨rfl,hb2⟩
   have HB2:=qh hb2
   clear hb2 CC n0 n1 n2
   cases V
   ·skip
    go_wp2
    go_ret
    exact ⟨by rw [HS.out];rfl,by first | exact HB.out.trans (HB2.out.mono (by have:=HR1.out.lt;omega)) | (rw [hh];exact HB.out.trans (HB2.out.mono (by have:=HR1.out.lt;omega)))⟩
   ·skip
    go_wp2
    go_ret
    exact ⟨by rw [HS.out];rfl,by first | exact HB.out.trans (HB2.out.mono (by have:=HR1.out.lt;omega)) | (rw [hh];exact HB.out.trans (HB2.out.mono (by have:=HR1.out.lt;omega)))⟩
  ·skip
   by_cases hk4:k=4
   ·subst hk4
    clear e3 hk3
    have CH:=fun w' (hb:Below W1.heap.size W1 w')=>has_any 139 79 ent_isName ent_isType nameB typB 0 8 4 s l a cap w' hl (name_says s hs) (fun i hi=>isType_any _ l[i] (Nat.le_refl _)) (HT1.out.later hb)
    obtain ⟨V,hV⟩:∃ V,hasB nameB 0 8 typB s l=V:=⟨_,rfl⟩
    rw [hV] at CH
    have CC:=qh CH
    have HS:Hid (itemB (.mk 4 s l)=V):=qh (by rw [←hV];rw [itemB,if_neg (by decide),if_neg (by decide),if_pos (by decide),typL_all,upto_v])
    clear CH hV
    clear ht hb0 T1 R1 hW1
    go_enter Tryz.func76,Tryz.ntmps76
    go_upto_region 1 with fail
    rw [HW.out]
    go_wp2_with fail
    refine (CC.out _ (Below.refl _ _)).mono ?_
    rintro e w2 ⟨rfl,hb2⟩
    have HB2:=qh hb2
    clear hb2 CC n0 n1 n2
    cases V
    ·skip
     go_wp2
     go_ret
     exact ⟨by rw [HS.out];rfl,by first | exact HB.out.trans (HB2.out.mono (by have:=HR1.out.lt;omega)) | (rw [hh];exact HB.out.trans (HB2.out.mono (by have:=HR1.out.lt;omega)))⟩
    ·skip
     go_wp2
     go_ret
     exact ⟨by rw [HS.out];rfl,by first | exact HB.out.trans (HB2.out.mono (by have:=HR1.out.lt;omega)) | (rw [hh];exact HB.out.trans (HB2.out.mono (by have:=HR1.out.lt;omega)))⟩
   ·skip
    by_cases hk5:k=5
    ·subst hk5
     clear e3 hk3
     have CH:=fun w' (hb:Below W1.heap.size W1 w')=>has_any 139 79 ent_isName ent_isType nameB typB 0 8 5 s l a cap w' hl (name_says s hs) (fun i hi=>isType_any _ l[i] (Nat.le_refl _)) (HT1.out.later hb)
     obtain ⟨V,hV⟩:∃ V,hasB nameB 0 8 typB s l=V:=⟨_,rfl⟩
     rw [hV] at CH
     have CC:=qh CH
     have HS:Hid (itemB (.mk 5 s l)=V):=qh (by rw [←hV];rw [itemB,if_neg (by decide),if_neg (by decide),if_pos (by decide),typL_all,upto_v])
     clear CH hV
     clear ht hb0 T1 R1 hW1
     go_enter Tryz.func76,Tryz.ntmps76
     go_upto_region 1 with fail
     rw [HW.out]
     go_wp2_with fail
     refine (CC.out _ (Below.refl _ _)).mono ?_
     rintro e w2 ⟨rfl,hb2⟩
     have HB2:=qh hb2
     clear hb2 CC n0 n1 n2
     cases V
     ·skip
      go_wp2
      go_ret
      exact ⟨by rw [HS.out];rfl,by first | exact HB.out.trans (HB2.out.mono (by have:=HR1.out.lt;omega)) | (rw [hh];exact HB.out.trans (HB2.out.mono (by have:=HR1.out.lt;omega)))⟩
     ·skip
      go_wp2
      go_ret
      exact ⟨by rw [HS.out];rfl,by first | exact HB.out.trans (HB2.out.mono (by have:=HR1.out.lt;omega)) | (rw [hh];exact HB.out.trans (HB2.out.mono (by have:=HR1.out.lt;omega)))⟩
    ·skip
     by_cases hk6:k=6
     ·subst hk6
      clear e3 hk3
      have CH:=fun w' (hb:Below W1.heap.size W1 w')=>has_any 139 79 ent_isName ent_isType nameB typB 0 8 6 s l a cap w' hl (name_says s hs) (fun i hi=>isType_any _ l[i] (Nat.le_refl _)) (HT1.out.later hb)
      obtain ⟨V,hV⟩:∃ V,hasB nameB 0 8 typB s l=V:=⟨_,rfl⟩
      rw [hV] at CH
      have CC:=qh CH
      have HS:Hid (itemB (.mk 6 s l)=V):=qh (by rw [←hV];rw [itemB,if_neg (by decide),if_neg (by decide),if_pos (by decide),typL_all,upto_v])
      clear CH hV
      clear ht hb0 T1 R1 hW1
      go_enter Tryz.func76,Tryz.ntmps76
      go_upto_region 1 with fail
      rw [HW.out]
      go_wp2_with fail
      refine (CC.out _ (Below.refl _ _)).mono ?_
      rintro e w2 ⟨rfl,hb2⟩
      have HB2:=qh hb2
      clear hb2 CC n0 n1 n2
      cases V
      ·skip
       go_wp2
       go_ret
       exact ⟨by rw [HS.out];rfl,by first | exact HB.out.trans (HB2.out.mono (by have:=HR1.out.lt;omega)) | (rw [hh];exact HB.out.trans (HB2.out.mono (by have:=HR1.out.lt;omega)))⟩
      ·skip
       go_wp2
       go_ret
       exact ⟨by rw [HS.out];rfl,by first | exact HB.out.trans (HB2.out.mono (by have:=HR1.out.lt;omega)) | (rw [hh];exact HB.out.trans (HB2.out.mono (by have:=HR1.out.lt;omega)))⟩
     ·skip
      by_cases hk7:k=7
      ·subst hk7
       clear e3 hk3
       have CH:=fun w' (hb:Below W1.heap.size W1 w')=>has_any 139 140 ent_isName ent_isMode nameB modeB 0 8 7 s l a cap w' hl (name_says s hs) (fun i hi=>isMode_any l[i]) (HT1.out.later hb)
       obtain ⟨V,hV⟩:∃ V,hasB nameB 0 8 modeB s l=V:=⟨_,rfl⟩
       rw [hV] at CH
       have CC:=qh CH
       have HS:Hid (itemB (.mk 7 s l)=V):=qh (by rw [←hV];rw [itemB,if_neg (by decide),if_neg (by decide),if_neg (by decide),if_pos rfl,modeL_all,upto_v])
       clear CH hV
       clear ht hb0 T1 R1 hW1
       go_enter Tryz.func76,Tryz.ntmps76
       go_upto_region 1 with fail
       rw [HW.out]
       go_wp2_with fail
       refine (CC.out _ (Below.refl _ _)).mono ?_
       rintro e w2 ⟨rfl,hb2⟩
       have HB2:=qh hb2
       clear hb2 CC n0 n1 n2
       cases V
       ·skip
        go_wp2
        go_ret
        exact ⟨by rw [HS.out];rfl,by first | exact HB.out.trans (HB2.out.mono (by have:=HR1.out.lt;omega)) | (rw [hh];exact HB.out.trans (HB2.out.mono (by have:=HR1.out.lt;omega)))⟩
       ·skip
        go_wp2
        go_ret
        exact ⟨by rw [HS.out];rfl,by first | exact HB.out.trans (HB2.out.mono (by have:=HR1.out.lt;omega)) | (rw [hh];exact HB.out.trans (HB2.out.mono (by have:=HR1.out.lt;omega)))⟩
      ·skip
       by_cases hk8:k=8
       ·subst hk8
        clear e3 hk3
        have CH:=fun w' (hb:Below W1.heap.size W1 w')=>has_any 139 77 ent_isName ent_isForm nameB formB 1 1 8 s l a cap w' hl (name_says s hs) (fun i hi=>isForm_any _ l[i] (Nat.le_refl _)) (HT1.out.later hb)
        obtain ⟨V,hV⟩:∃ V,hasB nameB 1 1 formB s l=V:=⟨_,rfl⟩
        rw [hV] at CH
        have CC:=qh CH
        have HS:Hid (itemB (.mk 8 s l)=V):=qh (by rw [←hV];rw [itemB,if_neg (by decide),if_neg (by decide),if_neg (by decide),if_neg (by decide),if_pos (by decide),formL_all,exact_v nameB 1 1 rfl])
        clear CH hV
        clear ht hb0 T1 R1 hW1
        go_enter Tryz.func76,Tryz.ntmps76
        go_upto_region 1 with fail
        rw [HW.out]
        go_wp2_with fail
        refine (CC.out _ (Below.refl _ _)).mono ?_
        rintro e w2 ⟨rfl,hb2⟩
        have HB2:=qh hb2
        clear hb2 CC n0 n1 n2
        cases V
        ·skip
         go_wp2
         go_ret
         exact ⟨by rw [HS.out];rfl,by first | exact HB.out.trans (HB2.out.mono (by have:=HR1.out.lt;omega)) | (rw [hh];exact HB.out.trans (HB2.out.mono (by have:=HR1.out.lt;omega)))⟩
        ·skip
         go_wp2
         go_ret
         exact ⟨by rw [HS.out];rfl,by first | exact HB.out.trans (HB2.out.mono (by have:=HR1.out.lt;omega)) | (rw [hh];exact HB.out.trans (HB2.out.mono (by have:=HR1.out.lt;omega)))⟩
       ·skip
        by_cases hk9:k=9
        ·subst hk9
         clear e3 hk3
         have CH:=fun w' (hb:Below W1.heap.size W1 w')=>has_any 139 77 ent_isName ent_isForm nameB formB 1 1 9 s l a cap w' hl (name_says s hs) (fun i hi=>isForm_any _ l[i] (Nat.le_refl _)) (HT1.out.later hb)
         obtain ⟨V,hV⟩:∃ V,hasB nameB 1 1 formB s l=V:=⟨_,rfl⟩
         rw [hV] at CH
         have CC:=qh CH
         have HS:Hid (itemB (.mk 9 s l)=V):=qh (by rw [←hV];rw [itemB,if_neg (by decide),if_neg (by decide),if_neg (by decide),if_neg (by decide),if_pos (by decide),formL_all,exact_v nameB 1 1 rfl])
         clear CH hV
         clear ht hb0 T1 R1 hW1
         go_enter Tryz.func76,Tryz.ntmps76
         go_upto_region 1 with fail
         rw [HW.out]
         go_wp2_with fail
         refine (CC.out _ (Below.refl _ _)).mono ?_
         rintro e w2 ⟨rfl,hb2⟩
         have HB2:=qh hb2
         clear hb2 CC n0 n1 n2
         cases V
         ·skip
          go_wp2
          go_ret
          exact ⟨by rw [HS.out];rfl,by first | exact HB.out.trans (HB2.out.mono (by have:=HR1.out.lt;omega)) | (rw [hh];exact HB.out.trans (HB2.out.mono (by have:=HR1.out.lt;omega)))⟩
         ·skip
          go_wp2
          go_ret
          exact ⟨by rw [HS.out];rfl,by first | exact HB.out.trans (HB2.out.mono (by have:=HR1.out.lt;omega)) | (rw [hh];exact HB.out.trans (HB2.out.mono (by have:=HR1.out.lt;omega)))⟩
        ·skip
         by_cases hk10:k=10
         ·subst hk10
          clear e3 hk3
          have CH:=fun w' (hb:Below W1.heap.size W1 w')=>has_any 139 77 ent_isName ent_isForm nameB formB 1 1 10 s l a cap w' hl (name_says s hs) (fun i hi=>isForm_any _ l[i] (Nat.le_refl _)) (HT1.out.later hb)
          obtain ⟨V,hV⟩:∃ V,hasB nameB 1 1 formB s l=V:=⟨_,rfl⟩
          rw [hV] at CH
          have CC:=qh CH
          have HS:Hid (itemB (.mk 10 s l)=V):=qh (by rw [←hV];rw [itemB,if_neg (by decide),if_neg (by decide),if_neg (by decide),if_neg (by decide),if_pos (by decide),formL_all,exact_v nameB 1 1 rfl])
          clear CH hV
          clear ht hb0 T1 R1 hW1
          go_enter Tryz.func76,Tryz.ntmps76
          go_upto_region 1 with fail
          rw [HW.out]
          go_wp2_with fail
          refine (CC.out _ (Below.refl _ _)).mono ?_
          rintro e w2 ⟨rfl,hb2⟩
          have HB2:=qh hb2
          clear hb2 CC n0 n1 n2
          cases V
          ·skip
           go_wp2
           go_ret
           exact ⟨by rw [HS.out];rfl,by first | exact HB.out.trans (HB2.out.mono (by have:=HR1.out.lt;omega)) | (rw [hh];exact HB.out.trans (HB2.out.mono (by have:=HR1.out.lt;omega)))⟩
          ·skip
           go_wp2
           go_ret
           exact ⟨by rw [HS.out];rfl,by first | exact HB.out.trans (HB2.out.mono (by have:=HR1.out.lt;omega)) | (rw [hh];exact HB.out.trans (HB2.out.mono (by have:=HR1.out.lt;omega)))⟩
         ·skip
          by_cases hk11:k=11
          ·subst hk11
           clear e3 hk3
           have CH:=fun w' (hb:Below W1.heap.size W1 w')=>has_any 139 77 ent_isName ent_isForm nameB formB 1 1 11 s l a cap w' hl (name_says s hs) (fun i hi=>isForm_any _ l[i] (Nat.le_refl _)) (HT1.out.later hb)
           obtain ⟨V,hV⟩:∃ V,hasB nameB 1 1 formB s l=V:=⟨_,rfl⟩
           rw [hV] at CH
           have CC:=qh CH
           have HS:Hid (itemB (.mk 11 s l)=V):=qh (by rw [←hV];rw [itemB,if_neg (by decide),if_neg (by decide),if_neg (by decide),if_neg (by decide),if_pos (by decide),formL_all,exact_v nameB 1 1 rfl])
           clear CH hV
           clear ht hb0 T1 R1 hW1
           go_enter Tryz.func76,Tryz.ntmps76
           go_upto_region 1 with fail
           rw [HW.out]
           go_wp2_with fail
           refine (CC.out _ (Below.refl _ _)).mono ?_
           rintro e w2 ⟨rfl,hb2⟩
           have HB2:=qh hb2
           clear hb2 CC n0 n1 n2
           cases V
           ·skip
            go_wp2
            go_ret
            exact ⟨by rw [HS.out];rfl,by first | exact HB.out.trans (HB2.out.mono (by have:=HR1.out.lt;omega)) | (rw [hh];exact HB.out.trans (HB2.out.mono (by have:=HR1.out.lt;omega)))⟩
           ·skip
            go_wp2
            go_ret
            exact ⟨by rw [HS.out];rfl,by first | exact HB.out.trans (HB2.out.mono (by have:=HR1.out.lt;omega)) | (rw [hh];exact HB.out.trans (HB2.out.mono (by have:=HR1.out.lt;omega)))⟩
          ·skip
           by_cases hk12:k=12
           ·subst hk12
            clear e3 hk3
            have CH:=fun w' (hb:Below W1.heap.size W1 w')=>has_any 139 137 ent_isName ent_isLone nameB loneB 0 0 12 s l a cap w' hl (name_says s hs) (fun i hi=>isLone_any _ l[i] (Nat.le_refl _)) (HT1.out.later hb)
            obtain ⟨V,hV⟩:∃ V,hasB nameB 0 0 loneB s l=V:=⟨_,rfl⟩
            rw [hV] at CH
            have CC:=qh CH
            have HS:Hid (itemB (.mk 12 s l)=V):=qh (by rw [←hV];rw [itemB,if_neg (by decide),if_neg (by decide),if_neg (by decide),if_neg (by decide),if_neg (by decide),if_pos (by decide),has_zero,Bool.and_comm])
            clear CH hV
            clear ht hb0 T1 R1 hW1
            go_enter Tryz.func76,Tryz.ntmps76
            go_upto_region 1 with fail
            rw [HW.out]
            go_wp2_with fail
            refine (CC.out _ (Below.refl _ _)).mono ?_
            rintro e w2 ⟨rfl,hb2⟩
            have HB2:=qh hb2
            clear hb2 CC n0 n1 n2
            cases V
            ·skip
             go_wp2
             go_ret
             exact ⟨by rw [HS.out];rfl,by first | exact HB.out.trans (HB2.out.mono (by have:=HR1.out.lt;omega)) | (rw [hh];exact HB.out.trans (HB2.out.mono (by have:=HR1.out.lt;omega)))⟩
            ·skip
             go_wp2
             go_ret
             exact ⟨by rw [HS.out];rfl,by first | exact HB.out.trans (HB2.out.mono (by have:=HR1.out.lt;omega)) | (rw [hh];exact HB.out.trans (HB2.out.mono (by have:=HR1.out.lt;omega)))⟩
           ·skip
            by_cases hk13:k=13
            ·subst hk13
             clear e3 hk3
             have CH:=fun w' (hb:Below W1.heap.size W1 w')=>has_any 139 137 ent_isName ent_isLone nameB loneB 0 0 13 s l a cap w' hl (name_says s hs) (fun i hi=>isLone_any _ l[i] (Nat.le_refl _)) (HT1.out.later hb)
             obtain ⟨V,hV⟩:∃ V,hasB nameB 0 0 loneB s l=V:=⟨_,rfl⟩
             rw [hV] at CH
             have CC:=qh CH
             have HS:Hid (itemB (.mk 13 s l)=V):=qh (by rw [←hV];rw [itemB,if_neg (by decide),if_neg (by decide),if_neg (by decide),if_neg (by decide),if_neg (by decide),if_pos (by decide),has_zero,Bool.and_comm])
             clear CH hV
             clear ht hb0 T1 R1 hW1
             go_enter Tryz.func76,Tryz.ntmps76
             go_upto_region 1 with fail
             rw [HW.out]
             go_wp2_with fail
             refine (CC.out _ (Below.refl _ _)).mono ?_
             rintro e w2 ⟨rfl,hb2⟩
             have HB2:=qh hb2
             clear hb2 CC n0 n1 n2
             cases V
             ·skip
              go_wp2
              go_ret
              exact ⟨by rw [HS.out];rfl,by first | exact HB.out.trans (HB2.out.mono (by have:=HR1.out.lt;omega)) | (rw [hh];exact HB.out.trans (HB2.out.mono (by have:=HR1.out.lt;omega)))⟩
             ·skip
              go_wp2
              go_ret
              exact ⟨by rw [HS.out];rfl,by first | exact HB.out.trans (HB2.out.mono (by have:=HR1.out.lt;omega)) | (rw [hh];exact HB.out.trans (HB2.out.mono (by have:=HR1.out.lt;omega)))⟩
            ·skip
             have HS:Hid (itemB (.mk k s l)=false):=qh (by rw [itemB,if_neg (by rintro (h | h) <;> contradiction),if_neg hk3,if_neg (by rintro (h | h | h) <;> contradiction),if_neg hk7,if_neg (by rintro (h | h | h | h) <;> contradiction),if_neg (by rintro (h | h) <;> contradiction),Bool.and_false])
             have e2:(k==2)=false:=by rw [beq_eq_false_iff_ne];exact hk2
             have e14:(k==14)=false:=by rw [beq_eq_false_iff_ne];exact hk14
             have e4:(k==4)=false:=by rw [beq_eq_false_iff_ne];exact hk4
             have e5:(k==5)=false:=by rw [beq_eq_false_iff_ne];exact hk5
             have e6:(k==6)=false:=by rw [beq_eq_false_iff_ne];exact hk6
             have e7:(k==7)=false:=by rw [beq_eq_false_iff_ne];exact hk7
             have e8:(k==8)=false:=by rw [beq_eq_false_iff_ne];exact hk8
             have e9:(k==9)=false:=by rw [beq_eq_false_iff_ne];exact hk9
             have e10:(k==10)=false:=by rw [beq_eq_false_iff_ne];exact hk10
             have e11:(k==11)=false:=by rw [beq_eq_false_iff_ne];exact hk11
             have e12:(k==12)=false:=by rw [beq_eq_false_iff_ne];exact hk12
             have e13:(k==13)=false:=by rw [beq_eq_false_iff_ne];exact hk13
             clear ht hb0 T1 R1 hW1 hk2 hk14 hk4 hk5 hk6 hk7 hk8 hk9 hk10 hk11 hk12 hk13
             go_enter Tryz.func76,Tryz.ntmps76
             go_upto_region 1 with fail
             rw [HW.out]
             go_wp2
             go_ret
             exact ⟨by rw [HS.out];rfl,by first | exact HB.out | (rw [hh];exact HB.out)⟩
set_option maxRecDepth 100000 in
set_option maxHeartbeats 2000000 in
theorem isText_any (t:Nd):Says 75 textB t:=by
 intro w v0 v1 v2 ht
 obtain ⟨k,s,l,a,cap,rfl,rfl,rfl,rfl,hs,hl⟩:=ht.form
 have hb0:=(Below.refl w.heap.size w).alloc (Nat.le_refl _) (.cells #[.int .i64 k,.string s,.slice a l.length cap] 25)
 obtain ⟨h,hh⟩:∃ h,w.heap.size=h:=⟨_,rfl⟩
 obtain ⟨W1,hW1⟩:∃ W1,w.alloc (.cells #[.int .i64 k,.string s,.slice a l.length cap] 25)=W1:=⟨_,rfl⟩
 have R1:Row3 W1 h (.int .i64 k) (.string s) (.slice a l.length cap):=by rw [←hW1,←hh];exact Row3.new _ _ _ _
 have T1:=ht.later hb0
 rw [hW1] at hb0 T1
 rw [hh] at hb0
 have HB:=qh hb0
 have HT1:=qh T1
 have HR1:=qh R1
 have HW:=qh hW1
 obtain ⟨⟨n0,n1,n2⟩,_⟩:=R1.cells
 have CH:=fun w' (hb:Below W1.heap.size W1 w')=>has_any 136 76 ent_isNone ent_isItem noneB itemB 0 l.length k s l a cap w' hl (isNone_any s) (fun i hi=>isItem_any l[i]) (HT1.out.later hb)
 obtain ⟨V,hV⟩:∃ V,hasB noneB 0 l.length itemB s l=V:=⟨_,rfl⟩
 rw [hV] at CH
 have CC:=qh CH
 have hv2:(noneB s && itemL l)=V:=by rw [←hV,from_v noneB 0 0 rfl,itemL_all,decide_eq_true (Nat.zero_le _),Bool.true_and]
 have HS0:=qh hv2
 clear CH hV hv2 ht hb0 T1 R1 hW1
 by_cases hk:k=1
 ·subst hk
  have HS:Hid (textB (.mk 1 s l)=V):=qh (by rw [textB,decide_eq_true rfl,Bool.true_and];exact HS0.out)
  clear HS0
  go_enter Tryz.func75,Tryz.ntmps75
  go_upto_region 1 with fail
  rw [HW.out]
  go_wp2_with fail
  refine (CC.out _ (Below.refl _ _)).mono ?_
  rintro e w2 ⟨rfl,hb2⟩
  have HB2:=qh hb2
  clear hb2 CC n0 n1 n2
  cases V
  ·skip
   go_wp2
   go_ret
   exact ⟨by rw [HS.out];rfl,by first | exact HB.out.trans (HB2.out.mono (by have:=HR1.out.lt;omega)) | (rw [hh];exact HB.out.trans (HB2.out.mono (by have:=HR1.out.lt;omega)))⟩
  ·skip
   go_wp2
   go_ret
   exact ⟨by rw [HS.out];rfl,by first | exact HB.out.trans (HB2.out.mono (by have:=HR1.out.lt;omega)) | (rw [hh];exact HB.out.trans (HB2.out.mono (by have:=HR1.out.lt;omega)))⟩
 ·have e1:(k==1)=false:=by rw [beq_eq_false_iff_ne];exact hk
  have HS:Hid (textB (.mk k s l)=false):=qh (by rw [textB,decide_eq_false hk];rfl)
  clear hk HS0
  go_enter Tryz.func75,Tryz.ntmps75
  go_upto_region 1 with fail
  rw [HW.out]
  go_wp2
  go_ret
  exact ⟨by rw [HS.out];rfl,by first | exact HB.out | (rw [hh];exact HB.out)⟩
set_option maxRecDepth 100000 in
set_option maxHeartbeats 2000000 in
theorem check_tree (t:Nd) (w:World) (v0 v1 v2:Value) (ht:NdR w t v0 v1 v2) :
  Calls Tryz.prog 27 #[.agg #[v0,v1,v2]] w fun e w'=>e = .returned (.int .i64 (chkN t))∧Below w.heap.size w w':=by
 obtain ⟨k,s,l,a,cap,rfl,rfl,rfl,rfl,hs,hl⟩:=ht.form
 have hb0:=(Below.refl w.heap.size w).alloc (Nat.le_refl _) (.cells #[.int .i64 k,.string s,.slice a l.length cap] 25)
 obtain ⟨h,hh⟩:∃ h,w.heap.size=h:=⟨_,rfl⟩
 obtain ⟨W1,hW1⟩:∃ W1,w.alloc (.cells #[.int .i64 k,.string s,.slice a l.length cap] 25)=W1:=⟨_,rfl⟩
 have R1:Row3 W1 h (.int .i64 k) (.string s) (.slice a l.length cap):=by rw [←hW1,←hh];exact Row3.new _ _ _ _
 have T1:=ht.later hb0
 rw [hW1] at hb0 T1
 rw [hh] at hb0
 have HB:=qh hb0
 have HT1:=qh T1
 have HR1:=qh R1
 have HW:=qh hW1
 obtain ⟨⟨n0,n1,n2⟩,_⟩:=R1.cells
 have CM:=qh (measure_any _ W1 _ _ _ HT1.out)
 have C1:=qh (fun w' (hb:Below W1.heap.size W1 w')=>isText_any (.mk k s l) w' _ _ _ (HT1.out.later hb))
 have C2:=qh (fun w' (hb:Below W1.heap.size W1 w')=>isItem_any (.mk k s l) w' _ _ _ (HT1.out.later hb))
 have C3:=qh (fun w' (hb:Below W1.heap.size W1 w')=>isForm_any _ (.mk k s l) (Nat.le_refl _) w' _ _ _ (HT1.out.later hb))
 have C4:=qh (fun w' (hb:Below W1.heap.size W1 w')=>isTerm_any _ (.mk k s l) (Nat.le_refl _) w' _ _ _ (HT1.out.later hb))
 have C5:=qh (fun w' (hb:Below W1.heap.size W1 w')=>isType_any _ (.mk k s l) (Nat.le_refl _) w' _ _ _ (HT1.out.later hb))
 obtain ⟨R,hR⟩:∃ R,chkN (.mk k s l)=R:=⟨_,rfl⟩
 rw [hR]
 have HR:Hid ((if 4000 < (Nd.mk k s l).sz then 2 else if 100 < (Nd.mk k s l).dp then 5 else if typB (.mk k s l) || (termB (.mk k s l) || (formB (.mk k s l) || (itemB (.mk k s l) || textB (.mk k s l)))) then 0 else 21)=R):=qh hR
 obtain ⟨S,hS⟩:∃ S,(Nd.mk k s l).sz=S:=⟨_,rfl⟩
 obtain ⟨D,hD⟩:∃ D,(Nd.mk k s l).dp=D:=⟨_,rfl⟩
 obtain ⟨B1,h1⟩:∃ B,textB (.mk k s l)=B:=⟨_,rfl⟩
 obtain ⟨B2,h2⟩:∃ B,itemB (.mk k s l)=B:=⟨_,rfl⟩
 obtain ⟨B3,h3⟩:∃ B,formB (.mk k s l)=B:=⟨_,rfl⟩
 obtain ⟨B4,h4⟩:∃ B,termB (.mk k s l)=B:=⟨_,rfl⟩
 obtain ⟨B5,h5⟩:∃ B,typB (.mk k s l)=B:=⟨_,rfl⟩
 rw [hS,hD,h1,h2,h3,h4,h5] at HR
 rw [hS,hD] at CM
 rw [h1] at C1
 rw [h2] at C2
 rw [h3] at C3
 rw [h4] at C4
 rw [h5] at C5
 clear hR hS hD h1 h2 h3 h4 h5 ht hb0 T1 R1 hW1
 by_cases hS:4000 < S
 ·have e0:(min S 4001:Nat)=4001:=by omega
  rw [e0] at CM
  have HRv:Hid (R=2):=qh (by rw [←HR.out,if_pos hS])
  clear e0 hS C1 C2 C3 C4 C5 HR
  go_enter Tryz.func27,Tryz.ntmps27
  go_upto_region 1 with fail
  rw [HW.out]
  go_wp2_with fail
  refine CM.out.mono ?_
  rintro e w2 ⟨lv,rfl,_,hb2⟩
  have HB2:=qh hb2
  clear hb2 n0 n1 n2 CM
  go_wp2
  go_ret
  exact ⟨by rw [HRv.out];rfl,by first | exact HB.out.trans (HB2.out.mono (by have:=HR1.out.lt;omega)) | (rw [hh];exact HB.out.trans (HB2.out.mono (by have:=HR1.out.lt;omega)))⟩
 ·have e0:(min S 4001:Nat)=S:=by omega
  rw [e0] at CM
  rw [if_neg hS] at HR
  go_enter Tryz.func27,Tryz.ntmps27
  go_upto_region 1 with fail
  rw [HW.out]
  go_wp2_with fail
  refine CM.out.mono ?_
  rintro e w2 ⟨lv,rfl,hlv,hb2⟩
  obtain rfl:=hlv (by omega)
  have R2:=qh (HR1.out.below hb2 HR1.out.lt)
  have HB2:=qh hb2
  have hS':¬ (4000:Int) < (S:Int):=by omega
  clear hlv hb2 n0 n1 n2 CM e0 hS
  obtain ⟨⟨n0,n1,n2⟩,_⟩:=R2.out.cells
  by_cases hD:100 < lv
  ·have hD':(100:Int) < (lv:Int):=by omega
   have HRv:Hid (R=5):=qh (by rw [←HR.out,if_pos hD])
   clear hD C1 C2 C3 C4 C5 HR
   go_wp2
   go_ret
   exact ⟨by rw [HRv.out];rfl,by first | exact HB.out.trans (HB2.out.mono (by have:=HR1.out.lt;omega)) | (rw [hh];exact HB.out.trans (HB2.out.mono (by have:=HR1.out.lt;omega)))⟩
  ·have hD':¬ (100:Int) < (lv:Int):=by omega
   rw [if_neg hD] at HR
   clear hD
   go_wp2_with fail
   refine (C1.out _ HB2.out).mono ?_
   rintro e w3 ⟨rfl,hbn⟩
   have HB3:=qh (HB2.out.trans (hbn.mono HB2.out.size))
   clear hbn n0 n1 n2 C1
   obtain ⟨⟨n0,n1,n2⟩,_⟩:=(HR1.out.below HB3.out HR1.out.lt).cells
   cases B1 with
   | true =>
    have HRv:Hid (R=0):=qh (by rw [←HR.out];simp)
    go_wp2
    go_ret
    exact ⟨by rw [HRv.out];rfl,by first | exact HB.out.trans (HB3.out.mono (by have:=HR1.out.lt;omega)) | (rw [hh];exact HB.out.trans (HB3.out.mono (by have:=HR1.out.lt;omega)))⟩
   | false =>
    go_wp2_with fail
    refine (C2.out _ HB3.out).mono ?_
    rintro e w4 ⟨rfl,hbn⟩
    have HB4:=qh (HB3.out.trans (hbn.mono HB3.out.size))
    clear hbn n0 n1 n2 C2
    obtain ⟨⟨n0,n1,n2⟩,_⟩:=(HR1.out.below HB4.out HR1.out.lt).cells
    cases B2 with
    | true =>
     have HRv:Hid (R=0):=qh (by rw [←HR.out];simp)
     go_wp2
     go_ret
     exact ⟨by rw [HRv.out];rfl,by first | exact HB.out.trans (HB4.out.mono (by have:=HR1.out.lt;omega)) | (rw [hh];exact HB.out.trans (HB4.out.mono (by have:=HR1.out.lt;omega)))⟩
    | false =>
     go_wp2_with fail
     refine (C3.out _ HB4.out).mono ?_
     rintro e w5 ⟨rfl,hbn⟩
     have HB5:=qh (HB4.out.trans (hbn.mono HB4.out.size))
     clear hbn n0 n1 n2 C3
     obtain ⟨⟨n0,n1,n2⟩,_⟩:=(HR1.out.below HB5.out HR1.out.lt).cells
     cases B3 with
     | true =>
      have HRv:Hid (R=0):=qh (by rw [←HR.out];simp)
      go_wp2
      go_ret
      exact ⟨by rw [HRv.out];rfl,by first | exact HB.out.trans (HB5.out.mono (by have:=HR1.out.lt;omega)) | (rw [hh];exact HB.out.trans (HB5.out.mono (by have:=HR1.out.lt;omega)))⟩
     | false =>
      go_wp2_with fail
      refine (C4.out _ HB5.out).mono ?_
      rintro e w6 ⟨rfl,hbn⟩
      have HB6:=qh (HB5.out.trans (hbn.mono HB5.out.size))
      clear hbn n0 n1 n2 C4
      obtain ⟨⟨n0,n1,n2⟩,_⟩:=(HR1.out.below HB6.out HR1.out.lt).cells
      cases B4 with
      | true =>
       have HRv:Hid (R=0):=qh (by rw [←HR.out];simp)
       go_wp2
       go_ret
       exact ⟨by rw [HRv.out];rfl,by first | exact HB.out.trans (HB6.out.mono (by have:=HR1.out.lt;omega)) | (rw [hh];exact HB.out.trans (HB6.out.mono (by have:=HR1.out.lt;omega)))⟩
      | false =>
       go_wp2_with fail
       refine (C5.out _ HB6.out).mono ?_
       rintro e w7 ⟨rfl,hbn⟩
       have HB7:=qh (HB6.out.trans (hbn.mono HB6.out.size))
       clear hbn n0 n1 n2 C5
       obtain ⟨⟨n0,n1,n2⟩,_⟩:=(HR1.out.below HB7.out HR1.out.lt).cells
       cases B5 with
       | true =>
        have HRv:Hid (R=0):=qh (by rw [←HR.out];simp)
        go_wp2
        go_ret
        exact ⟨by rw [HRv.out];rfl,by first | exact HB.out.trans (HB7.out.mono (by have:=HR1.out.lt;omega)) | (rw [hh];exact HB.out.trans (HB7.out.mono (by have:=HR1.out.lt;omega)))⟩
       | false =>
        have HRv:Hid (R=21):=qh (by rw [←HR.out];rfl)
        go_wp2
        go_ret
        exact ⟨by rw [HRv.out];rfl,by first | exact HB.out.trans (HB7.out.mono (by have:=HR1.out.lt;omega)) | (rw [hh];exact HB.out.trans (HB7.out.mono (by have:=HR1.out.lt;omega)))⟩
end Go.Proofs.YtgjijidlaghlmaaGreatDoor
namespace Go.Proofs.YtgjijidlaghlmaaGreatDoor
open Go.RowKit Go.Shelf
theorem item_le {ts:List Lx.Tok} {f p:Nat} {a:Nd} {q:Nat} (h:Sx.item ts f p = .ok a q):q≤ts.length:=by
 unfold Sx.item at h
 split at h
 ·cases h
 ·split at h
  ·cases h
  ·split at h
   ·rename_i ht
    cases h
    have:=Sx.txt_lt (ts:=ts) (p:=_) (by rw [ht];simp)
    omega
   ·cases h
theorem items_le (ts:List Lx.Tok):∀ (f:Nat) (acc:List Nd) (p:Nat) (l:List Nd) (q:Nat),p≤ts.length→Sx.items ts f acc p = .ok l q→q≤ts.length
 | 0,_,_,_,_,_,h=>by simp only [Sx.items] at h;cases h
 | f+1,acc,p,l,q,hp,h=>by
  simp only [Sx.items] at h
  split at h
  ·split at h
   ·cases h
   ·rename_i a q1 hi
    exact items_le ts f _ q1 l q (item_le hi) h
  ·cases h;exact hp
theorem whole_le {ts:List Lx.Tok} {f:Nat} {what:Int} {n:Nd} {q:Nat} (h:Sx.whole ts f what = .ok n q):q≤ts.length:=by
 unfold Sx.whole at h
 split at h
 ·exact ((Sx.form_goes ts f).2.2.1 0 _ _ h).2
 ·split at h
  ·exact ((Sx.term_goes ts f).1 0 _ _ h).2
  ·split at h
   ·exact ((Sx.typed_goes ts f).1 0 _ _ h).2
   ·split at h
    ·cases h
    ·rename_i l q1 hi
     cases h
     exact items_le ts f _ _ _ _ (Nat.zero_le _) hi
def chkT (t:Nd):Nat:=(chkN t).toNat
theorem chkT_cast (t:Nd):((chkT t:Nat):Int)=chkN t:=by
 unfold chkT
 have h:0≤chkN t:=by
  unfold chkN
  split
  ·decide
  ·split
   ·decide
   ·split <;> decide
 exact Int.toNat_of_nonneg h
def parseP (l:Lx.Bs) (what:Int):Option Nd×Nat×Nat:=match Lx.scan l with
 | .bad p er=>(none,p,er)
 | .toks ts=>match Sx.whole ts (Sx.fuel ts) what with
  | .bad q=>(none,posT ts l.length q,20)
  | .ok nd q=>if q < ts.length then (none,posT ts l.length q,20) else if chkT nd=0 then (some nd,0,0) else (none,0,chkT nd)
def NodeIs (B:Nat) (w:World) (k:Int) (s:ByteArray) (a:Option Addr) (n c:Nat):Option Nd→Prop
 | none=>k=0∧s=⟨#[]⟩∧a=none∧n=0∧c=0
 | some t=>NdS (fun b=>B≤b) w t (.int .i64 k) (.string s) (.slice a n c)
def ParseR (r:Option Nd×Nat×Nat) (w:World) (e:Ending) (w':World):Prop :=
 ∃ k s a n c,e = .returned (.tuple #[.agg #[.int .i64 k,.string s,.slice a n c],.int .i64 (r.2.1:Nat),.int .i64 (r.2.2:Nat)])∧Below w.heap.size w w'∧NodeIs w.heap.size w' k s a n c r.1
theorem parse_one (s:ByteArray) (what:Int) (w:World) (hw:2≤w.heap.size) (gl:GLw w) (hs:s.size≤maxLen) (g:Nat) (eg:∀ args w,(callFunc g args).run Tryz.prog w = .ok (.enter g args) w)
  (CW:∀ (E:PE) w,SaneT E.ts→PS E 0 w→Calls Tryz.prog g #[.pointer (some ⟨E.pb,0,none⟩)] w (Gr E w (Sx.whole E.ts (Sx.fuel E.ts) what))) :
  Calls Tryz.prog 68 #[.string s,F_ g] w (ParseR (parseP (bs s) what) w):=by
 have hlen:(bs s).length=s.size:=bs_len s
 cases hsc:Lx.scan (bs s) with
 | bad p er =>
  refine (parse_bad s p er hsc (by rcases scan_err hsc with h | h | h <;> omega) w hs (F_ g)).mono ?_
  rintro e w' ⟨rfl,hb⟩
  have hp:parseP (bs s) what=(none,p,er):=by unfold parseP;rw [hsc]
  rw [hp]
  exact ⟨0,⟨#[]⟩,none,0,0,rfl,hb,rfl,rfl,rfl,rfl,rfl⟩
 | toks l =>
  refine (parse_any s l hsc w hw gl hs g eg (Sx.whole l (Sx.fuel l) what) (fun n q h=>whole_le h) chkT (fun E w h1 h2 h3=>by
   have:=CW E w (by rw [h1];exact scan_saneT hsc) h3
   rw [h1] at this
   exact this) (fun k sx kids va vc w h=>(check_tree _ w _ _ _ h).mono fun e w' hq=>⟨by rw [hq.1,chkT_cast],hq.2⟩)).mono ?_
  rintro e w' ⟨hb,ho⟩
  have hp:parseP (bs s) what=match Sx.whole l (Sx.fuel l) what with
   | .bad q=>(none,posT l s.size q,20)
   | .ok nd q=>if q < l.length then (none,posT l s.size q,20) else if chkT nd=0 then (some nd,0,0) else (none,0,chkT nd):=by
   unfold parseP;rw [hsc,hlen]
  rw [hp]
  cases hr:Sx.whole l (Sx.fuel l) what with
  | bad q =>
   rw [hr] at ho
   exact ⟨0,⟨#[]⟩,none,0,0,ho,hb,rfl,rfl,rfl,rfl,rfl⟩
  | ok nd q =>
   obtain ⟨k,sx,kids⟩:=nd
   rw [hr] at ho
   simp only at ho ⊢
   by_cases hq:q < l.length
   ·rw [if_pos hq] at ho ⊢
    exact ⟨0,⟨#[]⟩,none,0,0,ho,hb,rfl,rfl,rfl,rfl,rfl⟩
   ·rw [if_neg hq] at ho ⊢
    by_cases h0:chkT (.mk k sx kids)=0
    ·rw [if_pos h0] at ho ⊢
     obtain ⟨va,vc,he,hn⟩:=ho
     exact ⟨k,sx,va,kids.length,vc,he,hb,hn⟩
    ·rw [if_neg h0] at ho ⊢
     exact ⟨0,⟨#[]⟩,none,0,0,ho,hb,rfl,rfl,rfl,rfl,rfl⟩
theorem gr_text (E:PE) (w:World) (hs:SaneT E.ts) (h:PS E 0 w):Calls Tryz.prog 69 #[.pointer (some ⟨E.pb,0,none⟩)] w (Gr E w (Sx.whole E.ts (Sx.fuel E.ts) 1)):=by
 have:=text_walk E hs 0 w h (Sx.fuel E.ts) (by unfold Sx.fuel;omega)
 have e:Sx.whole E.ts (Sx.fuel E.ts) 1=appR 1 Sx.noS (Sx.items E.ts (Sx.fuel E.ts) [] 0):=by
  unfold Sx.whole
  rw [if_neg (by decide),if_neg (by decide),if_neg (by decide)]
  all_goals (cases Sx.items E.ts (Sx.fuel E.ts) [] 0 <;> rfl)
 rw [e]
 exact this
theorem gr_form (E:PE) (w:World) (hs:SaneT E.ts) (h:PS E 0 w):Calls Tryz.prog 71 #[.pointer (some ⟨E.pb,0,none⟩)] w (Gr E w (Sx.whole E.ts (Sx.fuel E.ts) 18)):=by
 have:=form_any E hs (Sx.fuel E.ts) 0 w h (by unfold Sx.fuel;omega)
 unfold Sx.whole
 rw [if_pos rfl]
 exact this
theorem gr_term (E:PE) (w:World) (hs:SaneT E.ts) (h:PS E 0 w):Calls Tryz.prog 72 #[.pointer (some ⟨E.pb,0,none⟩)] w (Gr E w (Sx.whole E.ts (Sx.fuel E.ts) 17)):=by
 have:=term_all E hs (Sx.fuel E.ts) 0 w h (by unfold Sx.fuel;omega)
 unfold Sx.whole
 rw [if_neg (by decide),if_pos rfl]
 exact this
theorem gr_type (E:PE) (w:World) (h:PS E 0 w):Calls Tryz.prog 73 #[.pointer (some ⟨E.pb,0,none⟩)] w (Gr E w (Sx.whole E.ts (Sx.fuel E.ts) 31)):=by
 have:=typed_any E (Sx.fuel E.ts) 0 w h (by unfold Sx.fuel;omega)
 unfold Sx.whole
 rw [if_neg (by decide),if_neg (by decide),if_pos rfl]
 exact this
theorem ret_node3 {W:World} {b:Nat} {v0 v1 v2:Value} {fn:Func} {t u u':Nat} {a:Act} {R:Ending→World→Prop} {v v':Value} (h:Row3 W b v0 v1 v2) (hr:fn.results=#[ResultVar.cell t 25,ResultVar.tmp u,ResultVar.tmp u']) (hv:(a.tmps[u]?).getD undef=v) (hv':(a.tmps[u']?).getD undef=v') (hd:a.defers=[]) (ha:(a.tmps[t]?).getD undef = .pointer (some ⟨b,0,none⟩))
  (hR:R (.returned (.tuple #[.agg #[v0,v1,v2],v,v'])) W):bodyPost Tryz.prog fn R .ret a W:=by
 obtain ⟨⟨c0,c1,c2⟩,_⟩:=h.cells
 exact bodyPost_ret (v:=.tuple #[.agg #[v0,v1,v2],v,v']) (by simp [results,hr,go_sem,ha,hv,hv',c0,c1,c2]) hd hR
set_option maxRecDepth 100000 in
set_option maxHeartbeats 1000000 in
theorem Parse_any (s:ByteArray) (w:World) (hw:2≤w.heap.size) (gl:GLw w) (hs:s.size≤maxLen) :
  Calls Tryz.prog 18 #[.string s] w (ParseR (parseP (bs s) 1) w):=by
 have eg:∀ args w,(callFunc 69 args).run Tryz.prog w = .ok (.enter 69 args) w:=enters_of Tryz.func69 (by kernel_rfl) rfl
 have hb0:=(Below.refl w.heap.size w).alloc (Nat.le_refl _) (.cells #[.int .i64 0,.string ⟨#[]⟩,.slice none 0 0] 25)
 have C:=qh (parse_one s 1 (w.alloc (.cells #[.int .i64 0,.string ⟨#[]⟩,.slice none 0 0] 25)) (by simp;omega) (gl.keep fun b hb1 hb2=>hb0.block b hb2) hs _ eg (fun E w hs h=>gr_text E w hs h))
 obtain ⟨r,hr⟩:∃ r,parseP (bs s) 1=r:=⟨_,rfl⟩
 rw [hr] at C ⊢
 obtain ⟨r0,at0,er⟩:=r
 have HB:=qh hb0
 have R1:=qh (Row3.new w (.int .i64 0) (.string ⟨#[]⟩) (.slice none 0 0))
 unfold F_ at C
 clear hr hb0 eg gl hw
 go_enter Tryz.func18,Tryz.ntmps18
 go_wp2_with fail
 refine C.out.mono ?_
 rintro e w1 ⟨k,sx,a,n,c,rfl,hb,hn⟩
 have R2:=qh (R1.out.below hb R1.out.lt)
 have HB1:=qh hb
 have HN:=qh hn
 clear hb hn C
 obtain ⟨⟨n0,n1,n2⟩,m0,m1,m2⟩:=R2.out.cells
 go_wp2
 refine ret_node3 (Row3.put R2.out _ _ _) rfl rfl rfl rfl rfl ⟨k,sx,a,n,c,rfl,?_,?_⟩
 ·exact (((HB.out.trans (HB1.out.mono (by simp))).setCell (p:=⟨w.heap.size,0,none⟩) (Nat.le_refl _) _).setCell (p:=⟨w.heap.size,1,none⟩) (Nat.le_refl _) _).setCell (p:=⟨w.heap.size,2,none⟩) (Nat.le_refl _) _
 ·have h:=HN.out
  cases r0 with
  | none=>exact h
  | some t=>exact NdS.keep (fun b hb1 hb2=>⟨(Below.heap_setCell _ _ _ _ (by simp at hb1;simp only;omega)).trans ((Below.heap_setCell _ _ _ _ (by simp at hb1;simp only;omega)).trans (Below.heap_setCell _ _ _ _ (by simp at hb1;simp only;omega))),by simp at hb1;omega⟩) h
set_option maxRecDepth 100000 in
set_option maxHeartbeats 1000000 in
theorem ParseForm_any (s:ByteArray) (w:World) (hw:2≤w.heap.size) (gl:GLw w) (hs:s.size≤maxLen) :
  Calls Tryz.prog 20 #[.string s] w (ParseR (parseP (bs s) 18) w):=by
 have eg:∀ args w,(callFunc 71 args).run Tryz.prog w = .ok (.enter 71 args) w:=enters_of Tryz.func71 (by kernel_rfl) rfl
 have hb0:=(Below.refl w.heap.size w).alloc (Nat.le_refl _) (.cells #[.int .i64 0,.string ⟨#[]⟩,.slice none 0 0] 25)
 have C:=qh (parse_one s 18 (w.alloc (.cells #[.int .i64 0,.string ⟨#[]⟩,.slice none 0 0] 25)) (by simp;omega) (gl.keep fun b hb1 hb2=>hb0.block b hb2) hs _ eg (fun E w hs h=>gr_form E w hs h))
 obtain ⟨r,hr⟩:∃ r,parseP (bs s) 18=r:=⟨_,rfl⟩
 rw [hr] at C ⊢
 obtain ⟨r0,at0,er⟩:=r
 have HB:=qh hb0
 have R1:=qh (Row3.new w (.int .i64 0) (.string ⟨#[]⟩) (.slice none 0 0))
 unfold F_ at C
 clear hr hb0 eg gl hw
 go_enter Tryz.func20,Tryz.ntmps20
 go_wp2_with fail
 refine C.out.mono ?_
 rintro e w1 ⟨k,sx,a,n,c,rfl,hb,hn⟩
 have R2:=qh (R1.out.below hb R1.out.lt)
 have HB1:=qh hb
 have HN:=qh hn
 clear hb hn C
 obtain ⟨⟨n0,n1,n2⟩,m0,m1,m2⟩:=R2.out.cells
 go_wp2
 refine ret_node3 (Row3.put R2.out _ _ _) rfl rfl rfl rfl rfl ⟨k,sx,a,n,c,rfl,?_,?_⟩
 ·exact (((HB.out.trans (HB1.out.mono (by simp))).setCell (p:=⟨w.heap.size,0,none⟩) (Nat.le_refl _) _).setCell (p:=⟨w.heap.size,1,none⟩) (Nat.le_refl _) _).setCell (p:=⟨w.heap.size,2,none⟩) (Nat.le_refl _) _
 ·have h:=HN.out
  cases r0 with
  | none=>exact h
  | some t=>exact NdS.keep (fun b hb1 hb2=>⟨(Below.heap_setCell _ _ _ _ (by simp at hb1;simp only;omega)).trans ((Below.heap_setCell _ _ _ _ (by simp at hb1;simp only;omega)).trans (Below.heap_setCell _ _ _ _ (by simp at hb1;simp only;omega))),by simp at hb1;omega⟩) h
set_option maxRecDepth 100000 in
set_option maxHeartbeats 1000000 in
theorem ParseTerm_any (s:ByteArray) (w:World) (hw:2≤w.heap.size) (gl:GLw w) (hs:s.size≤maxLen) :
  Calls Tryz.prog 22 #[.string s] w (ParseR (parseP (bs s) 17) w):=by
 have eg:∀ args w,(callFunc 72 args).run Tryz.prog w = .ok (.enter 72 args) w:=enters_of Tryz.func72 (by kernel_rfl) rfl
 have hb0:=(Below.refl w.heap.size w).alloc (Nat.le_refl _) (.cells #[.int .i64 0,.string ⟨#[]⟩,.slice none 0 0] 25)
 have C:=qh (parse_one s 17 (w.alloc (.cells #[.int .i64 0,.string ⟨#[]⟩,.slice none 0 0] 25)) (by simp;omega) (gl.keep fun b hb1 hb2=>hb0.block b hb2) hs _ eg (fun E w hs h=>gr_term E w hs h))
 obtain ⟨r,hr⟩:∃ r,parseP (bs s) 17=r:=⟨_,rfl⟩
 rw [hr] at C ⊢
 obtain ⟨r0,at0,er⟩:=r
 have HB:=qh hb0
 have R1:=qh (Row3.new w (.int .i64 0) (.string ⟨#[]⟩) (.slice none 0 0))
 unfold F_ at C
 clear hr hb0 eg gl hw
 go_enter Tryz.func22,Tryz.ntmps22
 go_wp2_with fail
 refine C.out.mono ?_
 rintro e w1 ⟨k,sx,a,n,c,rfl,hb,hn⟩
 have R2:=qh (R1.out.below hb R1.out.lt)
 have HB1:=qh hb
 have HN:=qh hn
 clear hb hn C
 obtain ⟨⟨n0,n1,n2⟩,m0,m1,m2⟩:=R2.out.cells
 go_wp2
 refine ret_node3 (Row3.put R2.out _ _ _) rfl rfl rfl rfl rfl ⟨k,sx,a,n,c,rfl,?_,?_⟩
 ·exact (((HB.out.trans (HB1.out.mono (by simp))).setCell (p:=⟨w.heap.size,0,none⟩) (Nat.le_refl _) _).setCell (p:=⟨w.heap.size,1,none⟩) (Nat.le_refl _) _).setCell (p:=⟨w.heap.size,2,none⟩) (Nat.le_refl _) _
 ·have h:=HN.out
  cases r0 with
  | none=>exact h
  | some t=>exact NdS.keep (fun b hb1 hb2=>⟨(Below.heap_setCell _ _ _ _ (by simp at hb1;simp only;omega)).trans ((Below.heap_setCell _ _ _ _ (by simp at hb1;simp only;omega)).trans (Below.heap_setCell _ _ _ _ (by simp at hb1;simp only;omega))),by simp at hb1;omega⟩) h
set_option maxRecDepth 100000 in
set_option maxHeartbeats 1000000 in
theorem ParseType_any (s:ByteArray) (w:World) (hw:2≤w.heap.size) (gl:GLw w) (hs:s.size≤maxLen) :
  Calls Tryz.prog 24 #[.string s] w (ParseR (parseP (bs s) 31) w):=by
 have eg:∀ args w,(callFunc 73 args).run Tryz.prog w = .ok (.enter 73 args) w:=enters_of Tryz.func73 (by kernel_rfl) rfl
 have hb0:=(Below.refl w.heap.size w).alloc (Nat.le_refl _) (.cells #[.int .i64 0,.string ⟨#[]⟩,.slice none 0 0] 25)
 have C:=qh (parse_one s 31 (w.alloc (.cells #[.int .i64 0,.string ⟨#[]⟩,.slice none 0 0] 25)) (by simp;omega) (gl.keep fun b hb1 hb2=>hb0.block b hb2) hs _ eg (fun E w hs h=>gr_type E w h))
 obtain ⟨r,hr⟩:∃ r,parseP (bs s) 31=r:=⟨_,rfl⟩
 rw [hr] at C ⊢
 obtain ⟨r0,at0,er⟩:=r
 have HB:=qh hb0
 have R1:=qh (Row3.new w (.int .i64 0) (.string ⟨#[]⟩) (.slice none 0 0))
 unfold F_ at C
 clear hr hb0 eg gl hw
 go_enter Tryz.func24,Tryz.ntmps24
 go_wp2_with fail
 refine C.out.mono ?_
 rintro e w1 ⟨k,sx,a,n,c,rfl,hb,hn⟩
 have R2:=qh (R1.out.below hb R1.out.lt)
 have HB1:=qh hb
 have HN:=qh hn
 clear hb hn C
 obtain ⟨⟨n0,n1,n2⟩,m0,m1,m2⟩:=R2.out.cells
 go_wp2
 refine ret_node3 (Row3.put R2.out _ _ _) rfl rfl rfl rfl rfl ⟨k,sx,a,n,c,rfl,?_,?_⟩
 ·exact (((HB.out.trans (HB1.out.mono (by simp))).setCell (p:=⟨w.heap.size,0,none⟩) (Nat.le_refl _) _).setCell (p:=⟨w.heap.size,1,none⟩) (Nat.le_refl _) _).setCell (p:=⟨w.heap.size,2,none⟩) (Nat.le_refl _) _
 ·have h:=HN.out
  cases r0 with
  | none=>exact h
  | some t=>exact NdS.keep (fun b hb1 hb2=>⟨(Below.heap_setCell _ _ _ _ (by simp at hb1;simp only;omega)).trans ((Below.heap_setCell _ _ _ _ (by simp at hb1;simp only;omega)).trans (Below.heap_setCell _ _ _ _ (by simp at hb1;simp only;omega))),by simp at hb1;omega⟩) h
end Go.Proofs.YtgjijidlaghlmaaGreatDoor
namespace Go.Proofs.YtgjijidlaghlmaaGreatDoor
open Go.RowKit
theorem infoByte:(Tryz.prog.info? 5).map (fun i=>(i.zero,i.size,i.bytes))=some (some (.int .u8 0),1,1):=by kernel_rfl
end Go.Proofs.YtgjijidlaghlmaaGreatDoor
namespace Go.Proofs.YtgjijidlaghlmaaGreatDoor
open Go.RowKit Go.Shelf
theorem ownsRow_kind {w:World} {base e size n:Nat} {v:Value} {xs:List Value} (h:w.ownsRow base e size v n xs):∀ g,v.ownBlock=some g→∃ c fz,w.heap[g]?=some (.cells c e fz):=by
 intro g hg
 rcases h.2 with ⟨rfl,_⟩ | ⟨g',cap,cur,rfl,hb,hh,_⟩
 ·simp [Value.ownBlock] at hg
 ·obtain rfl:g'=g:=by simpa [Value.ownBlock] using hg
  exact ⟨_,_,hh⟩
theorem sizeBuilder:(Tryz.prog.info? 151).map (·.size)=some 2:=by kernel_rfl
theorem liesPrinter:liesAt Tryz.prog Tryz.prog.depth 153 (2 / Tryz.prog.cellsOf 153) 0 151 1=true:=by kernel_rfl
set_option maxHeartbeats 1000000 in
set_option maxRecDepth 100000 in
theorem pCopyCheck_used (b:Nat) (w:World) (h0:w.cell? ⟨b,0,none⟩=some (.pointer (some ⟨b,0,none⟩))) :
  Calls Tryz.prog 212 #[.pointer (some ⟨b,0,none⟩)] w fun e w'=>e = .returned (.tuple #[])∧w'=w:=by
 obtain ⟨j,hj,_⟩:=Option.map_eq_some_iff.1 sizeBuilder
 go_enter Tryz.func212,Tryz.ntmps212
 go_wp2
 rw [Lib.run_neq_ptr_same w _ Tryz.underlying148 hj]
 go_wp2
 go_end0
 exact ⟨rfl,rfl⟩
set_option maxHeartbeats 1000000 in
set_option maxRecDepth 100000 in
theorem pCopyCheck_fresh (b:Nat) (w:World) (h0:w.cell? ⟨b,0,none⟩=some (.pointer none)) (hsh:w.shape? b=some (153,2)) (hfz:w.frozen? ⟨b,0,none⟩=false) :
  Calls Tryz.prog 212 #[.pointer (some ⟨b,0,none⟩)] w fun e w'=>e = .returned (.tuple #[])∧w'=w.setCell ⟨b,0,none⟩ (.pointer (some ⟨b,0,none⟩)):=by
 obtain ⟨j,hj,hjs⟩:=Option.map_eq_some_iff.1 sizeBuilder
 go_enter Tryz.func212,Tryz.ntmps212
 go_wp2
 rw [Lib.run_to_unsafe w ⟨b,0,none⟩ Tryz.underlying148 Tryz.underlying216 hj (by rw [hjs];decide) hsh (Nat.zero_lt_succ 1)]
 simp only [Result.andThen]
 rw [Oper.upon_value]
 go_wp2
 rw [run_callFunc_extern Tryz.func244 (by kernel_rfl) (by kernel_rfl) (by kernel_rfl) (e:=Extern.AbiNoEscape.same) (by kernel_rfl)]
 rw [Lib.run_noEscape]
 simp only [Result.andThen]
 rw [Oper.upon_value]
 go_wp2
 rw [Lib.run_from_unsafe w ⟨b,0,none⟩ Tryz.underlying216 Tryz.underlying148 hj hsh liesPrinter]
 simp only [Result.andThen]
 rw [Oper.upon_value]
 go_wp2
 go_end0
 exact ⟨rfl,rfl⟩
theorem pCopyCheck_any (B b:Nat) (bs:List Value) (w:World) (h:Lib.IsBuilder 153 5 B b bs w) :
  Calls Tryz.prog 212 #[.pointer (some ⟨b,0,none⟩)] w fun e w'=>e = .returned (.tuple #[])∧(Lib.BuilderAt 153 5 B b (.pointer (some ⟨b,0,none⟩)) bs w'∧Below B w w'∧Lib.OthersKept 5 (some b) w w'):=by
 rcases h with h | h
 ·refine (pCopyCheck_fresh b w h.cell0 h.shape h.frozen0).mono ?_
  rintro e w' ⟨rfl,rfl⟩
  exact ⟨rfl,h.used _,(Below.refl B w).setCell (p:=⟨b,0,none⟩) h.1 _,(Lib.OthersKept.refl _ _ w).setCell ⟨b,0,none⟩ rfl _⟩
 ·refine (pCopyCheck_used b w h.cell0).mono ?_
  rintro e w' ⟨rfl,rfl⟩
  exact ⟨rfl,h,Below.refl B _,Lib.OthersKept.refl _ _ _⟩
set_option maxHeartbeats 2000000 in
set_option maxRecDepth 100000 in
theorem pWriteString_any (B b:Nat) (bs:List Value) (s:ByteArray) (w:World) (h:Lib.IsBuilder 153 5 B b bs w) (hlen:bs.length+s.size≤140737488355328) (hBw:B≤w.heap.size) :
  Calls Tryz.prog 156 #[.pointer (some ⟨b,0,none⟩),.string s] w fun e w'=>e = .returned (.tuple #[.int .i64 s.size,.nilIface])∧(Lib.BuilderAt 153 5 B b (.pointer (some ⟨b,0,none⟩)) (bs++Lib.strCells s) w'∧Below B w w'∧Lib.OthersKept 5 (some b) w w'):=by
 obtain ⟨i0,hi,hz0,hz1,hz2⟩:=info_parts infoByte
 go_enter Tryz.func156,Tryz.ntmps156
 go_wp2_with fail
 refine (pCopyCheck_any B b bs _ h).mono ?_
 rintro e w1 ⟨rfl,h1,hb1,hk1⟩
 obtain ⟨hB,v,hbk,hown,hne⟩:=h1
 have c0:w1.cell? ⟨b,0,none⟩=some (.pointer (some ⟨b,0,none⟩)):=by rw [Lib.cell_of_heap hbk];rfl
 have c1:w1.cell? ⟨b,1,none⟩=some v:=by rw [Lib.cell_of_heap hbk];rfl
 go_wp2_with (at_builtin;refine Lib.wpList_append_own_string _ rfl _ _ 149 9 rfl B 5 i0 Tryz.underlying149 Tryz.underlying9 hi hz0 hz1 hz2 _ _ _ rfl hown s rfl ?c3 ?c4 ?c5 ?_)
 case c3=>unfold maxLen;omega
 case c4=>omega
 case c5=>have:=hb1.size;omega
 intro v' w2 hown' hgrow _
 have hlt:b < w1.heap.size:=by
  rcases Nat.lt_or_ge b w1.heap.size with h' | h'
  ·exact h'
  ·simp [Array.getElem?_eq_none h'] at hbk
 have hb2:w2.heap[b]?=some (.cells #[.pointer (some ⟨b,0,none⟩),v] 153 (0,0)):=by
  rw [hgrow.block b hlt (fun e=>hne e.symm)]
  exact hbk
 have d0:w2.cell? ⟨b,0,none⟩=some (.pointer (some ⟨b,0,none⟩)):=by rw [Lib.cell_of_heap hb2];rfl
 have d1:w2.cell? ⟨b,1,none⟩=some v:=by rw [Lib.cell_of_heap hb2];rfl
 have f1:w2.frozen? ⟨b,1,none⟩=false:=Lib.frozen_of_heap hb2 1
 obtain ⟨ao,n',cap,rfl⟩:∃ ao n' cap,v' = .slice ao n' cap:=by
  rcases hown'.2 with ⟨hv,_⟩ | ⟨g,cap,cur,hv,_⟩
  ·exact ⟨_,_,_,hv⟩
  ·exact ⟨_,_,_,hv⟩
 go_wp2
 go_ret2
 refine ⟨rfl,?_,?_,(hk1.grown hgrow (ownsRow_kind hown)).setCell ⟨b,1,none⟩ rfl _⟩
 ·exact Lib.BuilderAt.put (T:=153) (e:=5) hB hb2 (bs':=bs++Lib.strCells s) (by simpa [Lib.strCells_length] using hown') (by decide)
 ·exact (hb1.grown hgrow (by have:=hb1.size;omega) (fun k hk=>(hown.lt k hk).1)).setCell (p:=⟨b,1,none⟩) hB _
structure Wr (B b:Nat) (w w':World):Prop where
 bl:Below B w w'
 kp:Lib.OthersKept 5 (some b) w w'
theorem Wr.refl (B b:Nat) (w:World):Wr B b w w:=⟨Below.refl _ _,Lib.OthersKept.refl _ _ _⟩
theorem Wr.trans {B b:Nat} {w w1 w2:World} (h:Wr B b w w1) (h2:Wr B b w1 w2):Wr B b w w2:=⟨h.bl.trans h2.bl,fun k o e1 e2 e3=>h2.kp k o (h.kp k o e1 e2 e3) e2 e3⟩
theorem Wr.alloc {B b:Nat} {w w1:World} (h:Wr B b w w1) (hB:B≤w1.heap.size) (o:Obj):Wr B b w (w1.alloc o):=⟨h.bl.alloc hB o,h.kp.alloc o⟩
def PrW (B b:Nat) (l:List UInt8) (w:World):Prop:=Lib.IsBuilder 153 5 B b (Lib.byteCells l) w
theorem PrW.alloc {B b:Nat} {l:List UInt8} {w:World} (h:PrW B b l w) (o:Obj):PrW B b l (w.alloc o):=by
 rcases h with ⟨h1,v,h2,h3,h4⟩ | ⟨h1,v,h2,h3,h4⟩
 ·exact .inl ⟨h1,v,(Below.heap_alloc _ _ _ (heap_lt h2)).trans h2,ownsRow_blocks h3 fun k _ hk _=>Below.heap_alloc _ _ _ hk,h4⟩
 ·exact .inr ⟨h1,v,(Below.heap_alloc _ _ _ (heap_lt h2)).trans h2,ownsRow_blocks h3 fun k _ hk _=>Below.heap_alloc _ _ _ hk,h4⟩
theorem PrW.lt {B b:Nat} {l:List UInt8} {w:World} (h:PrW B b l w):b < w.heap.size:=by
 rcases h with ⟨h1,v,h2,h3,h4⟩ | ⟨h1,v,h2,h3,h4⟩ <;> exact heap_lt h2
theorem Wr.row3 {B b:Nat} {w w':World} (h:Wr B b w w') {X:Nat} {v0 v1 v2:Value} (r:Row3 w X v0 v1 v2) (hX:X≠b):Row3 w' X v0 v1 v2 :=
 h.kp X _ r (fun e=>hX (Option.some.inj e)) (fun c fz e=>absurd (Obj.cells.inj e).2.1 (by decide))
theorem byteCellsP_append (a b:List UInt8):Lib.byteCells (a++b)=Lib.byteCells a++Lib.byteCells b:=by simp [Lib.byteCells]
theorem byteCellsP_len (a:List UInt8):(Lib.byteCells a).length=a.length:=by simp [Lib.byteCells]
theorem pWrite (B b:Nat) (l:List UInt8) (s:ByteArray) (w:World) (h:PrW B b l w) (hlen:l.length+s.size≤140737488355328) (hBw:B≤w.heap.size) :
  Calls Tryz.prog 156 #[.pointer (some ⟨b,0,none⟩),.string s] w fun e w'=>e = .returned (.tuple #[.int .i64 s.size,.nilIface])∧PrW B b (l++bs s) w'∧Wr B b w w':=by
 refine (pWriteString_any B b _ s w h (by rw [byteCellsP_len];exact hlen) hBw).mono ?_
 rintro e w' ⟨rfl,h1,h2,h3⟩
 refine ⟨rfl,?_,⟨h2,h3⟩⟩
 unfold PrW
 rw [byteCellsP_append]
 exact .inr h1
def wordsOf (L:List ByteArray):List UInt8:=L.flatMap bs
theorem wordsOf_take {L:List ByteArray} {i:Nat} (h:i < L.length):wordsOf (L.take (i+1))=wordsOf (L.take i)++bs L[i]:=by
 unfold wordsOf
 rw [List.take_succ_eq_append_getElem h,List.flatMap_append]
 simp
set_option maxHeartbeats 1000000 in
set_option maxRecDepth 100000 in
theorem put_any (B b c:Nat) (l:List UInt8) (L:List ByteArray) (n cap:Nat) (w:World) (h:PrW B b l w) (hBw:B≤w.heap.size) (hn:n=L.length) (hL:L.length≤1000) (hlen:l.length+(wordsOf L).length≤100000000) (hcb:c≠b)
  (hc:w.heap[c]?=some (.cells (L.map Value.string).toArray 9 (0,0))) :
  Calls Tryz.prog 202 #[.pointer (some ⟨b,0,none⟩),.slice (some ⟨c,0,none⟩) n cap] w fun e w'=>e = .returned (.tuple #[])∧PrW B b (l++wordsOf L) w'∧Wr B b w w':=by
 subst hn
 have HC:=qh hc
 have HLN:=qh hlen
 clear hc hlen
 go_enter Tryz.func202,Tryz.ntmps202
 go_wp2
 go_loopw [8] (fun v wr=>∃ i:Nat,i≤L.length∧v = .int .i64 i∧Hid (PrW B b (l++wordsOf (L.take i)) wr)∧Hid (Wr B b w wr)) (fun v _=>L.length - (intOf v).toNat)
 case atStart=>exact ⟨0,Nat.zero_le _,rfl,qh (by rw [List.take_zero];simpa [wordsOf] using h),Wr.refl _ _ _⟩
 case round =>
  obtain ⟨i,hi,rfl,hP,hW⟩:=hrel
  by_cases hlt:i < L.length
  ·have hlt':(i:Int) < (L.length:Int):=by omega
   have hi0:(0:Int)≤(i:Int):=by omega
   have hrow:wr.heap[c]?=some (.cells (L.map Value.string).toArray 9 (0,0)):=hW.out.kp c _ HC.out (fun e=>hcb (Option.some.inj e)) (fun _ _ e=>absurd (Obj.cells.inj e).2.1 (by decide))
   have x0:wr.cell? ⟨c,i,none⟩=some (.string L[i]):=by
    rw [cell_of_row _ _ _ _ _ _ hrow]
    simp [hlt]
   have hsz:(l++wordsOf (L.take i)).length+(L[i]).size≤140737488355328:=by
    have h1:=HLN.out
    have h2:(wordsOf (L.take (i+1))).length≤(wordsOf L).length:=by
     conv=>rhs;rw [←List.take_append_drop (i+1) L]
     unfold wordsOf
     rw [List.flatMap_append,List.length_append]
     omega
    rw [wordsOf_take hlt,List.length_append,bs_len] at h2
    rw [List.length_append]
    omega
   have C:=qh (pWrite B b _ L[i] wr hP.out hsz (Nat.le_trans hBw hW.out.bl.size))
   have HT:=qh (wordsOf_take hlt)
   clear hsz hrow
   go_wp2_with fail
   refine C.out.mono ?_
   rintro e w5 ⟨rfl,hp5,hw5⟩
   have P5:Hid (PrW B b (l++wordsOf (L.take (i+1))) w5):=qh (by rw [HT.out,←List.append_assoc];exact hp5)
   have W5:=qh (hW.out.trans hw5)
   clear hp5 hw5 C x0
   go_wp2
   go_roundw
   case rel=>exact ⟨i+1,hlt,by push_cast;rfl,P5,W5⟩
   case measure=>simp [intOf];omega
  ·have hlt':¬ ((i:Int) < (L.length:Int)):=by omega
   go_wp2
   go_end0
   refine ⟨rfl,?_,hW.out⟩
   have:=hP.out
   rwa [List.take_of_length_le (by omega)] at this
end Go.Proofs.YtgjijidlaghlmaaGreatDoor
namespace Go.Proofs.YtgjijidlaghlmaaGreatDoor
open Go.RowKit
theorem runOpsG {w:World} (h:GLw w):(loadVar 188 ⟨1,0,none⟩).run Tryz.prog w = .ok (.agg opsArr) w:=by
 obtain ⟨t,fr,h1⟩:=h.g1
 exact run_loadVar_row w 1 t _ opsArr fr _ h1 Tryz.underlying188 rfl (by kernel_rfl)
def findO (k:Int):List (List UInt8×Int)→List UInt8
 | []=>[]
 | o :: l=>if o.2=k then o.1 else findO k l
theorem findO_step {k:Int} {i:Nat} {s:List UInt8} {c:Int} (h:openL[i]?=some (s,c)):findO k (openL.drop i)=if c=k then s else findO k (openL.drop (i+1)):=by
 have hi:i < openL.length:=(List.getElem?_eq_some_iff.1 h).1
 rw [List.drop_eq_getElem_cons hi,(List.getElem?_eq_some_iff.1 h).2]
 rfl
def opensW (k:Int):List UInt8:=findO k openL
def findP (k:Int):List (List UInt8×Int×Nat)→Option (List UInt8×Nat)
 | []=>none
 | o :: l=>if o.2.1=k then some (o.1,o.2.2) else findP k l
theorem findP_step {k:Int} {i:Nat} {s:List UInt8} {c:Int} {b:Nat} (h:opsL[i]?=some (s,c,b)):findP k (opsL.drop i)=if c=k then some (s,b) else findP k (opsL.drop (i+1)):=by
 have hi:i < opsL.length:=(List.getElem?_eq_some_iff.1 h).1
 rw [List.drop_eq_getElem_cons hi,(List.getElem?_eq_some_iff.1 h).2]
 rfl
def opOf (k:Int):Option (List UInt8×Nat):=findP k opsL
def opRes (k:Int):Option (List UInt8×Nat)→Value
 | some (s,b)=>.tuple #[.agg #[S_ s,.int .i64 k,.int .i64 (b:Nat)],.bool true]
 | none=>.tuple #[.agg #[.string ⟨#[]⟩,.int .i64 0,.int .i64 0],.bool false]
set_option maxRecDepth 100000 in
set_option maxHeartbeats 1000000 in
theorem opens_any (k:Int) (s:ByteArray) (a:Option Addr) (n cap:Nat) (w:World) (h:GLw w) (_h2:2≤w.heap.size) :
  Calls Tryz.prog 236 #[.agg #[.int .i64 k,.string s,.slice a n cap]] w fun e w'=>e = .returned (S_ (opensW k))∧Below w.heap.size w w':=by
 have hb0:=(Below.refl w.heap.size w).alloc (Nat.le_refl _) (.cells #[.int .i64 k,.string s,.slice a n cap] 25)
 have hl:=runOpen (h.keep fun b hb hl=>hb0.block b hl)
 have R0:=qh (Row3.new w (.int .i64 k) (.string s) (.slice a n cap))
 obtain ⟨V,hV⟩:∃ V,opensW k=V:=⟨_,rfl⟩
 rw [hV]
 have HV:=qh hV
 have HB:=qh hb0
 have Hl:=qh hl
 clear h hl hV hb0
 go_enter Tryz.func236,Tryz.ntmps236
 go_wp2_with (refine wpList_load_glob rfl _ _ rfl Hl.out ?_)
 obtain ⟨W,hW⟩:∃ W,w.alloc (.cells #[.int .i64 k,.string s,.slice a n cap] 25)=W:=⟨_,rfl⟩
 rw [hW] at R0 HB
 rw [hW]
 clear hW Hl
 go_loopw [6] (fun v6 wr=>∃ i:Nat,i≤20∧v6 = .int .i64 i∧Hid (findO k (openL.drop i)=V)∧Hid (Below W.heap.size W wr)) (fun v6 _=>20 - (intOf v6).toNat)
 case atStart=>exact ⟨0,Nat.zero_le _,rfl,HV,Below.refl _ _⟩
 case round =>
  obtain ⟨i,hi,rfl,hrun,hbl⟩:=hrel
  by_cases hlt:i < 20
  ·have hlt':(i:Int) < 20:=by omega
   obtain ⟨t,c,hget,hidx⟩:=indexOpen i hlt wr
   have Hidx:=qh hidx
   have Hst:=qh (findO_step (k:=k) hget)
   have hm1:(i:Int)+1≤20:=by omega
   have R1:=qh (R0.out.below hbl.out R0.out.lt)
   have R2:=qh (R1.out.alloc (.cells #[S_ t,.int .i64 c] 184))
   obtain ⟨⟨n0,n1,n2⟩,_⟩:=R2.out.cells
   clear hidx hget
   by_cases hs:c=k
   ·have HF:=qh (hrun.out.symm.trans (Hst.out.trans (if_pos hs)))
    have hs':((c:Int)==k)=true:=by rw [beq_iff_eq];exact hs
    clear hs
    unfold S_ at Hidx n0 n1 n2
    go_wp2_with (refine wpList_index_run rfl _ _ _ rfl rfl rfl Hidx.out ?_)
    go_ret
    exact ⟨by rw [HF.out];rfl,HB.out.trans ((hbl.out.alloc hbl.out.size _).mono (by have:=R0.out.lt;omega))⟩
   ·have HF:=qh ((Hst.out.trans (if_neg hs)).symm.trans hrun.out)
    have hs':((c:Int)==k)=false:=by rw [beq_eq_false_iff_ne];exact hs
    clear hs
    unfold S_ at Hidx n0 n1 n2
    go_wp2_with (refine wpList_index_run rfl _ _ _ rfl rfl rfl Hidx.out ?_)
    go_roundw
    case rel=>exact ⟨i+1,hlt,by push_cast;rfl,HF,hbl.out.alloc hbl.out.size _⟩
    case measure=>simp [intOf];omega
  ·have hlt':¬ ((i:Int) < 20):=by omega
   obtain rfl:i=20:=by omega
   have HF:Hid ([]=V):=qh hrun.out
   go_wp2
   go_ret
   exact ⟨by rw [←HF.out];rfl,HB.out.trans (hbl.out.mono (by have:=R0.out.lt;omega))⟩
def RowO (W:World) (b:Nat) (v0 v1 v2:Value):Prop:=W.heap[b]?=some (.cells #[v0,v1,v2] 187 (0,0))
section
variable {W:World} {b:Nat} {v0 v1 v2:Value}
theorem RowO.cells (h:RowO W b v0 v1 v2):(W.cell? ⟨b,0,none⟩=some v0∧W.cell? ⟨b,1,none⟩=some v1∧W.cell? ⟨b,2,none⟩=some v2)∧W.frozen? ⟨b,0,none⟩=false∧W.frozen? ⟨b,1,none⟩=false∧W.frozen? ⟨b,2,none⟩=false:=by
 have h0:W.heap[b]?=some (.cells #[v0,v1,v2] 187 (0,0)):=h
 exact ⟨⟨cell_of_row _ _ _ _ _ _ h0,cell_of_row _ _ _ _ _ _ h0,cell_of_row _ _ _ _ _ _ h0⟩,by simp [World.frozen?,h0],by simp [World.frozen?,h0],by simp [World.frozen?,h0]⟩
theorem RowO.lt (h:RowO W b v0 v1 v2):b < W.heap.size:=heap_lt h
theorem RowO.alloc (h:RowO W b v0 v1 v2) (o:Obj):RowO (W.alloc o) b v0 v1 v2:=(Below.heap_alloc _ _ _ h.lt).trans h
theorem RowO.below {W':World} {n:Nat} (h:RowO W b v0 v1 v2) (hb:Below n W W') (hn:b < n):RowO W' b v0 v1 v2:=(hb.block b hn).trans h
theorem RowO.put (h:RowO W b v0 v1 v2) (u0 u1 u2:Value):RowO (((W.setCell ⟨b,0,none⟩ u0).setCell ⟨b,1,none⟩ u1).setCell ⟨b,2,none⟩ u2) b u0 u1 u2:=by
 have h0:W.heap[b]?=some (.cells #[v0,v1,v2] 187 (0,0)):=h
 exact (setCell_row (setCell_row (setCell_row h0))).trans rfl
theorem ret_op2 {fn:Func} {t u:Nat} {a:Act} {R:Ending→World→Prop} {v:Value} (h:RowO W b v0 v1 v2) (hr:fn.results=#[ResultVar.cell t 187,ResultVar.tmp u]) (hv:(a.tmps[u]?).getD undef=v) (hd:a.defers=[]) (ha:(a.tmps[t]?).getD undef = .pointer (some ⟨b,0,none⟩))
  (hR:R (.returned (.tuple #[.agg #[v0,v1,v2],v])) W):bodyPost Tryz.prog fn R .ret a W:=by
 obtain ⟨⟨c0,c1,c2⟩,_⟩:=h.cells
 exact bodyPost_ret (v:=.tuple #[.agg #[v0,v1,v2],v]) (by simp [results,hr,go_sem,ha,hv,c0,c1,c2]) hd hR
end
set_option maxRecDepth 100000 in
set_option maxHeartbeats 1000000 in
theorem operatorOf_any (k:Int) (s:ByteArray) (a:Option Addr) (n cap:Nat) (w:World) (h:GLw w) (_h2:2≤w.heap.size) :
  Calls Tryz.prog 238 #[.agg #[.int .i64 k,.string s,.slice a n cap]] w fun e w'=>e = .returned (opRes k (opOf k))∧Below w.heap.size w w':=by
 obtain ⟨W,hW⟩:∃ W,(w.alloc (.cells #[.int .i64 k,.string s,.slice a n cap] 25)).alloc (.cells #[.string ⟨#[]⟩,.int .i64 0,.int .i64 0] 187)=W:=⟨_,rfl⟩
 have hb0:=((Below.refl w.heap.size w).alloc (Nat.le_refl _) (.cells #[.int .i64 k,.string s,.slice a n cap] 25)).alloc (by simp) (.cells #[.string ⟨#[]⟩,.int .i64 0,.int .i64 0] 187)
 have hl:=runOpsG (h.keep fun b hb hl=>hb0.block b hl)
 have R0:=qh ((Row3.new w (.int .i64 k) (.string s) (.slice a n cap)).alloc (.cells #[.string ⟨#[]⟩,.int .i64 0,.int .i64 0] 187))
 have O0:Hid (RowO W (w.heap.size+1) (.string ⟨#[]⟩) (.int .i64 0) (.int .i64 0)):=qh (by rw [←hW];exact alloc_at (by simp))
 obtain ⟨V,hV⟩:∃ V,opOf k=V:=⟨_,rfl⟩
 rw [hV]
 have HV:=qh hV
 have HB:=qh hb0
 have Hl:=qh hl
 have HW:=qh hW
 clear h hl hV hb0 hW
 go_enter Tryz.func238,Tryz.ntmps238
 go_wp2_with (refine wpList_load_glob rfl _ _ rfl Hl.out ?_)
 rw [HW.out] at R0 HB
 rw [HW.out]
 clear HW Hl
 go_loopw [7] (fun v6 wr=>∃ i:Nat,i≤8∧v6 = .int .i64 i∧Hid (findP k (opsL.drop i)=V)∧Hid (Below W.heap.size W wr)) (fun v6 _=>8 - (intOf v6).toNat)
 case atStart=>exact ⟨0,Nat.zero_le _,rfl,HV,Below.refl _ _⟩
 case round =>
  obtain ⟨i,hi,rfl,hrun,hbl⟩:=hrel
  have O1:=qh (O0.out.below hbl.out O0.out.lt)
  by_cases hlt:i < 8
  ·have hlt':(i:Int) < 8:=by omega
   obtain ⟨t,c,b,hget,hne,hidx⟩:=indexOps i hlt wr
   have Hidx:=qh hidx
   have Hst:=qh (findP_step (k:=k) hget)
   have hm1:(i:Int)+1≤8:=by omega
   have R1:=qh (R0.out.below hbl.out R0.out.lt)
   have R2:=qh (R1.out.alloc (.cells #[S_ t,.int .i64 c,.int .i64 (b:Nat)] 187))
   have O2:=qh (O1.out.alloc (.cells #[S_ t,.int .i64 c,.int .i64 (b:Nat)] 187))
   obtain ⟨⟨n0,n1,n2⟩,_⟩:=R2.out.cells
   obtain ⟨⟨o0,o1,o2⟩,p0,p1,p2⟩:=O2.out.cells
   clear hidx hget hne
   by_cases hs:c=k
   ·have HF:=qh (hrun.out.symm.trans (Hst.out.trans (if_pos hs)))
    have hs':((c:Int)==k)=true:=by rw [beq_iff_eq];exact hs
    have Hs:=qh hs
    clear hs
    unfold S_ at Hidx n0 n1 n2 O2 o0 o1 o2 p0 p1 p2
    go_wp2_with (refine wpList_index_run rfl _ _ _ rfl rfl rfl Hidx.out ?_)
    refine ret_op2 (O2.out.put _ _ _) Tryz.results238 rfl rfl rfl ?_
    exact ⟨by rw [HF.out,←Hs.out];rfl,below3 (HB.out.trans ((hbl.out.alloc hbl.out.size _).mono (by have:=R0.out.lt;omega))) (by omega) _ _ _⟩
   ·have HF:=qh ((Hst.out.trans (if_neg hs)).symm.trans hrun.out)
    have hs':((c:Int)==k)=false:=by rw [beq_eq_false_iff_ne];exact hs
    clear hs
    unfold S_ at Hidx n0 n1 n2 O2 o0 o1 o2 p0 p1 p2
    go_wp2_with (refine wpList_index_run rfl _ _ _ rfl rfl rfl Hidx.out ?_)
    go_roundw
    case rel=>exact ⟨i+1,hlt,by push_cast;rfl,HF,hbl.out.alloc hbl.out.size _⟩
    case measure=>simp [intOf];omega
  ·have hlt':¬ ((i:Int) < 8):=by omega
   obtain rfl:i=8:=by omega
   have HF:Hid (none=V):=qh hrun.out
   obtain ⟨⟨o0,o1,o2⟩,p0,p1,p2⟩:=O1.out.cells
   go_wp2
   refine ret_op2 (O1.out.put _ _ _) Tryz.results238 rfl rfl rfl ?_
   exact ⟨by rw [←HF.out];rfl,below3 (HB.out.trans (hbl.out.mono (by have:=R0.out.lt;omega))) (by omega) _ _ _⟩
end Go.Proofs.YtgjijidlaghlmaaGreatDoor
namespace Go.Proofs.YtgjijidlaghlmaaGreatDoor
open Go.RowKit
abbrev Tx:=List UInt8
theorem bs_mk (l:Tx):bs ⟨l.toArray⟩=l:=rfl
def parB (k:Int) (bind:Nat) (more:Bool):Bool:=(match opOf k with | some (_,b)=>decide (b < bind) | none=>false) || ((decide (k=18) || decide (k=19)) && more)
def txtF (k:Int) (f:Bool→Tx) (bind:Nat) (more:Bool):Tx:=if parB k bind more then 40 :: (f false++[41]) else f more
def kidF (l:List Nd) (ks:List (Bool→Tx)) (i bind:Nat) (more:Bool):Tx:=match l[i]?,ks[i]? with
 | some (.mk k _ _),some f=>txtF k f bind more
 | _,_=>[]
def argF (x:Nd) (f:Bool→Tx):Tx:=match x with | .mk k s l=>if k=17∨0 < l.length then 40 :: (f false++[41]) else bs s
def binderF (s:ByteArray) (l:List Nd) (ks:List (Bool→Tx)):Tx:=bs s++((if 1 < l.length then [58,32]++kidF l ks 0 6 false else [])++([46,32]++kidF l ks (l.length - 1) 0 false))
def opSign (k:Int):Tx:=match opOf k with | some (s,_)=>s | none=>[]
def opBind (k:Int):Nat:=match opOf k with | some (_,b)=>b | none=>0
def leftB (b:Nat):Nat:=if b=0 then 0 else b+1
def rightB (b:Nat):Nat:=if b=0 then 1 else b
def bareF (k:Int) (s:ByteArray) (l:List Nd) (ks:List (Bool→Tx)) (more:Bool):Tx :=
 if k=15∨k=16 then bs s++(l.zip ks).flatMap fun p=>32 :: argF p.1 p.2
 else if k=17 then opensW k++binderF s l ks
 else if k=18∨k=19 then (opensW k++[32])++binderF s l ks
 else if k=20∨k=21 then opensW k
 else if k=29 then opensW k++kidF l ks 0 5 more
 else if k=30 then opensW k++(kidF l ks 0 0 false++[125])
 else kidF l ks 0 (leftB (opBind k)) true++(([32]++(opSign k++[32]))++kidF l ks 1 (rightB (opBind k)) more)
mutual
def Nd.bare:Nd→Bool→Tx
 | .mk k s l=>fun more=>bareF k s l (Nd.bareL l) more
def Nd.bareL:List Nd→List (Bool→Tx)
 | []=>[]
 | a :: l=>Nd.bare a :: Nd.bareL l
end
theorem bareL_map:∀ l:List Nd,Nd.bareL l=l.map Nd.bare
 | []=>by simp only [Nd.bareL,List.map_nil]
 | a :: l=>by simp only [Nd.bareL,List.map_cons];rw [bareL_map l]
def Nd.kd:Nd→Int | .mk k _ _=>k
def Nd.txt (t:Nd) (bind:Nat) (more:Bool):Tx:=txtF t.kd t.bare bind more
def Nd.arg (t:Nd):Tx:=argF t t.bare
theorem kidF_at {l:List Nd} {i:Nat} (h:i < l.length) (bind:Nat) (more:Bool):kidF l (Nd.bareL l) i bind more=(l[i]).txt bind more:=by
 unfold kidF
 rw [bareL_map,List.getElem?_eq_getElem h,List.getElem?_map,List.getElem?_eq_getElem h]
 generalize l[i]=x
 cases x
 rfl
theorem zip_map_self:∀ l:List Nd,(l.zip (l.map Nd.bare)).flatMap (fun p=>32 :: argF p.1 p.2)=l.flatMap fun x=>32 :: x.arg
 | []=>rfl
 | a :: l=>by simp only [List.map_cons,List.zip_cons_cons,List.flatMap_cons];rw [zip_map_self l];rfl
theorem bare_name {k:Int} (h:k=15∨k=16) (s:ByteArray) (l:List Nd) (more:Bool):(Nd.mk k s l).bare more=bs s++l.flatMap fun x=>32 :: x.arg:=by
 simp only [Nd.bare,bareF]
 rw [if_pos h,bareL_map,zip_map_self]
def shapeB (k:Int) (n:Nat):Bool:=decide (k=15) || (decide (k=16) || ((decide (17≤k) && decide (k≤19) && (decide (n=1) || decide (n=2))) || (decide (k=20) || (decide (k=21) || (((decide (k=29) || decide (k=30)) && decide (1≤n)) || ((decide (22≤k) && decide (k≤28) || decide (k=31)) && decide (2≤n)))))))
mutual
def Nd.okP:Nd→Bool
 | .mk k s l=>shapeB k l.length && (decide (s.size≤64) && Nd.okL l)
def Nd.okL:List Nd→Bool
 | []=>true
 | a :: l=>a.okP && Nd.okL l
end
theorem okL_get:∀ {l:List Nd} (_:Nd.okL l=true) (i:Nat) (h:i < l.length),(l[i]).okP=true
 | a :: l,ho,0,_=>by simp only [Nd.okL,Bool.and_eq_true] at ho;exact ho.1
 | a :: l,ho,i+1,h=>by
  simp only [Nd.okL,Bool.and_eq_true] at ho
  simpa using okL_get ho.2 i (by simpa using h)
theorem PrW.later {B b:Nat} {l:List UInt8} {w w':World} (h:PrW B b l w) (hb:Below w.heap.size w w'):PrW B b l w':=by
 rcases h with ⟨h1,v,h2,h3,h4⟩ | ⟨h1,v,h2,h3,h4⟩
 ·exact .inl ⟨h1,v,(hb.block _ (heap_lt h2)).trans h2,ownsRow_blocks h3 fun k _ hk _=>hb.block _ hk,h4⟩
 ·exact .inr ⟨h1,v,(hb.block _ (heap_lt h2)).trans h2,ownsRow_blocks h3 fun k _ hk _=>hb.block _ hk,h4⟩
theorem Wr.of {B b:Nat} {w w':World} (hb:Below w.heap.size w w') (hB:B≤w.heap.size):Wr B b w w':=⟨hb.mono hB,fun k _ e1 _ _=>(hb.block k (heap_lt e1)).trans e1⟩
theorem Wr.later {B b:Nat} {w w1 w':World} (h:Wr B b w w1) (hb:Below w1.heap.size w1 w') (hB:B≤w1.heap.size):Wr B b w w':=h.trans (Wr.of hb hB)
theorem Wr.rowO {B b:Nat} {w w':World} (h:Wr B b w w') {X:Nat} {v0 v1 v2:Value} (r:RowO w X v0 v1 v2) (hX:X≠b):RowO w' X v0 v1 v2 :=
 h.kp X _ r (fun e=>hX (Option.some.inj e)) (fun c fz e=>absurd (Obj.cells.inj e).2.1 (by decide))
structure PrI (w0:World) (b:Nat) (l:Tx) (w:World):Prop where
 p:PrW w0.heap.size b l w
 bl:Below w0.heap.size w0 w
 gl:GLw w0
 two:2≤w0.heap.size
theorem PrI.size {w0:World} {b:Nat} {l:Tx} {w:World} (h:PrI w0 b l w):w0.heap.size≤w.heap.size:=h.bl.size
theorem PrI.alloc {w0:World} {b:Nat} {l:Tx} {w:World} (h:PrI w0 b l w) (o:Obj):PrI w0 b l (w.alloc o):=⟨h.p.alloc o,h.bl.alloc h.size o,h.gl,h.two⟩
theorem PrI.later {w0:World} {b:Nat} {l:Tx} {w w':World} (h:PrI w0 b l w) (hb:Below w.heap.size w w'):PrI w0 b l w':=⟨h.p.later hb,h.bl.trans (hb.mono h.size),h.gl,h.two⟩
theorem PrI.next {w0:World} {b:Nat} {l l':Tx} {w w':World} (h:PrI w0 b l w) (hp:PrW w0.heap.size b l' w') (hw:Wr w0.heap.size b w w'):PrI w0 b l' w':=⟨hp,h.bl.trans hw.bl,h.gl,h.two⟩
theorem PrI.glw {w0:World} {b:Nat} {l:Tx} {w:World} (h:PrI w0 b l w):GLw w:=h.gl.keep fun k _ hl=>h.bl.block k hl
theorem PrI.two' {w0:World} {b:Nat} {l:Tx} {w:World} (h:PrI w0 b l w):2≤w.heap.size:=Nat.le_trans h.two h.size
theorem PrI.tree {w0:World} {b:Nat} {l:Tx} {w:World} (h:PrI w0 b l w) {t:Nd} {v0 v1 v2:Value} (ht:NdR w0 t v0 v1 v2):NdR w t v0 v1 v2:=ht.later h.bl
theorem PrI.cell {w0:World} {b:Nat} {l:Tx} {w:World} (h:PrI w0 b l w) {p:Addr} {v:Value} (hc:w0.cell? p=some v):w.cell? p=some v:=(h.bl.cell (World.block_lt_of_cell? w0 p hc)).trans hc
def PrO (w0:World) (b:Nat) (l:Tx) (w:World) (T:Tx) (e:Ending) (w':World):Prop:=e = .returned (.tuple #[])∧PrI w0 b (l++T) w'∧Wr w0.heap.size b w w'
theorem putL {w0:World} {b:Nat} {l:Tx} {w:World} (h:PrI w0 b l w) (L:List ByteArray) (hL:L.length≤1000) (hlen:l.length+(wordsOf L).length≤100000000) :
  Calls Tryz.prog 202 #[.pointer (some ⟨b,0,none⟩),.slice (some ⟨w.heap.size,0,none⟩) L.length L.length] (w.alloc (.cells (L.map Value.string).toArray 9)) (PrO w0 b l w (wordsOf L)):=by
 refine (put_any w0.heap.size b w.heap.size l L L.length L.length _ (h.alloc _).p (h.alloc _).size rfl hL hlen (by have:=h.p.lt;omega) (World.alloc_heap_new w _)).mono ?_
 rintro e w' ⟨rfl,h1,h2⟩
 have hw:=((Wr.refl w0.heap.size b w).alloc h.size _).trans h2
 exact ⟨rfl,h.next h1 hw,hw⟩
theorem put1 {w0:World} {b:Nat} {l:Tx} {w:World} (h:PrI w0 b l w) (n:Nat) (hn:n=w.heap.size) (s:ByteArray) (hlen:l.length+(bs s).length≤100000000) :
  Calls Tryz.prog 202 #[.pointer (some ⟨b,0,none⟩),.slice (some ⟨n,0,none⟩) 1 1] (w.alloc (.cells #[.string s] 9)) (PrO w0 b l w (bs s)):=by
 subst hn
 have:=putL h [s] (by simp) (by simpa [wordsOf] using hlen)
 simpa [wordsOf] using this
theorem put2 {w0:World} {b:Nat} {l:Tx} {w:World} (h:PrI w0 b l w) (n:Nat) (hn:n=w.heap.size) (s t:ByteArray) (hlen:l.length+(bs s++bs t).length≤100000000) :
  Calls Tryz.prog 202 #[.pointer (some ⟨b,0,none⟩),.slice (some ⟨n,0,none⟩) 2 2] (w.alloc (.cells #[.string s,.string t] 9)) (PrO w0 b l w (bs s++bs t)):=by
 subst hn
 have:=putL h [s,t] (by simp) (by simpa [wordsOf] using hlen)
 simpa [wordsOf] using this
theorem put3 {w0:World} {b:Nat} {l:Tx} {w:World} (h:PrI w0 b l w) (n:Nat) (hn:n=w.heap.size) (s t u:ByteArray) (hlen:l.length+(bs s++(bs t++bs u)).length≤100000000) :
  Calls Tryz.prog 202 #[.pointer (some ⟨b,0,none⟩),.slice (some ⟨n,0,none⟩) 3 3] (w.alloc (.cells #[.string s,.string t,.string u] 9)) (PrO w0 b l w (bs s++(bs t++bs u))):=by
 subst hn
 have:=putL h [s,t,u] (by simp) (by simpa [wordsOf] using hlen)
 simpa [wordsOf] using this
def SaysB (w0:World) (b:Nat) (t:Nd):Prop:=∀ (v0 v1 v2:Value) (more:Bool) (l:Tx) (w:World),NdR w0 t v0 v1 v2→PrI w0 b l w→l.length+(t.bare more).length≤100000000 →
 Calls Tryz.prog 239 #[.pointer (some ⟨b,0,none⟩),.agg #[v0,v1,v2],.bool more] w (PrO w0 b l w (t.bare more))
def SaysT (w0:World) (b:Nat) (t:Nd):Prop:=∀ (v0 v1 v2:Value) (bind:Nat) (more:Bool) (l:Tx) (w:World),bind≤8→NdR w0 t v0 v1 v2→PrI w0 b l w→l.length+(t.txt bind more).length≤100000000 →
 Calls Tryz.prog 203 #[.pointer (some ⟨b,0,none⟩),.agg #[v0,v1,v2],.int .i64 bind,.bool more] w (PrO w0 b l w (t.txt bind more))
def SaysA (w0:World) (b:Nat) (t:Nd):Prop:=∀ (v0 v1 v2:Value) (l:Tx) (w:World),NdR w0 t v0 v1 v2→PrI w0 b l w→l.length+t.arg.length≤100000000 →
 Calls Tryz.prog 257 #[.pointer (some ⟨b,0,none⟩),.agg #[v0,v1,v2]] w (PrO w0 b l w t.arg)
end Go.Proofs.YtgjijidlaghlmaaGreatDoor
namespace Go.Proofs.YtgjijidlaghlmaaGreatDoor
open Go.RowKit
set_option maxRecDepth 100000 in
set_option maxHeartbeats 2000000 in
theorem argument_of {w0:World} {b:Nat} {t:Nd} (hb:SaysB w0 b t):SaysA w0 b t:=by
 intro v0 v1 v2 l w ht hp hlen
 obtain ⟨k,s,kl,a,cap,rfl,rfl,rfl,rfl,hs,hl⟩:=ht.form
 obtain ⟨W,hW⟩:∃ W,w.alloc (.cells #[.int .i64 k,.string s,.slice a kl.length cap] 25)=W:=⟨_,rfl⟩
 have R0':Row3 W w.heap.size (.int .i64 k) (.string s) (.slice a kl.length cap):=by rw [←hW];exact Row3.new _ _ _ _
 have P0:=qh (hW▸hp.alloc (.cells #[.int .i64 k,.string s,.slice a kl.length cap] 25))
 have K0:=qh (hW▸(Wr.refl w0.heap.size b w).alloc hp.size (.cells #[.int .i64 k,.string s,.slice a kl.length cap] 25))
 have hne:w.heap.size≠b:=by have:=hp.p.lt;omega
 have HW:=qh hW
 have R0:=qh R0'
 obtain ⟨⟨n0,n1,n2⟩,_⟩:=R0'.cells
 have HN:=qh ht
 have HL:=qh hlen
 unfold maxLen at hl
 obtain ⟨T,hT⟩:∃ T,(Nd.mk k s kl).arg=T:=⟨_,rfl⟩
 rw [hT] at HL
 rw [hT]
 have HT:=qh hT
 clear ht hlen hT hW R0' hp
 by_cases hc:k=17∨0 < kl.length
 ·have HE:Hid (T=40 :: ((Nd.mk k s kl).bare false++[41])):=qh (HT.out.symm.trans (if_pos hc))
  have hlen1:l.length+((Nd.mk k s kl).bare false).length+2≤100000000:=by
   have:=HL.out
   rw [HE.out] at this
   simp only [List.length_cons,List.length_append,List.length_nil] at this
   omega
  have C1:=qh (fun w' (h:PrI w0 b l w') n (hn:n=w'.heap.size)=>put1 h n hn ⟨#[40]⟩ (by simp [bs];omega))
  have C2:=qh (fun w' (h:PrI w0 b (l++bs ⟨#[40]⟩) w')=>hb _ _ _ false _ w' HN.out h (by simp [bs];omega))
  have C3:=qh (fun w' (h:PrI w0 b ((l++bs ⟨#[40]⟩)++(Nd.mk k s kl).bare false) w') n (hn:n=w'.heap.size)=>put1 h n hn ⟨#[41]⟩ (by simp [bs];omega))
  have HE2:Hid (T=bs ⟨#[40]⟩++((Nd.mk k s kl).bare false++bs ⟨#[41]⟩)):=HE
  clear hlen1 HE
  obtain ⟨A,hA⟩:∃ A,(k==17)=A:=⟨_,rfl⟩
  have hAl:Hid (A=false→0 < kl.length):=qh (fun e=>by
   rcases hc with h | h
   ·rw [h] at hA;subst e;exact absurd hA (by decide)
   ·exact h)
  clear hc
  cases A with
  | true =>
   go_enter Tryz.func257,Tryz.ntmps257
   go_upto_region 1 with fail
   rw [HW.out]
   go_wp2_with fail
   refine (C1.out _ P0.out _ (by first | rfl | simp only [World.size_alloc])).mono ?_
   rintro e w1 ⟨rfl,pp,kk⟩
   have P1:=qh pp
   have K1:=qh (K0.out.trans kk)
   have R1:=qh (kk.row3 R0.out hne)
   clear pp kk C1 n0 n1 n2
   obtain ⟨⟨n0,n1,n2⟩,_⟩:=R1.out.cells
   go_wp2_with fail
   refine (C2.out _ P1.out).mono ?_
   rintro e w2 ⟨rfl,pp,kk⟩
   have P2:=qh pp
   have K2:=qh (K1.out.trans kk)
   have R2:=qh (kk.row3 R1.out hne)
   clear pp kk C2 n0 n1 n2
   obtain ⟨⟨n0,n1,n2⟩,_⟩:=R2.out.cells
   go_wp2_with fail
   refine (C3.out _ P2.out _ (by first | rfl | simp only [World.size_alloc])).mono ?_
   rintro e w3 ⟨rfl,pp,kk⟩
   have P3:=qh pp
   have K3:=qh (K2.out.trans kk)
   have R3:=qh (kk.row3 R2.out hne)
   clear pp kk C3 n0 n1 n2
   go_wp2
   go_end0
   exact ⟨rfl,by rw [HE2.out];simpa only [List.append_assoc,bs_mk] using P3.out,K3.out⟩
  | false =>
   have j0:=hAl.out rfl
   have i0:(0:Int) < (kl.length:Int):=by omega
   go_enter Tryz.func257,Tryz.ntmps257
   go_upto_region 1 with fail
   rw [HW.out]
   go_wp2_with fail
   refine (C1.out _ P0.out _ (by first | rfl | simp only [World.size_alloc])).mono ?_
   rintro e w1 ⟨rfl,pp,kk⟩
   have P1:=qh pp
   have K1:=qh (K0.out.trans kk)
   have R1:=qh (kk.row3 R0.out hne)
   clear pp kk C1 n0 n1 n2
   obtain ⟨⟨n0,n1,n2⟩,_⟩:=R1.out.cells
   go_wp2_with fail
   refine (C2.out _ P1.out).mono ?_
   rintro e w2 ⟨rfl,pp,kk⟩
   have P2:=qh pp
   have K2:=qh (K1.out.trans kk)
   have R2:=qh (kk.row3 R1.out hne)
   clear pp kk C2 n0 n1 n2
   obtain ⟨⟨n0,n1,n2⟩,_⟩:=R2.out.cells
   go_wp2_with fail
   refine (C3.out _ P2.out _ (by first | rfl | simp only [World.size_alloc])).mono ?_
   rintro e w3 ⟨rfl,pp,kk⟩
   have P3:=qh pp
   have K3:=qh (K2.out.trans kk)
   have R3:=qh (kk.row3 R2.out hne)
   clear pp kk C3 n0 n1 n2
   go_wp2
   go_end0
   exact ⟨rfl,by rw [HE2.out];simpa only [List.append_assoc,bs_mk] using P3.out,K3.out⟩
 ·have HE:Hid (T=bs s):=qh (HT.out.symm.trans (if_neg hc))
  have hlen1:l.length+(bs s).length≤100000000:=by
   have:=HL.out
   rwa [HE.out] at this
  have C1:=qh (fun w' (h:PrI w0 b l w') n (hn:n=w'.heap.size)=>put1 h n hn s hlen1)
  have hA:(k==17)=false:=by rw [beq_eq_false_iff_ne];exact fun e=>hc (.inl e)
  have j0:¬ (0 < kl.length):=fun e=>hc (.inr e)
  have j0':decide (0 < kl.length)=false:=by simpa using j0
  have i0:¬ ((0:Int) < (kl.length:Int)):=by omega
  clear hlen1 hc
  go_enter Tryz.func257,Tryz.ntmps257
  go_upto_region 1 with fail
  rw [HW.out]
  go_wp2_with fail
  refine (C1.out _ P0.out _ (by first | rfl | simp only [World.size_alloc])).mono ?_
  rintro e w1 ⟨rfl,pp,kk⟩
  have P1:=qh pp
  have K1:=qh (K0.out.trans kk)
  have R1:=qh (kk.row3 R0.out hne)
  clear pp kk C1 n0 n1 n2
  go_wp2
  go_end0
  exact ⟨rfl,by rw [HE.out];simpa only [List.append_assoc,bs_mk] using P1.out,K1.out⟩
set_option maxRecDepth 100000 in
set_option maxHeartbeats 2000000 in
theorem node_of {w0:World} {b:Nat} {t:Nd} (hb:SaysB w0 b t):SaysT w0 b t:=by
 intro v0 v1 v2 bind more l w hbd ht hp hlen
 obtain ⟨k,s,kl,a,cap,rfl,rfl,rfl,rfl,hs,hl⟩:=ht.form
 obtain ⟨W,hW⟩:∃ W,w.alloc (.cells #[.int .i64 k,.string s,.slice a kl.length cap] 25)=W:=⟨_,rfl⟩
 have R0':Row3 W w.heap.size (.int .i64 k) (.string s) (.slice a kl.length cap):=by rw [←hW];exact Row3.new _ _ _ _
 have P0:=qh (hW▸hp.alloc (.cells #[.int .i64 k,.string s,.slice a kl.length cap] 25))
 have K0:=qh (hW▸(Wr.refl w0.heap.size b w).alloc hp.size (.cells #[.int .i64 k,.string s,.slice a kl.length cap] 25))
 have hne:w.heap.size≠b:=by have:=hp.p.lt;omega
 have HW:=qh hW
 have R0:=qh R0'
 obtain ⟨⟨n0,n1,n2⟩,_⟩:=R0'.cells
 have HN:=qh ht
 have HL:=qh hlen
 unfold maxLen at hl
 obtain ⟨T,hT⟩:∃ T,(Nd.mk k s kl).txt bind more=T:=⟨_,rfl⟩
 rw [hT] at HL
 rw [hT]
 have HT:=qh hT
 have CO:=qh (fun w' (h:PrI w0 b l w')=>operatorOf_any k s a kl.length cap w' h.glw h.two')
 clear ht hlen hT hW R0' hp
 obtain ⟨pr,hpr⟩:∃ pr,parB k bind more=pr:=⟨_,rfl⟩
 have HPR:=qh hpr
 clear hpr
 have HE1:Hid (pr=true→T=bs ⟨#[40]⟩++((Nd.mk k s kl).bare false++bs ⟨#[41]⟩)):=qh (fun e=>HT.out.symm.trans (if_pos (HPR.out.trans e)))
 have HE0:Hid (pr=false→T=(Nd.mk k s kl).bare more):=qh (fun e=>HT.out.symm.trans (if_neg (by rw [Nd.kd,HPR.out,e];decide)))
 have C1:=qh (fun (e:pr=true) w' (h:PrI w0 b l w') n (hn:n=w'.heap.size)=>put1 h n hn ⟨#[40]⟩ (by have:=HL.out;rw [HE1.out e] at this;simp [bs] at this ⊢;omega))
 have C2:=qh (fun (e:pr=true) w' (h:PrI w0 b (l++bs ⟨#[40]⟩) w')=>hb _ _ _ false _ w' HN.out h (by have:=HL.out;rw [HE1.out e] at this;simp [bs] at this ⊢;omega))
 have C3:=qh (fun (e:pr=true) w' (h:PrI w0 b ((l++bs ⟨#[40]⟩)++(Nd.mk k s kl).bare false) w') n (hn:n=w'.heap.size)=>put1 h n hn ⟨#[41]⟩ (by have:=HL.out;rw [HE1.out e] at this;simp [bs] at this ⊢;omega))
 have C4:=qh (fun (e:pr=false) w' (h:PrI w0 b l w')=>hb _ _ _ more _ w' HN.out h (by have:=HL.out;rwa [HE0.out e] at this))
 clear HT HL
 unfold parB at HPR
 obtain ⟨A,hA⟩:∃ A,(k==18)=A:=⟨_,rfl⟩
 obtain ⟨B,hB⟩:∃ B,(k==19)=B:=⟨_,rfl⟩
 have hA':decide (k=18)=A:=hA
 have hB':decide (k=19)=B:=hB
 rw [hA',hB'] at HPR
 clear hA' hB'
 obtain ⟨op,hop⟩:∃ op,opOf k=op:=⟨_,rfl⟩
 rw [hop] at HPR CO
 clear hop
 rcases op with _ | ⟨sg,bd⟩
 ·unfold opRes at CO
  cases A with
  | true =>
   cases more with
   | true =>
    have hq:pr=true:=by rw [←HPR.out];simp
    go_enter Tryz.func203,Tryz.ntmps203
    go_upto_region 1 with fail
    rw [HW.out]
    go_wp2_with fail
    refine (CO.out _ P0.out).mono ?_
    rintro e w1 ⟨rfl,bb⟩
    have P1:=qh (P0.out.later bb)
    have K1:=qh (K0.out.later bb P0.out.size)
    have R1:=qh (R0.out.below bb R0.out.lt)
    clear bb CO n0 n1 n2
    obtain ⟨⟨n0,n1,n2⟩,_⟩:=R1.out.cells
    have D1:=qh (C1.out hq)
    have D2:=qh (C2.out hq)
    have D3:=qh (C3.out hq)
    clear C1 C2 C3
    have P1o:=qh (P1.out.alloc (.cells #[.string ⟨#[]⟩,.int .i64 0,.int .i64 0] 187))
    have K1o:=qh (K1.out.alloc P1.out.size (.cells #[.string ⟨#[]⟩,.int .i64 0,.int .i64 0] 187))
    have R1o:=qh (R1.out.alloc (.cells #[.string ⟨#[]⟩,.int .i64 0,.int .i64 0] 187))
    clear n0 n1 n2 P1 K1 R1
    obtain ⟨⟨n0,n1,n2⟩,_⟩:=R1o.out.cells
    have P1:=P1o
    have K1:=K1o
    have R1:=R1o
    clear P1o K1o R1o
    go_wp2_with fail
    refine (D1.out _ P1.out _ (by first | rfl | simp only [World.size_alloc])).mono ?_
    rintro e w2 ⟨rfl,pp,kk⟩
    have P2:=qh pp
    have K2:=qh (K1.out.trans kk)
    have R2:=qh (kk.row3 R1.out hne)
    clear pp kk D1 n0 n1 n2
    obtain ⟨⟨n0,n1,n2⟩,_⟩:=R2.out.cells
    go_wp2_with fail
    refine (D2.out _ P2.out).mono ?_
    rintro e w3 ⟨rfl,pp,kk⟩
    have P3:=qh pp
    have K3:=qh (K2.out.trans kk)
    have R3:=qh (kk.row3 R2.out hne)
    clear pp kk D2 n0 n1 n2
    obtain ⟨⟨n0,n1,n2⟩,_⟩:=R3.out.cells
    go_wp2_with fail
    refine (D3.out _ P3.out _ (by first | rfl | simp only [World.size_alloc])).mono ?_
    rintro e w4 ⟨rfl,pp,kk⟩
    have P4:=qh pp
    have K4:=qh (K3.out.trans kk)
    have R4:=qh (kk.row3 R3.out hne)
    clear pp kk D3 n0 n1 n2
    go_wp2
    go_end0
    exact ⟨rfl,by rw [HE1.out hq];simpa only [List.append_assoc,bs_mk] using P4.out,K4.out⟩
   | false =>
    have hq:pr=false:=by rw [←HPR.out];simp
    go_enter Tryz.func203,Tryz.ntmps203
    go_upto_region 1 with fail
    rw [HW.out]
    go_wp2_with fail
    refine (CO.out _ P0.out).mono ?_
    rintro e w1 ⟨rfl,bb⟩
    have P1:=qh (P0.out.later bb)
    have K1:=qh (K0.out.later bb P0.out.size)
    have R1:=qh (R0.out.below bb R0.out.lt)
    clear bb CO n0 n1 n2
    obtain ⟨⟨n0,n1,n2⟩,_⟩:=R1.out.cells
    have D4:=qh (C4.out hq)
    clear C1 C2 C3 C4
    have P1o:=qh (P1.out.alloc (.cells #[.string ⟨#[]⟩,.int .i64 0,.int .i64 0] 187))
    have K1o:=qh (K1.out.alloc P1.out.size (.cells #[.string ⟨#[]⟩,.int .i64 0,.int .i64 0] 187))
    have R1o:=qh (R1.out.alloc (.cells #[.string ⟨#[]⟩,.int .i64 0,.int .i64 0] 187))
    clear n0 n1 n2 P1 K1 R1
    obtain ⟨⟨n0,n1,n2⟩,_⟩:=R1o.out.cells
    have P1:=P1o
    have K1:=K1o
    have R1:=R1o
    clear P1o K1o R1o
    go_wp2_with fail
    refine (D4.out _ P1.out).mono ?_
    rintro e w2 ⟨rfl,pp,kk⟩
    have P2:=qh pp
    have K2:=qh (K1.out.trans kk)
    have R2:=qh (kk.row3 R1.out hne)
    clear pp kk D4 n0 n1 n2
    go_wp2
    go_end0
    exact ⟨rfl,by rw [HE0.out hq];simpa only [List.append_assoc,bs_mk] using P2.out,K2.out⟩
  | false =>
   cases B with
   | true =>
    cases more with
    | true =>
     have hq:pr=true:=by rw [←HPR.out];simp
     go_enter Tryz.func203,Tryz.ntmps203
     go_upto_region 1 with fail
     rw [HW.out]
     go_wp2_with fail
     refine (CO.out _ P0.out).mono ?_
     rintro e w1 ⟨rfl,bb⟩
     have P1:=qh (P0.out.later bb)
     have K1:=qh (K0.out.later bb P0.out.size)
     have R1:=qh (R0.out.below bb R0.out.lt)
     clear bb CO n0 n1 n2
     obtain ⟨⟨n0,n1,n2⟩,_⟩:=R1.out.cells
     have D1:=qh (C1.out hq)
     have D2:=qh (C2.out hq)
     have D3:=qh (C3.out hq)
     clear C1 C2 C3
     have P1o:=qh (P1.out.alloc (.cells #[.string ⟨#[]⟩,.int .i64 0,.int .i64 0] 187))
     have K1o:=qh (K1.out.alloc P1.out.size (.cells #[.string ⟨#[]⟩,.int .i64 0,.int .i64 0] 187))
     have R1o:=qh (R1.out.alloc (.cells #[.string ⟨#[]⟩,.int .i64 0,.int .i64 0] 187))
     clear n0 n1 n2 P1 K1 R1
     obtain ⟨⟨n0,n1,n2⟩,_⟩:=R1o.out.cells
     have P1:=P1o
     have K1:=K1o
     have R1:=R1o
     clear P1o K1o R1o
     go_wp2_with fail
     refine (D1.out _ P1.out _ (by first | rfl | simp only [World.size_alloc])).mono ?_
     rintro e w2 ⟨rfl,pp,kk⟩
     have P2:=qh pp
     have K2:=qh (K1.out.trans kk)
     have R2:=qh (kk.row3 R1.out hne)
     clear pp kk D1 n0 n1 n2
     obtain ⟨⟨n0,n1,n2⟩,_⟩:=R2.out.cells
     go_wp2_with fail
     refine (D2.out _ P2.out).mono ?_
     rintro e w3 ⟨rfl,pp,kk⟩
     have P3:=qh pp
     have K3:=qh (K2.out.trans kk)
     have R3:=qh (kk.row3 R2.out hne)
     clear pp kk D2 n0 n1 n2
     obtain ⟨⟨n0,n1,n2⟩,_⟩:=R3.out.cells
     go_wp2_with fail
     refine (D3.out _ P3.out _ (by first | rfl | simp only [World.size_alloc])).mono ?_
     rintro e w4 ⟨rfl,pp,kk⟩
     have P4:=qh pp
     have K4:=qh (K3.out.trans kk)
     have R4:=qh (kk.row3 R3.out hne)
     clear pp kk D3 n0 n1 n2
     go_wp2
     go_end0
     exact ⟨rfl,by rw [HE1.out hq];simpa only [List.append_assoc,bs_mk] using P4.out,K4.out⟩
    | false =>
     have hq:pr=false:=by rw [←HPR.out];simp
     go_enter Tryz.func203,Tryz.ntmps203
     go_upto_region 1 with fail
     rw [HW.out]
     go_wp2_with fail
     refine (CO.out _ P0.out).mono ?_
     rintro e w1 ⟨rfl,bb⟩
     have P1:=qh (P0.out.later bb)
     have K1:=qh (K0.out.later bb P0.out.size)
     have R1:=qh (R0.out.below bb R0.out.lt)
     clear bb CO n0 n1 n2
     obtain ⟨⟨n0,n1,n2⟩,_⟩:=R1.out.cells
     have D4:=qh (C4.out hq)
     clear C1 C2 C3 C4
     have P1o:=qh (P1.out.alloc (.cells #[.string ⟨#[]⟩,.int .i64 0,.int .i64 0] 187))
     have K1o:=qh (K1.out.alloc P1.out.size (.cells #[.string ⟨#[]⟩,.int .i64 0,.int .i64 0] 187))
     have R1o:=qh (R1.out.alloc (.cells #[.string ⟨#[]⟩,.int .i64 0,.int .i64 0] 187))
     clear n0 n1 n2 P1 K1 R1
     obtain ⟨⟨n0,n1,n2⟩,_⟩:=R1o.out.cells
     have P1:=P1o
     have K1:=K1o
     have R1:=R1o
     clear P1o K1o R1o
     go_wp2_with fail
     refine (D4.out _ P1.out).mono ?_
     rintro e w2 ⟨rfl,pp,kk⟩
     have P2:=qh pp
     have K2:=qh (K1.out.trans kk)
     have R2:=qh (kk.row3 R1.out hne)
     clear pp kk D4 n0 n1 n2
     go_wp2
     go_end0
     exact ⟨rfl,by rw [HE0.out hq];simpa only [List.append_assoc,bs_mk] using P2.out,K2.out⟩
   | false =>
    have hq:pr=false:=by rw [←HPR.out];simp
    go_enter Tryz.func203,Tryz.ntmps203
    go_upto_region 1 with fail
    rw [HW.out]
    go_wp2_with fail
    refine (CO.out _ P0.out).mono ?_
    rintro e w1 ⟨rfl,bb⟩
    have P1:=qh (P0.out.later bb)
    have K1:=qh (K0.out.later bb P0.out.size)
    have R1:=qh (R0.out.below bb R0.out.lt)
    clear bb CO n0 n1 n2
    obtain ⟨⟨n0,n1,n2⟩,_⟩:=R1.out.cells
    have D4:=qh (C4.out hq)
    clear C1 C2 C3 C4
    have P1o:=qh (P1.out.alloc (.cells #[.string ⟨#[]⟩,.int .i64 0,.int .i64 0] 187))
    have K1o:=qh (K1.out.alloc P1.out.size (.cells #[.string ⟨#[]⟩,.int .i64 0,.int .i64 0] 187))
    have R1o:=qh (R1.out.alloc (.cells #[.string ⟨#[]⟩,.int .i64 0,.int .i64 0] 187))
    clear n0 n1 n2 P1 K1 R1
    obtain ⟨⟨n0,n1,n2⟩,_⟩:=R1o.out.cells
    have P1:=P1o
    have K1:=K1o
    have R1:=R1o
    clear P1o K1o R1o
    go_wp2_with fail
    refine (D4.out _ P1.out).mono ?_
    rintro e w2 ⟨rfl,pp,kk⟩
    have P2:=qh pp
    have K2:=qh (K1.out.trans kk)
    have R2:=qh (kk.row3 R1.out hne)
    clear pp kk D4 n0 n1 n2
    go_wp2
    go_end0
    exact ⟨rfl,by rw [HE0.out hq];simpa only [List.append_assoc,bs_mk] using P2.out,K2.out⟩
 ·unfold opRes S_ at CO
  have hno:w.heap.size+0=w.heap.size:=rfl
  by_cases hbl:bd < bind
  ·have ibl:(bd:Int) < (bind:Int):=by omega
   have hq:pr=true:=by rw [←HPR.out];simp [hbl]
   clear HPR hno C4
   cases A with
   | true =>
    go_enter Tryz.func203,Tryz.ntmps203
    go_upto_region 1 with fail
    rw [HW.out]
    go_wp2_with fail
    refine (CO.out _ P0.out).mono ?_
    rintro e w1 ⟨rfl,bb⟩
    have P1:=qh (P0.out.later bb)
    have K1:=qh (K0.out.later bb P0.out.size)
    have R1:=qh (R0.out.below bb R0.out.lt)
    clear bb CO n0 n1 n2
    obtain ⟨⟨n0,n1,n2⟩,_⟩:=R1.out.cells
    have D1:=qh (C1.out hq)
    have D2:=qh (C2.out hq)
    have D3:=qh (C3.out hq)
    clear C1 C2 C3
    have P1o:=qh (P1.out.alloc (.cells #[.string ⟨sg.toArray⟩,.int .i64 k,.int .i64 (bd:Nat)] 187))
    have K1o:=qh (K1.out.alloc P1.out.size (.cells #[.string ⟨sg.toArray⟩,.int .i64 k,.int .i64 (bd:Nat)] 187))
    have R1o:=qh (R1.out.alloc (.cells #[.string ⟨sg.toArray⟩,.int .i64 k,.int .i64 (bd:Nat)] 187))
    clear n0 n1 n2 P1 K1 R1
    obtain ⟨⟨n0,n1,n2⟩,_⟩:=R1o.out.cells
    have P1:=P1o
    have K1:=K1o
    have R1:=R1o
    clear P1o K1o R1o
    go_wp2_with fail
    refine (D1.out _ P1.out _ (by first | rfl | simp only [World.size_alloc])).mono ?_
    rintro e w2 ⟨rfl,pp,kk⟩
    have P2:=qh pp
    have K2:=qh (K1.out.trans kk)
    have R2:=qh (kk.row3 R1.out hne)
    clear pp kk D1 n0 n1 n2
    obtain ⟨⟨n0,n1,n2⟩,_⟩:=R2.out.cells
    go_wp2_with fail
    refine (D2.out _ P2.out).mono ?_
    rintro e w3 ⟨rfl,pp,kk⟩
    have P3:=qh pp
    have K3:=qh (K2.out.trans kk)
    have R3:=qh (kk.row3 R2.out hne)
    clear pp kk D2 n0 n1 n2
    obtain ⟨⟨n0,n1,n2⟩,_⟩:=R3.out.cells
    go_wp2_with fail
    refine (D3.out _ P3.out _ (by first | rfl | simp only [World.size_alloc])).mono ?_
    rintro e w4 ⟨rfl,pp,kk⟩
    have P4:=qh pp
    have K4:=qh (K3.out.trans kk)
    have R4:=qh (kk.row3 R3.out hne)
    clear pp kk D3 n0 n1 n2
    go_wp2
    go_end0
    exact ⟨rfl,by rw [HE1.out hq];simpa only [List.append_assoc,bs_mk] using P4.out,K4.out⟩
   | false =>
    cases B with
    | true =>
     go_enter Tryz.func203,Tryz.ntmps203
     go_upto_region 1 with fail
     rw [HW.out]
     go_wp2_with fail
     refine (CO.out _ P0.out).mono ?_
     rintro e w1 ⟨rfl,bb⟩
     have P1:=qh (P0.out.later bb)
     have K1:=qh (K0.out.later bb P0.out.size)
     have R1:=qh (R0.out.below bb R0.out.lt)
     clear bb CO n0 n1 n2
     obtain ⟨⟨n0,n1,n2⟩,_⟩:=R1.out.cells
     have D1:=qh (C1.out hq)
     have D2:=qh (C2.out hq)
     have D3:=qh (C3.out hq)
     clear C1 C2 C3
     have P1o:=qh (P1.out.alloc (.cells #[.string ⟨sg.toArray⟩,.int .i64 k,.int .i64 (bd:Nat)] 187))
     have K1o:=qh (K1.out.alloc P1.out.size (.cells #[.string ⟨sg.toArray⟩,.int .i64 k,.int .i64 (bd:Nat)] 187))
     have R1o:=qh (R1.out.alloc (.cells #[.string ⟨sg.toArray⟩,.int .i64 k,.int .i64 (bd:Nat)] 187))
     clear n0 n1 n2 P1 K1 R1
     obtain ⟨⟨n0,n1,n2⟩,_⟩:=R1o.out.cells
     have P1:=P1o
     have K1:=K1o
     have R1:=R1o
     clear P1o K1o R1o
     go_wp2_with fail
     refine (D1.out _ P1.out _ (by first | rfl | simp only [World.size_alloc])).mono ?_
     rintro e w2 ⟨rfl,pp,kk⟩
     have P2:=qh pp
     have K2:=qh (K1.out.trans kk)
     have R2:=qh (kk.row3 R1.out hne)
     clear pp kk D1 n0 n1 n2
     obtain ⟨⟨n0,n1,n2⟩,_⟩:=R2.out.cells
     go_wp2_with fail
     refine (D2.out _ P2.out).mono ?_
     rintro e w3 ⟨rfl,pp,kk⟩
     have P3:=qh pp
     have K3:=qh (K2.out.trans kk)
     have R3:=qh (kk.row3 R2.out hne)
     clear pp kk D2 n0 n1 n2
     obtain ⟨⟨n0,n1,n2⟩,_⟩:=R3.out.cells
     go_wp2_with fail
     refine (D3.out _ P3.out _ (by first | rfl | simp only [World.size_alloc])).mono ?_
     rintro e w4 ⟨rfl,pp,kk⟩
     have P4:=qh pp
     have K4:=qh (K3.out.trans kk)
     have R4:=qh (kk.row3 R3.out hne)
     clear pp kk D3 n0 n1 n2
     go_wp2
     go_end0
     exact ⟨rfl,by rw [HE1.out hq];simpa only [List.append_assoc,bs_mk] using P4.out,K4.out⟩
    | false =>
     go_enter Tryz.func203,Tryz.ntmps203
     go_upto_region 1 with fail
     rw [HW.out]
     go_wp2_with fail
     refine (CO.out _ P0.out).mono ?_
     rintro e w1 ⟨rfl,bb⟩
     have P1:=qh (P0.out.later bb)
     have K1:=qh (K0.out.later bb P0.out.size)
     have R1:=qh (R0.out.below bb R0.out.lt)
     clear bb CO n0 n1 n2
     obtain ⟨⟨n0,n1,n2⟩,_⟩:=R1.out.cells
     have D1:=qh (C1.out hq)
     have D2:=qh (C2.out hq)
     have D3:=qh (C3.out hq)
     clear C1 C2 C3
     have P1o:=qh (P1.out.alloc (.cells #[.string ⟨sg.toArray⟩,.int .i64 k,.int .i64 (bd:Nat)] 187))
     have K1o:=qh (K1.out.alloc P1.out.size (.cells #[.string ⟨sg.toArray⟩,.int .i64 k,.int .i64 (bd:Nat)] 187))
     have R1o:=qh (R1.out.alloc (.cells #[.string ⟨sg.toArray⟩,.int .i64 k,.int .i64 (bd:Nat)] 187))
     clear n0 n1 n2 P1 K1 R1
     obtain ⟨⟨n0,n1,n2⟩,_⟩:=R1o.out.cells
     have P1:=P1o
     have K1:=K1o
     have R1:=R1o
     clear P1o K1o R1o
     go_wp2_with fail
     refine (D1.out _ P1.out _ (by first | rfl | simp only [World.size_alloc])).mono ?_
     rintro e w2 ⟨rfl,pp,kk⟩
     have P2:=qh pp
     have K2:=qh (K1.out.trans kk)
     have R2:=qh (kk.row3 R1.out hne)
     clear pp kk D1 n0 n1 n2
     obtain ⟨⟨n0,n1,n2⟩,_⟩:=R2.out.cells
     go_wp2_with fail
     refine (D2.out _ P2.out).mono ?_
     rintro e w3 ⟨rfl,pp,kk⟩
     have P3:=qh pp
     have K3:=qh (K2.out.trans kk)
     have R3:=qh (kk.row3 R2.out hne)
     clear pp kk D2 n0 n1 n2
     obtain ⟨⟨n0,n1,n2⟩,_⟩:=R3.out.cells
     go_wp2_with fail
     refine (D3.out _ P3.out _ (by first | rfl | simp only [World.size_alloc])).mono ?_
     rintro e w4 ⟨rfl,pp,kk⟩
     have P4:=qh pp
     have K4:=qh (K3.out.trans kk)
     have R4:=qh (kk.row3 R3.out hne)
     clear pp kk D3 n0 n1 n2
     go_wp2
     go_end0
     exact ⟨rfl,by rw [HE1.out hq];simpa only [List.append_assoc,bs_mk] using P4.out,K4.out⟩
  ·have ibl:¬ (bd:Int) < (bind:Int):=by omega
   cases A with
   | true =>
    cases more with
    | true =>
     have hq:pr=true:=by rw [←HPR.out];simp
     go_enter Tryz.func203,Tryz.ntmps203
     go_upto_region 1 with fail
     rw [HW.out]
     go_wp2_with fail
     refine (CO.out _ P0.out).mono ?_
     rintro e w1 ⟨rfl,bb⟩
     have P1:=qh (P0.out.later bb)
     have K1:=qh (K0.out.later bb P0.out.size)
     have R1:=qh (R0.out.below bb R0.out.lt)
     clear bb CO n0 n1 n2
     obtain ⟨⟨n0,n1,n2⟩,_⟩:=R1.out.cells
     have D1:=qh (C1.out hq)
     have D2:=qh (C2.out hq)
     have D3:=qh (C3.out hq)
     clear C1 C2 C3
     have P1o:=qh (P1.out.alloc (.cells #[.string ⟨sg.toArray⟩,.int .i64 k,.int .i64 (bd:Nat)] 187))
     have K1o:=qh (K1.out.alloc P1.out.size (.cells #[.string ⟨sg.toArray⟩,.int .i64 k,.int .i64 (bd:Nat)] 187))
     have R1o:=qh (R1.out.alloc (.cells #[.string ⟨sg.toArray⟩,.int .i64 k,.int .i64 (bd:Nat)] 187))
     clear n0 n1 n2 P1 K1 R1
     obtain ⟨⟨n0,n1,n2⟩,_⟩:=R1o.out.cells
     have P1:=P1o
     have K1:=K1o
     have R1:=R1o
     clear P1o K1o R1o
     go_wp2_with fail
     refine (D1.out _ P1.out _ (by first | rfl | simp only [World.size_alloc])).mono ?_
     rintro e w2 ⟨rfl,pp,kk⟩
     have P2:=qh pp
     have K2:=qh (K1.out.trans kk)
     have R2:=qh (kk.row3 R1.out hne)
     clear pp kk D1 n0 n1 n2
     obtain ⟨⟨n0,n1,n2⟩,_⟩:=R2.out.cells
     go_wp2_with fail
     refine (D2.out _ P2.out).mono ?_
     rintro e w3 ⟨rfl,pp,kk⟩
     have P3:=qh pp
     have K3:=qh (K2.out.trans kk)
     have R3:=qh (kk.row3 R2.out hne)
     clear pp kk D2 n0 n1 n2
     obtain ⟨⟨n0,n1,n2⟩,_⟩:=R3.out.cells
     go_wp2_with fail
     refine (D3.out _ P3.out _ (by first | rfl | simp only [World.size_alloc])).mono ?_
     rintro e w4 ⟨rfl,pp,kk⟩
     have P4:=qh pp
     have K4:=qh (K3.out.trans kk)
     have R4:=qh (kk.row3 R3.out hne)
     clear pp kk D3 n0 n1 n2
     go_wp2
     go_end0
     exact ⟨rfl,by rw [HE1.out hq];simpa only [List.append_assoc,bs_mk] using P4.out,K4.out⟩
    | false =>
     have hq:pr=false:=by rw [←HPR.out];simp [hbl]
     go_enter Tryz.func203,Tryz.ntmps203
     go_upto_region 1 with fail
     rw [HW.out]
     go_wp2_with fail
     refine (CO.out _ P0.out).mono ?_
     rintro e w1 ⟨rfl,bb⟩
     have P1:=qh (P0.out.later bb)
     have K1:=qh (K0.out.later bb P0.out.size)
     have R1:=qh (R0.out.below bb R0.out.lt)
     clear bb CO n0 n1 n2
     obtain ⟨⟨n0,n1,n2⟩,_⟩:=R1.out.cells
     have D4:=qh (C4.out hq)
     clear C1 C2 C3 C4
     have P1o:=qh (P1.out.alloc (.cells #[.string ⟨sg.toArray⟩,.int .i64 k,.int .i64 (bd:Nat)] 187))
     have K1o:=qh (K1.out.alloc P1.out.size (.cells #[.string ⟨sg.toArray⟩,.int .i64 k,.int .i64 (bd:Nat)] 187))
     have R1o:=qh (R1.out.alloc (.cells #[.string ⟨sg.toArray⟩,.int .i64 k,.int .i64 (bd:Nat)] 187))
     clear n0 n1 n2 P1 K1 R1
     obtain ⟨⟨n0,n1,n2⟩,_⟩:=R1o.out.cells
     have P1:=P1o
     have K1:=K1o
     have R1:=R1o
     clear P1o K1o R1o
     go_wp2_with fail
     refine (D4.out _ P1.out).mono ?_
     rintro e w2 ⟨rfl,pp,kk⟩
     have P2:=qh pp
     have K2:=qh (K1.out.trans kk)
     have R2:=qh (kk.row3 R1.out hne)
     clear pp kk D4 n0 n1 n2
     go_wp2
     go_end0
     exact ⟨rfl,by rw [HE0.out hq];simpa only [List.append_assoc,bs_mk] using P2.out,K2.out⟩
   | false =>
    cases B with
    | true =>
     cases more with
     | true =>
      have hq:pr=true:=by rw [←HPR.out];simp
      go_enter Tryz.func203,Tryz.ntmps203
      go_upto_region 1 with fail
      rw [HW.out]
      go_wp2_with fail
      refine (CO.out _ P0.out).mono ?_
      rintro e w1 ⟨rfl,bb⟩
      have P1:=qh (P0.out.later bb)
      have K1:=qh (K0.out.later bb P0.out.size)
      have R1:=qh (R0.out.below bb R0.out.lt)
      clear bb CO n0 n1 n2
      obtain ⟨⟨n0,n1,n2⟩,_⟩:=R1.out.cells
      have D1:=qh (C1.out hq)
      have D2:=qh (C2.out hq)
      have D3:=qh (C3.out hq)
      clear C1 C2 C3
      have P1o:=qh (P1.out.alloc (.cells #[.string ⟨sg.toArray⟩,.int .i64 k,.int .i64 (bd:Nat)] 187))
      have K1o:=qh (K1.out.alloc P1.out.size (.cells #[.string ⟨sg.toArray⟩,.int .i64 k,.int .i64 (bd:Nat)] 187))
      have R1o:=qh (R1.out.alloc (.cells #[.string ⟨sg.toArray⟩,.int .i64 k,.int .i64 (bd:Nat)] 187))
      clear n0 n1 n2 P1 K1 R1
      obtain ⟨⟨n0,n1,n2⟩,_⟩:=R1o.out.cells
      have P1:=P1o
      have K1:=K1o
      have R1:=R1o
      clear P1o K1o R1o
      go_wp2_with fail
      refine (D1.out _ P1.out _ (by first | rfl | simp only [World.size_alloc])).mono ?_
      rintro e w2 ⟨rfl,pp,kk⟩
      have P2:=qh pp
      have K2:=qh (K1.out.trans kk)
      have R2:=qh (kk.row3 R1.out hne)
      clear pp kk D1 n0 n1 n2
      obtain ⟨⟨n0,n1,n2⟩,_⟩:=R2.out.cells
      go_wp2_with fail
      refine (D2.out _ P2.out).mono ?_
      rintro e w3 ⟨rfl,pp,kk⟩
      have P3:=qh pp
      have K3:=qh (K2.out.trans kk)
      have R3:=qh (kk.row3 R2.out hne)
      clear pp kk D2 n0 n1 n2
      obtain ⟨⟨n0,n1,n2⟩,_⟩:=R3.out.cells
      go_wp2_with fail
      refine (D3.out _ P3.out _ (by first | rfl | simp only [World.size_alloc])).mono ?_
      rintro e w4 ⟨rfl,pp,kk⟩
      have P4:=qh pp
      have K4:=qh (K3.out.trans kk)
      have R4:=qh (kk.row3 R3.out hne)
      clear pp kk D3 n0 n1 n2
      go_wp2
      go_end0
      exact ⟨rfl,by rw [HE1.out hq];simpa only [List.append_assoc,bs_mk] using P4.out,K4.out⟩
     | false =>
      have hq:pr=false:=by rw [←HPR.out];simp [hbl]
      go_enter Tryz.func203,Tryz.ntmps203
      go_upto_region 1 with fail
      rw [HW.out]
      go_wp2_with fail
      refine (CO.out _ P0.out).mono ?_
      rintro e w1 ⟨rfl,bb⟩
      have P1:=qh (P0.out.later bb)
      have K1:=qh (K0.out.later bb P0.out.size)
      have R1:=qh (R0.out.below bb R0.out.lt)
      clear bb CO n0 n1 n2
      obtain ⟨⟨n0,n1,n2⟩,_⟩:=R1.out.cells
      have D4:=qh (C4.out hq)
      clear C1 C2 C3 C4
      have P1o:=qh (P1.out.alloc (.cells #[.string ⟨sg.toArray⟩,.int .i64 k,.int .i64 (bd:Nat)] 187))
      have K1o:=qh (K1.out.alloc P1.out.size (.cells #[.string ⟨sg.toArray⟩,.int .i64 k,.int .i64 (bd:Nat)] 187))
      have R1o:=qh (R1.out.alloc (.cells #[.string ⟨sg.toArray⟩,.int .i64 k,.int .i64 (bd:Nat)] 187))
      clear n0 n1 n2 P1 K1 R1
      obtain ⟨⟨n0,n1,n2⟩,_⟩:=R1o.out.cells
      have P1:=P1o
      have K1:=K1o
      have R1:=R1o
      clear P1o K1o R1o
      go_wp2_with fail
      refine (D4.out _ P1.out).mono ?_
      rintro e w2 ⟨rfl,pp,kk⟩
      have P2:=qh pp
      have K2:=qh (K1.out.trans kk)
      have R2:=qh (kk.row3 R1.out hne)
      clear pp kk D4 n0 n1 n2
      go_wp2
      go_end0
      exact ⟨rfl,by rw [HE0.out hq];simpa only [List.append_assoc,bs_mk] using P2.out,K2.out⟩
    | false =>
     have hq:pr=false:=by rw [←HPR.out];simp [hbl]
     go_enter Tryz.func203,Tryz.ntmps203
     go_upto_region 1 with fail
     rw [HW.out]
     go_wp2_with fail
     refine (CO.out _ P0.out).mono ?_
     rintro e w1 ⟨rfl,bb⟩
     have P1:=qh (P0.out.later bb)
     have K1:=qh (K0.out.later bb P0.out.size)
     have R1:=qh (R0.out.below bb R0.out.lt)
     clear bb CO n0 n1 n2
     obtain ⟨⟨n0,n1,n2⟩,_⟩:=R1.out.cells
     have D4:=qh (C4.out hq)
     clear C1 C2 C3 C4
     have P1o:=qh (P1.out.alloc (.cells #[.string ⟨sg.toArray⟩,.int .i64 k,.int .i64 (bd:Nat)] 187))
     have K1o:=qh (K1.out.alloc P1.out.size (.cells #[.string ⟨sg.toArray⟩,.int .i64 k,.int .i64 (bd:Nat)] 187))
     have R1o:=qh (R1.out.alloc (.cells #[.string ⟨sg.toArray⟩,.int .i64 k,.int .i64 (bd:Nat)] 187))
     clear n0 n1 n2 P1 K1 R1
     obtain ⟨⟨n0,n1,n2⟩,_⟩:=R1o.out.cells
     have P1:=P1o
     have K1:=K1o
     have R1:=R1o
     clear P1o K1o R1o
     go_wp2_with fail
     refine (D4.out _ P1.out).mono ?_
     rintro e w2 ⟨rfl,pp,kk⟩
     have P2:=qh pp
     have K2:=qh (K1.out.trans kk)
     have R2:=qh (kk.row3 R1.out hne)
     clear pp kk D4 n0 n1 n2
     go_wp2
     go_end0
     exact ⟨rfl,by rw [HE0.out hq];simpa only [List.append_assoc,bs_mk] using P2.out,K2.out⟩
end Go.Proofs.YtgjijidlaghlmaaGreatDoor
namespace Go.Proofs.YtgjijidlaghlmaaGreatDoor
open Go.RowKit
set_option maxRecDepth 100000 in
set_option maxHeartbeats 2000000 in
theorem binder_of {w0:World} {b:Nat} (k:Int) (s:ByteArray) (kl:List Nd) (h12:kl.length=1∨kl.length=2) (hk:∀ i (h:i < kl.length),SaysT w0 b kl[i]) (v0 v1 v2:Value) (l:Tx) (w:World) (ht:NdR w0 (.mk k s kl) v0 v1 v2) (hp:PrI w0 b l w)
  (hlen:l.length+(binderF s kl (Nd.bareL kl)).length≤100000000):Calls Tryz.prog 258 #[.pointer (some ⟨b,0,none⟩),.agg #[v0,v1,v2]] w (PrO w0 b l w (binderF s kl (Nd.bareL kl))):=by
 obtain ⟨_,_,_,a,cap,hform,rfl,rfl,rfl,hs,hl⟩:=ht.form
 cases hform
 obtain ⟨L,hL⟩:∃ L,kl.length=L:=⟨_,rfl⟩
 rw [hL] at ht hl
 rw [hL]
 obtain ⟨W,hW⟩:∃ W,w.alloc (.cells #[.int .i64 k,.string s,.slice a L cap] 25)=W:=⟨_,rfl⟩
 have R0':Row3 W w.heap.size (.int .i64 k) (.string s) (.slice a L cap):=by rw [←hW];exact Row3.new _ _ _ _
 have P0:=qh (hW▸hp.alloc (.cells #[.int .i64 k,.string s,.slice a L cap] 25))
 have K0:=qh (hW▸(Wr.refl w0.heap.size b w).alloc hp.size (.cells #[.int .i64 k,.string s,.slice a L cap] 25))
 have hne:w.heap.size≠b:=by have:=hp.p.lt;omega
 have HN:=qh ht
 have HL:=qh hlen
 unfold maxLen at hl
 obtain ⟨T,hT⟩:∃ T,binderF s kl (Nd.bareL kl)=T:=⟨_,rfl⟩
 rw [hT] at HL
 rw [hT]
 rw [hL] at h12
 rcases h12 with rfl | rfl
 ·obtain ⟨bb,o,k0',s0',l0',a0',c0',rfl,e0,x00,x01,x02,r0⟩:=ht.kid 0 (by omega)
  simp only [Nat.zero_mul,Nat.add_zero] at x00 x01 x02
  have X0:=qh (And.intro x00 (And.intro x01 x02))
  obtain ⟨Y0,hY0⟩:∃ Y,(kl[0]'(by omega)).txt 0 false=Y:=⟨_,rfl⟩
  have hE:T=bs s++(bs ⟨#[46,32]⟩++Y0):=by
   rw [←hT,binderF,if_neg (by omega),←hY0]
   have h1:kl.length - 1=0:=by omega
   rw [h1,kidF_at (by omega)]
   rfl
  have hlen2:l.length+(bs s).length+2+Y0.length≤100000000:=by
   have:=HL.out
   rw [hE] at this
   simp [bs] at this ⊢
   omega
  have C1:=qh (fun w' (h:PrI w0 b l w') n (hn:n=w'.heap.size)=>put1 h n hn s (by simp [bs] at hlen2 ⊢;omega))
  have C3:=qh (fun w' (h:PrI w0 b (l++bs s) w') n (hn:n=w'.heap.size)=>put1 h n hn ⟨#[46,32]⟩ (by simp [bs] at hlen2 ⊢;omega))
  have C4:Hid (∀ (z:Int),z=((0:Nat):Int)→∀ w',PrI w0 b ((l++bs s)++bs ⟨#[46,32]⟩) w'→Calls Tryz.prog 203 #[.pointer (some ⟨b,0,none⟩),.agg #[.int .i64 k0',.string s0',.slice a0' l0'.length c0'],.int .i64 z,.bool false] w' (PrO w0 b ((l++bs s)++bs ⟨#[46,32]⟩) w' Y0)):=qh (fun z hz w' h=>by
   subst hz
   have hl9:List.length ((l++bs s)++bs ⟨#[46,32]⟩)+Y0.length≤100000000:=by (try simp [bs] at hlen2 ⊢);omega
   rw [←hY0] at hl9 ⊢
   exact hk 0 (by omega) _ _ _ (0) false _ w' (by omega) (e0▸r0) h hl9)
  have HE:=qh hE
  have HW:=qh hW
  have R0:=qh R0'
  obtain ⟨⟨n0,n1,n2⟩,_⟩:=R0'.cells
  clear hT hlen hlen2 hE hW R0' hp hk ht HN HL hY0 x00 x01 x02 r0 e0 hL
  go_enter Tryz.func258,Tryz.ntmps258
  go_upto_region 1 with fail
  rw [HW.out]
  have y00:=P0.out.cell X0.out.1
  have y01:=P0.out.cell X0.out.2.1
  have y02:=P0.out.cell X0.out.2.2
  have yb0:=lt_of_cell y00
  go_wp2_with fail
  refine (C1.out _ P0.out _ (by first | rfl | simp only [World.size_alloc])).mono ?_
  rintro e w1 ⟨rfl,pp,kk⟩
  have P1:=qh pp
  have K1:=qh (K0.out.trans kk)
  have R1:=qh (kk.row3 R0.out hne)
  clear pp kk C1 n0 n1 n2 y00 y01 y02 yb0
  obtain ⟨⟨n0,n1,n2⟩,_⟩:=R1.out.cells
  have y00:=P1.out.cell X0.out.1
  have y01:=P1.out.cell X0.out.2.1
  have y02:=P1.out.cell X0.out.2.2
  have yb0:=lt_of_cell y00
  go_wp2_with fail
  refine (C3.out _ P1.out _ (by first | rfl | simp only [World.size_alloc])).mono ?_
  rintro e w2 ⟨rfl,pp,kk⟩
  have P2:=qh pp
  have K2:=qh (K1.out.trans kk)
  have R2:=qh (kk.row3 R1.out hne)
  clear pp kk C3 n0 n1 n2 y00 y01 y02 yb0
  obtain ⟨⟨n0,n1,n2⟩,_⟩:=R2.out.cells
  have y00:=P2.out.cell X0.out.1
  have y01:=P2.out.cell X0.out.2.1
  have y02:=P2.out.cell X0.out.2.2
  have yb0:=lt_of_cell y00
  go_wp2_with fail
  refine (C4.out _ (by first | rfl | (push_cast;rfl)) _ P2.out).mono ?_
  rintro e w3 ⟨rfl,pp,kk⟩
  have P3:=qh pp
  have K3:=qh (K2.out.trans kk)
  have R3:=qh (kk.row3 R2.out hne)
  clear pp kk C4 n0 n1 n2 y00 y01 y02 yb0
  go_wp2
  go_end0
  exact ⟨rfl,by rw [HE.out];simpa only [List.append_assoc,bs_mk] using P3.out,K3.out⟩
 ·obtain ⟨bb,o,k0',s0',l0',a0',c0',rfl,e0,x00,x01,x02,r0⟩:=ht.kid 0 (by omega)
  simp only [Nat.zero_mul,Nat.add_zero] at x00 x01 x02
  have X0:=qh (And.intro x00 (And.intro x01 x02))
  obtain ⟨bb1,o1',k1',s1',l1',a1',c1',hbo1,e1,x10,x11,x12,r1⟩:=ht.kid 1 (by omega)
  obtain ⟨rfl,rfl⟩:bb=bb1∧o=o1':=by simpa using hbo1
  simp only [Nat.one_mul] at x10 x11 x12
  have X1:=qh (And.intro x10 (And.intro x11 x12))
  obtain ⟨Y0,hY0⟩:∃ Y,(kl[0]'(by omega)).txt 6 false=Y:=⟨_,rfl⟩
  obtain ⟨Y1,hY1⟩:∃ Y,(kl[1]'(by omega)).txt 0 false=Y:=⟨_,rfl⟩
  have hE:T=bs s++((bs ⟨#[58,32]⟩++Y0)++(bs ⟨#[46,32]⟩++Y1)):=by
   rw [←hT,binderF,if_pos (by omega),←hY0,←hY1]
   have h1:kl.length - 1=1:=by omega
   rw [h1,kidF_at (by omega),kidF_at (by omega)]
   rfl
  have hlen2:l.length+(bs s).length+2+Y0.length+2+Y1.length≤100000000:=by
   have:=HL.out
   rw [hE] at this
   simp [bs] at this ⊢
   omega
  have C1:=qh (fun w' (h:PrI w0 b l w') n (hn:n=w'.heap.size)=>put1 h n hn s (by simp [bs] at hlen2 ⊢;omega))
  have C3:=qh (fun w' (h:PrI w0 b (l++bs s) w') n (hn:n=w'.heap.size)=>put1 h n hn ⟨#[58,32]⟩ (by simp [bs] at hlen2 ⊢;omega))
  have C4:Hid (∀ (z:Int),z=((6:Nat):Int)→∀ w',PrI w0 b ((l++bs s)++bs ⟨#[58,32]⟩) w'→Calls Tryz.prog 203 #[.pointer (some ⟨b,0,none⟩),.agg #[.int .i64 k0',.string s0',.slice a0' l0'.length c0'],.int .i64 z,.bool false] w' (PrO w0 b ((l++bs s)++bs ⟨#[58,32]⟩) w' Y0)):=qh (fun z hz w' h=>by
   subst hz
   have hl9:List.length ((l++bs s)++bs ⟨#[58,32]⟩)+Y0.length≤100000000:=by (try simp [bs] at hlen2 ⊢);omega
   rw [←hY0] at hl9 ⊢
   exact hk 0 (by omega) _ _ _ (6) false _ w' (by omega) (e0▸r0) h hl9)
  have C5:=qh (fun w' (h:PrI w0 b (((l++bs s)++bs ⟨#[58,32]⟩)++Y0) w') n (hn:n=w'.heap.size)=>put1 h n hn ⟨#[46,32]⟩ (by simp [bs] at hlen2 ⊢;omega))
  have C6:Hid (∀ (z:Int),z=((0:Nat):Int)→∀ w',PrI w0 b ((((l++bs s)++bs ⟨#[58,32]⟩)++Y0)++bs ⟨#[46,32]⟩) w'→Calls Tryz.prog 203 #[.pointer (some ⟨b,0,none⟩),.agg #[.int .i64 k1',.string s1',.slice a1' l1'.length c1'],.int .i64 z,.bool false] w' (PrO w0 b ((((l++bs s)++bs ⟨#[58,32]⟩)++Y0)++bs ⟨#[46,32]⟩) w' Y1)):=qh (fun z hz w' h=>by
   subst hz
   have hl9:List.length ((((l++bs s)++bs ⟨#[58,32]⟩)++Y0)++bs ⟨#[46,32]⟩)+Y1.length≤100000000:=by (try simp [bs] at hlen2 ⊢);omega
   rw [←hY1] at hl9 ⊢
   exact hk 1 (by omega) _ _ _ (0) false _ w' (by omega) (e1▸r1) h hl9)
  have HE:=qh hE
  have HW:=qh hW
  have R0:=qh R0'
  obtain ⟨⟨n0,n1,n2⟩,_⟩:=R0'.cells
  clear hT hlen hlen2 hE hW R0' hp hk ht HN HL hY0 hY1 x00 x01 x02 x10 x11 x12 r0 r1 e0 e1 hL hbo1
  go_enter Tryz.func258,Tryz.ntmps258
  go_upto_region 1 with fail
  rw [HW.out]
  have y00:=P0.out.cell X0.out.1
  have y01:=P0.out.cell X0.out.2.1
  have y02:=P0.out.cell X0.out.2.2
  have yb0:=lt_of_cell y00
  have y10:=P0.out.cell X1.out.1
  have y11:=P0.out.cell X1.out.2.1
  have y12:=P0.out.cell X1.out.2.2
  have yb1:=lt_of_cell y10
  go_wp2_with fail
  refine (C1.out _ P0.out _ (by first | rfl | simp only [World.size_alloc])).mono ?_
  rintro e w1 ⟨rfl,pp,kk⟩
  have P1:=qh pp
  have K1:=qh (K0.out.trans kk)
  have R1:=qh (kk.row3 R0.out hne)
  clear pp kk C1 n0 n1 n2 y00 y01 y02 yb0 y10 y11 y12 yb1
  obtain ⟨⟨n0,n1,n2⟩,_⟩:=R1.out.cells
  have y00:=P1.out.cell X0.out.1
  have y01:=P1.out.cell X0.out.2.1
  have y02:=P1.out.cell X0.out.2.2
  have yb0:=lt_of_cell y00
  have y10:=P1.out.cell X1.out.1
  have y11:=P1.out.cell X1.out.2.1
  have y12:=P1.out.cell X1.out.2.2
  have yb1:=lt_of_cell y10
  go_wp2_with fail
  refine (C3.out _ P1.out _ (by first | rfl | simp only [World.size_alloc])).mono ?_
  rintro e w2 ⟨rfl,pp,kk⟩
  have P2:=qh pp
  have K2:=qh (K1.out.trans kk)
  have R2:=qh (kk.row3 R1.out hne)
  clear pp kk C3 n0 n1 n2 y00 y01 y02 yb0 y10 y11 y12 yb1
  obtain ⟨⟨n0,n1,n2⟩,_⟩:=R2.out.cells
  have y00:=P2.out.cell X0.out.1
  have y01:=P2.out.cell X0.out.2.1
  have y02:=P2.out.cell X0.out.2.2
  have yb0:=lt_of_cell y00
  have y10:=P2.out.cell X1.out.1
  have y11:=P2.out.cell X1.out.2.1
  have y12:=P2.out.cell X1.out.2.2
  have yb1:=lt_of_cell y10
  go_wp2_with fail
  refine (C4.out _ (by first | rfl | (push_cast;rfl)) _ P2.out).mono ?_
  rintro e w3 ⟨rfl,pp,kk⟩
  have P3:=qh pp
  have K3:=qh (K2.out.trans kk)
  have R3:=qh (kk.row3 R2.out hne)
  clear pp kk C4 n0 n1 n2 y00 y01 y02 yb0 y10 y11 y12 yb1
  obtain ⟨⟨n0,n1,n2⟩,_⟩:=R3.out.cells
  have y00:=P3.out.cell X0.out.1
  have y01:=P3.out.cell X0.out.2.1
  have y02:=P3.out.cell X0.out.2.2
  have yb0:=lt_of_cell y00
  have y10:=P3.out.cell X1.out.1
  have y11:=P3.out.cell X1.out.2.1
  have y12:=P3.out.cell X1.out.2.2
  have yb1:=lt_of_cell y10
  go_wp2_with fail
  refine (C5.out _ P3.out _ (by first | rfl | simp only [World.size_alloc])).mono ?_
  rintro e w4 ⟨rfl,pp,kk⟩
  have P4:=qh pp
  have K4:=qh (K3.out.trans kk)
  have R4:=qh (kk.row3 R3.out hne)
  clear pp kk C5 n0 n1 n2 y00 y01 y02 yb0 y10 y11 y12 yb1
  obtain ⟨⟨n0,n1,n2⟩,_⟩:=R4.out.cells
  have y00:=P4.out.cell X0.out.1
  have y01:=P4.out.cell X0.out.2.1
  have y02:=P4.out.cell X0.out.2.2
  have yb0:=lt_of_cell y00
  have y10:=P4.out.cell X1.out.1
  have y11:=P4.out.cell X1.out.2.1
  have y12:=P4.out.cell X1.out.2.2
  have yb1:=lt_of_cell y10
  go_wp2_with fail
  refine (C6.out _ (by first | rfl | (push_cast;rfl)) _ P4.out).mono ?_
  rintro e w5 ⟨rfl,pp,kk⟩
  have P5:=qh pp
  have K5:=qh (K4.out.trans kk)
  have R5:=qh (kk.row3 R4.out hne)
  clear pp kk C6 n0 n1 n2 y00 y01 y02 yb0 y10 y11 y12 yb1
  go_wp2
  go_end0
  exact ⟨rfl,by rw [HE.out];simpa only [List.append_assoc,bs_mk] using P5.out,K5.out⟩
end Go.Proofs.YtgjijidlaghlmaaGreatDoor
namespace Go.Proofs.YtgjijidlaghlmaaGreatDoor
open Go.RowKit
theorem opOf_le {k:Int} {sg:List UInt8} {bd:Nat} (h:opOf k=some (sg,bd)):bd≤6:=by
 unfold opOf opsL at h
 simp only [findP] at h
 repeat' split at h
 all_goals first | (cases h;decide) | cases h
theorem opOf_some {k:Int} (h:(22≤k∧k≤28)∨k=31):∃ sg bd,opOf k=some (sg,bd):=by
 have:k=22∨k=23∨k=24∨k=25∨k=26∨k=27∨k=28∨k=31:=by omega
 rcases this with rfl | rfl | rfl | rfl | rfl | rfl | rfl | rfl <;> exact ⟨_,_,rfl⟩
set_option maxRecDepth 100000 in
set_option maxHeartbeats 2000000 in
theorem binary_of {w0:World} {b:Nat} (k:Int) (s:ByteArray) (kl:List Nd) (h2:2≤kl.length) (sg:List UInt8) (bd:Nat) (hop:opOf k=some (sg,bd)) (hk:∀ i (h:i < kl.length),SaysT w0 b kl[i]) (v0 v1 v2:Value) (more:Bool) (l:Tx) (w:World) (ht:NdR w0 (.mk k s kl) v0 v1 v2) (hp:PrI w0 b l w) (T:Tx)
  (hT:kidF kl (Nd.bareL kl) 0 (leftB bd) true++(([32]++(sg++[32]))++kidF kl (Nd.bareL kl) 1 (rightB bd) more)=T) (hlen:l.length+T.length≤100000000):Calls Tryz.prog 259 #[.pointer (some ⟨b,0,none⟩),.agg #[v0,v1,v2],.bool more] w (PrO w0 b l w T):=by
 have hbd:=opOf_le hop
 obtain ⟨_,_,_,a,cap,hform,rfl,rfl,rfl,hs,hl⟩:=ht.form
 cases hform
 obtain ⟨L,hL⟩:∃ L,kl.length=L:=⟨_,rfl⟩
 rw [hL] at ht hl
 rw [hL]
 obtain ⟨W,hW⟩:∃ W,w.alloc (.cells #[.int .i64 k,.string s,.slice a L cap] 25)=W:=⟨_,rfl⟩
 have R0':Row3 W w.heap.size (.int .i64 k) (.string s) (.slice a L cap):=by rw [←hW];exact Row3.new _ _ _ _
 have P0:=qh (hW▸hp.alloc (.cells #[.int .i64 k,.string s,.slice a L cap] 25))
 have K0:=qh (hW▸(Wr.refl w0.heap.size b w).alloc hp.size (.cells #[.int .i64 k,.string s,.slice a L cap] 25))
 have hne:w.heap.size≠b:=by have:=hp.p.lt;omega
 have HN:=qh ht
 unfold maxLen at hl
 have i0:(0:Int) < (L:Int):=by omega
 have i1:(1:Int) < (L:Int):=by omega
 have j0:0 < L:=by omega
 have j1:1 < L:=by omega
 obtain ⟨bb,o,k0',s0',l0',a0',c0',rfl,eK0,x00,x01,x02,r0⟩:=ht.kid 0 (by omega)
 simp only [Nat.zero_mul,Nat.add_zero] at x00 x01 x02
 have X0:=qh (And.intro x00 (And.intro x01 x02))
 obtain ⟨bb1,o1',k1',s1',l1',a1',c1',hbo1,eK1,x10,x11,x12,r1⟩:=ht.kid 1 (by omega)
 obtain ⟨rfl,rfl⟩:bb=bb1∧o=o1':=by simpa using hbo1
 simp only [Nat.one_mul] at x10 x11 x12
 have X1:=qh (And.intro x10 (And.intro x11 x12))
 obtain ⟨Y0,hY0⟩:∃ Y,(kl[0]'(by omega)).txt (leftB bd) true=Y:=⟨_,rfl⟩
 obtain ⟨Y1,hY1⟩:∃ Y,(kl[1]'(by omega)).txt (rightB bd) more=Y:=⟨_,rfl⟩
 have hE:T=Y0++((bs ⟨#[32]⟩++(bs ⟨sg.toArray⟩++bs ⟨#[32]⟩))++Y1):=by
  rw [←hT,←hY0,←hY1,kidF_at (by omega),kidF_at (by omega)]
  rfl
 have hlen2:l.length+Y0.length+sg.length+2+Y1.length≤100000000:=by
  have:=hlen
  rw [hE] at this
  simp [bs] at this ⊢
  omega
 have CO:Hid (∀ w',PrI w0 b l w'→_):=qh (fun w' (h:PrI w0 b l w')=>operatorOf_any k s (some ⟨bb,o,none⟩) L cap w' h.glw h.two')
 rw [hop] at CO
 unfold opRes S_ at CO
 have C3:=qh (fun w' (h:PrI w0 b (l++Y0) w') n (hn:n=w'.heap.size)=>put3 h n hn ⟨#[32]⟩ ⟨sg.toArray⟩ ⟨#[32]⟩ (by simp [bs] at hlen2 ⊢;omega))
 have HE:=qh hE
 have HW:=qh hW
 have R0:=qh R0'
 by_cases hb0:bd=0
 ·have e0:((bd:Int)==0)=true:=by rw [hb0];rfl
  have hlb:leftB bd=bd:=by rw [hb0];rfl
  have hrb:rightB bd=bd+1:=by rw [hb0];rfl
  rw [hlb] at hY0
  rw [hrb] at hY1
  have C4:Hid (∀ (z:Int),z=((bd:Nat):Int)→∀ w',PrI w0 b l w'→Calls Tryz.prog 203 #[.pointer (some ⟨b,0,none⟩),.agg #[.int .i64 k0',.string s0',.slice a0' l0'.length c0'],.int .i64 z,.bool true] w' (PrO w0 b l w' Y0)):=qh (fun z hz w' h=>by
   subst hz
   have hl9:List.length l+Y0.length≤100000000:=by (try simp [bs] at hlen2 ⊢);omega
   rw [←hY0] at hl9 ⊢
   exact hk 0 (by omega) _ _ _ (bd) true _ w' (by omega) (eK0▸r0) h hl9)
  have C5:Hid (∀ (z:Int),z=((bd+1:Nat):Int)→∀ w',PrI w0 b ((l++Y0)++(bs ⟨#[32]⟩++(bs ⟨sg.toArray⟩++bs ⟨#[32]⟩))) w'→Calls Tryz.prog 203 #[.pointer (some ⟨b,0,none⟩),.agg #[.int .i64 k1',.string s1',.slice a1' l1'.length c1'],.int .i64 z,.bool more] w' (PrO w0 b ((l++Y0)++(bs ⟨#[32]⟩++(bs ⟨sg.toArray⟩++bs ⟨#[32]⟩))) w' Y1)):=qh (fun z hz w' h=>by
   subst hz
   have hl9:List.length ((l++Y0)++(bs ⟨#[32]⟩++(bs ⟨sg.toArray⟩++bs ⟨#[32]⟩)))+Y1.length≤100000000:=by (try simp [bs] at hlen2 ⊢);omega
   rw [←hY1] at hl9 ⊢
   exact hk 1 (by omega) _ _ _ (bd+1) more _ w' (by omega) (eK1▸r1) h hl9)
  obtain ⟨⟨n0,n1,n2⟩,_⟩:=R0'.cells
  clear hT hlen hlen2 hE hW R0' hp hk ht HN hY0 hY1 x00 x01 x02 x10 x11 x12 r0 r1 eK0 eK1 hL hbo1 hlb hrb hb0 h2 hop
  go_enter Tryz.func259,Tryz.ntmps259
  go_upto_region 1 with fail
  rw [HW.out]
  have y00:=P0.out.cell X0.out.1
  have y01:=P0.out.cell X0.out.2.1
  have y02:=P0.out.cell X0.out.2.2
  have yb0:=lt_of_cell y00
  have y10:=P0.out.cell X1.out.1
  have y11:=P0.out.cell X1.out.2.1
  have y12:=P0.out.cell X1.out.2.2
  have yb1:=lt_of_cell y10
  go_wp2_with fail
  refine (CO.out _ P0.out).mono ?_
  rintro e w1 ⟨rfl,bb⟩
  have P1:=qh (P0.out.later bb)
  have K1:=qh (K0.out.later bb P0.out.size)
  have R1:=qh (R0.out.below bb R0.out.lt)
  clear bb CO n0 n1 n2 y00 y01 y02 yb0 y10 y11 y12 yb1
  obtain ⟨⟨n0,n1,n2⟩,_⟩:=R1.out.cells
  have y00:=P1.out.cell X0.out.1
  have y01:=P1.out.cell X0.out.2.1
  have y02:=P1.out.cell X0.out.2.2
  have yb0:=lt_of_cell y00
  have y10:=P1.out.cell X1.out.1
  have y11:=P1.out.cell X1.out.2.1
  have y12:=P1.out.cell X1.out.2.2
  have yb1:=lt_of_cell y10
  have P1o:=qh (P1.out.alloc (.cells #[.string ⟨sg.toArray⟩,.int .i64 k,.int .i64 (bd:Nat)] 187))
  have K1o:=qh (K1.out.alloc P1.out.size (.cells #[.string ⟨sg.toArray⟩,.int .i64 k,.int .i64 (bd:Nat)] 187))
  have R1o:=qh (R1.out.alloc (.cells #[.string ⟨sg.toArray⟩,.int .i64 k,.int .i64 (bd:Nat)] 187))
  have O1:Hid (RowO (w1.alloc (.cells #[.string ⟨sg.toArray⟩,.int .i64 k,.int .i64 (bd:Nat)] 187)) w1.heap.size _ _ _):=qh (World.alloc_heap_new w1 _)
  have hno:w1.heap.size≠b:=by have:=P1.out.p.lt;omega
  clear n0 n1 n2 y00 y01 y02 yb0 y10 y11 y12 yb1 P1 K1 R1
  have P1:=P1o
  have K1:=K1o
  have R1:=R1o
  clear P1o K1o R1o
  obtain ⟨⟨n0,n1,n2⟩,_⟩:=R1.out.cells
  have y00:=P1.out.cell X0.out.1
  have y01:=P1.out.cell X0.out.2.1
  have y02:=P1.out.cell X0.out.2.2
  have yb0:=lt_of_cell y00
  have y10:=P1.out.cell X1.out.1
  have y11:=P1.out.cell X1.out.2.1
  have y12:=P1.out.cell X1.out.2.2
  have yb1:=lt_of_cell y10
  obtain ⟨⟨o0,o1,o2⟩,p0,p1,p2⟩:=O1.out.cells
  go_wp2_with fail
  go_quiet (fail)
  generalize hQ:World.drewN _ _=w2
  have P2:Hid (PrI w0 b _ w2):=qh (by rw [←hQ];exact P1.out.later (below_drewN (Below.refl _ _) _))
  have K2:Hid (Wr w0.heap.size b w w2):=qh (by rw [←hQ];exact K1.out.later (below_drewN (Below.refl _ _) _) P1.out.size)
  have R2:Hid (Row3 w2 w.heap.size _ _ _):=qh (by rw [←hQ];exact R1.out)
  have O2:Hid (RowO w2 _ _ _ _):=qh (by rw [←hQ];exact O1.out)
  clear hQ n0 n1 n2 y00 y01 y02 yb0 y10 y11 y12 yb1 o0 o1 o2 p0 p1 p2
  obtain ⟨⟨n0,n1,n2⟩,_⟩:=R2.out.cells
  have y00:=P2.out.cell X0.out.1
  have y01:=P2.out.cell X0.out.2.1
  have y02:=P2.out.cell X0.out.2.2
  have yb0:=lt_of_cell y00
  have y10:=P2.out.cell X1.out.1
  have y11:=P2.out.cell X1.out.2.1
  have y12:=P2.out.cell X1.out.2.2
  have yb1:=lt_of_cell y10
  obtain ⟨⟨o0,o1,o2⟩,p0,p1,p2⟩:=O2.out.cells
  go_wp2_with fail
  go_quiet (fail)
  generalize hQ:World.drewN _ _=w3
  have P3:Hid (PrI w0 b _ w3):=qh (by rw [←hQ];exact P2.out.later (below_drewN (Below.refl _ _) _))
  have K3:Hid (Wr w0.heap.size b w w3):=qh (by rw [←hQ];exact K2.out.later (below_drewN (Below.refl _ _) _) P2.out.size)
  have R3:Hid (Row3 w3 w.heap.size _ _ _):=qh (by rw [←hQ];exact R2.out)
  have O3:Hid (RowO w3 _ _ _ _):=qh (by rw [←hQ];exact O2.out)
  clear hQ n0 n1 n2 y00 y01 y02 yb0 y10 y11 y12 yb1 o0 o1 o2 p0 p1 p2
  obtain ⟨⟨n0,n1,n2⟩,_⟩:=R3.out.cells
  have y00:=P3.out.cell X0.out.1
  have y01:=P3.out.cell X0.out.2.1
  have y02:=P3.out.cell X0.out.2.2
  have yb0:=lt_of_cell y00
  have y10:=P3.out.cell X1.out.1
  have y11:=P3.out.cell X1.out.2.1
  have y12:=P3.out.cell X1.out.2.2
  have yb1:=lt_of_cell y10
  obtain ⟨⟨o0,o1,o2⟩,p0,p1,p2⟩:=O3.out.cells
  go_wp2_with fail
  refine (C4.out _ (by first | rfl | (push_cast;rfl)) _ P3.out).mono ?_
  rintro e w4 ⟨rfl,pp,kk⟩
  have P4:=qh pp
  have K4:=qh (K3.out.trans kk)
  have R4:=qh (kk.row3 R3.out hne)
  have O4:=qh (kk.rowO O3.out hno)
  clear pp kk C4 n0 n1 n2 y00 y01 y02 yb0 y10 y11 y12 yb1 o0 o1 o2 p0 p1 p2
  obtain ⟨⟨n0,n1,n2⟩,_⟩:=R4.out.cells
  have y00:=P4.out.cell X0.out.1
  have y01:=P4.out.cell X0.out.2.1
  have y02:=P4.out.cell X0.out.2.2
  have yb0:=lt_of_cell y00
  have y10:=P4.out.cell X1.out.1
  have y11:=P4.out.cell X1.out.2.1
  have y12:=P4.out.cell X1.out.2.2
  have yb1:=lt_of_cell y10
  obtain ⟨⟨o0,o1,o2⟩,p0,p1,p2⟩:=O4.out.cells
  go_wp2_with fail
  refine (C3.out _ P4.out _ (by first | rfl | simp only [World.size_alloc])).mono ?_
  rintro e w5 ⟨rfl,pp,kk⟩
  have P5:=qh pp
  have K5:=qh (K4.out.trans kk)
  have R5:=qh (kk.row3 R4.out hne)
  have O5:=qh (kk.rowO O4.out hno)
  clear pp kk C3 n0 n1 n2 y00 y01 y02 yb0 y10 y11 y12 yb1 o0 o1 o2 p0 p1 p2
  obtain ⟨⟨n0,n1,n2⟩,_⟩:=R5.out.cells
  have y00:=P5.out.cell X0.out.1
  have y01:=P5.out.cell X0.out.2.1
  have y02:=P5.out.cell X0.out.2.2
  have yb0:=lt_of_cell y00
  have y10:=P5.out.cell X1.out.1
  have y11:=P5.out.cell X1.out.2.1
  have y12:=P5.out.cell X1.out.2.2
  have yb1:=lt_of_cell y10
  obtain ⟨⟨o0,o1,o2⟩,p0,p1,p2⟩:=O5.out.cells
  go_wp2_with fail
  refine (C5.out _ (by first | rfl | (push_cast;rfl)) _ P5.out).mono ?_
  rintro e w6 ⟨rfl,pp,kk⟩
  have P6:=qh pp
  have K6:=qh (K5.out.trans kk)
  have R6:=qh (kk.row3 R5.out hne)
  have O6:=qh (kk.rowO O5.out hno)
  clear pp kk C5 n0 n1 n2 y00 y01 y02 yb0 y10 y11 y12 yb1 o0 o1 o2 p0 p1 p2
  go_wp2
  go_end0
  exact ⟨rfl,by rw [HE.out];simpa only [List.append_assoc,bs_mk] using P6.out,K6.out⟩
 ·have e0:((bd:Int)==0)=false:=by rw [beq_eq_false_iff_ne];omega
  have hlb:leftB bd=bd+1:=if_neg hb0
  have hrb:rightB bd=bd:=if_neg hb0
  rw [hlb] at hY0
  rw [hrb] at hY1
  have C4:Hid (∀ (z:Int),z=((bd+1:Nat):Int)→∀ w',PrI w0 b l w'→Calls Tryz.prog 203 #[.pointer (some ⟨b,0,none⟩),.agg #[.int .i64 k0',.string s0',.slice a0' l0'.length c0'],.int .i64 z,.bool true] w' (PrO w0 b l w' Y0)):=qh (fun z hz w' h=>by
   subst hz
   have hl9:List.length l+Y0.length≤100000000:=by (try simp [bs] at hlen2 ⊢);omega
   rw [←hY0] at hl9 ⊢
   exact hk 0 (by omega) _ _ _ (bd+1) true _ w' (by omega) (eK0▸r0) h hl9)
  have C5:Hid (∀ (z:Int),z=((bd:Nat):Int)→∀ w',PrI w0 b ((l++Y0)++(bs ⟨#[32]⟩++(bs ⟨sg.toArray⟩++bs ⟨#[32]⟩))) w'→Calls Tryz.prog 203 #[.pointer (some ⟨b,0,none⟩),.agg #[.int .i64 k1',.string s1',.slice a1' l1'.length c1'],.int .i64 z,.bool more] w' (PrO w0 b ((l++Y0)++(bs ⟨#[32]⟩++(bs ⟨sg.toArray⟩++bs ⟨#[32]⟩))) w' Y1)):=qh (fun z hz w' h=>by
   subst hz
   have hl9:List.length ((l++Y0)++(bs ⟨#[32]⟩++(bs ⟨sg.toArray⟩++bs ⟨#[32]⟩)))+Y1.length≤100000000:=by (try simp [bs] at hlen2 ⊢);omega
   rw [←hY1] at hl9 ⊢
   exact hk 1 (by omega) _ _ _ (bd) more _ w' (by omega) (eK1▸r1) h hl9)
  obtain ⟨⟨n0,n1,n2⟩,_⟩:=R0'.cells
  clear hT hlen hlen2 hE hW R0' hp hk ht HN hY0 hY1 x00 x01 x02 x10 x11 x12 r0 r1 eK0 eK1 hL hbo1 hlb hrb hb0 h2 hop
  go_enter Tryz.func259,Tryz.ntmps259
  go_upto_region 1 with fail
  rw [HW.out]
  have y00:=P0.out.cell X0.out.1
  have y01:=P0.out.cell X0.out.2.1
  have y02:=P0.out.cell X0.out.2.2
  have yb0:=lt_of_cell y00
  have y10:=P0.out.cell X1.out.1
  have y11:=P0.out.cell X1.out.2.1
  have y12:=P0.out.cell X1.out.2.2
  have yb1:=lt_of_cell y10
  go_wp2_with fail
  refine (CO.out _ P0.out).mono ?_
  rintro e w1 ⟨rfl,bb⟩
  have P1:=qh (P0.out.later bb)
  have K1:=qh (K0.out.later bb P0.out.size)
  have R1:=qh (R0.out.below bb R0.out.lt)
  clear bb CO n0 n1 n2 y00 y01 y02 yb0 y10 y11 y12 yb1
  obtain ⟨⟨n0,n1,n2⟩,_⟩:=R1.out.cells
  have y00:=P1.out.cell X0.out.1
  have y01:=P1.out.cell X0.out.2.1
  have y02:=P1.out.cell X0.out.2.2
  have yb0:=lt_of_cell y00
  have y10:=P1.out.cell X1.out.1
  have y11:=P1.out.cell X1.out.2.1
  have y12:=P1.out.cell X1.out.2.2
  have yb1:=lt_of_cell y10
  have P1o:=qh (P1.out.alloc (.cells #[.string ⟨sg.toArray⟩,.int .i64 k,.int .i64 (bd:Nat)] 187))
  have K1o:=qh (K1.out.alloc P1.out.size (.cells #[.string ⟨sg.toArray⟩,.int .i64 k,.int .i64 (bd:Nat)] 187))
  have R1o:=qh (R1.out.alloc (.cells #[.string ⟨sg.toArray⟩,.int .i64 k,.int .i64 (bd:Nat)] 187))
  have O1:Hid (RowO (w1.alloc (.cells #[.string ⟨sg.toArray⟩,.int .i64 k,.int .i64 (bd:Nat)] 187)) w1.heap.size _ _ _):=qh (World.alloc_heap_new w1 _)
  have hno:w1.heap.size≠b:=by have:=P1.out.p.lt;omega
  clear n0 n1 n2 y00 y01 y02 yb0 y10 y11 y12 yb1 P1 K1 R1
  have P1:=P1o
  have K1:=K1o
  have R1:=R1o
  clear P1o K1o R1o
  obtain ⟨⟨n0,n1,n2⟩,_⟩:=R1.out.cells
  have y00:=P1.out.cell X0.out.1
  have y01:=P1.out.cell X0.out.2.1
  have y02:=P1.out.cell X0.out.2.2
  have yb0:=lt_of_cell y00
  have y10:=P1.out.cell X1.out.1
  have y11:=P1.out.cell X1.out.2.1
  have y12:=P1.out.cell X1.out.2.2
  have yb1:=lt_of_cell y10
  obtain ⟨⟨o0,o1,o2⟩,p0,p1,p2⟩:=O1.out.cells
  go_wp2_with fail
  go_quiet (fail)
  generalize hQ:World.drewN _ _=w2
  have P2:Hid (PrI w0 b _ w2):=qh (by rw [←hQ];exact P1.out.later (below_drewN (Below.refl _ _) _))
  have K2:Hid (Wr w0.heap.size b w w2):=qh (by rw [←hQ];exact K1.out.later (below_drewN (Below.refl _ _) _) P1.out.size)
  have R2:Hid (Row3 w2 w.heap.size _ _ _):=qh (by rw [←hQ];exact R1.out)
  have O2:Hid (RowO w2 _ _ _ _):=qh (by rw [←hQ];exact O1.out)
  clear hQ n0 n1 n2 y00 y01 y02 yb0 y10 y11 y12 yb1 o0 o1 o2 p0 p1 p2
  obtain ⟨⟨n0,n1,n2⟩,_⟩:=R2.out.cells
  have y00:=P2.out.cell X0.out.1
  have y01:=P2.out.cell X0.out.2.1
  have y02:=P2.out.cell X0.out.2.2
  have yb0:=lt_of_cell y00
  have y10:=P2.out.cell X1.out.1
  have y11:=P2.out.cell X1.out.2.1
  have y12:=P2.out.cell X1.out.2.2
  have yb1:=lt_of_cell y10
  obtain ⟨⟨o0,o1,o2⟩,p0,p1,p2⟩:=O2.out.cells
  go_wp2_with fail
  refine (C4.out _ (by first | rfl | (push_cast;rfl)) _ P2.out).mono ?_
  rintro e w3 ⟨rfl,pp,kk⟩
  have P3:=qh pp
  have K3:=qh (K2.out.trans kk)
  have R3:=qh (kk.row3 R2.out hne)
  have O3:=qh (kk.rowO O2.out hno)
  clear pp kk C4 n0 n1 n2 y00 y01 y02 yb0 y10 y11 y12 yb1 o0 o1 o2 p0 p1 p2
  obtain ⟨⟨n0,n1,n2⟩,_⟩:=R3.out.cells
  have y00:=P3.out.cell X0.out.1
  have y01:=P3.out.cell X0.out.2.1
  have y02:=P3.out.cell X0.out.2.2
  have yb0:=lt_of_cell y00
  have y10:=P3.out.cell X1.out.1
  have y11:=P3.out.cell X1.out.2.1
  have y12:=P3.out.cell X1.out.2.2
  have yb1:=lt_of_cell y10
  obtain ⟨⟨o0,o1,o2⟩,p0,p1,p2⟩:=O3.out.cells
  go_wp2_with fail
  refine (C3.out _ P3.out _ (by first | rfl | simp only [World.size_alloc])).mono ?_
  rintro e w4 ⟨rfl,pp,kk⟩
  have P4:=qh pp
  have K4:=qh (K3.out.trans kk)
  have R4:=qh (kk.row3 R3.out hne)
  have O4:=qh (kk.rowO O3.out hno)
  clear pp kk C3 n0 n1 n2 y00 y01 y02 yb0 y10 y11 y12 yb1 o0 o1 o2 p0 p1 p2
  obtain ⟨⟨n0,n1,n2⟩,_⟩:=R4.out.cells
  have y00:=P4.out.cell X0.out.1
  have y01:=P4.out.cell X0.out.2.1
  have y02:=P4.out.cell X0.out.2.2
  have yb0:=lt_of_cell y00
  have y10:=P4.out.cell X1.out.1
  have y11:=P4.out.cell X1.out.2.1
  have y12:=P4.out.cell X1.out.2.2
  have yb1:=lt_of_cell y10
  obtain ⟨⟨o0,o1,o2⟩,p0,p1,p2⟩:=O4.out.cells
  go_wp2_with fail
  refine (C5.out _ (by first | rfl | (push_cast;rfl)) _ P4.out).mono ?_
  rintro e w5 ⟨rfl,pp,kk⟩
  have P5:=qh pp
  have K5:=qh (K4.out.trans kk)
  have R5:=qh (kk.row3 R4.out hne)
  have O5:=qh (kk.rowO O4.out hno)
  clear pp kk C5 n0 n1 n2 y00 y01 y02 yb0 y10 y11 y12 yb1 o0 o1 o2 p0 p1 p2
  go_wp2
  go_end0
  exact ⟨rfl,by rw [HE.out];simpa only [List.append_assoc,bs_mk] using P5.out,K5.out⟩
end Go.Proofs.YtgjijidlaghlmaaGreatDoor
namespace Go.Proofs.YtgjijidlaghlmaaGreatDoor
open Go.RowKit
set_option maxRecDepth 100000 in
set_option maxHeartbeats 2000000 in
theorem bare_of {w0:World} {b:Nat} (k:Int) (s:ByteArray) (kl:List Nd) (hsh:shapeB k kl.length=true) (hk:∀ i (h:i < kl.length),SaysT w0 b kl[i]) (hka:∀ i (h:i < kl.length),SaysA w0 b kl[i]):SaysB w0 b (.mk k s kl):=by
 intro v0 v1 v2 more l w ht hp hlen
 obtain ⟨_,_,_,a,cap,hform,rfl,rfl,rfl,hs,hl⟩:=ht.form
 cases hform
 obtain ⟨L,hL⟩:∃ L,kl.length=L:=⟨_,rfl⟩
 rw [hL] at ht hl
 rw [hL]
 obtain ⟨W,hW⟩:∃ W,w.alloc (.cells #[.int .i64 k,.string s,.slice a L cap] 25)=W:=⟨_,rfl⟩
 have R0':Row3 W w.heap.size (.int .i64 k) (.string s) (.slice a L cap):=by rw [←hW];exact Row3.new _ _ _ _
 have P0:=qh (hW▸hp.alloc (.cells #[.int .i64 k,.string s,.slice a L cap] 25))
 have K0:=qh (hW▸(Wr.refl w0.heap.size b w).alloc hp.size (.cells #[.int .i64 k,.string s,.slice a L cap] 25))
 have hne:w.heap.size≠b:=by have:=hp.p.lt;omega
 have HN:=qh ht
 have HL:=qh hlen
 unfold maxLen at hl
 rw [hL] at hsh
 obtain ⟨T,hT⟩:∃ T,(Nd.mk k s kl).bare more=T:=⟨_,rfl⟩
 rw [hT] at HL hlen
 rw [hT]
 have HW:=qh hW
 have R0:=qh R0'
 clear hW R0' hp
 obtain ⟨ow,how⟩:∃ ow,opensW k=ow:=⟨_,rfl⟩
 have CO:Hid (∀ w',PrI w0 b l w'→_):=qh (fun w' (h:PrI w0 b l w')=>opens_any k s a L cap w' h.glw h.two')
 rw [how] at CO
 unfold S_ at CO
 by_cases hc:k=15
 ·subst hc
  have hE:T=bs s++kl.flatMap fun x=>32 :: x.arg:=by rw [←hT];exact bare_name (by decide) s kl more
  have HE:=qh hE
  have hlen2:=HL.out
  rw [hE] at hlen2
  simp only [List.length_append] at hlen2
  have C1:=qh (fun w' (h:PrI w0 b l w') n (hn:n=w'.heap.size)=>put1 h n hn s (by omega))
  have HA:=qh hka
  have HLL:=qh hL
  have HLen:=qh hlen2
  clear CO how hT hE hlen hlen2 hk hka ht HL hsh hL
  obtain ⟨⟨n0,n1,n2⟩,_⟩:=R0.out.cells
  go_enter Tryz.func239,Tryz.ntmps239
  go_upto_region 1 with fail
  rw [HW.out]
  go_wp2_with fail
  refine (C1.out _ P0.out _ (by first | rfl | simp only [World.size_alloc])).mono ?_
  rintro e w1 ⟨rfl,pp,kk⟩
  have P1:=qh pp
  have K1:=qh (K0.out.trans kk)
  have R1:=qh (kk.row3 R0.out hne)
  clear pp kk C1 n0 n1 n2
  obtain ⟨⟨n0,n1,n2⟩,_⟩:=R1.out.cells
  go_wp2
  go_loopw [25] (fun v wr=>∃ i:Nat,i≤L∧v = .int .i64 i∧Hid (PrI w0 b ((l++bs s)++(kl.take i).flatMap fun x=>32 :: x.arg) wr)∧Hid (Wr w0.heap.size b w wr)) (fun v _=>L - (intOf v).toNat)
  case atStart=>exact ⟨0,Nat.zero_le _,rfl,qh (by simpa using P1.out),K1⟩
  case round =>
   obtain ⟨i,hi,rfl,PI,KI⟩:=hrel
   by_cases hlt:i < L
   ·have hlt':(i:Int) < (L:Int):=by omega
    have hi0:(0:Int)≤(i:Int):=by omega
    have hik:i < kl.length:=by rw [HLL.out];exact hlt
    have hm1:(i:Int)+1≤(L:Int):=by omega
    obtain ⟨bb,o,k1,s1,l1,a1,c1,rfl,e1,x0,x1,x2,r1⟩:=HN.out.kid i hik
    have y0:=PI.out.cell x0
    have y1:=PI.out.cell x1
    have y2:=PI.out.cell x2
    have yb:=lt_of_cell y0
    have hG:(kl.take (i+1)).flatMap (fun x=>(32:UInt8) :: x.arg)=(kl.take i).flatMap (fun x=>32 :: x.arg)++(32 :: (kl[i]).arg):=by
     rw [List.take_succ_eq_append_getElem hik,List.flatMap_append]
     simp
    have hGl:((kl.take (i+1)).flatMap (fun x=>(32:UInt8) :: x.arg)).length≤(kl.flatMap (fun x=>(32:UInt8) :: x.arg)).length:=by
     conv=>rhs;rw [←List.take_append_drop (i+1) kl]
     rw [List.flatMap_append,List.length_append]
     omega
    have hlen3:=HLen.out
    rw [hG] at hGl
    simp only [List.length_append,List.length_cons] at hGl
    generalize hU:(kl.take i).flatMap (fun x=>(32:UInt8) :: x.arg)=U at *
    obtain ⟨A,hA⟩:∃ A,(kl[i]).arg=A:=⟨_,rfl⟩
    rw [hA] at hG hGl
    have HG:=qh hG
    have CP:=qh (fun w' (h:PrI w0 b ((l++bs s)++U) w') n (hn:n=w'.heap.size)=>put1 h n hn ⟨#[32]⟩ (by have h1:(bs ⟨#[32]⟩).length=1:=rfl;simp only [List.length_append];omega))
    have CA:Hid (∀ w',PrI w0 b (((l++bs s)++U)++bs ⟨#[32]⟩) w'→Calls Tryz.prog 257 #[.pointer (some ⟨b,0,none⟩),.agg #[.int .i64 k1,.string s1,.slice a1 l1.length c1]] w' (PrO w0 b (((l++bs s)++U)++bs ⟨#[32]⟩) w' A)):=qh (fun w' h=>by
     have hl9:List.length (((l++bs s)++U)++bs ⟨#[32]⟩)+A.length≤100000000:=by have h1:(bs ⟨#[32]⟩).length=1:=rfl;simp only [List.length_append];omega
     rw [←hA] at hl9 ⊢
     exact HA.out i hik _ _ _ _ w' (e1▸r1) h hl9)
    have RN:=qh (Row3.new wr (.int .i64 k1) (.string s1) (.slice a1 l1.length c1))
    have PN:=qh (PI.out.alloc (.cells #[.int .i64 k1,.string s1,.slice a1 l1.length c1] 25))
    have KN:=qh (KI.out.alloc PI.out.size (.cells #[.int .i64 k1,.string s1,.slice a1 l1.length c1] 25))
    have hnn:wr.heap.size≠b:=by have:=PI.out.p.lt;omega
    clear hU hA hG hGl hlen3 x0 x1 x2 r1 e1 hik n0 n1 n2
    go_wp2_with fail
    refine (CP.out _ PN.out _ (by first | rfl | simp only [World.size_alloc])).mono ?_
    rintro e w5 ⟨rfl,pp,kk⟩
    have P5:=qh pp
    have K5:=qh (KN.out.trans kk)
    have R5:=qh (kk.row3 RN.out hnn)
    obtain ⟨⟨n0,n1,n2⟩,_⟩:=R5.out.cells
    clear pp kk CP y0 y1 y2 yb
    go_wp2_with fail
    refine (CA.out _ P5.out).mono ?_
    rintro e w6 ⟨rfl,pp,kk⟩
    have P6:Hid (PrI w0 b ((l++bs s)++(kl.take (i+1)).flatMap fun x=>32 :: x.arg) w6):=qh (by rw [HG.out];simpa [bs] using pp)
    have K6:=qh (K5.out.trans kk)
    clear pp kk CA n0 n1 n2
    go_wp2
    go_roundw
    case rel=>exact ⟨i+1,hlt,by push_cast;rfl,P6,K6⟩
    case measure=>simp [intOf];omega
   ·have hlt':¬ ((i:Int) < (L:Int)):=by omega
    have hG:kl.take i=kl:=List.take_of_length_le (by rw [HLL.out];omega)
    have P6:=qh (show PrI w0 b (l++T) wr by rw [HE.out];have:=PI.out;rw [hG] at this;simpa [bs] using this)
    clear hG
    go_wp2
    go_end0
    exact ⟨rfl,P6.out,KI.out⟩
 ·have m15:¬ k=15:=hc
  have hk15:((k:Int)==15)=false:=by rw [beq_eq_false_iff_ne];exact hc
  clear hc
  by_cases hc:k=16
  ·subst hc
   have hE:T=bs s++kl.flatMap fun x=>32 :: x.arg:=by rw [←hT];exact bare_name (by decide) s kl more
   have HE:=qh hE
   have hlen2:=HL.out
   rw [hE] at hlen2
   simp only [List.length_append] at hlen2
   have C1:=qh (fun w' (h:PrI w0 b l w') n (hn:n=w'.heap.size)=>put1 h n hn s (by omega))
   have HA:=qh hka
   have HLL:=qh hL
   have HLen:=qh hlen2
   clear CO how hT hE hlen hlen2 hk hka ht HL hsh hL
   obtain ⟨⟨n0,n1,n2⟩,_⟩:=R0.out.cells
   go_enter Tryz.func239,Tryz.ntmps239
   go_upto_region 1 with fail
   rw [HW.out]
   go_wp2_with fail
   refine (C1.out _ P0.out _ (by first | rfl | simp only [World.size_alloc])).mono ?_
   rintro e w1 ⟨rfl,pp,kk⟩
   have P1:=qh pp
   have K1:=qh (K0.out.trans kk)
   have R1:=qh (kk.row3 R0.out hne)
   clear pp kk C1 n0 n1 n2
   obtain ⟨⟨n0,n1,n2⟩,_⟩:=R1.out.cells
   go_wp2
   go_loopw [25] (fun v wr=>∃ i:Nat,i≤L∧v = .int .i64 i∧Hid (PrI w0 b ((l++bs s)++(kl.take i).flatMap fun x=>32 :: x.arg) wr)∧Hid (Wr w0.heap.size b w wr)) (fun v _=>L - (intOf v).toNat)
   case atStart=>exact ⟨0,Nat.zero_le _,rfl,qh (by simpa using P1.out),K1⟩
   case round =>
    obtain ⟨i,hi,rfl,PI,KI⟩:=hrel
    by_cases hlt:i < L
    ·have hlt':(i:Int) < (L:Int):=by omega
     have hi0:(0:Int)≤(i:Int):=by omega
     have hik:i < kl.length:=by rw [HLL.out];exact hlt
     have hm1:(i:Int)+1≤(L:Int):=by omega
     obtain ⟨bb,o,k1,s1,l1,a1,c1,rfl,e1,x0,x1,x2,r1⟩:=HN.out.kid i hik
     have y0:=PI.out.cell x0
     have y1:=PI.out.cell x1
     have y2:=PI.out.cell x2
     have yb:=lt_of_cell y0
     have hG:(kl.take (i+1)).flatMap (fun x=>(32:UInt8) :: x.arg)=(kl.take i).flatMap (fun x=>32 :: x.arg)++(32 :: (kl[i]).arg):=by
      rw [List.take_succ_eq_append_getElem hik,List.flatMap_append]
      simp
     have hGl:((kl.take (i+1)).flatMap (fun x=>(32:UInt8) :: x.arg)).length≤(kl.flatMap (fun x=>(32:UInt8) :: x.arg)).length:=by
      conv=>rhs;rw [←List.take_append_drop (i+1) kl]
      rw [List.flatMap_append,List.length_append]
      omega
     have hlen3:=HLen.out
     rw [hG] at hGl
     simp only [List.length_append,List.length_cons] at hGl
     generalize hU:(kl.take i).flatMap (fun x=>(32:UInt8) :: x.arg)=U at *
     obtain ⟨A,hA⟩:∃ A,(kl[i]).arg=A:=⟨_,rfl⟩
     rw [hA] at hG hGl
     have HG:=qh hG
     have CP:=qh (fun w' (h:PrI w0 b ((l++bs s)++U) w') n (hn:n=w'.heap.size)=>put1 h n hn ⟨#[32]⟩ (by have h1:(bs ⟨#[32]⟩).length=1:=rfl;simp only [List.length_append];omega))
     have CA:Hid (∀ w',PrI w0 b (((l++bs s)++U)++bs ⟨#[32]⟩) w'→Calls Tryz.prog 257 #[.pointer (some ⟨b,0,none⟩),.agg #[.int .i64 k1,.string s1,.slice a1 l1.length c1]] w' (PrO w0 b (((l++bs s)++U)++bs ⟨#[32]⟩) w' A)):=qh (fun w' h=>by
      have hl9:List.length (((l++bs s)++U)++bs ⟨#[32]⟩)+A.length≤100000000:=by have h1:(bs ⟨#[32]⟩).length=1:=rfl;simp only [List.length_append];omega
      rw [←hA] at hl9 ⊢
      exact HA.out i hik _ _ _ _ w' (e1▸r1) h hl9)
     have RN:=qh (Row3.new wr (.int .i64 k1) (.string s1) (.slice a1 l1.length c1))
     have PN:=qh (PI.out.alloc (.cells #[.int .i64 k1,.string s1,.slice a1 l1.length c1] 25))
     have KN:=qh (KI.out.alloc PI.out.size (.cells #[.int .i64 k1,.string s1,.slice a1 l1.length c1] 25))
     have hnn:wr.heap.size≠b:=by have:=PI.out.p.lt;omega
     clear hU hA hG hGl hlen3 x0 x1 x2 r1 e1 hik n0 n1 n2
     go_wp2_with fail
     refine (CP.out _ PN.out _ (by first | rfl | simp only [World.size_alloc])).mono ?_
     rintro e w5 ⟨rfl,pp,kk⟩
     have P5:=qh pp
     have K5:=qh (KN.out.trans kk)
     have R5:=qh (kk.row3 RN.out hnn)
     obtain ⟨⟨n0,n1,n2⟩,_⟩:=R5.out.cells
     clear pp kk CP y0 y1 y2 yb
     go_wp2_with fail
     refine (CA.out _ P5.out).mono ?_
     rintro e w6 ⟨rfl,pp,kk⟩
     have P6:Hid (PrI w0 b ((l++bs s)++(kl.take (i+1)).flatMap fun x=>32 :: x.arg) w6):=qh (by rw [HG.out];simpa [bs] using pp)
     have K6:=qh (K5.out.trans kk)
     clear pp kk CA n0 n1 n2
     go_wp2
     go_roundw
     case rel=>exact ⟨i+1,hlt,by push_cast;rfl,P6,K6⟩
     case measure=>simp [intOf];omega
    ·have hlt':¬ ((i:Int) < (L:Int)):=by omega
     have hG:kl.take i=kl:=List.take_of_length_le (by rw [HLL.out];omega)
     have P6:=qh (show PrI w0 b (l++T) wr by rw [HE.out];have:=PI.out;rw [hG] at this;simpa [bs] using this)
     clear hG
     go_wp2
     go_end0
     exact ⟨rfl,P6.out,KI.out⟩
  ·have m16:¬ k=16:=hc
   have hk16:((k:Int)==16)=false:=by rw [beq_eq_false_iff_ne];exact hc
   clear hc
   by_cases hc:k=17
   ·subst hc
    have h12:L=1∨L=2:=by simpa [shapeB] using hsh
    obtain ⟨X,hX⟩:∃ X,binderF s kl (Nd.bareL kl)=X:=⟨_,rfl⟩
    have hE:T=ow++X:=by rw [←hT,←how,←hX];rfl
    have HE:=qh hE
    have hlen2:=HL.out
    rw [hE] at hlen2
    simp only [List.length_append] at hlen2
    have C1:=qh (fun w' (h:PrI w0 b l w') n (hn:n=w'.heap.size)=>put1 h n hn ⟨ow.toArray⟩ (by simp [bs];omega))
    have C2:Hid (∀ w',PrI w0 b (l++ow) w'→Calls Tryz.prog 258 #[.pointer (some ⟨b,0,none⟩),.agg #[.int .i64 17,.string s,.slice a L cap]] w' (PrO w0 b (l++ow) w' X)):=qh (fun w' h=>by
     have hl9:List.length (l++ow)+X.length≤100000000:=by simp only [List.length_append];omega
     rw [←hX] at hl9 ⊢
     exact binder_of 17 s kl (by rw [hL];exact h12) hk _ _ _ _ w' HN.out h hl9)
    clear how hX hT hE hlen hlen2 hk hka ht HL hsh hL h12
    obtain ⟨⟨n0,n1,n2⟩,_⟩:=R0.out.cells
    go_enter Tryz.func239,Tryz.ntmps239
    go_upto_region 1 with fail
    rw [HW.out]
    go_wp2_with fail
    refine (CO.out _ P0.out).mono ?_
    rintro e w1 ⟨rfl,bb⟩
    have P1:=qh (P0.out.later bb)
    have K1:=qh (K0.out.later bb P0.out.size)
    have R1:=qh (R0.out.below bb R0.out.lt)
    clear bb CO n0 n1 n2
    obtain ⟨⟨n0,n1,n2⟩,_⟩:=R1.out.cells
    go_wp2_with fail
    refine (C1.out _ P1.out _ (by first | rfl | simp only [World.size_alloc])).mono ?_
    rintro e w2 ⟨rfl,pp,kk⟩
    have P2:=qh pp
    have K2:=qh (K1.out.trans kk)
    have R2:=qh (kk.row3 R1.out hne)
    clear pp kk C1 n0 n1 n2
    obtain ⟨⟨n0,n1,n2⟩,_⟩:=R2.out.cells
    go_wp2_with fail
    refine (C2.out _ P2.out).mono ?_
    rintro e w3 ⟨rfl,pp,kk⟩
    have P3:=qh pp
    have K3:=qh (K2.out.trans kk)
    have R3:=qh (kk.row3 R2.out hne)
    clear pp kk C2 n0 n1 n2
    go_wp2
    go_end0
    exact ⟨rfl,by rw [HE.out];simpa only [List.append_assoc,bs_mk] using P3.out,K3.out⟩
   ·have m17:¬ k=17:=hc
    have hk17:((k:Int)==17)=false:=by rw [beq_eq_false_iff_ne];exact hc
    clear hc
    by_cases hc:k=18
    ·subst hc
     have h12:L=1∨L=2:=by simpa [shapeB] using hsh
     obtain ⟨X,hX⟩:∃ X,binderF s kl (Nd.bareL kl)=X:=⟨_,rfl⟩
     have hE:T=(ow++[32])++X:=by rw [←hT,←how,←hX];rfl
     have HE:=qh hE
     have hlen2:=HL.out
     rw [hE] at hlen2
     simp only [List.length_append] at hlen2
     have C1:=qh (fun w' (h:PrI w0 b l w') n (hn:n=w'.heap.size)=>put2 h n hn ⟨ow.toArray⟩ ⟨#[32]⟩ (by simp [bs] at hlen2 ⊢;omega))
     have C2:Hid (∀ w',PrI w0 b (l++(ow++[32])) w'→Calls Tryz.prog 258 #[.pointer (some ⟨b,0,none⟩),.agg #[.int .i64 18,.string s,.slice a L cap]] w' (PrO w0 b (l++(ow++[32])) w' X)):=qh (fun w' h=>by
      have hl9:List.length (l++(ow++[32]))+X.length≤100000000:=by simp only [List.length_append];omega
      rw [←hX] at hl9 ⊢
      exact binder_of 18 s kl (by rw [hL];exact h12) hk _ _ _ _ w' HN.out h hl9)
     clear how hX hT hE hlen hlen2 hk hka ht HL hsh hL h12
     obtain ⟨⟨n0,n1,n2⟩,_⟩:=R0.out.cells
     go_enter Tryz.func239,Tryz.ntmps239
     go_upto_region 1 with fail
     rw [HW.out]
     go_wp2_with fail
     refine (CO.out _ P0.out).mono ?_
     rintro e w1 ⟨rfl,bb⟩
     have P1:=qh (P0.out.later bb)
     have K1:=qh (K0.out.later bb P0.out.size)
     have R1:=qh (R0.out.below bb R0.out.lt)
     clear bb CO n0 n1 n2
     obtain ⟨⟨n0,n1,n2⟩,_⟩:=R1.out.cells
     go_wp2_with fail
     refine (C1.out _ P1.out _ (by first | rfl | simp only [World.size_alloc])).mono ?_
     rintro e w2 ⟨rfl,pp,kk⟩
     have P2:=qh pp
     have K2:=qh (K1.out.trans kk)
     have R2:=qh (kk.row3 R1.out hne)
     clear pp kk C1 n0 n1 n2
     obtain ⟨⟨n0,n1,n2⟩,_⟩:=R2.out.cells
     go_wp2_with fail
     refine (C2.out _ P2.out).mono ?_
     rintro e w3 ⟨rfl,pp,kk⟩
     have P3:=qh pp
     have K3:=qh (K2.out.trans kk)
     have R3:=qh (kk.row3 R2.out hne)
     clear pp kk C2 n0 n1 n2
     go_wp2
     go_end0
     exact ⟨rfl,by rw [HE.out];simpa only [List.append_assoc,bs_mk] using P3.out,K3.out⟩
    ·have m18:¬ k=18:=hc
     have hk18:((k:Int)==18)=false:=by rw [beq_eq_false_iff_ne];exact hc
     clear hc
     by_cases hc:k=19
     ·subst hc
      have h12:L=1∨L=2:=by simpa [shapeB] using hsh
      obtain ⟨X,hX⟩:∃ X,binderF s kl (Nd.bareL kl)=X:=⟨_,rfl⟩
      have hE:T=(ow++[32])++X:=by rw [←hT,←how,←hX];rfl
      have HE:=qh hE
      have hlen2:=HL.out
      rw [hE] at hlen2
      simp only [List.length_append] at hlen2
      have C1:=qh (fun w' (h:PrI w0 b l w') n (hn:n=w'.heap.size)=>put2 h n hn ⟨ow.toArray⟩ ⟨#[32]⟩ (by simp [bs] at hlen2 ⊢;omega))
      have C2:Hid (∀ w',PrI w0 b (l++(ow++[32])) w'→Calls Tryz.prog 258 #[.pointer (some ⟨b,0,none⟩),.agg #[.int .i64 19,.string s,.slice a L cap]] w' (PrO w0 b (l++(ow++[32])) w' X)):=qh (fun w' h=>by
       have hl9:List.length (l++(ow++[32]))+X.length≤100000000:=by simp only [List.length_append];omega
       rw [←hX] at hl9 ⊢
       exact binder_of 19 s kl (by rw [hL];exact h12) hk _ _ _ _ w' HN.out h hl9)
      clear how hX hT hE hlen hlen2 hk hka ht HL hsh hL h12
      obtain ⟨⟨n0,n1,n2⟩,_⟩:=R0.out.cells
      go_enter Tryz.func239,Tryz.ntmps239
      go_upto_region 1 with fail
      rw [HW.out]
      go_wp2_with fail
      refine (CO.out _ P0.out).mono ?_
      rintro e w1 ⟨rfl,bb⟩
      have P1:=qh (P0.out.later bb)
      have K1:=qh (K0.out.later bb P0.out.size)
      have R1:=qh (R0.out.below bb R0.out.lt)
      clear bb CO n0 n1 n2
      obtain ⟨⟨n0,n1,n2⟩,_⟩:=R1.out.cells
      go_wp2_with fail
      refine (C1.out _ P1.out _ (by first | rfl | simp only [World.size_alloc])).mono ?_
      rintro e w2 ⟨rfl,pp,kk⟩
      have P2:=qh pp
      have K2:=qh (K1.out.trans kk)
      have R2:=qh (kk.row3 R1.out hne)
      clear pp kk C1 n0 n1 n2
      obtain ⟨⟨n0,n1,n2⟩,_⟩:=R2.out.cells
      go_wp2_with fail
      refine (C2.out _ P2.out).mono ?_
      rintro e w3 ⟨rfl,pp,kk⟩
      have P3:=qh pp
      have K3:=qh (K2.out.trans kk)
      have R3:=qh (kk.row3 R2.out hne)
      clear pp kk C2 n0 n1 n2
      go_wp2
      go_end0
      exact ⟨rfl,by rw [HE.out];simpa only [List.append_assoc,bs_mk] using P3.out,K3.out⟩
     ·have m19:¬ k=19:=hc
      have hk19:((k:Int)==19)=false:=by rw [beq_eq_false_iff_ne];exact hc
      clear hc
      by_cases hc:k=20
      ·subst hc
       have hE:T=ow:=by rw [←hT,←how];rfl
       have HE:=qh hE
       have hlen2:=HL.out
       rw [hE] at hlen2
       have C1:=qh (fun w' (h:PrI w0 b l w') n (hn:n=w'.heap.size)=>put1 h n hn ⟨ow.toArray⟩ (by simp [bs];omega))
       clear how hT hE hlen hlen2 hk hka ht HL hsh hL
       obtain ⟨⟨n0,n1,n2⟩,_⟩:=R0.out.cells
       go_enter Tryz.func239,Tryz.ntmps239
       go_upto_region 1 with fail
       rw [HW.out]
       go_wp2_with fail
       refine (CO.out _ P0.out).mono ?_
       rintro e w1 ⟨rfl,bb⟩
       have P1:=qh (P0.out.later bb)
       have K1:=qh (K0.out.later bb P0.out.size)
       have R1:=qh (R0.out.below bb R0.out.lt)
       clear bb CO n0 n1 n2
       obtain ⟨⟨n0,n1,n2⟩,_⟩:=R1.out.cells
       go_wp2_with fail
       refine (C1.out _ P1.out _ (by first | rfl | simp only [World.size_alloc])).mono ?_
       rintro e w2 ⟨rfl,pp,kk⟩
       have P2:=qh pp
       have K2:=qh (K1.out.trans kk)
       have R2:=qh (kk.row3 R1.out hne)
       clear pp kk C1 n0 n1 n2
       go_wp2
       go_end0
       exact ⟨rfl,by rw [HE.out];simpa only [List.append_assoc,bs_mk] using P2.out,K2.out⟩
      ·have m20:¬ k=20:=hc
       have hk20:((k:Int)==20)=false:=by rw [beq_eq_false_iff_ne];exact hc
       clear hc
       by_cases hc:k=21
       ·subst hc
        have hE:T=ow:=by rw [←hT,←how];rfl
        have HE:=qh hE
        have hlen2:=HL.out
        rw [hE] at hlen2
        have C1:=qh (fun w' (h:PrI w0 b l w') n (hn:n=w'.heap.size)=>put1 h n hn ⟨ow.toArray⟩ (by simp [bs];omega))
        clear how hT hE hlen hlen2 hk hka ht HL hsh hL
        obtain ⟨⟨n0,n1,n2⟩,_⟩:=R0.out.cells
        go_enter Tryz.func239,Tryz.ntmps239
        go_upto_region 1 with fail
        rw [HW.out]
        go_wp2_with fail
        refine (CO.out _ P0.out).mono ?_
        rintro e w1 ⟨rfl,bb⟩
        have P1:=qh (P0.out.later bb)
        have K1:=qh (K0.out.later bb P0.out.size)
        have R1:=qh (R0.out.below bb R0.out.lt)
        clear bb CO n0 n1 n2
        obtain ⟨⟨n0,n1,n2⟩,_⟩:=R1.out.cells
        go_wp2_with fail
        refine (C1.out _ P1.out _ (by first | rfl | simp only [World.size_alloc])).mono ?_
        rintro e w2 ⟨rfl,pp,kk⟩
        have P2:=qh pp
        have K2:=qh (K1.out.trans kk)
        have R2:=qh (kk.row3 R1.out hne)
        clear pp kk C1 n0 n1 n2
        go_wp2
        go_end0
        exact ⟨rfl,by rw [HE.out];simpa only [List.append_assoc,bs_mk] using P2.out,K2.out⟩
       ·have m21:¬ k=21:=hc
        have hk21:((k:Int)==21)=false:=by rw [beq_eq_false_iff_ne];exact hc
        clear hc
        by_cases hc:k=29
        ·subst hc
         have j0:1≤L:=by simpa [shapeB] using hsh
         have i0:(0:Int) < (L:Int):=by omega
         obtain ⟨bb,o,k0',s0',l0',a0',c0',rfl,eK0,x00,x01,x02,r0⟩:=ht.kid 0 (by omega)
         simp only [Nat.zero_mul,Nat.add_zero] at x00 x01 x02
         have X0:=qh (And.intro x00 (And.intro x01 x02))
         obtain ⟨Y0,hY0⟩:∃ Y,(kl[0]'(by omega)).txt 5 more=Y:=⟨_,rfl⟩
         have hE:T=ow++Y0:=by
          rw [←hT,←how,←hY0,←kidF_at]
          rfl
         have HE:=qh hE
         have hlen2:=HL.out
         rw [hE] at hlen2
         simp only [List.length_append] at hlen2
         have C1:=qh (fun w' (h:PrI w0 b l w') n (hn:n=w'.heap.size)=>put1 h n hn ⟨ow.toArray⟩ (by simp [bs];omega))
         have C2:Hid (∀ (z:Int),z=((5:Nat):Int)→∀ w',PrI w0 b (l++bs ⟨ow.toArray⟩) w'→Calls Tryz.prog 203 #[.pointer (some ⟨b,0,none⟩),.agg #[.int .i64 k0',.string s0',.slice a0' l0'.length c0'],.int .i64 z,.bool more] w' (PrO w0 b (l++bs ⟨ow.toArray⟩) w' Y0)):=qh (fun z hz w' h=>by
          subst hz
          have hl9:List.length (l++bs ⟨ow.toArray⟩)+Y0.length≤100000000:=by (try simp [bs] at hlen2 ⊢);omega
          rw [←hY0] at hl9 ⊢
          exact hk 0 (by omega) _ _ _ (5) more _ w' (by omega) (eK0▸r0) h hl9)
         clear how hY0 hT hE hlen hlen2 hk hka ht HL hsh hL eK0 r0 x00 x01 x02
         obtain ⟨⟨n0,n1,n2⟩,_⟩:=R0.out.cells
         go_enter Tryz.func239,Tryz.ntmps239
         go_upto_region 1 with fail
         rw [HW.out]
         have y00:=P0.out.cell X0.out.1
         have y01:=P0.out.cell X0.out.2.1
         have y02:=P0.out.cell X0.out.2.2
         have yb0:=lt_of_cell y00
         go_wp2_with fail
         refine (CO.out _ P0.out).mono ?_
         rintro e w1 ⟨rfl,bb⟩
         have P1:=qh (P0.out.later bb)
         have K1:=qh (K0.out.later bb P0.out.size)
         have R1:=qh (R0.out.below bb R0.out.lt)
         clear bb CO n0 n1 n2 y00 y01 y02 yb0
         obtain ⟨⟨n0,n1,n2⟩,_⟩:=R1.out.cells
         have y00:=P1.out.cell X0.out.1
         have y01:=P1.out.cell X0.out.2.1
         have y02:=P1.out.cell X0.out.2.2
         have yb0:=lt_of_cell y00
         go_wp2_with fail
         refine (C1.out _ P1.out _ (by first | rfl | simp only [World.size_alloc])).mono ?_
         rintro e w2 ⟨rfl,pp,kk⟩
         have P2:=qh pp
         have K2:=qh (K1.out.trans kk)
         have R2:=qh (kk.row3 R1.out hne)
         clear pp kk C1 n0 n1 n2 y00 y01 y02 yb0
         obtain ⟨⟨n0,n1,n2⟩,_⟩:=R2.out.cells
         have y00:=P2.out.cell X0.out.1
         have y01:=P2.out.cell X0.out.2.1
         have y02:=P2.out.cell X0.out.2.2
         have yb0:=lt_of_cell y00
         go_wp2_with fail
         refine (C2.out _ (by first | rfl | (push_cast;rfl)) _ P2.out).mono ?_
         rintro e w3 ⟨rfl,pp,kk⟩
         have P3:=qh pp
         have K3:=qh (K2.out.trans kk)
         have R3:=qh (kk.row3 R2.out hne)
         clear pp kk C2 n0 n1 n2 y00 y01 y02 yb0
         go_wp2
         go_end0
         exact ⟨rfl,by rw [HE.out];simpa only [List.append_assoc,bs_mk] using P3.out,K3.out⟩
        ·have m29:¬ k=29:=hc
         have hk29:((k:Int)==29)=false:=by rw [beq_eq_false_iff_ne];exact hc
         clear hc
         by_cases hc:k=30
         ·subst hc
          have j0:1≤L:=by simpa [shapeB] using hsh
          have i0:(0:Int) < (L:Int):=by omega
          obtain ⟨bb,o,k0',s0',l0',a0',c0',rfl,eK0,x00,x01,x02,r0⟩:=ht.kid 0 (by omega)
          simp only [Nat.zero_mul,Nat.add_zero] at x00 x01 x02
          have X0:=qh (And.intro x00 (And.intro x01 x02))
          obtain ⟨Y0,hY0⟩:∃ Y,(kl[0]'(by omega)).txt 0 false=Y:=⟨_,rfl⟩
          have hE:T=ow++(Y0++[125]):=by
           rw [←hT,←how,←hY0,←kidF_at]
           rfl
          have HE:=qh hE
          have hlen2:=HL.out
          rw [hE] at hlen2
          simp only [List.length_append] at hlen2
          have C1:=qh (fun w' (h:PrI w0 b l w') n (hn:n=w'.heap.size)=>put1 h n hn ⟨ow.toArray⟩ (by simp [bs];omega))
          have C2:Hid (∀ (z:Int),z=((0:Nat):Int)→∀ w',PrI w0 b (l++bs ⟨ow.toArray⟩) w'→Calls Tryz.prog 203 #[.pointer (some ⟨b,0,none⟩),.agg #[.int .i64 k0',.string s0',.slice a0' l0'.length c0'],.int .i64 z,.bool false] w' (PrO w0 b (l++bs ⟨ow.toArray⟩) w' Y0)):=qh (fun z hz w' h=>by
           subst hz
           have hl9:List.length (l++bs ⟨ow.toArray⟩)+Y0.length≤100000000:=by (try simp [bs] at hlen2 ⊢);omega
           rw [←hY0] at hl9 ⊢
           exact hk 0 (by omega) _ _ _ (0) false _ w' (by omega) (eK0▸r0) h hl9)
          have C3:=qh (fun w' (h:PrI w0 b ((l++bs ⟨ow.toArray⟩)++Y0) w') n (hn:n=w'.heap.size)=>put1 h n hn ⟨#[125]⟩ (by simp [bs] at hlen2 ⊢;omega))
          clear how hY0 hT hE hlen hlen2 hk hka ht HL hsh hL eK0 r0 x00 x01 x02
          obtain ⟨⟨n0,n1,n2⟩,_⟩:=R0.out.cells
          go_enter Tryz.func239,Tryz.ntmps239
          go_upto_region 1 with fail
          rw [HW.out]
          have y00:=P0.out.cell X0.out.1
          have y01:=P0.out.cell X0.out.2.1
          have y02:=P0.out.cell X0.out.2.2
          have yb0:=lt_of_cell y00
          go_wp2_with fail
          refine (CO.out _ P0.out).mono ?_
          rintro e w1 ⟨rfl,bb⟩
          have P1:=qh (P0.out.later bb)
          have K1:=qh (K0.out.later bb P0.out.size)
          have R1:=qh (R0.out.below bb R0.out.lt)
          clear bb CO n0 n1 n2 y00 y01 y02 yb0
          obtain ⟨⟨n0,n1,n2⟩,_⟩:=R1.out.cells
          have y00:=P1.out.cell X0.out.1
          have y01:=P1.out.cell X0.out.2.1
          have y02:=P1.out.cell X0.out.2.2
          have yb0:=lt_of_cell y00
          go_wp2_with fail
          refine (C1.out _ P1.out _ (by first | rfl | simp only [World.size_alloc])).mono ?_
          rintro e w2 ⟨rfl,pp,kk⟩
          have P2:=qh pp
          have K2:=qh (K1.out.trans kk)
          have R2:=qh (kk.row3 R1.out hne)
          clear pp kk C1 n0 n1 n2 y00 y01 y02 yb0
          obtain ⟨⟨n0,n1,n2⟩,_⟩:=R2.out.cells
          have y00:=P2.out.cell X0.out.1
          have y01:=P2.out.cell X0.out.2.1
          have y02:=P2.out.cell X0.out.2.2
          have yb0:=lt_of_cell y00
          go_wp2_with fail
          refine (C2.out _ (by first | rfl | (push_cast;rfl)) _ P2.out).mono ?_
          rintro e w3 ⟨rfl,pp,kk⟩
          have P3:=qh pp
          have K3:=qh (K2.out.trans kk)
          have R3:=qh (kk.row3 R2.out hne)
          clear pp kk C2 n0 n1 n2 y00 y01 y02 yb0
          obtain ⟨⟨n0,n1,n2⟩,_⟩:=R3.out.cells
          have y00:=P3.out.cell X0.out.1
          have y01:=P3.out.cell X0.out.2.1
          have y02:=P3.out.cell X0.out.2.2
          have yb0:=lt_of_cell y00
          go_wp2_with fail
          refine (C3.out _ P3.out _ (by first | rfl | simp only [World.size_alloc])).mono ?_
          rintro e w4 ⟨rfl,pp,kk⟩
          have P4:=qh pp
          have K4:=qh (K3.out.trans kk)
          have R4:=qh (kk.row3 R3.out hne)
          clear pp kk C3 n0 n1 n2 y00 y01 y02 yb0
          go_wp2
          go_end0
          exact ⟨rfl,by rw [HE.out];simpa only [List.append_assoc,bs_mk] using P4.out,K4.out⟩
         ·have m30:¬ k=30:=hc
          have hk30:((k:Int)==30)=false:=by rw [beq_eq_false_iff_ne];exact hc
          clear hc
          have hkk:((22≤k∧k≤28)∨k=31)∧2≤L:=by
           simp only [shapeB,decide_eq_false m15,decide_eq_false m16,decide_eq_false m20,decide_eq_false m21,decide_eq_false m29,decide_eq_false m30,Bool.false_or,Bool.or_eq_true,Bool.and_eq_true,decide_eq_true_eq,Bool.false_and] at hsh
           omega
          obtain ⟨sg,bd,hop⟩:=opOf_some hkk.1
          have C1:Hid (∀ w',PrI w0 b l w'→Calls Tryz.prog 259 #[.pointer (some ⟨b,0,none⟩),.agg #[.int .i64 k,.string s,.slice a L cap],.bool more] w' (PrO w0 b l w' T)):=qh (fun w' h=>by
           refine binary_of k s kl (by rw [hL];exact hkk.2) sg bd hop hk _ _ _ more _ w' HN.out h T ?_ hlen
           rw [←hT]
           simp only [Nd.bare,bareF]
           rw [if_neg (by omega),if_neg m17,if_neg (by omega),if_neg (by omega),if_neg m29,if_neg m30]
           simp only [opBind,opSign,hop])
          clear CO how hT hlen hk hka ht HL hsh hL hop hkk m15 m16 m17 m18 m19 m20 m21 m29 m30
          obtain ⟨⟨n0,n1,n2⟩,_⟩:=R0.out.cells
          go_enter Tryz.func239,Tryz.ntmps239
          go_upto_region 1 with fail
          rw [HW.out]
          go_wp2_with fail
          refine (C1.out _ P0.out).mono ?_
          rintro e w1 ⟨rfl,pp,kk⟩
          have P1:=qh pp
          have K1:=qh (K0.out.trans kk)
          have R1:=qh (kk.row3 R0.out hne)
          clear pp kk C1 n0 n1 n2
          go_wp2
          go_end0
          exact ⟨rfl,P1.out,K1.out⟩
theorem printer_says {w0:World} {b:Nat}:∀ (N:Nat) (t:Nd),t.sz≤N→t.okP=true→SaysB w0 b t:=by
 intro N
 induction N with
 | zero =>
  rintro ⟨k,s,kl⟩ h
  simp only [Nd.sz] at h
  omega
 | succ N ih =>
  rintro ⟨k,s,kl⟩ h ho
  simp only [Nd.okP,Bool.and_eq_true] at ho
  have hB:∀ i (hi:i < kl.length),SaysB w0 b kl[i]:=fun i hi=>ih _ (by have:=Nd.kid_lt k s kl i hi;omega) (okL_get ho.2.2 i hi)
  exact bare_of k s kl ho.1 (fun i hi=>node_of (hB i hi)) (fun i hi=>argument_of (hB i hi))
theorem node_says {w0:World} {b:Nat} (t:Nd) (h:t.okP=true):SaysT w0 b t:=node_of (printer_says _ t (Nat.le_refl _) h)
end Go.Proofs.YtgjijidlaghlmaaGreatDoor
