/- Layer 2: SyntaxPlain, the given statement proved: for every tree that can be read as finite data, where the program's two tables are laid as its text lays them: the card's tie says that they are. -/
import Derived.Test.YtcimcjmdkjajfaaGreatDoorPkQa
import Derived.Test.YtcimcjmdkjajfaaGreatDoorPkQd
import Derived.Test.YtcimcjmdkjajfaaGreatDoorPkQe
import Derived.Shelf.Abstract
import Derived.Deep.RegionHeld3
import Derived.Test.YtcimcjmdkjajfaaGreatDoorRows
import Derived.Test.YtcimcjmdkjajfaaGreatDoorChecked
import Derived.ProofKit
import Derived.SizedLaws
import Derived.ReadAgain
import Derived.Below
import Derived.Deep.Slices
import Derived.Deep.Fields
import Derived.ChangeSame
import Derived.LaidMore
import Derived.OpenShut
import Derived.Stop.Joined
import Derived.Test.YtcimcjmdkjajfaaGreatDoorTie
import Derived.Test.YtcimcjmdkjajfaaGreatDoorCards
import Derived.SevenTiedAt
namespace Go.Proofs.YtcimcjmdkjajfaaGreatDoor
open Go.RowKit
set_option maxRecDepth 100000 in
set_option maxHeartbeats 2000000 in
theorem rSameN (n:Nat):∀ (t u:Nd) (w:World) (v0 v1 v2 u0 u1 u2:Value),t.sz≤n→NdR w t v0 v1 v2→NdR w u u0 u1 u2 →
  Calls Tryz.prog 20 #[.agg #[v0,v1,v2],.agg #[u0,u1,u2]] w fun e w'=>e = .returned (.bool (sameN t u))∧Below w.heap.size w w':=by
 induction n with
 | zero=>intro t u w v0 v1 v2 u0 u1 u2 h;cases t;simp only [Nd.sz] at h;omega
 | succ n ih =>
  intro t u w v0 v1 v2 u0 u1 u2 hsz ht hu
  obtain ⟨k,s,l,a,cap,rfl,rfl,rfl,rfl,hs,hl⟩:=ht.form
  obtain ⟨k',s',l',a',cap',rfl,rfl,rfl,rfl,hs',hl'⟩:=hu.form
  have IH:=qh ih
  clear ih
  unfold maxLen at hl hl'
  by_cases hk:k=k'
  ·subst hk
   have hk2:(k != k)=false:=by simp
   by_cases hse:s.toList=s'.toList
   ·have hs2:(s.toList != s'.toList)=false:=by rw [hse];simp
    have hs3:(!(s.toList==s'.toList))=false:=by rw [hse];simp
    by_cases hll:l.length=l'.length
    ·have hl2:((l.length:Int) != (l'.length:Int))=false:=by rw [hll];simp
     have HS:Hid (sameN (.mk k s l) (.mk k s' l')=sameL l l'):=qh (by simp only [sameN];rw [hse];simp)
     have HL:=qh hll
     have HT:=qh ht
     have HU:=qh hu
     have Hsz:Hid (∀ i,(h:i < l.length)→(l[i]).sz≤n):=qh fun i h=>by have:=Nd.kid_lt k s l i h;omega
     have hss:=qh hse
     clear hse hll ht hu hsz
     go_enter Tryz.func20,Tryz.ntmps20
     go_wp2
     obtain ⟨h,hh⟩:∃ h,w.heap.size=h:=⟨_,rfl⟩
     obtain ⟨wz,hwz⟩:∃ wz,(w.alloc (Obj.cells #[Value.int IntKind.i64 k,Value.string s,Value.slice a l.length cap] 24)).alloc (Obj.cells #[Value.int IntKind.i64 k,Value.string s',Value.slice a' l'.length cap'] 24)=wz:=⟨_,rfl⟩
     have hB:Hid (Below w.heap.size w wz):=qh (by rw [←hwz];exact ((Below.refl _ w).alloc (Nat.le_refl _) _).alloc (by simp) _)
     have hz:wz.heap.size=h+1+1:=by rw [←hwz];simp [hh]
     have g0:wz.cell? ⟨h,2,none⟩=some (.slice a l.length cap):=by
      rw [←hwz,←hh];exact (World.cell?_alloc_past _ _ _ (by simp)).trans ((World.cell?_alloc_at _ _ _ _ rfl).trans rfl)
     have g1:wz.cell? ⟨h+1,2,none⟩=some (.slice a' l'.length cap'):=by
      rw [←hwz,←hh];exact (World.cell?_alloc_at _ _ _ _ (by simp)).trans rfl
     have HG0:=qh g0
     have HG1:=qh g1
     have Hz:=qh hz
     have HTz:=qh (HT.out.later hB.out)
     have HUz:=qh (HU.out.later hB.out)
     rw [hwz,hh]
     clear hwz hh hz g0 g1 HT HU
     go_loopw [5] (fun v5 wr=>∃ i:Nat,i≤l.length∧v5 = .int .i64 i∧Hid (sameL l l'=sameL (l.drop i) (l'.drop i))∧Hid (Below wz.heap.size wz wr)) (fun v5 _=>l.length - (intOf v5).toNat)
     case atStart=>exact ⟨0,Nat.zero_le _,rfl,rfl,Below.refl _ _⟩
     case round =>
      obtain ⟨i,hi,rfl,hrun,hbl⟩:=hrel
      have g0:=(hbl.out.cell (p:=⟨h,2,none⟩) (by have:=Hz.out;simp only;omega)).trans HG0.out
      have g1:=(hbl.out.cell (p:=⟨h+1,2,none⟩) (by have:=Hz.out;simp only;omega)).trans HG1.out
      by_cases hlt:i < l.length
      ·have hlt':(i:Int) < (l.length:Int):=by omega
       have hi2:i < l'.length:=by have:=HL.out;omega
       have hlt2:(i:Int) < (l'.length:Int):=by omega
       have hi0:(0:Int)≤(i:Int):=by omega
       obtain ⟨b,o,k1,s1,l1,a1,c1,rfl,e1,x0,x1,x2,r1⟩:=(HTz.out.later hbl.out).kid i hlt
       obtain ⟨b',o',k2,s2,l2,a2,c2,rfl,e2,y0,y1,y2,r2⟩:=(HUz.out.later hbl.out).kid i hi2
       have Hst:=qh (sameL_step hlt hi2)
       have hsz1:=Hsz.out i hlt
       rw [e1] at hsz1
       rw [e1,e2] at Hst
       obtain ⟨V,hV⟩:∃ V,sameN (.mk k1 s1 l1) (.mk k2 s2 l2)=V:=⟨_,rfl⟩
       have C:=qh (fun w (h1:NdR w (.mk k1 s1 l1) _ _ _) (h2:NdR w (.mk k2 s2 l2) _ _ _)=>IH.out _ _ w (.int .i64 k1) (.string s1) (.slice a1 l1.length c1) (.int .i64 k2) (.string s2) (.slice a2 l2.length c2) hsz1 h1 h2)
       rw [hV] at C Hst
       have R1:=qh r1
       have R2:=qh r2
       have L0:=lt_of_cell g0
       have L1:=lt_of_cell g1
       have L2:=lt_of_cell x0
       have L3:=lt_of_cell y0
       clear e1 e2 hV r1 r2
       go_upto_region 6 with fail
       go_cut [45] (fun v wx=>v = .bool (!V)∧Hid (Below wz.heap.size wz wx))
       case first =>
        go_region_held3 (fun w'=>w'.cell? ⟨h,2,none⟩=some (.slice (some ⟨b,o,none⟩) l.length cap)∧w'.cell? ⟨h+1,2,none⟩=some (.slice (some ⟨b',o',none⟩) l'.length cap')∧w'.cell? ⟨b,o+i*3,none⟩=some (.int .i64 k1)∧w'.cell? ⟨b,o+i*3+1,none⟩=some (.string s1)∧w'.cell? ⟨b,o+i*3+2,none⟩=some (.slice a1 l1.length c1)∧w'.cell? ⟨b',o'+i*3,none⟩=some (.int .i64 k2)∧w'.cell? ⟨b',o'+i*3+1,none⟩=some (.string s2)∧w'.cell? ⟨b',o'+i*3+2,none⟩=some (.slice a2 l2.length c2))
         (first | exact ⟨g0,g1,x0,x1,x2,y0,y1,y2⟩ | exact ⟨(hb5.cell (p:=⟨h,2,none⟩) L0).trans g0,(hb5.cell (p:=⟨h+1,2,none⟩) L1).trans g1,(hb5.cell (p:=⟨b,o+i*3,none⟩) L2).trans x0,(hb5.cell (p:=⟨b,o+i*3+1,none⟩) L2).trans x1,(hb5.cell (p:=⟨b,o+i*3+2,none⟩) L2).trans x2,(hb5.cell (p:=⟨b',o'+i*3,none⟩) L3).trans y0,(hb5.cell (p:=⟨b',o'+i*3+1,none⟩) L3).trans y1,(hb5.cell (p:=⟨b',o'+i*3+2,none⟩) L3).trans y2⟩)
         ((go_at_call 20;refine (C.out _ (R1.out.later (Below.refl _ _).drew) (R2.out.later (Below.refl _ _).drew)).mono ?_;rintro e w5 ⟨rfl,hb5⟩))
        all_goals go_wp2
        all_goals go_meet
        all_goals exact ⟨rfl,qh (hbl.out.drew.trans (hb5.mono hbl.out.size))⟩
       case rest =>
        obtain ⟨rfl,hbx⟩:=hcut
        clear C R1 R2 g0 g1 x0 x1 x2 y0 y1 y2
        cases V with
        | false =>
         go_wp2
         go_ret
         exact ⟨by rw [HS.out,hrun.out,Hst.out];rfl,hB.out.trans (hbx.out.mono hB.out.size)⟩
        | true =>
         go_wp2
         go_roundw
         case rel=>exact ⟨i+1,hlt,by push_cast;rfl,qh (by rw [hrun.out,Hst.out];rfl),hbx⟩
         case measure=>simp [intOf];omega
      ·have hlt':¬ ((i:Int) < (l.length:Int)):=by omega
       go_wp2
       go_ret
       exact ⟨by rw [HS.out,hrun.out,sameL_end (by omega) (by have:=HL.out;omega)];rfl,hB.out.trans (hbl.out.mono hB.out.size)⟩
    ·have hl2:((l.length:Int) != (l'.length:Int))=true:=by rw [bne_iff_ne];omega
     have HS:Hid (sameN (.mk k s l) (.mk k s' l')=false):=qh (by simp only [sameN];rw [sameL_len l l' hll,Bool.and_false])
     have hss:=qh hse
     clear hse hll ht hu
     go_enter Tryz.func20,Tryz.ntmps20
     go_wp2
     go_ret
     exact ⟨by rw [HS.out];rfl,((Below.refl _ w).alloc (Nat.le_refl _) _).alloc (by simp) _⟩
   ·have hs2:(s.toList==s'.toList)=false:=by rw [beq_eq_false_iff_ne];exact hse
    have HS:Hid (sameN (.mk k s l) (.mk k s' l')=false):=qh (by simp only [sameN];rw [hs2,Bool.and_false];rfl)
    have hs3:(s=s')=False:=eq_false (by rintro rfl;exact hse rfl)
    clear hse ht hu
    go_enter Tryz.func20,Tryz.ntmps20
    go_wp2
    go_ret
    exact ⟨by rw [HS.out];rfl,((Below.refl _ w).alloc (Nat.le_refl _) _).alloc (by simp) _⟩
  ·have hk2:(k != k')=true:=by rw [bne_iff_ne];exact hk
   have HS:Hid (sameN (.mk k s l) (.mk k' s' l')=false):=qh (by simp only [sameN];rw [show (k==k')=false from by rw [beq_eq_false_iff_ne];exact hk];rfl)
   clear hk ht hu
   go_enter Tryz.func20,Tryz.ntmps20
   go_wp2
   go_ret
   exact ⟨by rw [HS.out];rfl,((Below.refl _ w).alloc (Nat.le_refl _) _).alloc (by simp) _⟩
end Go.Proofs.YtcimcjmdkjajfaaGreatDoor
namespace Go.Proofs.YtcimcjmdkjajfaaGreatDoor
open Go.RowKit
theorem item_of {w0:World} {b:Nat} {t:Nd} (h:t.okI) (v0 v1 v2:Value) (l:Tx) (w:World) (ht:NdR w0 t v0 v1 v2) (hp:PrI w0 b l w) (hlen:l.length+t.itm.length≤100000000) :
  Calls Tryz.prog 193 #[.pointer (some ⟨b,0,none⟩),.agg #[v0,v1,v2]] w (PrO w0 b l w t.itm):=by
 obtain ⟨k,s,kl⟩:=t
 exact item_says k s kl h.2.1 (fun i hi=>node_says _ (okL_get h.2.2 i hi)) v0 v1 v2 l w ht hp hlen
set_option maxRecDepth 100000 in
set_option maxHeartbeats 2000000 in
theorem whole_says {w0:World} {b:Nat} (t:Nd) (hok:t.okW) (v0 v1 v2:Value) (l:Tx) (w:World) (ht:NdR w0 t v0 v1 v2) (hp:PrI w0 b l w)
  (hlen:l.length+t.whl.length≤100000000):Calls Tryz.prog 147 #[.pointer (some ⟨b,0,none⟩),.agg #[v0,v1,v2]] w (PrO w0 b l w t.whl):=by
 obtain ⟨k,s,kl⟩:=t
 obtain ⟨_,_,_,a,cap,hform,rfl,rfl,rfl,hs,hl⟩:=ht.form
 cases hform
 obtain ⟨L,hL⟩:∃ L,kl.length=L:=⟨_,rfl⟩
 rw [hL] at ht hl
 rw [hL]
 obtain ⟨W,hW⟩:∃ W,w.alloc (.cells #[.int .i64 k,.string s,.slice a L cap] 24)=W:=⟨_,rfl⟩
 have R0':Row3 W w.heap.size (.int .i64 k) (.string s) (.slice a L cap):=by rw [←hW];exact Row3.new _ _ _ _
 have P0:=qh (hW▸hp.alloc (.cells #[.int .i64 k,.string s,.slice a L cap] 24))
 have K0:=qh (hW▸(Wr.refl w0.heap.size b w).alloc hp.size (.cells #[.int .i64 k,.string s,.slice a L cap] 24))
 have hne:w.heap.size≠b:=by have:=hp.p.lt;omega
 have HN:=qh ht
 have HL:=qh hlen
 unfold maxLen at hl
 obtain ⟨T,hT⟩:∃ T,(Nd.mk k s kl).whl=T:=⟨_,rfl⟩
 rw [hT] at HL hlen
 rw [hT]
 have HW:=qh hW
 have R0:=qh R0'
 have HLL:=qh hL
 clear hW R0' hp
 have hok':if k=1 then ∀ x∈kl,x.okI else if itemB (.mk k s kl)=true then (Nd.mk k s kl).okI else (Nd.mk k s kl).okP=true:=hok
 by_cases hk:k=1
 ·subst hk
  rw [if_pos rfl] at hok'
  have hXE:T=kl.flatMap fun x=>x.itm++[10]:=hT.symm
  have HXE:=qh hXE
  have HLen:=HL
  rw [hXE] at HLen
  have HK:=qh hok'
  clear hXE hT hlen hok hok' ht hL
  obtain ⟨⟨n0,n1,n2⟩,_⟩:=R0.out.cells
  go_enter Tryz.func147,Tryz.ntmps147
  go_upto_region 1 with fail
  rw [HW.out]
  go_wp2
  go_loopw [16] (fun v wr=>∃ i:Nat,i≤L∧v = .int .i64 i∧Hid (PrI w0 b (l++(kl.take i).flatMap fun x=>x.itm++[10]) wr)∧Hid (Wr w0.heap.size b w wr)) (fun v _=>L - (intOf v).toNat)
  case atStart=>exact ⟨0,Nat.zero_le _,rfl,qh (by simpa using P0.out),K0⟩
  case round =>
   obtain ⟨i,hi,rfl,PI,KI⟩:=hrel
   by_cases hlt:i < L
   ·have hlt':(i:Int) < (L:Int):=by omega
    have hi0:(0:Int)≤(i:Int):=by omega
    have hik:i < kl.length:=by rw [HLL.out];exact hlt
    have hm1:(i:Int)+1≤(L:Int):=by omega
    obtain ⟨bb,o,k1,s1,l1,a1,c1,rfl,e1,x0,x1,x2,r1⟩:=HN.out.kid i hik
    have y0:=PI.out.cell x0
    have y1:=PI.out.cell x1
    have y2:=PI.out.cell x2
    have yb:=lt_of_cell y0
    have hG:(kl.take (i+1)).flatMap (fun x=>x.itm++[10])=(kl.take i).flatMap (fun x=>x.itm++[10])++((kl[i]).itm++[10]):=by
     rw [List.take_succ_eq_append_getElem hik,List.flatMap_append]
     simp
    have hGl:((kl.take (i+1)).flatMap (fun x=>x.itm++[10])).length≤(kl.flatMap (fun x=>x.itm++[10])).length:=by
     conv=>rhs;rw [←List.take_append_drop (i+1) kl]
     rw [List.flatMap_append,List.length_append]
     omega
    have hlen3:=HLen.out
    rw [hG] at hGl
    simp only [List.length_append,List.length_cons,List.length_nil] at hGl
    generalize hU:(kl.take i).flatMap (fun x=>x.itm++[10])=U at *
    have hki:(kl[i]).okI:=HK.out _ (List.getElem_mem hik)
    obtain ⟨A,hA⟩:∃ A,(kl[i]).itm=A:=⟨_,rfl⟩
    rw [hA] at hG hGl
    have HG:=qh hG
    have CP:=qh (fun w' (h:PrI w0 b ((l++U)++A) w') n (hn:n=w'.heap.size)=>put1 h n hn ⟨#[10]⟩ (by have h1:(bs ⟨#[10]⟩).length=1:=rfl;simp only [List.length_append];omega))
    have CA:Hid (∀ w',PrI w0 b (l++U) w'→Calls Tryz.prog 193 #[.pointer (some ⟨b,0,none⟩),.agg #[.int .i64 k1,.string s1,.slice a1 l1.length c1]] w' (PrO w0 b (l++U) w' A)):=qh (fun w' h=>by
     have hl9:List.length (l++U)+A.length≤100000000:=by simp only [List.length_append];omega
     rw [←hA] at hl9 ⊢
     exact item_of hki _ _ _ _ w' (e1▸r1) h hl9)
    have PN:=qh (PI.out.alloc (.cells #[.int .i64 k1,.string s1,.slice a1 l1.length c1] 24))
    have KN:=qh (KI.out.alloc PI.out.size (.cells #[.int .i64 k1,.string s1,.slice a1 l1.length c1] 24))
    have hnn:wr.heap.size≠b:=by have:=PI.out.p.lt;omega
    clear hU hA hG hGl hlen3 x0 x1 x2 r1 e1 hik n0 n1 n2 hki
    go_wp2_with fail
    refine (CA.out _ PN.out).mono ?_
    rintro e w5 ⟨rfl,pp,kk⟩
    have P5:=qh pp
    have K5:=qh (KN.out.trans kk)
    clear pp kk CA y0 y1 y2 yb
    go_wp2_with fail
    refine (CP.out _ P5.out _ (by first | rfl | simp only [World.size_alloc])).mono ?_
    rintro e w6 ⟨rfl,pp,kk⟩
    have P6:Hid (PrI w0 b (l++(kl.take (i+1)).flatMap fun x=>x.itm++[10]) w6):=qh (by rw [HG.out];simpa only [List.append_assoc,bs_mk] using pp)
    have K6:=qh (K5.out.trans kk)
    clear pp kk CP
    go_wp2
    go_roundw
    case rel=>exact ⟨i+1,hlt,by push_cast;rfl,P6,K6⟩
    case measure=>simp [intOf];omega
   ·have hlt':¬ ((i:Int) < (L:Int)):=by omega
    have hG:kl.take i=kl:=List.take_of_length_le (by rw [HLL.out];omega)
    have P9:=qh (show PrI w0 b (l++T) wr by rw [HXE.out];have hh:=PI.out;rwa [hG] at hh)
    clear hG n0 n1 n2
    go_wp2
    go_end0
    exact ⟨rfl,P9.out,KI.out⟩
 ·have hk1:((k:Int)==1)=false:=by rw [beq_eq_false_iff_ne];exact hk
  rw [if_neg hk] at hok'
  obtain ⟨V,hV⟩:∃ V,itemB (.mk k s kl)=V:=⟨_,rfl⟩
  have CI:=qh (fun w' (h:PrI w0 b l w')=>isItem_any (.mk k s kl) w' _ _ _ (h.tree HN.out))
  rw [hV] at CI hok'
  cases V with
  | true =>
   rw [if_pos rfl] at hok'
   have hT2:(Nd.mk k s kl).itm=T:=by rw [←hT,Nd.whl,if_neg hk,if_pos hV]
   have C1:Hid (∀ w',PrI w0 b l w'→Calls Tryz.prog 193 #[.pointer (some ⟨b,0,none⟩),.agg #[.int .i64 k,.string s,.slice a L cap]] w' (PrO w0 b l w' T)):=qh (fun w' h=>by
    rw [←hT2] at hlen ⊢
    exact item_of hok' _ _ _ _ w' HN.out h hlen)
   clear hT hT2 hlen hok hok' ht hL hV hk HL
   obtain ⟨⟨n0,n1,n2⟩,_⟩:=R0.out.cells
   go_enter Tryz.func147,Tryz.ntmps147
   go_upto_region 1 with fail
   rw [HW.out]
   go_wp2_with fail
   refine (CI.out _ P0.out).mono ?_
   rintro e w1 ⟨rfl,bb⟩
   have P1:=qh (P0.out.later bb)
   have K1:=qh (K0.out.later bb P0.out.size)
   have R1:=qh (R0.out.below bb R0.out.lt)
   clear bb CI n0 n1 n2
   obtain ⟨⟨n0,n1,n2⟩,_⟩:=R1.out.cells
   go_wp2_with fail
   refine (C1.out _ P1.out).mono ?_
   rintro e w2 ⟨rfl,pp,kk⟩
   have P2:=qh pp
   have K2:=qh (K1.out.trans kk)
   have R2:=qh (kk.row3 R1.out hne)
   clear pp kk C1 n0 n1 n2
   go_wp2
   go_end0
   exact ⟨rfl,P2.out,K2.out⟩
  | false =>
   rw [if_neg (by decide)] at hok'
   have hT2:(Nd.mk k s kl).txt 0 false=T:=by rw [←hT,Nd.whl,if_neg hk,if_neg (by rw [hV];decide)]
   have C1:Hid (∀ (z:Int),z=((0:Nat):Int)→∀ w',PrI w0 b l w'→Calls Tryz.prog 195 #[.pointer (some ⟨b,0,none⟩),.agg #[.int .i64 k,.string s,.slice a L cap],.int .i64 z,.bool false] w' (PrO w0 b l w' T)):=qh (fun z hz w' h=>by
    subst hz
    rw [←hT2] at hlen ⊢
    exact node_says _ hok' _ _ _ 0 false _ w' (by decide) HN.out h hlen)
   clear hT hT2 hlen hok hok' ht hL hV hk HL
   obtain ⟨⟨n0,n1,n2⟩,_⟩:=R0.out.cells
   go_enter Tryz.func147,Tryz.ntmps147
   go_upto_region 1 with fail
   rw [HW.out]
   go_wp2_with fail
   refine (CI.out _ P0.out).mono ?_
   rintro e w1 ⟨rfl,bb⟩
   have P1:=qh (P0.out.later bb)
   have K1:=qh (K0.out.later bb P0.out.size)
   have R1:=qh (R0.out.below bb R0.out.lt)
   clear bb CI n0 n1 n2
   obtain ⟨⟨n0,n1,n2⟩,_⟩:=R1.out.cells
   go_wp2_with fail
   refine (C1.out _ (by first | rfl | (push_cast;rfl)) _ P1.out).mono ?_
   rintro e w2 ⟨rfl,pp,kk⟩
   have P2:=qh pp
   have K2:=qh (K1.out.trans kk)
   have R2:=qh (kk.row3 R1.out hne)
   clear pp kk C1 n0 n1 n2
   go_wp2
   go_end0
   exact ⟨rfl,P2.out,K2.out⟩
theorem pNew (w:World) (b:Nat) (hb:b=w.heap.size):PrW b b [] (w.alloc (.cells #[.pointer none,.slice none 0 0] 152)):=by
 subst hb
 exact .inl ⟨Nat.le_refl _,_,World.alloc_heap_new w _,World.ownsRow_nil _ _ _ _,by simp [Value.ownBlock]⟩
set_option maxRecDepth 100000 in
set_option maxHeartbeats 2000000 in
theorem canonical_any (t:Nd) (hv:chkN t=0) (v0 v1 v2:Value) (w:World) (ht:NdR w t v0 v1 v2) (hg:GLw w) (h2:2≤w.heap.size) :
  Calls Tryz.prog 99 #[.agg #[v0,v1,v2]] w fun e w'=>e = .returned (S_ t.whl)∧Below w.heap.size w w':=by
 obtain ⟨hok,hsz⟩:=valid_ok hv
 have hlen:=whl_len hok
 obtain ⟨k,s,kl,a,cap,rfl,rfl,rfl,rfl,hs,hl⟩:=ht.form
 obtain ⟨W,hW⟩:∃ W,w.alloc (.cells #[.int .i64 k,.string s,.slice a kl.length cap] 24)=W:=⟨_,rfl⟩
 have hb0:=(Below.refl w.heap.size w).alloc (Nat.le_refl _) (.cells #[.int .i64 k,.string s,.slice a kl.length cap] 24)
 have hsW:W.heap.size=w.heap.size+1:=by rw [←hW];simp
 have R0:Row3 W w.heap.size (.int .i64 k) (.string s) (.slice a kl.length cap):=by rw [←hW];exact Row3.new _ _ _ _
 rw [hW] at hb0
 have gW:=hg.keep fun b hb hl=>hb0.block b hl
 have tW:=ht.later hb0
 have hp0:PrI W W.heap.size [] (W.alloc (.cells #[.pointer none,.slice none 0 0] 152)):=⟨pNew W _ rfl,(Below.refl W.heap.size W).alloc (Nat.le_refl _) _,gW,by omega⟩
 obtain ⟨T,hT⟩:∃ T,(Nd.mk k s kl).whl=T:=⟨_,rfl⟩
 have CW:Hid (∀ (z:Nat),z=W.heap.size→Calls Tryz.prog 147 #[.pointer (some ⟨z,0,none⟩),.agg #[.int .i64 k,.string s,.slice a kl.length cap]] (W.alloc (.cells #[.pointer none,.slice none 0 0] 152)) (PrO W W.heap.size [] (W.alloc (.cells #[.pointer none,.slice none 0 0] 152)) T)):=qh (fun z hz=>by
  subst hz
  rw [←hT]
  exact whole_says (.mk k s kl) hok _ _ _ [] _ tW hp0 (by simp only [List.length_nil];omega))
 rw [hT]
 have HB:=qh hb0
 have HW:=qh hW
 have R1:=qh (R0.alloc (.cells #[.pointer none,.slice none 0 0] 152))
 obtain ⟨⟨n0,n1,n2⟩,_⟩:=R1.out.cells
 have HS:=qh hsW
 have HP0:=qh hp0
 obtain ⟨B,hB⟩:∃ B,W.heap.size=B:=⟨_,rfl⟩
 have HBs:=qh hB
 clear hT hlen hok hv ht hg hW hb0 gW tW hp0 R0 hsW hsz hB
 go_enter Tryz.func99,Tryz.ntmps99
 go_upto_region 1 with fail
 rw [HW.out]
 go_wp2_with fail
 refine (CW.out _ (by first | rfl | simp only [World.size_alloc])).mono ?_
 rintro e w5 ⟨rfl,pp,kk⟩
 have P5:=qh pp
 rw [List.nil_append] at P5
 have CS:=qh (pString_any W.heap.size W.heap.size T w5 P5.out.p P5.out.size)
 obtain ⟨z0,hz0⟩:∃ v,w5.cell? ⟨W.heap.size,0,none⟩=some v:=by
  rcases P5.out.p with h | h <;> exact ⟨_,h.cell0⟩
 clear pp kk CW n0 n1 n2
 go_wp2_with fail
 refine CS.out.mono ?_
 rintro e w6 ⟨rfl,hb⟩
 unfold S_
 go_wp2
 go_ret
 exact ⟨rfl,HB.out.trans ((P5.out.bl.trans hb).mono (by have:=HS.out;omega))⟩
set_option maxRecDepth 100000 in
set_option maxHeartbeats 2000000 in
theorem limited_any (s:ByteArray) (w:World) (hs:s.size≤maxLen) :
  Calls Tryz.prog 98 #[.string s] w fun e w'=>e = .returned (match Lx.scan (bs s) with | .toks _=>.tuple #[.string s,.int .i64 0] | .bad _ _=>.tuple #[.string ⟨#[]⟩,.int .i64 2])∧Below w.heap.size w w':=by
 cases hl:Lx.scan (bs s) with
 | bad i er =>
  have C:=qh (scan_bads2 s i er hl w hs)
  have her:((er:Int) != 0)=true:=by
   have:=scan_err hl
   rw [bne_iff_ne]
   omega
  clear hl
  go_enter Tryz.func98,Tryz.ntmps98
  go_wp2_with fail
  refine C.out.mono ?_
  rintro e w1 ⟨rfl,hb⟩
  have HB:=qh hb
  clear hb C
  go_wp2
  go_ret2
  exact ⟨rfl,HB.out⟩
 | toks ts =>
  have C:=qh (scan_any s w hs)
  unfold ScanOut at C
  rw [hl] at C
  clear hl
  go_enter Tryz.func98,Tryz.ntmps98
  go_wp2_with fail
  refine C.out.mono ?_
  rintro e w1 ⟨hb,v,rfl,_⟩
  have HB:=qh hb
  clear hb C
  go_wp2
  go_ret2
  exact ⟨rfl,HB.out⟩
def printP (t:Nd):Tx×Int:=if chkN t=0 then (match Lx.scan t.whl with | .toks _=>(t.whl,0) | .bad _ _=>([],2)) else ([],chkN t)
set_option maxRecDepth 100000 in
set_option maxHeartbeats 2000000 in
theorem Print_any (t:Nd) (v0 v1 v2:Value) (w:World) (ht:NdR w t v0 v1 v2) (hg:GLw w) (h2:2≤w.heap.size) :
  Calls Tryz.prog 47 #[.agg #[v0,v1,v2]] w fun e w'=>e = .returned (.tuple #[S_ (printP t).1,.int .i64 (printP t).2])∧Below w.heap.size w w':=by
 obtain ⟨k,s,kl,a,cap,rfl,rfl,rfl,rfl,hs,hl⟩:=ht.form
 obtain ⟨W,hW⟩:∃ W,w.alloc (.cells #[.int .i64 k,.string s,.slice a kl.length cap] 24)=W:=⟨_,rfl⟩
 have hb0:=(Below.refl w.heap.size w).alloc (Nat.le_refl _) (.cells #[.int .i64 k,.string s,.slice a kl.length cap] 24)
 have R0:Row3 W w.heap.size (.int .i64 k) (.string s) (.slice a kl.length cap):=by rw [←hW];exact Row3.new _ _ _ _
 rw [hW] at hb0
 have gW:=hg.keep fun b hb hl=>hb0.block b hl
 have tW:=ht.later hb0
 have hsW:W.heap.size=w.heap.size+1:=by rw [←hW];simp
 have CC:=qh (check_tree (.mk k s kl) W _ _ _ tW)
 obtain ⟨c,hc⟩:∃ c,chkN (.mk k s kl)=c:=⟨_,rfl⟩
 obtain ⟨r,hr⟩:∃ r,printP (.mk k s kl)=r:=⟨_,rfl⟩
 rw [hr]
 unfold printP at hr
 rw [hc] at CC hr
 have HB:=qh hb0
 have HW:=qh hW
 have HR:=qh R0
 have HS:=qh hsW
 have GW:=qh gW
 have TW:=qh tW
 by_cases h0:c=0
 ·subst h0
  rw [if_pos rfl] at hr
  obtain ⟨hok,hsz⟩:=valid_ok hc
  have hlen:=whl_len hok
  have CP:=qh (fun w' (hb:Below W.heap.size W w')=>canonical_any (.mk k s kl) hc _ _ _ w' (TW.out.later hb) (GW.out.keep fun b h1 h3=>hb.block b h3) (by have:=hb.size;have:=HS.out;omega))
  obtain ⟨T,hT⟩:∃ T,(Nd.mk k s kl).whl=T:=⟨_,rfl⟩
  rw [hT] at CP hr hlen
  have CL:=qh (fun w'=>limited_any ⟨T.toArray⟩ w' (by show T.toArray.size≤maxLen;unfold maxLen;simp;omega))
  have hq:∃ q,(match Lx.scan (bs ⟨T.toArray⟩) with | .toks _=>Value.tuple #[.string ⟨T.toArray⟩,.int .i64 0] | .bad _ _=>.tuple #[.string ⟨#[]⟩,.int .i64 2]) = .tuple #[.string ⟨r.1.toArray⟩,.int .i64 r.2]:=⟨0,by
   rw [←hr,bs_mk]
   cases Lx.scan T <;> rfl⟩
  obtain ⟨_,hq⟩:=hq
  simp only [hq] at CL
  obtain ⟨⟨n0,n1,n2⟩,_⟩:=R0.cells
  unfold S_ at CP
  unfold S_
  obtain ⟨r1,r2⟩:=r
  simp only at CL ⊢
  clear hT hlen hok hc hr ht hg hW hb0 gW tW R0 hsW hsz hq
  go_enter Tryz.func47,Tryz.ntmps47
  go_upto_region 1 with fail
  rw [HW.out]
  go_wp2_with fail
  refine CC.out.mono ?_
  rintro e w1 ⟨rfl,hb⟩
  have B1:=qh hb
  have R1:=qh (HR.out.below hb HR.out.lt)
  clear hb CC n0 n1 n2
  obtain ⟨⟨n0,n1,n2⟩,_⟩:=R1.out.cells
  go_wp2_with fail
  refine (CP.out _ B1.out).mono ?_
  rintro e w2 ⟨rfl,hb⟩
  have B2:=qh (B1.out.trans (hb.mono B1.out.size))
  clear hb CP n0 n1 n2
  go_wp2_with fail
  refine (CL.out _).mono ?_
  rintro e w3 ⟨rfl,hb⟩
  have B3:=qh (B2.out.trans (hb.mono B2.out.size))
  clear hb CL
  go_wp2
  go_ret2
  exact ⟨rfl,HB.out.trans (B3.out.mono (by have:=HS.out;omega))⟩
 ·rw [if_neg h0] at hr
  have hc0:((c:Int)==0)=false:=by rw [beq_eq_false_iff_ne];exact h0
  have hc1:((c:Int) != 0)=true:=by rw [bne_iff_ne];exact h0
  subst hr
  obtain ⟨⟨n0,n1,n2⟩,_⟩:=R0.cells
  clear hc ht hg hW hb0 gW tW R0 hsW h0
  go_enter Tryz.func47,Tryz.ntmps47
  go_upto_region 1 with fail
  rw [HW.out]
  go_wp2_with fail
  refine CC.out.mono ?_
  rintro e w1 ⟨rfl,hb⟩
  have B1:=qh hb
  clear hb CC n0 n1 n2
  go_wp2
  go_ret2
  exact ⟨rfl,HB.out.trans (B1.out.mono (by have:=HS.out;omega))⟩
end Go.Proofs.YtcimcjmdkjajfaaGreatDoor
namespace Go.Proofs.YtcimcjmdkjajfaaGreatDoor
def nm_ (c:UInt8):Nd:=.mk 15 ⟨#[c]⟩ []
def tree1:Nd:=.mk 25 ⟨#[]⟩ [nm_ 97,.mk 23 ⟨#[]⟩ [.mk 22 ⟨#[]⟩ [nm_ 98,nm_ 99],nm_ 100]]
def tree2:Nd:=.mk 27 ⟨#[]⟩ [.mk 27 ⟨#[]⟩ [nm_ 97,.mk 28 ⟨#[]⟩ [nm_ 98,nm_ 99]],nm_ 100]
def tree3:Nd:=.mk 22 ⟨#[]⟩ [.mk 29 ⟨#[]⟩ [.mk 18 ⟨#[120]⟩ [.mk 15 ⟨#[112]⟩ [nm_ 120]]],nm_ 113]
def varX:Nd:=.mk 16 ⟨#[88]⟩ []
def tree6:Nd:=.mk 1 ⟨#[]⟩ [.mk 4 ⟨#[112]⟩ [nm_ 105,.mk 31 ⟨#[]⟩ [nm_ 105,nm_ 105]],.mk 8 ⟨#[114]⟩ [.mk 27 ⟨#[]⟩ [.mk 15 ⟨#[112]⟩ [varX],.mk 15 ⟨#[113]⟩ [varX]]]]
abbrev txt1:ByteArray:={ data:=#[97,32,45,111,32,98,32,42,32,99,32,38,32,100] }
abbrev txt2:ByteArray:={ data:=#[97,32,111,45,32,40,98,32,60,61,32,99,41,32,111,45,32,40,40,100,41,41] }
abbrev txt4:ByteArray:={ data:=#[97,32,45,111] }
abbrev txt5:ByteArray:={ data:=#[97,32,41,32,98] }
abbrev txt6:ByteArray:={ data:=#[112,114,101,100,32,112,32,105,32,40,105,32,45,62,32,105,41,46,32,114,117,108,101,32,114,58,32,112,32,88,32,111,45,32,113,32,88,46] }
theorem parse1:parseP (bs txt1) 18=(some tree1,0,0):=by kernel_rfl
theorem parse2:parseP (bs txt2) 18=(some tree2,0,0):=by kernel_rfl
theorem parse4:parseP (bs txt4) 18=(none,4,20):=by kernel_rfl
theorem parse5:parseP (bs txt5) 18=(none,2,20):=by kernel_rfl
theorem parse6:parseP (bs txt6) 1=(some tree6,0,0):=by kernel_rfl
abbrev out2:ByteArray:={ data:=#[97,32,111,45,32,40,98,32,60,61,32,99,41,32,111,45,32,100] }
abbrev out3:ByteArray:={ data:=#[33,40,97,108,108,32,120,46,32,112,32,120,41,32,42,32,113] }
abbrev out6:ByteArray:={ data:=#[112,114,101,100,32,112,32,105,32,40,105,32,45,62,32,105,41,46,10,114,117,108,101,32,114,58,32,112,32,88,32,111,45,32,113,32,88,46,10] }
theorem print1:printP tree1=(bs txt1,0):=by kernel_rfl
theorem print2:printP tree2=(bs out2,0):=by kernel_rfl
theorem print3:printP tree3=(bs out3,0):=by kernel_rfl
theorem print6:printP tree6=(bs out6,0):=by kernel_rfl
theorem vars6:occs 16 (preN 0 [] false tree6)=[⟨#[88]⟩]:=by kernel_rfl
theorem valid6:chkN tree6=0:=by kernel_rfl
end Go.Proofs.YtcimcjmdkjajfaaGreatDoor
namespace Go.Proofs.YtcimcjmdkjajfaaGreatDoor
open Go.RowKit Go.Shelf
set_option maxRecDepth 100000 in
set_option maxHeartbeats 2000000 in
theorem equalFunc_any (g:Nat) (eg:∀ args w,(callFunc g args).run Tryz.prog w = .ok (.enter g args) w) (k k':Int) (s s':ByteArray) (l m:List Nd) (w:World) (a a':Option Addr) (cap cap':Nat)
  (ht:NdR w (.mk k s l) (.int .i64 k) (.string s) (.slice a l.length cap)) (hu:NdR w (.mk k' s' m) (.int .i64 k') (.string s') (.slice a' m.length cap')) (hl:l.length≤maxLen) (_hm:m.length≤maxLen)
  (C:∀ i,(h:i < l.length)→(h2:i < m.length)→∀ (w:World) (v0 v1 v2 u0 u1 u2:Value),NdR w l[i] v0 v1 v2→NdR w m[i] u0 u1 u2→Calls Tryz.prog g #[.agg #[v0,v1,v2],.agg #[u0,u1,u2]] w fun e w'=>e = .returned (.bool (sameN l[i] m[i]))∧Below w.heap.size w w') :
  Calls Tryz.prog 69 #[.slice a l.length cap,.slice a' m.length cap',.func (.func g) #[] #[]] w fun e w'=>e = .returned (.bool (sameL l m))∧Below w.heap.size w w':=by
 unfold maxLen at hl
 have CC:=qh C
 clear C
 by_cases hll:l.length=m.length
 ·have hl2:((l.length:Int) != (m.length:Int))=false:=by rw [hll];simp
  have HL:=qh hll
  have HT:=qh ht
  have HU:=qh hu
  clear hll ht hu
  go_enter Tryz.func69,Tryz.ntmps69
  go_wp2
  go_loopw [17] (fun v wr=>∃ i:Nat,i≤l.length∧v = .int .i64 i∧Hid (sameL l m=sameL (l.drop i) (m.drop i))∧Hid (Below w.heap.size w wr)) (fun v _=>l.length - (intOf v).toNat)
  case atStart=>exact ⟨0,Nat.zero_le _,rfl,rfl,Below.refl _ _⟩
  case round =>
   obtain ⟨i,hi,rfl,hrun,hbl⟩:=hrel
   by_cases hlt:i < l.length
   ·have hlt':(i:Int) < (l.length:Int):=by omega
    have hi2:i < m.length:=by have:=HL.out;omega
    have hlt2:(i:Int) < (m.length:Int):=by omega
    have hi0:(0:Int)≤(i:Int):=by omega
    obtain ⟨b,o,k1,s1,l1,a1,c1,rfl,e1,x0,x1,x2,r1⟩:=(HT.out.later hbl.out).kid i hlt
    obtain ⟨b',o',k2,s2,l2,a2,c2,rfl,e2,y0,y1,y2,r2⟩:=(HU.out.later hbl.out).kid i hi2
    have Hst:=qh (sameL_step hlt hi2)
    obtain ⟨V,hV⟩:∃ V,sameN l[i] m[i]=V:=⟨_,rfl⟩
    have C1:=fun w=>CC.out i hlt hi2 w (.int .i64 k1) (.string s1) (.slice a1 l1.length c1) (.int .i64 k2) (.string s2) (.slice a2 l2.length c2)
    rw [hV] at C1 Hst
    rw [e1,e2] at C1
    have C2:=qh C1
    have R1:=qh r1
    have R2:=qh r2
    have L2:=lt_of_cell x0
    have L3:=lt_of_cell y0
    have yy0:=fun o=>(World.cell?_alloc_past (w:=wr) o b' (o'+i*3) L3).trans y0
    have yy1:=fun o=>(World.cell?_alloc_past (w:=wr) o b' (o'+i*3+1) L3).trans y1
    have yy2:=fun o=>(World.cell?_alloc_past (w:=wr) o b' (o'+i*3+2) L3).trans y2
    have Hbl:=hbl
    clear e1 e2 hV r1 r2 C1
    go_wp2_with fail
    refine (C2.out _ (R1.out.later (((Below.refl _ _).alloc (Nat.le_refl _) _).alloc (by simp) _)) (R2.out.later (((Below.refl _ _).alloc (Nat.le_refl _) _).alloc (by simp) _))).mono ?_
    rintro e w5 ⟨rfl,hb5⟩
    have hbx:Hid (Below w.heap.size w w5):=qh (Hbl.out.trans ((((Below.refl wr.heap.size wr).alloc (Nat.le_refl _) _).alloc (by simp) _).trans (hb5.mono (by simp;omega)) |>.mono Hbl.out.size))
    clear C2 R1 R2 x0 x1 x2 y0 y1 y2 yy0 yy1 yy2 hb5
    cases V with
    | false =>
     go_wp2
     go_ret
     exact ⟨by rw [hrun.out,Hst.out];rfl,hbx.out⟩
    | true =>
     go_wp2
     go_roundw
     case rel=>exact ⟨i+1,hlt,by push_cast;rfl,qh (by rw [hrun.out,Hst.out];rfl),hbx⟩
     case measure=>simp [intOf];omega
   ·have hlt':¬ ((i:Int) < (l.length:Int)):=by omega
    go_wp2
    go_ret
    exact ⟨by rw [hrun.out,sameL_end (by omega) (by have:=HL.out;omega)];rfl,hbl.out⟩
 ·have hl2:((l.length:Int) != (m.length:Int))=true:=by rw [bne_iff_ne];omega
  have HS:=qh (sameL_len l m hll)
  clear hll ht hu
  go_enter Tryz.func69,Tryz.ntmps69
  go_wp2
  go_ret
  exact ⟨by rw [HS.out];rfl,Below.refl _ _⟩
set_option maxRecDepth 100000 in
set_option maxHeartbeats 2000000 in
theorem sameN_any (n:Nat):∀ (t u:Nd) (w:World) (v0 v1 v2 u0 u1 u2:Value),t.sz≤n→NdR w t v0 v1 v2→NdR w u u0 u1 u2 →
  Calls Tryz.prog 19 #[.agg #[v0,v1,v2],.agg #[u0,u1,u2]] w fun e w'=>e = .returned (.bool (sameN t u))∧Below w.heap.size w w':=by
 induction n with
 | zero=>intro t u w v0 v1 v2 u0 u1 u2 h;cases t;simp only [Nd.sz] at h;omega
 | succ n ih =>
  intro t u w v0 v1 v2 u0 u1 u2 hsz ht hu
  obtain ⟨k,s,l,a,cap,rfl,rfl,rfl,rfl,hs,hl⟩:=ht.form
  obtain ⟨k',s',l',a',cap',rfl,rfl,rfl,rfl,hs',hl'⟩:=hu.form
  have eg:∀ args w,(callFunc 19 args).run Tryz.prog w = .ok (.enter 19 args) w:=enters_of Tryz.func19 (by kernel_rfl) rfl
  have CE:=qh (fun w h1 h2=>equalFunc_any _ eg k k' s s' l l' w a a' cap cap' h1 h2 hl hl' (fun i hi hi2 w v0 v1 v2 u0 u1 u2=>ih l[i] l'[i] w v0 v1 v2 u0 u1 u2 (by have:=Nd.kid_lt k s l i hi;omega)))
  clear ih eg
  have HB:Hid (Below w.heap.size w ((w.alloc (Obj.cells #[Value.int IntKind.i64 k,Value.string s,Value.slice a l.length cap] 24)).alloc (Obj.cells #[Value.int IntKind.i64 k',Value.string s',Value.slice a' l'.length cap'] 24))):=qh (((Below.refl _ w).alloc (Nat.le_refl _) _).alloc (by simp) _)
  have HT:=qh (ht.later HB.out)
  have HU:=qh (hu.later HB.out)
  have HS:Hid (sameN (.mk k s l) (.mk k' s' l')=((k==k' && s.toList==s'.toList) && sameL l l')):=qh (by simp only [sameN])
  obtain ⟨V,hV⟩:∃ V,sameL l l'=V:=⟨_,rfl⟩
  obtain ⟨V2,hV2⟩:∃ V,(s.toList==s'.toList)=V:=⟨_,rfl⟩
  rw [hV] at CE HS
  rw [hV2] at HS
  clear hV ht hu
  by_cases hk:k=k'
  ·have hk2:(k==k')=true:=by rw [hk];simp
   rw [hk2] at HS
   clear hk
   cases V2 with
   | false =>
    go_enter Tryz.func19,Tryz.ntmps19
    go_wp2
    go_ret
    exact ⟨by rw [HS.out];rfl,HB.out⟩
   | true =>
    go_enter Tryz.func19,Tryz.ntmps19
    go_wp2_with fail
    refine (CE.out _ HT.out HU.out).mono ?_
    rintro e w5 ⟨rfl,hb5⟩
    have HB2:Hid (Below w.heap.size w w5):=qh (HB.out.trans (hb5.mono HB.out.size))
    clear hb5 CE HT HU
    go_wp2
    go_ret
    exact ⟨by rw [HS.out];rfl,HB2.out⟩
  ·have hk2:(k==k')=false:=by rw [beq_eq_false_iff_ne];exact hk
   rw [hk2] at HS
   clear hk
   go_enter Tryz.func19,Tryz.ntmps19
   go_wp2
   go_ret
   exact ⟨by rw [HS.out];rfl,HB.out⟩
end Go.Proofs.YtcimcjmdkjajfaaGreatDoor
namespace Go.Proofs.YtcimcjmdkjajfaaGreatDoor
open Go.RowKit
def St (w wi:World):Prop:=Below w.heap.size w wi∧GLw wi∧2≤wi.heap.size
theorem St.below {w wi wj:World} (h:St w wi) (hb:Below wi.heap.size wi wj):St w wj:=⟨h.1.trans (hb.mono h.1.size),h.2.1.keep fun b _ hl=>hb.block b hl,Nat.le_trans h.2.2 hb.size⟩
theorem St.alloc {w wi:World} (h:St w wi) (o:Obj):St w (wi.alloc o):=h.below ((Below.refl _ wi).alloc (Nat.le_refl _) o)
theorem sn_form_says (s:ByteArray) (what:Int) (g:Nat) (hg:(g=41∧what=18)∨(g=39∧what=1)) (k:Int) (n:ByteArray) (l:List Nd) (hp:parseP (bs s) what=(some (.mk k n l),0,0)) (hs:s.size≤maxLen) (w wi:World) (h:St w wi) :
  Calls Tryz.prog g #[.string s] wi fun e w'=>∃ a c,e = .returned (.tuple #[.agg #[.int .i64 k,.string n,.slice a l.length c],.int .i64 0,.int .i64 0])∧St w w'∧NdR w' (.mk k n l) (.int .i64 k) (.string n) (.slice a l.length c):=by
 have C:Calls Tryz.prog g #[.string s] wi (ParseR (parseP (bs s) what) wi):=by
  rcases hg with ⟨rfl,rfl⟩ | ⟨rfl,rfl⟩
  ·exact ParseForm_any s wi h.2.2 h.2.1 hs
  ·exact Parse_any s wi h.2.2 h.2.1 hs
 rw [hp] at C
 refine C.mono ?_
 rintro e w' ⟨k',s',a,m,c,rfl,hb,hn⟩
 have hr:NdR w' (.mk k n l) (.int .i64 k') (.string s') (.slice a m c):=NdS.toR hn
 obtain ⟨k2,s2,l2,a2,c2,e1,e2,e3,e4,_,_⟩:=hr.form
 cases e1
 cases e2
 cases e3
 cases e4
 exact ⟨a,c,rfl,h.below hb,hr⟩
theorem sn_form_bad (s:ByteArray) (p er:Nat) (hp:parseP (bs s) 18=(none,p,er)) (hs:s.size≤maxLen) (w wi:World) (h:St w wi) :
  Calls Tryz.prog 41 #[.string s] wi fun e w'=>e = .returned (.tuple #[.agg #[.int .i64 0,.string ⟨#[]⟩,.slice none 0 0],.int .i64 p,.int .i64 er])∧St w w':=by
 have C:=ParseForm_any s wi h.2.2 h.2.1 hs
 rw [hp] at C
 refine C.mono ?_
 rintro e w' ⟨k',s',a,m,c,rfl,hb,hn⟩
 obtain ⟨rfl,rfl,rfl,rfl,rfl⟩:=hn
 exact ⟨rfl,h.below hb⟩
theorem sn_print_says (t:Nd) (out:ByteArray) (hp:printP t=(bs out,0)) (w wi:World) (h:St w wi) (v0 v1 v2:Value) (ht:NdR wi t v0 v1 v2) :
  Calls Tryz.prog 47 #[.agg #[v0,v1,v2]] wi fun e w'=>e = .returned (.tuple #[.string out,.int .i64 0])∧St w w'∧Below wi.heap.size wi w':=by
 have C:=Print_any t v0 v1 v2 wi ht h.2.1 h.2.2
 rw [hp] at C
 refine C.mono ?_
 rintro e w' ⟨rfl,hb⟩
 exact ⟨rfl,h.below hb,hb⟩
set_option maxRecDepth 100000 in
set_option maxHeartbeats 400000 in
theorem sn_node_any (k:Int) (s:ByteArray) (a:Option Addr) (n c:Nat) (w wi:World) (h:St w wi) :
  Calls Tryz.prog 54 #[.int .i64 k,.string s,.slice a n c] wi fun e w'=>e = .returned (.agg #[.int .i64 k,.string s,.slice a n c])∧St w w'∧Below wi.heap.size wi w':=by
 have R1:=qh (Row3.new wi (.int .i64 k) (.string s) (.slice a n c))
 have HB:=qh ((Below.refl wi.heap.size wi).alloc (Nat.le_refl _) (.cells #[.int .i64 k,.string s,.slice a n c] 24))
 have HS:=qh (h.alloc (.cells #[.int .i64 k,.string s,.slice a n c] 24))
 clear h
 go_enter Tryz.func54,Tryz.ntmps54
 go_wp2
 exact ret_node R1.out rfl rfl rfl ⟨rfl,HS.out,HB.out⟩
set_option maxRecDepth 100000 in
set_option maxHeartbeats 400000 in
theorem sn_atom_any (s:ByteArray) (a:Option Addr) (n c:Nat) (w wi:World) (h:St w wi) :
  Calls Tryz.prog 55 #[.string s,.slice a n c] wi fun e w'=>e = .returned (.agg #[.int .i64 15,.string s,.slice a n c])∧St w w'∧Below wi.heap.size wi w':=by
 have R1:=qh (Row3.new wi (.int .i64 15) (.string s) (.slice a n c))
 have HB:=qh ((Below.refl wi.heap.size wi).alloc (Nat.le_refl _) (.cells #[.int .i64 15,.string s,.slice a n c] 24))
 have HS:=qh (h.alloc (.cells #[.int .i64 15,.string s,.slice a n c] 24))
 clear h
 go_enter Tryz.func55,Tryz.ntmps55
 go_wp2
 exact ret_node R1.out rfl rfl rfl ⟨rfl,HS.out,HB.out⟩
theorem NdR.lit1 {w:World} {b:Nat} {k k1:Int} {s s1:ByteArray} {l1:List Nd} {a1:Option Addr} {c1:Nat} (hs:s.size≤maxLen) (h:w.heap[b]?=some (.cells #[.int .i64 k1,.string s1,.slice a1 l1.length c1] 24 (0,0)))
  (r:NdR w (.mk k1 s1 l1) (.int .i64 k1) (.string s1) (.slice a1 l1.length c1)):NdR w (.mk k s [.mk k1 s1 l1]) (.int .i64 k) (.string s) (.slice (some ⟨b,0,none⟩) 1 1):=by
 refine .mk k s [.mk k1 s1 l1] (some ⟨b,0,none⟩) 1 b 0 (fun _=>.int .i64 k1) (fun _=>.string s1) (fun _=>.slice a1 l1.length c1) hs (by simp [maxLen]) (by simp) (fun _=>rfl) ?_ ?_ ?_ ?_
 all_goals (intro i hi;obtain rfl:i=0:=by simpa using hi)
 ·exact cell_of_row _ _ _ _ _ _ h
 ·exact cell_of_row _ _ _ _ _ _ h
 ·exact cell_of_row _ _ _ _ _ _ h
 ·exact r
theorem NdR.lit2 {w:World} {b:Nat} {k k1 k2:Int} {s s1 s2:ByteArray} {l1 l2:List Nd} {a1 a2:Option Addr} {c1 c2:Nat} (hs:s.size≤maxLen) (h:w.heap[b]?=some (.cells #[.int .i64 k1,.string s1,.slice a1 l1.length c1,.int .i64 k2,.string s2,.slice a2 l2.length c2] 24 (0,0)))
  (r1:NdR w (.mk k1 s1 l1) (.int .i64 k1) (.string s1) (.slice a1 l1.length c1)) (r2:NdR w (.mk k2 s2 l2) (.int .i64 k2) (.string s2) (.slice a2 l2.length c2)):NdR w (.mk k s [.mk k1 s1 l1,.mk k2 s2 l2]) (.int .i64 k) (.string s) (.slice (some ⟨b,0,none⟩) 2 2):=by
 refine .mk k s [.mk k1 s1 l1,.mk k2 s2 l2] (some ⟨b,0,none⟩) 2 b 0 (fun i=>if i=0 then .int .i64 k1 else .int .i64 k2) (fun i=>if i=0 then .string s1 else .string s2) (fun i=>if i=0 then .slice a1 l1.length c1 else .slice a2 l2.length c2) hs (by simp [maxLen]) (by simp) (fun _=>rfl) ?_ ?_ ?_ ?_
 all_goals (intro i hi;obtain rfl | rfl:i=0∨i=1:=by simp at hi;omega)
 ·exact cell_of_row _ _ _ _ _ _ h
 ·exact cell_of_row _ _ _ _ _ _ h
 ·exact cell_of_row _ _ _ _ _ _ h
 ·exact cell_of_row _ _ _ _ _ _ h
 ·exact cell_of_row _ _ _ _ _ _ h
 ·exact cell_of_row _ _ _ _ _ _ h
 ·exact r1
 ·exact r2
theorem NdR.leaf (w:World) (k:Int) (s:ByteArray) (hs:s.size≤maxLen):NdR w (.mk k s []) (.int .i64 k) (.string s) (.slice none 0 0):=(NdS.leaf (fun _=>True) w k s hs none 0).toR
end Go.Proofs.YtcimcjmdkjajfaaGreatDoor
namespace Go.Proofs.YtcimcjmdkjajfaaGreatDoor
open Go.RowKit
set_option maxRecDepth 100000 in
set_option maxHeartbeats 4000000 in
theorem saneS_any (w:World) (hw:2≤w.heap.size) (gl:GLw w) :
  Calls Tryz.prog 13 #[] w fun e w'=>e = .returned (.bool true)∧Below w.heap.size w w':=by
 have s0:St w w:=⟨Below.refl _ _,gl,hw⟩
 have F1:=qh (fun b wi=>sn_form_says txt1 18 41 (.inl ⟨rfl,rfl⟩) _ _ _ parse1 (by unfold maxLen;decide) b wi)
 have F2:=qh (fun b wi=>sn_form_says txt2 18 41 (.inl ⟨rfl,rfl⟩) _ _ _ parse2 (by unfold maxLen;decide) b wi)
 have F4:=qh (fun b wi=>sn_form_bad txt4 _ _ parse4 (by unfold maxLen;decide) b wi)
 have F5:=qh (fun b wi=>sn_form_bad txt5 _ _ parse5 (by unfold maxLen;decide) b wi)
 have F6:=qh (fun b wi=>sn_form_says txt6 1 39 (.inr ⟨rfl,rfl⟩) _ _ _ parse6 (by unfold maxLen;decide) b wi)
 have P1:=qh (fun b=>sn_print_says tree1 txt1 print1 b)
 have P2:=qh (fun b=>sn_print_says tree2 out2 print2 b)
 have P3:=qh (fun b=>sn_print_says tree3 out3 print3 b)
 have P6:=qh (fun b=>sn_print_says tree6 out6 print6 b)
 have NA:=qh (fun b k s a n c wi h=>sn_node_any k s a n c b wi h)
 have AA:=qh (fun b s a n c wi h=>sn_atom_any s a n c b wi h)
 have HS0:=qh s0
 clear s0 hw gl
 go_enter Tryz.func13,Tryz.ntmps13
 go_wp2_with fail
 refine (F1.out _ _ HS0.out).mono ?_
 rintro e w1 ⟨a1,c1,rfl,s1,n1⟩
 have S1:=qh s1
 have N1:=qh n1
 clear s1 n1 F1
 go_wp2_with fail
 refine (P1.out _ _ (S1.out.alloc _) _ _ _ (N1.out.later ((Below.refl _ w1).alloc (Nat.le_refl _) _))).mono ?_
 rintro e w2 ⟨rfl,s2,_⟩
 have S2:=qh s2
 clear s2 P1 N1
 go_wp2_with fail
 refine (F2.out _ _ S2.out).mono ?_
 rintro e w3 ⟨a3,c3,rfl,s3,n3⟩
 have S3:=qh s3
 have N3:=qh n3
 clear s3 n3 F2
 go_wp2_with fail
 refine (P2.out _ _ (S3.out.alloc _) _ _ _ (N3.out.later ((Below.refl _ w3).alloc (Nat.le_refl _) _))).mono ?_
 rintro e w4 ⟨rfl,s4,_⟩
 have S4:=qh s4
 clear s4 P2 N3
 go_wp2_with fail
 refine (NA.out _ _ _ _ _ _ _ S4.out).mono ?_
 rintro e w5 ⟨rfl,s5,_⟩
 obtain ⟨V5,hV5⟩:∃ V5,w5.alloc (.cells #[.int .i64 16,.string { data:=#[88] },.slice none 0 0] 24)=V5:=⟨_,rfl⟩
 have s5':=s5.alloc (.cells #[.int .i64 16,.string { data:=#[88] },.slice none 0 0] 24)
 have HX':=Row3.new w5 (.int .i64 16) (.string { data:=#[88] }) (.slice none 0 0)
 rw [hV5] at s5' HX'
 obtain ⟨X,hX⟩:∃ X,w5.heap.size=X:=⟨_,rfl⟩
 rw [hX] at HX'
 have HX:=qh HX'
 have T5:=qh s5'
 have S5:Hid (St V5 V5):=qh ⟨Below.refl _ _,s5'.2.1,s5'.2.2⟩
 have HV5:=qh hV5
 have HXe:=qh hX
 clear s5 s5' HX' hV5 hX
 go_upto_region 6 with fail
 rw [HV5.out,HXe.out]
 clear HV5 HXe S1 S2 S3 S4
 go_wp2_with fail
 refine (AA.out _ _ _ _ _ _ S5.out).mono ?_
 rintro e w6 ⟨rfl,s6,_⟩
 have S6:=qh s6
 clear s6
 go_wp2_with fail
 refine (AA.out _ _ _ _ _ _ (S6.out.alloc _)).mono ?_
 rintro e w7 ⟨rfl,s7,b7⟩
 have S7:=qh s7
 have R7:Hid (NdR w7 (.mk 15 ⟨#[112]⟩ [nm_ 120]) (.int .i64 15) (.string ⟨#[112]⟩) (.slice (some ⟨w6.heap.size,0,none⟩) 1 1)) :=
  qh (NdR.lit1 (l1:=[]) (by unfold maxLen;decide) ((b7.block _ (by simp)).trans (World.alloc_heap_new _ _)) (NdR.leaf _ _ _ (by unfold maxLen;decide)))
 clear s7 b7
 go_wp2_with fail
 refine (NA.out _ _ _ _ _ _ _ (S7.out.alloc _)).mono ?_
 rintro e w8 ⟨rfl,s8,b8⟩
 have S8:=qh s8
 have R8:Hid (NdR w8 (.mk 18 ⟨#[120]⟩ [.mk 15 ⟨#[112]⟩ [nm_ 120]]) (.int .i64 18) (.string ⟨#[120]⟩) (.slice (some ⟨w7.heap.size,0,none⟩) 1 1)) :=
  qh (NdR.lit1 (l1:=[nm_ 120]) (by unfold maxLen;decide) ((b8.block _ (by simp)).trans (World.alloc_heap_new _ _)) ((R7.out.later ((Below.refl _ w7).alloc (Nat.le_refl _) _)).later b8))
 clear s8 b8 R7
 go_wp2_with fail
 refine (NA.out _ _ _ _ _ _ _ ((S8.out.alloc _).alloc _)).mono ?_
 rintro e w9 ⟨rfl,s9,b9⟩
 have S9:=qh s9
 have R9:Hid (NdR w9 (.mk 29 ⟨#[]⟩ [.mk 18 ⟨#[120]⟩ [.mk 15 ⟨#[112]⟩ [nm_ 120]]]) (.int .i64 29) (.string ⟨#[]⟩) (.slice (some ⟨w8.heap.size+1,0,none⟩) 1 1)) :=
  qh (NdR.lit1 (l1:=[.mk 15 ⟨#[112]⟩ [nm_ 120]]) (by unfold maxLen;decide) ((b9.block _ (by simp)).trans (alloc_at (by simp))) ((R8.out.later (((Below.refl _ w8).alloc (Nat.le_refl _) _).alloc (by simp) _)).later (b9.mono (by simp))))
 clear s9 b9 R8
 go_wp2_with fail
 refine (AA.out _ _ _ _ _ _ S9.out).mono ?_
 rintro e w10 ⟨rfl,s10,b10⟩
 have S10:=qh s10
 have R10:=qh (R9.out.later b10)
 clear s10 b10 R9
 go_wp2_with fail
 refine (NA.out _ _ _ _ _ _ _ (S10.out.alloc _)).mono ?_
 rintro e w11 ⟨rfl,s11,b11⟩
 have S11:=qh s11
 have R11:Hid (NdR w11 tree3 (.int .i64 22) (.string ⟨#[]⟩) (.slice (some ⟨w10.heap.size,0,none⟩) 2 2)) :=
  qh (NdR.lit2 (l1:=[.mk 18 ⟨#[120]⟩ [.mk 15 ⟨#[112]⟩ [nm_ 120]]]) (l2:=[]) (by unfold maxLen;decide) ((b11.block _ (by simp)).trans (World.alloc_heap_new _ _)) ((R10.out.later ((Below.refl _ w10).alloc (Nat.le_refl _) _)).later b11) (NdR.leaf _ _ _ (by unfold maxLen;decide)))
 clear s11 b11 R10
 go_wp2_with fail
 refine (P3.out _ _ S11.out _ _ _ R11.out).mono ?_
 rintro e w12 ⟨rfl,s12,_⟩
 have S12:=qh s12
 clear s12 R11 P3 AA NA S6 S7 S8 S9 S10 S11
 go_wp2_with fail
 refine (F4.out _ _ S12.out).mono ?_
 rintro e w13 ⟨rfl,s13⟩
 have S13:=qh s13
 clear s13 F4 S12
 go_wp2_with fail
 refine (F5.out _ _ (S13.out.alloc _)).mono ?_
 rintro e w14 ⟨rfl,s14⟩
 have S14:=qh s14
 clear s14 F5 S13
 go_wp2_with fail
 refine (F6.out _ _ (S14.out.alloc _)).mono ?_
 rintro e w15 ⟨an,cn,rfl,s15,n15⟩
 obtain ⟨V15,hV15⟩:∃ V,w15.alloc (.cells #[.int .i64 1,.string { data:=#[] },.slice an 2 cn] 24)=V:=⟨_,rfl⟩
 have s15':=s15.alloc (.cells #[.int .i64 1,.string { data:=#[] },.slice an 2 cn] 24)
 have HY':=Row3.new w15 (.int .i64 1) (.string { data:=#[] }) (.slice an 2 cn)
 have n15':=n15.later ((Below.refl _ w15).alloc (Nat.le_refl _) (.cells #[.int .i64 1,.string { data:=#[] },.slice an 2 cn] 24))
 rw [hV15] at s15' HY' n15'
 obtain ⟨Y,hY⟩:∃ Y,w15.heap.size=Y:=⟨_,rfl⟩
 rw [hY] at HY'
 have HY:=qh HY'
 have T15:=qh (T5.out.below s15'.1)
 have HX15:=qh (HX.out.below s15'.1 HX.out.lt)
 have N15:Hid (NdR V15 tree6 (.int .i64 1) (.string { data:=#[] }) (.slice an 2 cn)):=qh n15'
 have S15:Hid (St V15 V15):=qh ⟨Below.refl _ _,s15'.2.1,s15'.2.2⟩
 have HV15:=qh hV15
 have HYe:=qh hY
 clear s15 s15' HY' n15 n15' hV15 hY F6 S14 HX T5 S5
 go_upto_region 11 with fail
 rw [HV15.out,HYe.out]
 clear HV15 HYe
 obtain ⟨⟨y0,y1,y2⟩,_⟩:=HY.out.cells
 go_wp2_with fail
 refine (P6.out _ _ S15.out _ _ _ N15.out).mono ?_
 rintro e w16 ⟨rfl,s16,_⟩
 have S16:=qh s16
 have HY16:=qh (HY.out.below s16.1 HY.out.lt)
 clear s16 P6 y0 y1 y2
 obtain ⟨⟨y0,y1,y2⟩,_⟩:=HY16.out.cells
 have CV:=qh (occur_any 23 16 (.inr ⟨rfl,rfl⟩) tree6 w16 _ _ _ (N15.out.later S16.out.1))
 unfold OccR at CV
 rw [valid6,if_pos rfl,vars6] at CV
 go_wp2_with fail
 refine CV.out.mono ?_
 rintro e w17 ⟨vl,rfl,r17,b17⟩
 have S17:=qh (S16.out.below b17)
 obtain ⟨av,nv,hvl⟩:=row_shape (show w17.ownsRow _ _ 1 vl _ _ from r17)
 subst hvl
 have R17:=qh r17
 clear b17 r17 CV y0 y1 y2 S16
 have HY17:=qh (HY.out.below S17.out.1 HY.out.lt)
 have HX17:=qh (HX15.out.below S17.out.1 HX15.out.lt)
 have N17:=qh (N15.out.later S17.out.1)
 obtain ⟨⟨y0,y1,y2⟩,_⟩:=HY17.out.cells
 go_wp2_with fail
 obtain ⟨_,hv0 | ⟨g,rfl,hvc⟩⟩:=rowS_cells R17.out
 ·cases hv0
 have v0:w17.cell? ⟨g,0,none⟩=some (.string ⟨#[88]⟩):=hvc 0 (by simp)
 obtain ⟨b1,o1,k1,s1,l1,a1',c1',rfl,e1,p0,p1,p2,r1⟩:=N17.out.kid 1 (by simp)
 cases e1
 obtain ⟨b2,o2,k2,s2,l2,a2',c2',rfl,e2,q0,q1,q2,r2⟩:=r1.kid 0 (by simp)
 cases e2
 obtain ⟨b3,o3,k3,s3,l3,a3',c3',rfl,e3,t0,t1,t2,r3⟩:=r2.kid 1 (by simp)
 cases e3
 obtain ⟨b4,o4,k4,s4,l4,a4',c4',rfl,e4,u0,u1,u2,r4⟩:=r3.kid 0 (by simp)
 cases e4
 have CS:Hid (∀ W,Below w17.heap.size w17 W→Calls Tryz.prog 19 #[.agg #[.int .i64 16,.string { data:=#[88] },.slice a4' 0 c4'],.agg #[.int .i64 16,.string { data:=#[88] },.slice none 0 0]] W fun e w'=>e = .returned (.bool true)∧Below W.heap.size W w') :=
  qh (fun W hb=>by
   have C:=sameN_any 1 varX varX W _ _ _ _ _ _ (by decide) (r4.later hb) (NdR.leaf W 16 { data:=#[88] } (by unfold maxLen;decide))
   rw [show sameN varX varX=true from by kernel_rfl] at C
   exact C)
 obtain ⟨⟨x0,x1,x2⟩,_⟩:=HX17.out.cells
 clear r1 r2 r3 r4 hvc p0 p1 q1 t0 t1
 simp only [Nat.zero_mul,Nat.add_zero,Nat.one_mul] at p2 q0 q2 t2 u0 u1 u2
 go_upto_region 18 with fail
 have S0:Hid (w17.cell? ⟨g,0,none⟩=some (.string ⟨#[88]⟩)∧w17.cell? ⟨Y,2,none⟩=some (.slice (some ⟨b1,o1,none⟩) 2 cn)∧w17.cell? ⟨b1,o1+3+2,none⟩=some (.slice (some ⟨b2,o2,none⟩) 1 c1')∧w17.cell? ⟨b2,o2,none⟩=some (.int .i64 27)∧w17.cell? ⟨b2,o2+2,none⟩=some (.slice (some ⟨b3,o3,none⟩) 2 c2')∧w17.cell? ⟨b3,o3+3+2,none⟩=some (.slice (some ⟨b4,o4,none⟩) 1 c3')∧w17.cell? ⟨b4,o4,none⟩=some (.int .i64 16)∧w17.cell? ⟨b4,o4+1,none⟩=some (.string { data:=#[88] })∧w17.cell? ⟨b4,o4+2,none⟩=some (.slice a4' 0 c4')∧w17.cell? ⟨X,0,none⟩=some (.int .i64 16)∧w17.cell? ⟨X,1,none⟩=some (.string { data:=#[88] })∧w17.cell? ⟨X,2,none⟩=some (.slice none 0 0)):=qh ⟨v0,y2,p2,q0,q2,t2,u0,u1,u2,x0,x1,x2⟩
 have SD:w17.drew.cell? ⟨g,0,none⟩=some (.string ⟨#[88]⟩)∧w17.drew.cell? ⟨Y,2,none⟩=some (.slice (some ⟨b1,o1,none⟩) 2 cn)∧w17.drew.cell? ⟨b1,o1+3+2,none⟩=some (.slice (some ⟨b2,o2,none⟩) 1 c1')∧w17.drew.cell? ⟨b2,o2,none⟩=some (.int .i64 27)∧w17.drew.cell? ⟨b2,o2+2,none⟩=some (.slice (some ⟨b3,o3,none⟩) 2 c2')∧w17.drew.cell? ⟨b3,o3+3+2,none⟩=some (.slice (some ⟨b4,o4,none⟩) 1 c3')∧w17.drew.cell? ⟨b4,o4,none⟩=some (.int .i64 16)∧w17.drew.cell? ⟨b4,o4+1,none⟩=some (.string { data:=#[88] })∧w17.drew.cell? ⟨b4,o4+2,none⟩=some (.slice a4' 0 c4')∧w17.drew.cell? ⟨X,0,none⟩=some (.int .i64 16)∧w17.drew.cell? ⟨X,1,none⟩=some (.string { data:=#[88] })∧w17.drew.cell? ⟨X,2,none⟩=some (.slice none 0 0):=S0.out
 have SB:Hid (∀ W,Below w17.heap.size w17 W→W.cell? ⟨g,0,none⟩=some (.string ⟨#[88]⟩)∧W.cell? ⟨Y,2,none⟩=some (.slice (some ⟨b1,o1,none⟩) 2 cn)∧W.cell? ⟨b1,o1+3+2,none⟩=some (.slice (some ⟨b2,o2,none⟩) 1 c1')∧W.cell? ⟨b2,o2,none⟩=some (.int .i64 27)∧W.cell? ⟨b2,o2+2,none⟩=some (.slice (some ⟨b3,o3,none⟩) 2 c2')∧W.cell? ⟨b3,o3+3+2,none⟩=some (.slice (some ⟨b4,o4,none⟩) 1 c3')∧W.cell? ⟨b4,o4,none⟩=some (.int .i64 16)∧W.cell? ⟨b4,o4+1,none⟩=some (.string { data:=#[88] })∧W.cell? ⟨b4,o4+2,none⟩=some (.slice a4' 0 c4')∧W.cell? ⟨X,0,none⟩=some (.int .i64 16)∧W.cell? ⟨X,1,none⟩=some (.string { data:=#[88] })∧W.cell? ⟨X,2,none⟩=some (.slice none 0 0)):=qh (fun W hb=>⟨(hb.cell (p:=⟨g,0,none⟩) (lt_of_cell v0)).trans v0,(hb.cell (p:=⟨Y,2,none⟩) (lt_of_cell y2)).trans y2,(hb.cell (p:=⟨b1,o1+3+2,none⟩) (lt_of_cell p2)).trans p2,(hb.cell (p:=⟨b2,o2,none⟩) (lt_of_cell q0)).trans q0,(hb.cell (p:=⟨b2,o2+2,none⟩) (lt_of_cell q2)).trans q2,(hb.cell (p:=⟨b3,o3+3+2,none⟩) (lt_of_cell t2)).trans t2,(hb.cell (p:=⟨b4,o4,none⟩) (lt_of_cell u0)).trans u0,(hb.cell (p:=⟨b4,o4+1,none⟩) (lt_of_cell u1)).trans u1,(hb.cell (p:=⟨b4,o4+2,none⟩) (lt_of_cell u2)).trans u2,(hb.cell (p:=⟨X,0,none⟩) (lt_of_cell x0)).trans x0,(hb.cell (p:=⟨X,1,none⟩) (lt_of_cell x1)).trans x1,(hb.cell (p:=⟨X,2,none⟩) (lt_of_cell x2)).trans x2⟩)
 have HLB:Hid (∀ e:Bool,True):=qh (fun _=>trivial)
 clear v0 y2 p2 q0 q2 t2 u0 u1 u2 x0 x1 x2 y0 y1
 go_region_held3 (fun w'=>w'.cell? ⟨g,0,none⟩=some (.string ⟨#[88]⟩)∧w'.cell? ⟨Y,2,none⟩=some (.slice (some ⟨b1,o1,none⟩) 2 cn)∧w'.cell? ⟨b1,o1+3+2,none⟩=some (.slice (some ⟨b2,o2,none⟩) 1 c1')∧w'.cell? ⟨b2,o2,none⟩=some (.int .i64 27)∧w'.cell? ⟨b2,o2+2,none⟩=some (.slice (some ⟨b3,o3,none⟩) 2 c2')∧w'.cell? ⟨b3,o3+3+2,none⟩=some (.slice (some ⟨b4,o4,none⟩) 1 c3')∧w'.cell? ⟨b4,o4,none⟩=some (.int .i64 16)∧w'.cell? ⟨b4,o4+1,none⟩=some (.string { data:=#[88] })∧w'.cell? ⟨b4,o4+2,none⟩=some (.slice a4' 0 c4')∧w'.cell? ⟨X,0,none⟩=some (.int .i64 16)∧w'.cell? ⟨X,1,none⟩=some (.string { data:=#[88] })∧w'.cell? ⟨X,2,none⟩=some (.slice none 0 0))
  (first | with_reducible exact SD | with_reducible exact SE)
  (first | (go_at_call 19;refine (CS.out _ ((Below.refl _ w17).drew)).mono ?_;rintro e w18 ⟨rfl,hb⟩;have B18:Hid (Below w17.heap.size w17 w18):=qh (((Below.refl _ w17).drew).trans hb);have SE:=SB.out _ B18.out;clear hb))
 all_goals go_wp2
 all_goals go_ret
 all_goals exact ⟨rfl,(T15.out.1.trans (S17.out.1.mono T15.out.1.size)).trans (B18.out.mono (Nat.le_trans T15.out.1.size S17.out.1.size))⟩
end Go.Proofs.YtcimcjmdkjajfaaGreatDoor
namespace Go.Proofs.YtcimcjmdkjajfaaGreatDoor
open Go.RowKit
mutual
theorem sameN_self:∀ t:Nd,sameN t t=true
 | .mk k s l=>by simp only [sameN,sameL_self l,beq_self_eq_true,Bool.and_self]
theorem sameL_self:∀ l:List Nd,sameL l l=true
 | []=>by simp only [sameL]
 | a :: l=>by simp only [sameL,sameN_self a,sameL_self l,Bool.and_self]
end
end Go.Proofs.YtcimcjmdkjajfaaGreatDoor
namespace Go.Proofs.YtcimcjmdkjajfaaGreatDoor
open Go.RowKit
theorem names_says (g:Nat) (kind:Int) (hg:(g=21∧kind=15)∨(g=23∧kind=16)) (t:Nd) (h0:chkN t=0) (w:World) (v0 v1 v2:Value) (ht:NdR w t v0 v1 v2) :
  Calls Tryz.prog g #[.agg #[v0,v1,v2]] w fun e w'=>∃ a n c,e = .returned (.tuple #[.slice a n c,.int .i64 0])∧StrSl w' (.slice a n c) (occs kind (preN 0 [] false t))∧Below w.heap.size w w':=by
 refine (occur_any g kind hg t w v0 v1 v2 ht).mono ?_
 rintro e w' ⟨v,rfl,hr,hb⟩
 rw [if_pos h0] at hr
 have hs:=strSl_row hr
 obtain ⟨a,c,he,_⟩:=id hs
 subst he
 exact ⟨a,_,c,by rw [h0],hs,hb⟩
theorem occs_small {t:Nd} (h0:chkN t=0) (kind:Int):(occs kind (preN 0 [] false t)).length≤1000000:=by
 have h1:=occs_len kind (preN 0 [] false t)
 rw [preN_len] at h1
 have h2:=chk_sz h0
 omega
set_option maxRecDepth 100000 in
set_option maxHeartbeats 1000000 in
theorem plainLaw_bad (t:Nd) (w:World) (v0 v1 v2:Value) (ht:NdR w t v0 v1 v2) (hw:2≤w.heap.size) (gl:GLw w) (er:Int) (hc:chkN t=er) (h0:¬ er=0) :
  Calls Tryz.prog 8 #[.agg #[v0,v1,v2]] w fun e w'=>e = .returned (.bool true)∧Below w.heap.size w w':=by
 obtain ⟨k,s,l,a,c,rfl,rfl,rfl,rfl,_,_⟩:=ht.form
 obtain ⟨h,hh⟩:∃ h,w.heap.size=h:=⟨_,rfl⟩
 obtain ⟨W0,hW0⟩:∃ W0,w.alloc (.cells #[.int .i64 k,.string s,.slice a l.length c] 24)=W0:=⟨_,rfl⟩
 have b0:Below h w W0:=by rw [←hW0,←hh];exact (Below.refl _ w).alloc (Nat.le_refl _) _
 have z0:W0.heap.size=h+1:=by rw [←hW0];simp [hh]
 have r0:Row3 W0 h (.int .i64 k) (.string s) (.slice a l.length c):=by rw [←hW0,←hh];exact World.alloc_heap_new _ _
 have CS:=qh (saneS_any W0 (by omega) (gl.keep fun b hb hl=>b0.block b (by omega)))
 have T0:=qh (ht.later (by rw [hh];exact b0))
 have B0:=qh b0
 have R0:=qh r0
 have CP:=qh (fun W ht=>plainTree_any (.mk k s l) (.int .i64 k) (.string s) (.slice a l.length c) W ht er zeroN hc (.inl ⟨h0,rfl⟩))
 have CC:=qh (fun W ht=>check_tree (.mk k s l) W (.int .i64 k) (.string s) (.slice a l.length c) ht)
 rw [hc] at CC
 have hne:((er:Int) != 0)=true:=by rw [bne_iff_ne];exact h0
 clear ht gl hc b0 r0
 rw [hh]
 go_enter Tryz.func8,Tryz.ntmps8
 go_upto_region 1 with fail
 (try rw [hW0])
 (try rw [hh])
 clear hW0
 go_wp2_with fail
 refine CS.out.mono ?_
 rintro e w1 ⟨rfl,hb1⟩
 have T1:=qh (T0.out.later hb1)
 have R1:=qh (R0.out.below hb1 R0.out.lt)
 have B1:=qh (B0.out.trans (hb1.mono (by omega)))
 have z1:h+1≤w1.heap.size:=by have:=hb1.size;omega
 clear hb1 CS T0 R0 B0
 obtain ⟨⟨p0,p1,p2⟩,_⟩:=R1.out.cells
 go_wp2_with fail
 refine (CP.out _ T1.out).mono ?_
 rintro e w2 ⟨u0,u1,u2,rfl,hz2,hb2⟩
 obtain ⟨k2,s2,l2,a2,c2,_,rfl,rfl,rfl,_,_⟩:=hz2.form
 have hb2':=hb2.alloc hb2.size (.cells #[.int .i64 k2,.string s2,.slice a2 l2.length c2] 24)
 have T2:=qh (T1.out.later hb2')
 have R2:=qh (R1.out.below hb2' R1.out.lt)
 have B2:=qh (B1.out.trans (hb2'.mono (by omega)))
 have z2:h+1≤(w2.alloc (.cells #[.int .i64 k2,.string s2,.slice a2 l2.length c2] 24)).heap.size:=Nat.le_trans z1 hb2'.size
 clear CP hz2 hb2 hb2' p0 p1 p2 T1 R1 B1
 obtain ⟨⟨p0,p1,p2⟩,_⟩:=R2.out.cells
 go_wp2_with fail
 refine (CC.out _ T2.out).mono ?_
 rintro e w3 ⟨rfl,hb3⟩
 have B3:=qh (B2.out.trans (hb3.mono (by omega)))
 clear CC hb3 p0 p1 p2 T2 R2 B2
 go_wp2
 go_ret
 exact ⟨rfl,B3.out⟩
abbrev Sq2 (h h2:Nat) (x0 x1 x2 y0 y1 y2:Value) (W w':World):Prop:=w'.cell? ⟨h,0,none⟩=some x0∧w'.cell? ⟨h,1,none⟩=some x1∧w'.cell? ⟨h,2,none⟩=some x2∧w'.cell? ⟨h2,0,none⟩=some y0∧w'.cell? ⟨h2,1,none⟩=some y1∧w'.cell? ⟨h2,2,none⟩=some y2∧Hid (Below W.heap.size W w')
theorem sq2_of {h h2:Nat} {x0 x1 x2 y0 y1 y2:Value} {W w':World} (r:Row3 W h x0 x1 x2) (q:Row3 W h2 y0 y1 y2) (hb:Below W.heap.size W w'):Sq2 h h2 x0 x1 x2 y0 y1 y2 W w':=by
 obtain ⟨⟨a0,a1,a2⟩,_⟩:=(r.below hb r.lt).cells
 obtain ⟨⟨b0,b1,b2⟩,_⟩:=(q.below hb q.lt).cells
 exact ⟨a0,a1,a2,b0,b1,b2,qh hb⟩
set_option maxRecDepth 100000 in
set_option maxHeartbeats 4000000 in
theorem plainLaw_good (t:Nd) (w:World) (v0 v1 v2:Value) (ht:NdR w t v0 v1 v2) (hw:2≤w.heap.size) (gl:GLw w) (hc:chkN t=0) :
  Calls Tryz.prog 8 #[.agg #[v0,v1,v2]] w fun e w'=>e = .returned (.bool true)∧Below w.heap.size w w':=by
 obtain ⟨hex,hcm⟩:=valid_plain hc
 obtain ⟨fs,_,ft⟩:=plain_facts t hex
 have hid:=plain_id _ ft
 have n15:=fun s=>plain_names hc (kind:=15) (.inl rfl) s
 have n16:=fun s=>plain_names hc (kind:=16) (.inr rfl) s
 obtain ⟨M,hM⟩:∃ M,plainN t=M:=⟨_,rfl⟩
 have CP:=qh (fun W v0 v1 v2 ht=>plainTree_any t v0 v1 v2 W ht 0 M hc (.inr ⟨rfl,hM.symm⟩))
 rw [hM] at hcm fs ft hid n15 n16
 have CQ:=qh (fun W v0 v1 v2 ht=>plainTree_any M v0 v1 v2 W ht 0 M hcm (.inr ⟨rfl,hid.symm⟩))
 have CN:=qh (fun W v0 v1 v2 ht=>names_says 21 15 (.inl ⟨rfl,rfl⟩) t hc W v0 v1 v2 ht)
 have CN2:=qh (fun W v0 v1 v2 ht=>names_says 21 15 (.inl ⟨rfl,rfl⟩) M hcm W v0 v1 v2 ht)
 have CV:=qh (fun W v0 v1 v2 ht=>names_says 23 16 (.inr ⟨rfl,rfl⟩) t hc W v0 v1 v2 ht)
 have CV2:=qh (fun W v0 v1 v2 ht=>names_says 23 16 (.inr ⟨rfl,rfl⟩) M hcm W v0 v1 v2 ht)
 have CT:=qh (fun W v0 v1 v2 ht=>rTurned _ M W v0 v1 v2 (Nat.le_refl _) ft ht)
 have CM:=qh (fun W v0 v1 v2 u0 u1 u2 h1 h2=>rSameN _ M M W v0 v1 v2 u0 u1 u2 (Nat.le_refl _) h1 h2)
 rw [sameN_self] at CM
 have CZ:=qh (fun W v0 v1 v2 ht=>size_any t W v0 v1 v2 ht)
 have CZ2:=qh (fun W v0 v1 v2 ht=>size_any M W v0 v1 v2 ht)
 rw [fs] at CZ2
 obtain ⟨sz,hsz⟩:∃ sz:Int,((min t.sz 4001:Nat):Int)=sz:=⟨_,rfl⟩
 rw [hsz] at CZ CZ2
 obtain ⟨A1,hA1⟩:∃ A1,occs 15 (preN 0 [] false t)=A1:=⟨_,rfl⟩
 obtain ⟨A2,hA2⟩:∃ A2,occs 15 (preN 0 [] false M)=A2:=⟨_,rfl⟩
 obtain ⟨A3,hA3⟩:∃ A3,occs 16 (preN 0 [] false t)=A3:=⟨_,rfl⟩
 obtain ⟨A4,hA4⟩:∃ A4,occs 16 (preN 0 [] false M)=A4:=⟨_,rfl⟩
 have m1:=occs_small hc 15
 have m2:=occs_small hcm 15
 have m3:=occs_small hc 16
 have m4:=occs_small hcm 16
 rw [hA1] at CN n15 m1
 rw [hA2] at CN2 n15 m2
 rw [hA3] at CV n16 m3
 rw [hA4] at CV2 n16 m4
 have I1:=qh (fun W va vb h1 h2=>rWithin va vb A1 A2 W h1 h2 m1 m2 fun s=>(n15 s).1)
 have I2:=qh (fun W va vb h1 h2=>rWithin va vb A2 A1 W h1 h2 m2 m1 fun s=>(n15 s).2)
 have I3:=qh (fun W va vb h1 h2=>rWithin va vb A3 A4 W h1 h2 m3 m4 fun s=>(n16 s).1)
 have I4:=qh (fun W va vb h1 h2=>rWithin va vb A4 A3 W h1 h2 m4 m3 fun s=>(n16 s).2)
 obtain ⟨k,s,l,a,c,rfl,rfl,rfl,rfl,_,_⟩:=ht.form
 obtain ⟨h,hh⟩:∃ h,w.heap.size=h:=⟨_,rfl⟩
 obtain ⟨W0,hW0⟩:∃ W0,w.alloc (.cells #[.int .i64 k,.string s,.slice a l.length c] 24)=W0:=⟨_,rfl⟩
 have b0:Below h w W0:=by rw [←hW0,←hh];exact (Below.refl _ w).alloc (Nat.le_refl _) _
 have z0:W0.heap.size=h+1:=by rw [←hW0];simp [hh]
 have r0:Row3 W0 h (.int .i64 k) (.string s) (.slice a l.length c):=by rw [←hW0,←hh];exact World.alloc_heap_new _ _
 have CS:=qh (saneS_any W0 (by omega) (gl.keep fun b hb hl=>b0.block b (by omega)))
 have T0:=qh (ht.later (by rw [hh];exact b0))
 have B0:=qh b0
 have R0:=qh r0
 clear ht gl hc hcm fs ft hid n15 n16 hM hA1 hA2 hA3 hA4 m1 m2 m3 m4 hsz hex b0 r0
 rw [hh]
 go_enter Tryz.func8,Tryz.ntmps8
 go_upto_region 1 with fail
 (try rw [hW0])
 (try rw [hh])
 clear hW0
 go_wp2_with fail
 refine CS.out.mono ?_
 rintro e w1 ⟨rfl,hb1⟩
 have T1:=qh (T0.out.later hb1)
 have R1:=qh (R0.out.below hb1 R0.out.lt)
 have B1:=qh (B0.out.trans (hb1.mono (by omega)))
 have z1:h+1≤w1.heap.size:=by have:=hb1.size;omega
 clear hb1 CS T0 R0 B0
 obtain ⟨⟨p0,p1,p2⟩,_⟩:=R1.out.cells
 go_wp2_with fail
 refine (CP.out _ _ _ _ T1.out).mono ?_
 rintro e w2 ⟨u0,u1,u2,rfl,hm2,hb2⟩
 obtain ⟨k2,s2,l2,a2,c2,eM,rfl,rfl,rfl,_,_⟩:=hm2.form
 obtain ⟨V2,hV2⟩:∃ V2,w2.alloc (.cells #[.int .i64 k2,.string s2,.slice a2 l2.length c2] 24)=V2:=⟨_,rfl⟩
 have hb2':=hb2.alloc hb2.size (.cells #[.int .i64 k2,.string s2,.slice a2 l2.length c2] 24)
 have M2':=hm2.later ((Below.refl _ w2).alloc (Nat.le_refl _) (.cells #[.int .i64 k2,.string s2,.slice a2 l2.length c2] 24))
 have Q2':=Row3.new w2 (.int .i64 k2) (.string s2) (.slice a2 l2.length c2)
 obtain ⟨h2,hh2⟩:∃ h2,w2.heap.size=h2:=⟨_,rfl⟩
 rw [hV2] at hb2' M2' Q2'
 rw [hh2] at Q2'
 have T2:=qh (T1.out.later hb2')
 have R2:=qh (R1.out.below hb2' R1.out.lt)
 have B2:=qh (B1.out.trans (hb2'.mono (by omega)))
 have M2:=qh M2'
 have Q2:=qh Q2'
 have HV2:=qh hV2
 have HH2:=qh hh2
 have z2:h+1≤V2.heap.size:=Nat.le_trans z1 hb2'.size
 clear CP hm2 hb2 hb2' p0 p1 p2 T1 R1 B1 M2' Q2' hV2 hh2
 go_upto_region 5 with fail
 rw [HV2.out,HH2.out]
 clear HV2 HH2
 obtain ⟨⟨p0,p1,p2⟩,_⟩:=R2.out.cells
 obtain ⟨⟨q0,q1,q2⟩,_⟩:=Q2.out.cells
 go_wp2_with fail
 refine (CQ.out _ _ _ _ M2.out).mono ?_
 rintro e w3 ⟨y0,y1,y2,rfl,hm3,hb3⟩
 obtain ⟨k3,s3,l3,a3,c3,eM3,rfl,rfl,rfl,_,_⟩:=hm3.form
 obtain ⟨V3,hV3⟩:∃ V3,w3.alloc (.cells #[.int .i64 k3,.string s3,.slice a3 l3.length c3] 24)=V3:=⟨_,rfl⟩
 have hb3':=hb3.alloc hb3.size (.cells #[.int .i64 k3,.string s3,.slice a3 l3.length c3] 24)
 have K3':=hm3.later ((Below.refl _ w3).alloc (Nat.le_refl _) (.cells #[.int .i64 k3,.string s3,.slice a3 l3.length c3] 24))
 have P3':=Row3.new w3 (.int .i64 k3) (.string s3) (.slice a3 l3.length c3)
 obtain ⟨h3,hh3⟩:∃ h3,w3.heap.size=h3:=⟨_,rfl⟩
 rw [hV3] at hb3' K3' P3'
 rw [hh3] at P3'
 have T3:=qh (T2.out.later hb3')
 have R3:=qh (R2.out.below hb3' R2.out.lt)
 have M3:=qh (M2.out.later hb3')
 have Q3:=qh (Q2.out.below hb3' Q2.out.lt)
 have B3:=qh (B2.out.trans (hb3'.mono (by omega)))
 have K3:=qh K3'
 have P3:=qh P3'
 have HV3:=qh hV3
 have HH3:=qh hh3
 have z3:h+1≤V3.heap.size:=Nat.le_trans z2 hb3'.size
 clear CQ hm3 hb3 hb3' p0 p1 p2 q0 q1 q2 T2 R2 B2 M2 Q2 K3' P3' hV3 hh3
 go_upto_region 6 with fail
 rw [HV3.out,HH3.out]
 clear HV3 HH3
 obtain ⟨⟨p0,p1,p2⟩,_⟩:=R3.out.cells
 go_wp2_with fail
 refine (CN.out _ _ _ _ T3.out).mono ?_
 rintro e w4 ⟨na,nn,nc,rfl,sl4,hb4⟩
 have T4:=qh (T3.out.later hb4)
 have R4:=qh (R3.out.below hb4 R3.out.lt)
 have M4:=qh (M3.out.later hb4)
 have Q4:=qh (Q3.out.below hb4 Q3.out.lt)
 have K4:=qh (K3.out.later hb4)
 have P4:=qh (P3.out.below hb4 P3.out.lt)
 have B4:=qh (B3.out.trans (hb4.mono (by omega)))
 have L4:=qh sl4
 have z4:h+1≤w4.heap.size:=Nat.le_trans z3 hb4.size
 clear CN hb4 p0 p1 p2 T3 R3 B3 M3 Q3 K3 P3 sl4
 obtain ⟨⟨q0,q1,q2⟩,_⟩:=Q4.out.cells
 go_wp2_with fail
 refine (CN2.out _ _ _ _ M4.out).mono ?_
 rintro e w5 ⟨nb,nbn,nbc,rfl,sl5,hb5⟩
 have T5:=qh (T4.out.later hb5)
 have R5:=qh (R4.out.below hb5 R4.out.lt)
 have M5:=qh (M4.out.later hb5)
 have Q5:=qh (Q4.out.below hb5 Q4.out.lt)
 have K5:=qh (K4.out.later hb5)
 have P5:=qh (P4.out.below hb5 P4.out.lt)
 have B5:=qh (B4.out.trans (hb5.mono (by omega)))
 have L5:=qh (L4.out.below hb5)
 have N5:=qh sl5
 have z5:h+1≤w5.heap.size:=Nat.le_trans z4 hb5.size
 clear CN2 hb5 q0 q1 q2 T4 R4 B4 M4 Q4 K4 P4 L4 sl5
 obtain ⟨⟨p0,p1,p2⟩,_⟩:=R5.out.cells
 go_wp2_with fail
 refine (CV.out _ _ _ _ T5.out).mono ?_
 rintro e w6 ⟨nd,ndn,ndc,rfl,sl6,hb6⟩
 have T6:=qh (T5.out.later hb6)
 have R6:=qh (R5.out.below hb6 R5.out.lt)
 have M6:=qh (M5.out.later hb6)
 have Q6:=qh (Q5.out.below hb6 Q5.out.lt)
 have K6:=qh (K5.out.later hb6)
 have P6:=qh (P5.out.below hb6 P5.out.lt)
 have B6:=qh (B5.out.trans (hb6.mono (by omega)))
 have L6:=qh (L5.out.below hb6)
 have N6:=qh (N5.out.below hb6)
 have O6:=qh sl6
 have z6:h+1≤w6.heap.size:=Nat.le_trans z5 hb6.size
 clear CV hb6 p0 p1 p2 T5 R5 B5 M5 Q5 K5 P5 L5 N5 sl6
 obtain ⟨⟨q0,q1,q2⟩,_⟩:=Q6.out.cells
 go_wp2_with fail
 refine (CV2.out _ _ _ _ M6.out).mono ?_
 rintro e w7 ⟨ne,nen,nec,rfl,sl7,hb7⟩
 have T7:=qh (T6.out.later hb7)
 have R7:=qh (R6.out.below hb7 R6.out.lt)
 have M7:=qh (M6.out.later hb7)
 have Q7:=qh (Q6.out.below hb7 Q6.out.lt)
 have K7:=qh (K6.out.later hb7)
 have P7:=qh (P6.out.below hb7 P6.out.lt)
 have B7:=qh (B6.out.trans (hb7.mono (by omega)))
 have L7:=qh (L6.out.below hb7)
 have N7:=qh (N6.out.below hb7)
 have O7:=qh (O6.out.below hb7)
 have U7:=qh sl7
 have z7:h+1≤w7.heap.size:=Nat.le_trans z6 hb7.size
 clear CV2 hb7 q0 q1 q2 T6 R6 B6 M6 Q6 K6 P6 L6 N6 O6 sl7
 obtain ⟨⟨q0,q1,q2⟩,_⟩:=Q7.out.cells
 go_wp2_with fail
 refine (CT.out _ _ _ _ M7.out).mono ?_
 rintro e w8 ⟨rfl,hb8⟩
 have T8:=qh (T7.out.later hb8)
 have R8:=qh (R7.out.below hb8 R7.out.lt)
 have M8:=qh (M7.out.later hb8)
 have Q8:=qh (Q7.out.below hb8 Q7.out.lt)
 have K8:=qh (K7.out.later hb8)
 have P8:=qh (P7.out.below hb8 P7.out.lt)
 have B8:=qh (B7.out.trans (hb8.mono (by omega)))
 have L8:=qh (L7.out.below hb8)
 have N8:=qh (N7.out.below hb8)
 have O8:=qh (O7.out.below hb8)
 have U8:=qh (U7.out.below hb8)
 have z8:h+1≤w8.heap.size:=Nat.le_trans z7 hb8.size
 clear CT hb8 q0 q1 q2 T7 R7 B7 M7 Q7 K7 P7 L7 N7 O7 U7
 obtain ⟨⟨q0,q1,q2⟩,_⟩:=Q8.out.cells
 obtain ⟨⟨p0,p1,p2⟩,_⟩:=P8.out.cells
 go_wp2_with fail
 refine (CM.out _ _ _ _ _ _ _ K8.out M8.out).mono ?_
 rintro e w9 ⟨rfl,hb9⟩
 have T9:=qh (T8.out.later hb9)
 have R9:=qh (R8.out.below hb9 R8.out.lt)
 have M9:=qh (M8.out.later hb9)
 have Q9:=qh (Q8.out.below hb9 Q8.out.lt)
 have B9:=qh (B8.out.trans (hb9.mono (by omega)))
 have L9:=qh (L8.out.below hb9)
 have N9:=qh (N8.out.below hb9)
 have O9:=qh (O8.out.below hb9)
 have U9:=qh (U8.out.below hb9)
 have z9:h+1≤w9.heap.size:=Nat.le_trans z8 hb9.size
 clear CM hb9 q0 q1 q2 p0 p1 p2 T8 R8 B8 M8 Q8 K8 P8 L8 N8 O8 U8
 go_wp2_with fail
 refine (I1.out _ _ _ L9.out N9.out).mono ?_
 rintro e w10 ⟨rfl,rfl⟩
 clear I1
 go_wp2_with fail
 refine (I2.out _ _ _ N9.out L9.out).mono ?_
 rintro e w10 ⟨rfl,rfl⟩
 clear I2
 go_wp2_with fail
 refine (I3.out _ _ _ O9.out U9.out).mono ?_
 rintro e w10 ⟨rfl,rfl⟩
 clear I3
 go_wp2_with fail
 refine (I4.out _ _ _ U9.out O9.out).mono ?_
 rintro e w10 ⟨rfl,rfl⟩
 clear I4 L9 N9 O9 U9
 have S0:Sq2 h h2 (.int .i64 k) (.string s) (.slice a l.length c) (.int .i64 k2) (.string s2) (.slice a2 l2.length c2) w10 w10.drew:=sq2_of R9.out Q9.out (Below.refl _ _).drew
 have CA:Hid (∀ W,Sq2 h h2 (.int .i64 k) (.string s) (.slice a l.length c) (.int .i64 k2) (.string s2) (.slice a2 l2.length c2) w10 W→Calls Tryz.prog 16 #[.agg #[.int .i64 k,.string s,.slice a l.length c]] W fun e w'=>e = .returned (.int .i64 sz)∧Below W.heap.size W w'):=qh (fun W hS=>CZ.out W _ _ _ (T9.out.later hS.2.2.2.2.2.2.out))
 have CB:Hid (∀ W,Sq2 h h2 (.int .i64 k) (.string s) (.slice a l.length c) (.int .i64 k2) (.string s2) (.slice a2 l2.length c2) w10 W→Calls Tryz.prog 16 #[.agg #[.int .i64 k2,.string s2,.slice a2 l2.length c2]] W fun e w'=>e = .returned (.int .i64 sz)∧Below W.heap.size W w'):=qh (fun W hS=>CZ2.out W _ _ _ (M9.out.later hS.2.2.2.2.2.2.out))
 have SB:Hid (∀ W W',Sq2 h h2 (.int .i64 k) (.string s) (.slice a l.length c) (.int .i64 k2) (.string s2) (.slice a2 l2.length c2) w10 W→Below W.heap.size W W'→Sq2 h h2 (.int .i64 k) (.string s) (.slice a l.length c) (.int .i64 k2) (.string s2) (.slice a2 l2.length c2) w10 W'):=qh (fun W W' hS hb=>sq2_of R9.out Q9.out (hS.2.2.2.2.2.2.out.trans (hb.mono hS.2.2.2.2.2.2.out.size)))
 clear CZ CZ2 T9 M9
 go_wp2_with fail
 go_region_held3 (fun w'=>w'.cell? ⟨h,0,none⟩=some (.int .i64 k)∧w'.cell? ⟨h,1,none⟩=some (.string s)∧w'.cell? ⟨h,2,none⟩=some (.slice a l.length c)∧w'.cell? ⟨h2,0,none⟩=some (.int .i64 k2)∧w'.cell? ⟨h2,1,none⟩=some (.string s2)∧w'.cell? ⟨h2,2,none⟩=some (.slice a2 l2.length c2)∧Hid (Below w10.heap.size w10 w'))
  (first | with_reducible exact S0 | with_reducible exact S1 | with_reducible exact S2)
  (first
   | (go_at_call 16;refine (CA.out _ S0).mono ?_;clear CA;rintro e w12 ⟨rfl,hb12⟩;have S1:=SB.out _ _ S0 hb12;clear hb12)
   | (go_at_call 16;refine (CB.out _ S1).mono ?_;clear CB;rintro e w13 ⟨rfl,hb13⟩;have S2:=SB.out _ _ S1 hb13;clear hb13))
 all_goals (try go_wp2)
 all_goals go_ret
 all_goals exact ⟨rfl,B9.out.trans (S2.2.2.2.2.2.2.out.mono (by omega))⟩
theorem plainLaw_any (t:Nd) (w:World) (v0 v1 v2:Value) (ht:NdR w t v0 v1 v2) (hw:2≤w.heap.size) (gl:GLw w) :
  Calls Tryz.prog 8 #[.agg #[v0,v1,v2]] w fun e w'=>e = .returned (.bool true)∧Below w.heap.size w w':=by
 by_cases h:chkN t=0
 ·exact plainLaw_good t w v0 v1 v2 ht hw gl h
 ·exact plainLaw_bad t w v0 v1 v2 ht hw gl _ rfl h
end Go.Proofs.YtcimcjmdkjajfaaGreatDoor
namespace Go.Proofs.YtcimcjmdkjajfaaGreatDoor
open Go.ChangeShapes Go.WideShapes Go.ChangeAt Go.RowKit Go.ChangeMaps
section
variable {H:Type} {enc:TypeId×Value→H} {P:Program} {w w':World} {base:Nat} {sp:Nat→Bool} {held:Bool}
theorem trod_carry1 {t:TypeId} {v:Value} {d:DataW H} {ps:List MemPlace} (h:DataW.Trod enc P w base sp held t v d ps) (hs:∀ p∈ps,w.sameAt w' p):DataW.Trod enc P w' base sp held t v d ps:=by
 obtain ⟨n,hn⟩:=h
 exact ⟨n,DataW.trod_carry n _ _ _ hn hs⟩
theorem trodAll_carry:∀ {ts:List TypeId} {vs:List Value} {ds:List (DataW H)} {ps:List MemPlace},DataW.TrodAll enc P w base sp held ts vs ds ps→(∀ p∈ps,w.sameAt w' p)→DataW.TrodAll enc P w' base sp held ts vs ds ps
 | [],[],[],_,h,_=>h
 | _ :: _,_ :: _,_ :: _,_,⟨p,q,h1,h2,e⟩,hs=>⟨p,q,trod_carry1 h1 (fun x hx=>hs x (by rw [e];exact List.mem_append_left _ hx)),trodAll_carry h2 (fun x hx=>hs x (by rw [e];exact List.mem_append_right _ hx)),e⟩
theorem below_same {n:Nat} (hb:Below n w w') (p:MemPlace) (h:p.block < n):w.sameAt w' p:=by
 cases p with
 | cell b off=>exact hb.cell (p:=⟨b,off,none⟩) h
 | map b=>exact hb.block b h
theorem args_stay (hl:laidOutB P=true) (hm:mapsRowed P=true) (hz:((List.range P.types.size).all fun t=>match P.underlying t with | some (.slice e)=>decide (0 < P.cellsOf e) | _=>true)=true)
  {ts:List TypeId} {vs:List Value} {ds:List (DataW H)} {ps:List MemPlace} (ht:(ts.all fun t=>decide (t < P.types.size))=true) (hA:DataW.TrodAll enc P w 0 (fun _=>true) true ts vs ds ps) (hlt:∀ p∈ps,p.block < w.heap.size)
  (hb:Below w.heap.size w w') {sp:Nat→Bool} (hs:∀ p∈ps,sp p.block=true):DataW.TrodAll enc P w' 0 sp true ts vs ds ps:=by
 refine DataW.TrodAll.respare (T:=(· < P.types.size)) (kids_rows hl hm) (fun t e h1 h2=>slices_full_of P hz t e h1 h2) (fun t h=>?_) (trodAll_carry hA fun p hp=>below_same hb p (hlt p hp)) hs
 simpa using List.all_eq_true.1 ht t h
end
theorem laidAll:laidOutB Tryz.prog=true:=by kernel_rfl
theorem mapsAll:mapsRowed Tryz.prog=true:=by kernel_rfl
theorem fullAll:((List.range Tryz.prog.types.size).all fun t=>match Tryz.prog.underlying t with | some (.slice e)=>decide (0 < Tryz.prog.cellsOf e) | _=>true)=true:=by kernel_rfl
end Go.Proofs.YtcimcjmdkjajfaaGreatDoor
namespace Go.Proofs.YtcimcjmdkjajfaaGreatDoor
open Go.ChangeShapes Go.WideShapes Go.Deep Go.ChangeMaps Go.RowKit
section
variable {H:Type} {enc:TypeId×Value→H} {w:World} {base:Nat} {sp:Nat→Bool} {hd:Bool}
theorem sy_list_of {α:Type} {Q:Nat→α→Prop}:∀ n:Nat,(∀ i,i < n→∃ a,Q i a)→∃ l:List α,l.length=n∧∀ i,(h:i < l.length)→Q i l[i]
 | 0,_=>⟨[],rfl,fun i h=>absurd h (Nat.not_lt_zero _)⟩
 | n+1,h=>by
  obtain ⟨l,hl,hq⟩:=sy_list_of n fun i hi=>h i (by omega)
  obtain ⟨a,ha⟩:=h n (by omega)
  refine ⟨l++[a],by rw [List.length_append,hl];rfl,fun i hi=>?_⟩
  rw [List.getElem_append]
  split
  ·exact hq i _
  ·have:i=n:=by rw [List.length_append,List.length_singleton] at hi;omega
   subst this
   simpa using ha
theorem sy_addr_add (b o j:Nat):(⟨b,o,none⟩:Addr).add j=⟨b,o+j,none⟩:=by unfold Addr.add;split <;> simp_all
theorem NdS_leaf' (w:World) (k:Int) (s:ByteArray) (hs:s.size≤maxLen) (a:Option Addr) (cap:Nat):NdR w (.mk k s []) (.int .i64 k) (.string s) (.slice a 0 cap) :=
 .mk k s [] a cap 0 0 (fun _=>undef) (fun _=>undef) (fun _=>undef) hs (Nat.zero_le _) (Nat.zero_le _) (fun e=>absurd rfl e) (fun i hi=>absurd hi (Nat.not_lt_zero i)) (fun i hi=>absurd hi (Nat.not_lt_zero i)) (fun i hi=>absurd hi (Nat.not_lt_zero i)) (fun i hi=>absurd hi (Nat.not_lt_zero i))
theorem NdR.of_list {w:World} (k:Int) (s:ByteArray) (hs:s.size≤maxLen) (a:Addr) (len cap:Nat) (hl:len≤cap) (hm:cap≤maxLen)
  (h:∀ i,i < len→∃ (t:Nd) (v0 v1 v2:Value),(w.cell? (a.add (i*3))=some v0∧w.cell? (a.add (i*3+1))=some v1∧w.cell? (a.add (i*3+2))=some v2)∧NdR w t v0 v1 v2) :
  ∃ t,NdR w t (.int .i64 k) (.string s) (.slice (some a) len cap):=by
 obtain ⟨l,hll,hq⟩:=sy_list_of (Q:=fun i (q:Nd×Value×Value×Value)=>(w.cell? (a.add (i*3))=some q.2.1∧w.cell? (a.add (i*3+1))=some q.2.2.1∧w.cell? (a.add (i*3+2))=some q.2.2.2)∧NdR w q.1 q.2.1 q.2.2.1 q.2.2.2) len
  (fun i hi=>by obtain ⟨t,v0,v1,v2,h1,h2⟩:=h i hi;exact ⟨(t,v0,v1,v2),h1,h2⟩)
 have hlm:(l.map (·.1)).length=len:=by simp [hll]
 obtain ⟨b,o,g⟩:=a
 refine ⟨.mk k s (l.map (·.1)),?_⟩
 rw [←hlm]
 by_cases hne:l=[]
 ·subst hne
  simp only [List.map_nil,List.length_nil]
  exact (NdS_leaf' w k s hs (some ⟨b,o,g⟩) cap)
 ·have h0:0 < l.length:=List.length_pos_iff.2 hne
  have hg:g=none:=by
   have:=World.cell?_spot (hq 0 h0).1.1
   simpa [Addr.add] using this
  subst hg
  have fi:∀ i,(hi:i < (l.map (·.1)).length)→∃ q,l[i]?=some q∧(l.map (·.1))[i]=q.1∧(w.cell? ⟨b,o+i*3,none⟩=some q.2.1∧w.cell? ⟨b,o+i*3+1,none⟩=some q.2.2.1∧w.cell? ⟨b,o+i*3+2,none⟩=some q.2.2.2)∧NdR w q.1 q.2.1 q.2.2.1 q.2.2.2:=fun i hi=>by
   have hi':i < l.length:=by simpa using hi
   obtain ⟨⟨q0,q1,q2⟩,hr⟩:=hq i hi'
   rw [sy_addr_add] at q0 q1 q2
   refine ⟨l[i],List.getElem?_eq_getElem hi',by simp,⟨q0,?_,?_⟩,hr⟩
   ·rw [Nat.add_assoc];exact q1
   ·rw [Nat.add_assoc];exact q2
  refine .mk k s (l.map (·.1)) (some ⟨b,o,none⟩) cap b o (fun i=>((l[i]?).map (·.2.1)).getD undef) (fun i=>((l[i]?).map (·.2.2.1)).getD undef) (fun i=>((l[i]?).map (·.2.2.2)).getD undef) hs (by omega) (by omega) (fun _=>rfl) ?_ ?_ ?_ ?_
  all_goals intro i hi
  all_goals obtain ⟨q,e,e1,⟨c0,c1,c2⟩,hr⟩:=fi i hi
  ·simp only [e,Option.map_some,Option.getD_some];exact c0
  ·simp only [e,Option.map_some,Option.getD_some];exact c1
  ·simp only [e,Option.map_some,Option.getD_some];exact c2
  ·simp only [e,Option.map_some,Option.getD_some];rw [e1];exact hr
set_option maxRecDepth 100000 in
theorem open_node:∀ (fuel:Nat) (cs:List Value) (x:DataW H×List MemPlace),DataW.trod enc Tryz.prog w base sp hd fuel 24 cs=some x→∃ t v0 v1 v2,cs=[v0,v1,v2]∧NdR w t v0 v1 v2:=by
 intro fuel
 induction fuel using Nat.strongRecOn with
 | ind fuel ih =>
  intro cs x h
  obtain ⟨xs,n,rfl,rfl,hl,hxs,hf⟩:=DataW.trod_struct Tryz.underlying24 h
  have c:Tryz.prog.cellsOf 24=3:=by kernel_rfl
  have c9:Tryz.prog.cellsOf 9=1:=by kernel_rfl
  have c3:Tryz.prog.cellsOf 3=1:=by kernel_rfl
  have c22:Tryz.prog.cellsOf 22=1:=by kernel_rfl
  rw [c] at hl
  have f0:DataW.trod enc Tryz.prog w base sp hd n 3 ((cs.drop 0).take (Tryz.prog.cellsOf 3))=xs[0]?:=hf 0 _ rfl
  have f1:DataW.trod enc Tryz.prog w base sp hd n 9 ((cs.drop 1).take (Tryz.prog.cellsOf 9))=xs[1]?:=hf 1 _ rfl
  have f2:DataW.trod enc Tryz.prog w base sp hd n 22 ((cs.drop 2).take (Tryz.prog.cellsOf 22))=xs[2]?:=hf 2 _ rfl
  rw [c3] at f0
  rw [c9] at f1
  rw [c22] at f2
  match xs,hxs,f0,f1,f2 with
  | [x0,x1,x2],_,f0,f1,f2 =>
   obtain ⟨k,e0,_,_⟩:=DataW.trod_int Tryz.underlying3 f0
   obtain ⟨s,e1,_,hs⟩:=DataW.trod_string Tryz.underlying9 f1
   rcases DataW.trod_slice Tryz.underlying22 f2 with ⟨e2,_⟩ | ⟨a,len,cap,elems,rest,m,hfu,e2,_,hb,hlc,hm,hlen,hel,_,_⟩
   ·match cs,hl,e0,e1,e2 with
    | [u0,u1,u2],_,e0,e1,e2 =>
     simp at e0 e1 e2
     subst e0 e1 e2
     exact ⟨.mk k s [],_,_,_,rfl,NdS_leaf' w k s hs none 0⟩
   ·match cs,hl,e0,e1,e2 with
    | [u0,u1,u2],_,e0,e1,e2 =>
     simp at e0 e1 e2
     subst e0 e1 e2
     obtain ⟨t,ht⟩:=NdR.of_list k s hs a len cap hlc hm (fun i hi=>by
      have hE:=hel i hi
      rw [c] at hE
      have hxi:elems[i]?=some (elems[i]'(by omega)):=List.getElem?_eq_getElem (by omega)
      rw [hxi] at hE
      simp only [Option.bind_eq_some_iff] at hE
      obtain ⟨c1,hc1,hy1⟩:=hE
      obtain ⟨t,w0,w1,w2,rfl,hr⟩:=ih m (by omega) _ _ hy1
      obtain ⟨_,_,hat⟩:=World.cells?_some hc1
      refine ⟨t,w0,w1,w2,⟨?_,?_,?_⟩,hr⟩
      ·have:=hat 0 (by omega);rw [Go.Deep.add_add] at this;simpa using this
      ·have:=hat 1 (by omega);rw [Go.Deep.add_add] at this;simpa using this
      ·have:=hat 2 (by omega);rw [Go.Deep.add_add] at this;simpa using this)
     exact ⟨t,_,_,_,rfl,ht⟩
set_option maxRecDepth 100000 in
theorem open_tree {v:Value} {d:DataW H} {p:List MemPlace} {r:Reach} {b0:Nat} (hv:Value.okWide Tryz.prog w r b0 24 v) (h:DataW.Trod enc Tryz.prog w base sp hd 24 v d p):∃ t v0 v1 v2,v = .agg #[v0,v1,v2]∧NdR w t v0 v1 v2:=by
 obtain ⟨cs,rfl,_⟩:=okWide_struct Tryz.underlying24 hv
 obtain ⟨fuel,hf⟩:=h
 obtain ⟨t,v0,v1,v2,e,hr⟩:=open_node fuel _ _ hf
 have e':cs=#[v0,v1,v2]:=Array.toList_inj.1 e
 rw [e']
 exact ⟨t,v0,v1,v2,rfl,hr⟩
end
end Go.Proofs.YtcimcjmdkjajfaaGreatDoor
namespace Go.Proofs.YtcimcjmdkjajfaaGreatDoor
open Go.ChangeShapes Go.WideShapes Go.ChangeAt Go.RowKit
theorem cells_flat (k:Nat):∀ (L:List (List Value)) (cs:List Value),(∀ x∈L,x.length=k)→cs.length=L.length*k→(∀ i,(h:i < L.length)→(cs.drop (i*k)).take k=L[i])→cs=L.flatten
 | [],cs,_,hl,_=>by
  have:cs=[]:=List.eq_nil_of_length_eq_zero (by simpa using hl)
  rw [this]
  rfl
 | x :: L,cs,hk,hl,h=>by
  have h0:=h 0 (by simp)
  simp only [Nat.zero_mul,List.drop_zero,List.getElem_cons_zero] at h0
  have ih:=cells_flat k L (cs.drop k) (fun y hy=>hk y (by simp [hy])) (by
   rw [List.length_drop,hl,List.length_cons,Nat.succ_mul]
   omega) (fun i hi=>by
   have:=h (i+1) (by simpa using hi)
   rw [List.getElem_cons_succ] at this
   rw [List.drop_drop,←this,Nat.succ_mul,Nat.add_comm])
  rw [List.flatten_cons,←ih,←h0,List.take_append_drop]
section
variable {H:Type} {enc:TypeId×Value→H} {w:World} {base fuel:Nat} {sp:Nat→Bool} {hd:Bool} {cs:List Value} {x:DataW H×List MemPlace}
theorem lit_string {s:List UInt8} (h:DataW.trod enc Tryz.prog w base sp hd fuel 9 cs=some x) (hx:x.1 = .lit (.string s)):cs=[S_ s]:=by
 obtain ⟨s',rfl,rfl,_⟩:=DataW.trod_string Tryz.underlying9 h
 simp only [DataW.lit.injEq,Lit.string.injEq] at hx
 subst hx
 rfl
theorem lit_int {n:Int} (h:DataW.trod enc Tryz.prog w base sp hd fuel 3 cs=some x) (hx:x.1 = .lit (.int .i64 n)):cs=[.int .i64 n]:=by
 obtain ⟨m,rfl,rfl,_⟩:=DataW.trod_int Tryz.underlying3 h
 simp only [DataW.lit.injEq,Lit.int.injEq,true_and] at hx
 subst hx
 rfl
set_option maxRecDepth 100000 in
theorem open_opening {s:List UInt8} {n:Int} (h:DataW.trod enc Tryz.prog w base sp hd fuel 180 cs=some x) (hx:x.1 = .agg [.lit (.string s),.lit (.int .i64 n)]):cs=[S_ s,.int .i64 n]:=by
 obtain ⟨xs,m,_,rfl,hl,hxs,hf⟩:=DataW.trod_struct Tryz.underlying180 h
 have c:Tryz.prog.cellsOf 180=2:=by kernel_rfl
 have c9:Tryz.prog.cellsOf 9=1:=by kernel_rfl
 have c3:Tryz.prog.cellsOf 3=1:=by kernel_rfl
 rw [c] at hl
 have f0:DataW.trod enc Tryz.prog w base sp hd m 9 ((cs.drop 0).take (Tryz.prog.cellsOf 9))=xs[0]?:=hf 0 _ rfl
 have f1:DataW.trod enc Tryz.prog w base sp hd m 3 ((cs.drop 1).take (Tryz.prog.cellsOf 3))=xs[1]?:=hf 1 _ rfl
 rw [c9] at f0
 rw [c3] at f1
 match xs,hxs,hx,f0,f1 with
 | [x0,x1],_,hx,f0,f1 =>
  simp only [List.map_cons,List.map_nil,DataW.agg.injEq,List.cons.injEq,and_true] at hx
  have e0:=lit_string f0 hx.1
  have e1:=lit_int f1 hx.2
  match cs,hl,e0,e1 with
  | [a,b],_,e0,e1 =>
   simp at e0 e1
   rw [e0,e1]
set_option maxRecDepth 100000 in
theorem open_operator {s:List UInt8} {n b:Int} (h:DataW.trod enc Tryz.prog w base sp hd fuel 183 cs=some x) (hx:x.1 = .agg [.lit (.string s),.lit (.int .i64 n),.lit (.int .i64 b)]):cs=[S_ s,.int .i64 n,.int .i64 b]:=by
 obtain ⟨xs,m,_,rfl,hl,hxs,hf⟩:=DataW.trod_struct Tryz.underlying183 h
 have c:Tryz.prog.cellsOf 183=3:=by kernel_rfl
 have c9:Tryz.prog.cellsOf 9=1:=by kernel_rfl
 have c3:Tryz.prog.cellsOf 3=1:=by kernel_rfl
 rw [c] at hl
 have f0:DataW.trod enc Tryz.prog w base sp hd m 9 ((cs.drop 0).take (Tryz.prog.cellsOf 9))=xs[0]?:=hf 0 _ rfl
 have f1:DataW.trod enc Tryz.prog w base sp hd m 3 ((cs.drop 1).take (Tryz.prog.cellsOf 3))=xs[1]?:=hf 1 _ rfl
 have f2:DataW.trod enc Tryz.prog w base sp hd m 3 ((cs.drop 2).take (Tryz.prog.cellsOf 3))=xs[2]?:=hf 2 _ rfl
 rw [c9] at f0
 rw [c3] at f1 f2
 match xs,hxs,hx,f0,f1,f2 with
 | [x0,x1,x2],_,hx,f0,f1,f2 =>
  simp only [List.map_cons,List.map_nil,DataW.agg.injEq,List.cons.injEq,and_true] at hx
  have e0:=lit_string f0 hx.1
  have e1:=lit_int f1 hx.2.1
  have e2:=lit_int f2 hx.2.2
  match cs,hl,e0,e1,e2 with
  | [a,b,c],_,e0,e1,e2 =>
   simp at e0 e1 e2
   rw [e0,e1,e2]
theorem open_openings (h:DataW.trod enc Tryz.prog w base sp hd fuel 181 cs=some x) (hx:x.1 = .agg (openL.map fun o=>.agg [.lit (.string o.1),.lit (.int .i64 o.2)])):cs=openArr.toList:=by
 obtain ⟨xs,m,_,rfl,hl,hxs,hel⟩:=DataW.trod_array Tryz.underlying181 h
 have c:Tryz.prog.cellsOf 180=2:=by kernel_rfl
 have cA:Tryz.prog.cellsOf 181=40:=by kernel_rfl
 rw [cA] at hl
 simp only [DataW.agg.injEq] at hx
 have e:openArr.toList=(openL.map fun o=>[S_ o.1,Value.int .i64 o.2]).flatten:=by kernel_rfl
 have len:openL.length=20:=by kernel_rfl
 rw [e]
 refine cells_flat 2 _ cs (by intro y hy;obtain ⟨o,_,rfl⟩:=List.mem_map.1 hy;rfl) (by rw [hl,List.length_map,len]) (fun i hi=>?_)
 have hi':i < openL.length:=by simpa using hi
 have hE:=hel i (by omega)
 rw [c] at hE
 have hxi:xs[i]?=some (xs[i]'(by omega)):=List.getElem?_eq_getElem (by omega)
 rw [hxi] at hE
 rw [List.getElem_map]
 refine open_opening hE ?_
 have:=congrArg (fun l=>l[i]?) hx
 simp only [List.getElem?_map,hxi,List.getElem?_eq_getElem hi',Option.map_some,Option.some.injEq] at this
 exact this
theorem open_operators (h:DataW.trod enc Tryz.prog w base sp hd fuel 184 cs=some x) (hx:x.1 = .agg (opsL.map fun o=>.agg [.lit (.string o.1),.lit (.int .i64 o.2.1),.lit (.int .i64 (o.2.2:Nat))])):cs=opsArr.toList:=by
 obtain ⟨xs,m,_,rfl,hl,hxs,hel⟩:=DataW.trod_array Tryz.underlying184 h
 have c:Tryz.prog.cellsOf 183=3:=by kernel_rfl
 have cA:Tryz.prog.cellsOf 184=24:=by kernel_rfl
 rw [cA] at hl
 simp only [DataW.agg.injEq] at hx
 have e:opsArr.toList=(opsL.map fun o=>[S_ o.1,Value.int .i64 o.2.1,Value.int .i64 (o.2.2:Nat)]).flatten:=by kernel_rfl
 have len:opsL.length=8:=by kernel_rfl
 rw [e]
 refine cells_flat 3 _ cs (by intro y hy;obtain ⟨o,_,rfl⟩:=List.mem_map.1 hy;rfl) (by rw [hl,List.length_map,len]) (fun i hi=>?_)
 have hi':i < opsL.length:=by simpa using hi
 have hE:=hel i (by omega)
 rw [c] at hE
 have hxi:xs[i]?=some (xs[i]'(by omega)):=List.getElem?_eq_getElem (by omega)
 rw [hxi] at hE
 rw [List.getElem_map]
 refine open_operator hE ?_
 have:=congrArg (fun l=>l[i]?) hx
 simp only [List.getElem?_map,hxi,List.getElem?_eq_getElem hi',Option.map_some,Option.some.injEq] at this
 exact this
end
theorem ownAll:ownKnob Tryz.prog.godebug=none:=by kernel_rfl
theorem gOpen : Tryz.prog.globalNamed "peculium/syntax.openings" = some 0 := by kernel_rfl
theorem gOps : Tryz.prog.globalNamed "peculium/syntax.operators" = some 1 := by kernel_rfl
theorem tOpen:(Tryz.prog.globals[0]?).map (·.type)=some 181:=by kernel_rfl
theorem tOps:(Tryz.prog.globals[1]?).map (·.type)=some 184:=by kernel_rfl
def laidL : List (String × DataW Unit) := [("peculium/syntax.openings", Rows.laid_peculium_syntax_openings), ("peculium/syntax.operators", Rows.laid_peculium_syntax_operators)]
theorem row_of_var {W:World} {n:String} {g:Nat} {cs:Array Value} (hg:Tryz.prog.globalNamed n=some g) (h:W.var? Tryz.prog n=some cs):∃ t fr,W.heap[g]?=some (.cells cs t fr):=by
 simp only [World.var?,hg,Option.bind_some] at h
 split at h
 ·rename_i c t fr e
  cases h
  exact ⟨t,fr,e⟩
 ·cases h
set_option maxRecDepth 100000 in
theorem of_laid {W:World} (h:laidMetH Tryz.prog laidL W):GLw W∧2≤W.heap.size:=by
 rw [MakeChecks.laidMetH_plain _ _ _ (by kernel_rfl)] at h
 obtain ⟨ps,⟨g0,t0,cs0,f0,p0,q0,hg0,ht0,hv0,hd0,⟨g1,t1,cs1,f1,p1,q1,hg1,ht1,hv1,hd1,_,_⟩,_⟩,_,_⟩:=h
 obtain rfl:=Option.some.inj (gOpen.symm.trans hg0)
 obtain rfl:=Option.some.inj (gOps.symm.trans hg1)
 obtain rfl:=Option.some.inj (tOpen.symm.trans ht0)
 obtain rfl:=Option.some.inj (tOps.symm.trans ht1)
 have e0:=open_openings hd0 rfl
 have e1:=open_operators hd1 rfl
 obtain ⟨u0,r0,k0⟩:=row_of_var hg0 hv0
 obtain ⟨u1,r1,k1⟩:=row_of_var hg1 hv1
 rw [show cs0=openArr from Array.toList_inj.1 e0] at k0
 rw [show cs1=opsArr from Array.toList_inj.1 e1] at k1
 exact ⟨⟨⟨u0,r0,k0⟩,⟨u1,r1,k1⟩⟩,by have:=heap_lt k1;omega⟩
theorem door_met (os:Os) (args:Array Value):laidMetH Tryz.prog laidL ((World.doorLaid Tryz.prog 400 os).forCall (fun _ _=>0) ⟨#[],args,[]⟩).memory :=
 laidMetH_of_parts3 (fuel:=8) (laidMet_of_run' 8 (by kernel_rfl) (by kernel_rfl)) (by kernel_rfl) (by kernel_rfl)
end Go.Proofs.YtcimcjmdkjajfaaGreatDoor
namespace Go.Proofs.YtcimcjmdkjajfaaGreatDoor
open Go.ChangeShapes Go.WideShapes Go.ChangeAt Go.RowKit Go.ChangeMaps
abbrev nodeZ:Value:=.agg #[.int .i64 0,.string ⟨#[]⟩,.slice none 0 0]
set_option maxHeartbeats 800000 in
set_option maxRecDepth 100000 in
theorem syntaxPlain_lifted (os:Os) (started:os.Started) (H:Type) (enc:TypeId×Value→H) :
  ReturnsInHanded {} Tryz.checked os 8 .any (fun w args=>(Rows.syntaxPlainSpec.pre enc Tryz.prog Tryz.f8 [] false w args∧laidMetH Tryz.prog laidL w)∧sizedMet enc Tryz.prog Tryz.f8 (OpenSpec.ofChange Rows.syntaxPlainSpec) false w args)
   (Rows.syntaxPlainSpec.post enc Tryz.prog Tryz.f8 false true false false):=by
 refine returnsInHanded_of_change_and (C:=Tryz.checked) (X:=fun w _=>laidMetH Tryz.prog laidL w) (fun _ _ _ hh h=>h.of_heap hh) ownAll started (by kernel_rfl) Tryz.func8
  (ChangeSpec.witness_shaped (enc:=enc) (C:=Tryz.checked) (os:=os) (X:=fun w _=>laidMetH Tryz.prog laidL w) false (World.doorLaid Tryz.prog 400 os) #[nodeZ] 8 rfl (World.shaped_of_RefB (by kernel_rfl) (by kernel_rfl)) (by kernel_rfl) (by kernel_rfl) (by kernel_rfl) (door_met os _)) ?_
 intro W base args ds gs before hval0 hW _ _ hL _
 have hval:∀ (j:Nat) t v,Tryz.f8.params[j]?=some t→args[j]?=some v→Value.okWide Tryz.prog W .any base t v:=hval0
 have hW':=hW
 have hlt0:=hW.lt
 obtain ⟨p,q,hA0,hV,rfl,_,_⟩:=hW
 have hA:DataW.TrodAll enc Tryz.prog W 0 (fun _=>true) true Tryz.f8.params.toList args.toList ds p:=hA0
 rw [Tryz.params8] at hA hval
 have hA2:=hA
 have hlt:∀ r∈p,r.block < W.heap.size:=fun r hr=>hlt0 r (List.mem_append_left _ hr)
 clear hlt0
 obtain ⟨v0,d0,rfl,rfl,h0⟩:=trodAll_one hA
 obtain ⟨rfl,rfl⟩:=trodVars_none hV
 obtain ⟨t,t0,t1,t2,rfl,ht⟩:=open_tree (hval 0 24 v0 rfl rfl) h0
 obtain ⟨gl,hz⟩:=of_laid hL
 clear hA0 hval0
 simp only [List.append_nil] at hW'
 refine (plainLaw_any t W _ _ _ ht hz gl).mono fun e W' ⟨he,hnx⟩=>?_
 subst he
 exact ⟨_,rfl,_,_,_,[],_,[],hW',trodAll_mk1 (shut_bool Tryz.underlying4 true),args_stay laidAll mapsAll fullAll (by kernel_rfl) hA2 hlt hnx (fun r hr=>by simpa using hlt r hr),rfl,hnx.frame _,fun h=>by cases h⟩
theorem syntaxPlain_holds:Rows.SyntaxPlainSaid :=
 OpenClaim.holds_of_wide 8 Tryz.f8 rfl rfl rfl rfl rfl rfl rfl ⟨rfl,rfl,rfl,rfl,rfl⟩ rfl rfl rfl rfl rfl (by kernel_rfl) Tryz.func8 (by kernel_rfl)
  (of_decide_eq_true (by kernel_rfl)) (by unfold Func.isWrapper;first | (rw [if_pos (by decide +kernel)];kernel_rfl) | (rw [if_neg (by decide +kernel)];exact ⟨rfl,rfl⟩))
  (fun os started H enc _=>syntaxPlain_lifted os started H enc)
theorem syntaxPlain_card:Rows.SyntaxPlainCardSaid :=
 Claim7.holds_tied_plain_at .later [] [.data,.data] true _ true
  syntaxPlain_holds (fun _ h=>by cases h) (by kernel_rfl) (fun _ h=>by cases h) syntaxPlain_row_tie rfl ⟨rfl,rfl⟩ (by kernel_rfl) rfl
  (fun f fn hf hfn=>by
   obtain rfl : f = 8 := Option.some.inj ((show Tryz.prog.funcNamed "peculium/peculiumlaw02.SyntaxPlain" = some 8 by kernel_rfl).symm.trans hf) |>.symm
   obtain rfl:fn=Tryz.f8:=(Option.some.inj (Tryz.func8.symm.trans hfn)).symm
   exact ⟨by kernel_rfl,fun j t ht=>by
    rw [Tryz.params8] at ht
    have hm:t∈[24]:=by simpa using Array.mem_of_getElem? ht
    have hall:([24].all fun u=>!Tryz.prog.wantsStandIn u)=true:=by kernel_rfl
    exact (show Tryz.prog.wantsStandIn t=false by simpa using List.all_eq_true.1 hall t hm)⟩)
  (by kernel_rfl)
end Go.Proofs.YtcimcjmdkjajfaaGreatDoor
