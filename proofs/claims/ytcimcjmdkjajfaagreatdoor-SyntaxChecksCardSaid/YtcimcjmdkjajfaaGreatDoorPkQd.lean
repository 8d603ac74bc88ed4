/- A part of the proof, packed: see the last text of this claim. -/
import Derived.Test.YtcimcjmdkjajfaaGreatDoorPkQa
import Derived.Test.YtcimcjmdkjajfaaGreatDoorPkQb
import Derived.Test.YtcimcjmdkjajfaaGreatDoorPkQc
import Derived.StillTailTactics
import Derived.WalkSmall
import Derived.Carry
import Derived.Recover
import Derived.Defers
import Derived.Maps.AppendAt
import Derived.Lib.AppendStr
import Derived.Laws.Externs
import Derived.Lib.OthersKept
namespace Go.Proofs.YtcimcjmdkjajfaaGreatDoor
open Go.RowKit Go.Shelf
def Says (g:Nat) (B:Nd→Bool) (t:Nd):Prop:=∀ (w:World) (v0 v1 v2:Value),NdR w t v0 v1 v2→Calls Tryz.prog g #[.agg #[v0,v1,v2]] w fun e w'=>e = .returned (.bool (B t))∧Below w.heap.size w w'
theorem all_drop {B:Nd→Bool} {l:List Nd} {i:Nat} (h:i < l.length):(l.drop i).all B=(B l[i] && (l.drop (i+1)).all B):=by
 rw [List.drop_eq_getElem_cons h,List.all_cons]
set_option maxRecDepth 100000 in
set_option maxHeartbeats 1000000 in
theorem every1_any (g c:Nat) (eg:∀ args w,(callFunc g args).run Tryz.prog w = .ok (.enter g args) w) (B:Nd→Bool) (t:Nd) (hB:Says g B t) (w:World) (v0 v1 v2:Value) (ht:NdR w t v0 v1 v2) (hc:w.cell? ⟨c,0,none⟩=some (.func (.func g) #[] #[])) :
  Calls Tryz.prog 166 #[.agg #[v0,v1,v2],.pointer (some ⟨c,0,none⟩)] w fun e w'=>e = .returned (.bool (!B t))∧Below w.heap.size w w':=by
 obtain ⟨k,s,l,a,cap,rfl,rfl,rfl,rfl,hs,hl⟩:=ht.form
 have hb0:=((Below.refl w.heap.size w).alloc (Nat.le_refl _) (.cells #[.int .i64 k,.string s,.slice a l.length cap] 24))
 have C:=qh (hB _ _ _ _ (ht.later hb0))
 have HB:=qh hb0
 have hc':=(World.cell?_alloc_past (w:=w) (.cells #[.int .i64 k,.string s,.slice a l.length cap] 24) c 0 (lt_of_cell hc)).trans hc
 obtain ⟨V,hV⟩:∃ V,B (.mk k s l)=V:=⟨_,rfl⟩
 rw [hV] at C ⊢
 clear hV hB ht hb0 hc
 go_enter Tryz.func166,Tryz.ntmps166
 go_wp2_with fail
 refine C.out.mono ?_
 rintro e w1 ⟨rfl,hb⟩
 have HB1:=qh (HB.out.trans (hb.mono HB.out.size))
 clear hb C hc'
 go_wp2
 go_ret
 exact ⟨rfl,HB1.out⟩
set_option maxRecDepth 100000 in
set_option maxHeartbeats 1000000 in
theorem indexFunc_any (g c:Nat) (eg:∀ args w,(callFunc g args).run Tryz.prog w = .ok (.enter g args) w) (B:Nd→Bool) (k:Int) (s:ByteArray) (l:List Nd) (a:Option Addr) (cap:Nat) (w:World) (hl:l.length≤maxLen)
  (hB:∀ i,(h:i < l.length)→Says g B l[i]) (ht:NdR w (.mk k s l) (.int .i64 k) (.string s) (.slice a l.length cap)) (hc:w.cell? ⟨c,0,none⟩=some (.func (.func g) #[] #[])) :
  Calls Tryz.prog 206 #[.slice a l.length cap,.func (.func 166) #[] #[.pointer (some ⟨c,0,none⟩)]] w fun e w'=>∃ x:Int,e = .returned (.int .i64 x)∧decide (0≤x)=(!l.all B)∧Below w.heap.size w w':=by
 unfold maxLen at hl
 have HB:=qh hB
 have HT:=qh ht
 have HC:=qh hc
 have L0:=lt_of_cell hc
 obtain ⟨A,hA⟩:∃ A,l.all B=A:=⟨_,rfl⟩
 have HA:=qh hA
 rw [hA]
 clear hB ht hc hA
 go_enter Tryz.func206,Tryz.ntmps206
 go_wp2
 go_loopw [8] (fun v wr=>∃ i:Nat,i≤l.length∧v = .int .i64 i∧Hid ((l.drop i).all B=A)∧Hid (Below w.heap.size w wr)) (fun v _=>l.length - (intOf v).toNat)
 case atStart=>exact ⟨0,Nat.zero_le _,rfl,qh (by rw [List.drop_zero];exact HA.out),Below.refl _ _⟩
 case round =>
  obtain ⟨i,hi,rfl,hrun,hbl⟩:=hrel
  by_cases hlt:i < l.length
  ·have hlt':(i:Int) < (l.length:Int):=by omega
   have hi0:(0:Int)≤(i:Int):=by omega
   obtain ⟨b,o,k1,s1,l1,a1,c1,rfl,e1,x0,x1,x2,r1⟩:=(HT.out.later hbl.out).kid i hlt
   obtain ⟨V,hV⟩:∃ V,B l[i]=V:=⟨_,rfl⟩
   have C:=every1_any g c eg B l[i] (HB.out i hlt) wr (.int .i64 k1) (.string s1) (.slice a1 l1.length c1) (by rw [e1];exact r1) ((hbl.out.cell (p:=⟨c,0,none⟩) L0).trans HC.out)
   have Hst:=qh (all_drop (B:=B) hlt)
   rw [hV] at C Hst
   have CC:=qh C
   clear C hV e1 r1
   go_wp2_with fail
   refine CC.out.mono ?_
   rintro e w5 ⟨rfl,hb5⟩
   have hbx:Hid (Below w.heap.size w w5):=qh (hbl.out.trans (hb5.mono hbl.out.size))
   clear hb5 CC x0 x1 x2
   cases V with
   | false =>
    go_wp2
    go_ret
    exact ⟨(i:Int),rfl,by rw [←hrun.out,Hst.out,decide_eq_true (by omega)];rfl,hbx.out⟩
   | true =>
    go_wp2
    go_roundw
    case rel=>exact ⟨i+1,hlt,by push_cast;rfl,qh (by rw [←hrun.out,Hst.out];rfl),hbx⟩
    case measure=>simp [intOf];omega
  ·have hlt':¬ ((i:Int) < (l.length:Int)):=by omega
   have hAt:A=true:=by rw [←hrun.out,List.drop_of_length_le (by omega)];rfl
   subst hAt
   go_wp2
   go_ret
   exact ⟨-1,rfl,by decide,hbl.out⟩
set_option maxRecDepth 100000 in
set_option maxHeartbeats 1000000 in
theorem containsFunc_any (g c:Nat) (eg:∀ args w,(callFunc g args).run Tryz.prog w = .ok (.enter g args) w) (B:Nd→Bool) (k:Int) (s:ByteArray) (l:List Nd) (a:Option Addr) (cap:Nat) (w:World) (hl:l.length≤maxLen)
  (hB:∀ i,(h:i < l.length)→Says g B l[i]) (ht:NdR w (.mk k s l) (.int .i64 k) (.string s) (.slice a l.length cap)) (hc:w.cell? ⟨c,0,none⟩=some (.func (.func g) #[] #[])) :
  Calls Tryz.prog 165 #[.slice a l.length cap,.func (.func 166) #[] #[.pointer (some ⟨c,0,none⟩)]] w fun e w'=>e = .returned (.bool (!l.all B))∧Below w.heap.size w w':=by
 have C:=qh (indexFunc_any g c eg B k s l a cap w hl hB ht hc)
 clear hB ht hc
 obtain ⟨A,hA⟩:∃ A,(!l.all B)=A:=⟨_,rfl⟩
 rw [hA] at C ⊢
 clear hA
 go_enter Tryz.func165,Tryz.ntmps165
 go_wp2_with fail
 refine C.out.mono ?_
 rintro e w1 ⟨x,rfl,hx,hb⟩
 have HX:=qh hx
 have HB:=qh hb
 clear hx hb C
 go_wp2
 go_ret
 exact ⟨by rw [←HX.out];rfl,HB.out⟩
set_option maxRecDepth 100000 in
set_option maxHeartbeats 1000000 in
theorem every_any (g:Nat) (eg:∀ args w,(callFunc g args).run Tryz.prog w = .ok (.enter g args) w) (B:Nd→Bool) (k:Int) (s:ByteArray) (l:List Nd) (a:Option Addr) (cap:Nat) (w:World) (hl:l.length≤maxLen)
  (hB:∀ i,(h:i < l.length)→Says g B l[i]) (ht:NdR w (.mk k s l) (.int .i64 k) (.string s) (.slice a l.length cap)) :
  Calls Tryz.prog 113 #[.slice a l.length cap,.func (.func g) #[] #[]] w fun e w'=>e = .returned (.bool (l.all B))∧Below w.heap.size w w':=by
 have hmf:∀ (fn:Fn) (first cap:Array Value) (w:World),(Instr.makeFunc fn first cap).run Tryz.prog w = .ok (.func fn first cap) w:=fun _ _ _ _=>rfl
 have hb0:=(Below.refl w.heap.size w).alloc (Nat.le_refl _) (.cells #[.func (.func g) #[] #[]] 29)
 have C:=qh (fun w'=>(show NdR w' _ _ _ _→_ from fun h1 hc=>containsFunc_any g w.heap.size eg B k s l a cap w' hl hB h1 hc))
 have HT:=qh (ht.later hb0)
 have HB:=qh hb0
 have HC:=qh (show (w.alloc (.cells #[.func (.func g) #[] #[]] 29)).cell? ⟨w.heap.size,0,none⟩=some (.func (.func g) #[] #[]) from (World.cell?_alloc_at _ _ _ _ rfl).trans rfl)
 obtain ⟨A,hA⟩:∃ A,l.all B=A:=⟨_,rfl⟩
 rw [hA] at C ⊢
 clear hA hB ht hb0
 go_enter Tryz.func113,Tryz.ntmps113
 go_wp2_with fail
 refine (C.out _ HT.out HC.out).mono ?_
 rintro e w1 ⟨rfl,hb⟩
 have HB1:=qh (HB.out.trans (hb.mono HB.out.size))
 clear hb C HT HC
 cases A
 ·go_wp2
  go_ret
  exact ⟨rfl,HB1.out⟩
 ·go_wp2
  go_ret
  exact ⟨rfl,HB1.out⟩
def SaysN (g:Nat) (N:ByteArray→Bool) (s:ByteArray):Prop:=∀ w:World,Calls Tryz.prog g #[.string s] w fun e w'=>e = .returned (.bool (N s))∧Below w.heap.size w w'
def hasB (N:ByteArray→Bool) (lo hi:Int) (B:Nd→Bool) (s:ByteArray) (l:List Nd):Bool:=decide (lo≤(l.length:Int)) && (decide ((l.length:Int)≤hi) && (N s && l.all B))
set_option maxRecDepth 100000 in
set_option maxHeartbeats 1000000 in
theorem has_any (gn g:Nat) (en:∀ args w,(callFunc gn args).run Tryz.prog w = .ok (.enter gn args) w) (eg:∀ args w,(callFunc g args).run Tryz.prog w = .ok (.enter g args) w) (N:ByteArray→Bool) (B:Nd→Bool) (lo hi:Int) (k:Int) (s:ByteArray) (l:List Nd) (a:Option Addr) (cap:Nat) (w:World) (hl:l.length≤maxLen)
  (hN:SaysN gn N s) (hB:∀ i,(h:i < l.length)→Says g B l[i]) (ht:NdR w (.mk k s l) (.int .i64 k) (.string s) (.slice a l.length cap)) :
  Calls Tryz.prog 110 #[.agg #[.int .i64 k,.string s,.slice a l.length cap],.func (.func gn) #[] #[],.int .i64 lo,.int .i64 hi,.func (.func g) #[] #[]] w fun e w'=>e = .returned (.bool (hasB N lo hi B s l))∧Below w.heap.size w w':=by
 have hb0:=(Below.refl w.heap.size w).alloc (Nat.le_refl _) (.cells #[.int .i64 k,.string s,.slice a l.length cap] 24)
 obtain ⟨W1,hW1⟩:∃ W1,w.alloc (.cells #[.int .i64 k,.string s,.slice a l.length cap] 24)=W1:=⟨_,rfl⟩
 obtain ⟨h,hh⟩:∃ h,w.heap.size=h:=⟨_,rfl⟩
 have R1:Row3 W1 h (.int .i64 k) (.string s) (.slice a l.length cap):=by rw [←hW1,←hh];exact Row3.new _ _ _ _
 have CN:=qh (hN W1)
 have CE:=qh (fun w' (hb:Below W1.heap.size W1 w')=>every_any g eg B k s l a cap w' hl hB (((by rw [←hW1];exact ht.later hb0:NdR W1 _ _ _ _)).later hb))
 obtain ⟨VN,hVN⟩:∃ V,N s=V:=⟨_,rfl⟩
 obtain ⟨VB,hVB⟩:∃ V,l.all B=V:=⟨_,rfl⟩
 obtain ⟨R,hR⟩:∃ R,hasB N lo hi B s l=R:=⟨_,rfl⟩
 have HR:Hid (R=(decide (lo≤(l.length:Int)) && (decide ((l.length:Int)≤hi) && (VN && VB)))):=qh (by rw [←hR,←hVN,←hVB];rfl)
 rw [hVN] at CN
 rw [hVB] at CE
 rw [hR]
 rw [hW1] at hb0
 have HB:=qh hb0
 have HR1:=qh R1
 obtain ⟨⟨n0,n1,n2⟩,_⟩:=R1.cells
 have HW:=qh hW1
 rw [hh] at HB
 clear hVN hVB hR hb0 hN hB ht R1 hW1
 by_cases h1:lo≤(l.length:Int)
 ·have hD1:=qh (decide_eq_true h1)
  by_cases h2:(l.length:Int)≤hi
  ·have hD2:=qh (decide_eq_true h2)
   rw [hD1.out,hD2.out,Bool.true_and,Bool.true_and] at HR
   go_enter Tryz.func110,Tryz.ntmps110
   go_upto_region 1 with fail
   rw [HW.out]
   go_wp2_with fail
   refine CN.out.mono ?_
   rintro e w2 ⟨rfl,hb2⟩
   have R2:=qh (HR1.out.below hb2 HR1.out.lt)
   have HB2:=qh hb2
   clear hb2 CN n0 n1 n2
   obtain ⟨⟨n0,n1,n2⟩,_⟩:=R2.out.cells
   cases VN with
   | false =>
    go_wp2
    go_ret
    exact ⟨by rw [HR.out];rfl,by first | exact HB.out.trans (HB2.out.mono (by have:=HB.out.size;have:=HR1.out.lt;omega)) | (rw [hh];exact HB.out.trans (HB2.out.mono (by have:=HB.out.size;have:=HR1.out.lt;omega)))⟩
   | true =>
    go_wp2_with fail
    refine (CE.out _ HB2.out).mono ?_
    rintro e w3 ⟨rfl,hb3⟩
    have HB3:=qh hb3
    clear hb3 CE n0 n1 n2
    cases VB
    ·go_wp2
     go_ret
     exact ⟨by rw [HR.out];rfl,by first | exact HB.out.trans ((HB2.out.trans (HB3.out.mono HB2.out.size)).mono (by have:=HR1.out.lt;omega)) | (rw [hh];exact HB.out.trans ((HB2.out.trans (HB3.out.mono HB2.out.size)).mono (by have:=HR1.out.lt;omega)))⟩
    ·go_wp2
     go_ret
     exact ⟨by rw [HR.out];rfl,by first | exact HB.out.trans ((HB2.out.trans (HB3.out.mono HB2.out.size)).mono (by have:=HR1.out.lt;omega)) | (rw [hh];exact HB.out.trans ((HB2.out.trans (HB3.out.mono HB2.out.size)).mono (by have:=HR1.out.lt;omega)))⟩
  ·have hD2:=qh (decide_eq_false h2)
   rw [hD1.out,hD2.out,Bool.true_and,Bool.false_and] at HR
   go_enter Tryz.func110,Tryz.ntmps110
   go_upto_region 1 with fail
   rw [HW.out]
   go_wp2
   go_ret
   exact ⟨by rw [HR.out];rfl,by first | exact HB.out | (rw [hh];exact HB.out)⟩
 ·have hD1:=qh (decide_eq_false h1)
  rw [hD1.out,Bool.false_and] at HR
  go_enter Tryz.func110,Tryz.ntmps110
  go_upto_region 1 with fail
  rw [HW.out]
  go_wp2
  go_ret
  exact ⟨by rw [HR.out];rfl,by first | exact HB.out | (rw [hh];exact HB.out)⟩
end Go.Proofs.YtcimcjmdkjajfaaGreatDoor
namespace Go.Proofs.YtcimcjmdkjajfaaGreatDoor
open Go.RowKit Go.Shelf
theorem ent_isNone:∀ args w,(callFunc 111 args).run Tryz.prog w = .ok (.enter 111 args) w:=enters_of Tryz.func111 (by kernel_rfl) rfl
theorem ent_isName:∀ args w,(callFunc 114 args).run Tryz.prog w = .ok (.enter 114 args) w:=enters_of Tryz.func114 (by kernel_rfl) rfl
theorem ent_isVar:∀ args w,(callFunc 73 args).run Tryz.prog w = .ok (.enter 73 args) w:=enters_of Tryz.func73 (by kernel_rfl) rfl
theorem ent_isLone:∀ args w,(callFunc 112 args).run Tryz.prog w = .ok (.enter 112 args) w:=enters_of Tryz.func112 (by kernel_rfl) rfl
theorem ent_isMode:∀ args w,(callFunc 115 args).run Tryz.prog w = .ok (.enter 115 args) w:=enters_of Tryz.func115 (by kernel_rfl) rfl
theorem ent_isType:∀ args w,(callFunc 61 args).run Tryz.prog w = .ok (.enter 61 args) w:=enters_of Tryz.func61 (by kernel_rfl) rfl
theorem ent_isTerm:∀ args w,(callFunc 60 args).run Tryz.prog w = .ok (.enter 60 args) w:=enters_of Tryz.func60 (by kernel_rfl) rfl
theorem ent_isForm:∀ args w,(callFunc 59 args).run Tryz.prog w = .ok (.enter 59 args) w:=enters_of Tryz.func59 (by kernel_rfl) rfl
theorem ent_isItem:∀ args w,(callFunc 58 args).run Tryz.prog w = .ok (.enter 58 args) w:=enters_of Tryz.func58 (by kernel_rfl) rfl
set_option maxRecDepth 100000 in
set_option maxHeartbeats 400000 in
theorem isNone_any (s:ByteArray):SaysN 111 noneB s:=by
 intro w
 have e:(s.toList==[])=noneB s:=by unfold noneB;cases s.toList <;> rfl
 obtain ⟨V,hV⟩:∃ V,noneB s=V:=⟨_,rfl⟩
 rw [hV] at e ⊢
 have HE:=qh e
 clear hV
 go_enter Tryz.func111,Tryz.ntmps111
 go_wp2
 go_ret
 first | exact ⟨rfl,Below.refl _ _⟩ | exact ⟨by rw [←HE.out];rfl,Below.refl _ _⟩
theorem name_says (s:ByteArray) (hs:s.size≤maxLen):SaysN 114 nameB s:=fun w=>isName_any s w hs
theorem var_says (s:ByteArray) (hs:s.size≤maxLen):SaysN 73 varB s:=fun w=>isVar_any s w hs
set_option maxRecDepth 100000 in
set_option maxHeartbeats 400000 in
theorem isAny_any (s:ByteArray) (hs:s.size≤maxLen):SaysN 72 (fun s=>nameB s || varB s) s:=by
 intro w
 have C1:=name_says s hs
 have C2:=var_says s hs
 unfold SaysN at C1 C2
 obtain ⟨V1,h1⟩:∃ V,nameB s=V:=⟨_,rfl⟩
 obtain ⟨V2,h2⟩:∃ V,varB s=V:=⟨_,rfl⟩
 simp only [h1,h2] at C1 C2 ⊢
 have D1:=qh C1
 have D2:=qh C2
 clear C1 C2 h1 h2
 go_enter Tryz.func72,Tryz.ntmps72
 go_wp2_with fail
 refine (D1.out _).mono ?_
 rintro e w1 ⟨rfl,hb1⟩
 have HB1:=qh hb1
 clear hb1 D1
 cases V1 with
 | true =>
  go_wp2
  go_ret
  exact ⟨rfl,HB1.out⟩
 | false =>
  go_wp2_with fail
  refine (D2.out _).mono ?_
  rintro e w2 ⟨rfl,hb2⟩
  have HB2:=qh (HB1.out.trans (hb2.mono HB1.out.size))
  clear hb2 D2
  cases V2
  ·go_wp2
   go_ret
   exact ⟨rfl,HB2.out⟩
  ·go_wp2
   go_ret
   exact ⟨rfl,HB2.out⟩
theorem all_iff {B:Nd→Bool} {l:List Nd}:l.all B=true↔∀ i,(h:i < l.length)→B l[i]=true:=by
 rw [List.all_eq_true]
 constructor
 ·intro h i hi;exact h _ (List.getElem_mem hi)
 ·intro h x hx
  obtain ⟨i,hi,rfl⟩:=List.getElem_of_mem hx
  exact h i hi
theorem typL_all (l:List Nd):typL l=l.all typB:=by rw [Bool.eq_iff_iff,typL_iff,all_iff]
theorem termL_all (l:List Nd):termL l=l.all termB:=by rw [Bool.eq_iff_iff,termL_iff,all_iff]
theorem nameL_all (l:List Nd):nameL l=l.all loneB:=by rw [Bool.eq_iff_iff,nameL_iff,all_iff]
theorem modeL_all (l:List Nd):modeL l=l.all modeB:=by rw [Bool.eq_iff_iff,modeL_iff,all_iff]
theorem itemL_all (l:List Nd):itemL l=l.all itemB:=by rw [Bool.eq_iff_iff,itemL_iff,all_iff]
theorem formL_all:∀ l:List Nd,formL l=l.all formB
 | []=>by simp [formL]
 | a :: l=>by simp only [formL,List.all_cons];rw [formL_all l]
theorem has_eq (N:ByteArray→Bool) (lo hi:Nat) (B:Nd→Bool) (s:ByteArray) (l:List Nd):hasB N lo hi B s l=(decide (lo≤l.length) && (decide (l.length≤hi) && (N s && l.all B))):=by
 unfold hasB
 congr 1
 ·by_cases h:lo≤l.length
  ·rw [decide_eq_true h,decide_eq_true (by omega)]
  ·rw [decide_eq_false h,decide_eq_false (by omega)]
 ·congr 1
  by_cases h:l.length≤hi
  ·rw [decide_eq_true h,decide_eq_true (by omega)]
  ·rw [decide_eq_false h,decide_eq_false (by omega)]
theorem has_zero (N:ByteArray→Bool) (B:Nd→Bool) (s:ByteArray) (l:List Nd):hasB N 0 0 B s l=(decide (l.length=0) && N s):=by
 rw [show hasB N 0 0 B s l=hasB N ((0:Nat):Int) ((0:Nat):Int) B s l from rfl,has_eq]
 cases l with
 | nil=>simp
 | cons a l=>simp
set_option maxRecDepth 100000 in
set_option maxHeartbeats 2000000 in
theorem isLone_any (n:Nat):∀ t:Nd,t.sz≤n→Says 112 loneB t:=by
 induction n with
 | zero=>intro t h;cases t;simp only [Nd.sz] at h;omega
 | succ n ih =>
  intro t hsz w v0 v1 v2 ht
  obtain ⟨k,s,l,a,cap,rfl,rfl,rfl,rfl,hs,hl⟩:=ht.form
  have hb0:=(Below.refl w.heap.size w).alloc (Nat.le_refl _) (.cells #[.int .i64 k,.string s,.slice a l.length cap] 24)
  obtain ⟨h,hh⟩:∃ h,w.heap.size=h:=⟨_,rfl⟩
  obtain ⟨W1,hW1⟩:∃ W1,w.alloc (.cells #[.int .i64 k,.string s,.slice a l.length cap] 24)=W1:=⟨_,rfl⟩
  have R1:Row3 W1 h (.int .i64 k) (.string s) (.slice a l.length cap):=by rw [←hW1,←hh];exact Row3.new _ _ _ _
  have T1:=ht.later hb0
  rw [hW1] at hb0 T1
  rw [hh] at hb0
  have HB:=qh hb0
  have HT1:=qh T1
  have HR1:=qh R1
  have HW:=qh hW1
  obtain ⟨⟨n0,n1,n2⟩,_⟩:=R1.cells
  have CH_x:=fun w' (hb:Below W1.heap.size W1 w')=>has_any 114 112 ent_isName ent_isLone nameB loneB 0 0 k s l a cap w' hl (name_says s hs) (fun i hi=>ih l[i] (Nat.le_of_lt_succ (Nat.lt_of_lt_of_le (Nd.kid_lt _ s l i hi) hsz))) (HT1.out.later hb)
  obtain ⟨V,hV⟩:∃ V,hasB nameB 0 0 loneB s l=V:=⟨_,rfl⟩
  rw [hV] at CH_x
  have CC:=qh CH_x
  have HS:Hid (loneB (.mk k s l)=(decide (k=15) && V)):=qh (by rw [loneB,←hV,has_zero])
  clear CH_x hV ih ht hb0 T1 R1 hW1 hsz
  by_cases hk:k=15
  ·subst hk
   go_enter Tryz.func112,Tryz.ntmps112
   go_upto_region 1 with fail
   rw [HW.out]
   go_wp2_with fail
   refine (CC.out _ (Below.refl _ _)).mono ?_
   rintro e w2 ⟨rfl,hb2⟩
   have HB2:=qh hb2
   clear hb2 CC n0 n1 n2
   cases V
   ·skip
    go_wp2
    go_ret
    exact ⟨by rw [HS.out];rfl,by first | exact HB.out.trans (HB2.out.mono (by have:=HR1.out.lt;omega)) | (rw [hh];exact HB.out.trans (HB2.out.mono (by have:=HR1.out.lt;omega)))⟩
   ·skip
    go_wp2
    go_ret
    exact ⟨by rw [HS.out];rfl,by first | exact HB.out.trans (HB2.out.mono (by have:=HR1.out.lt;omega)) | (rw [hh];exact HB.out.trans (HB2.out.mono (by have:=HR1.out.lt;omega)))⟩
  ·have e1:(k==15)=false:=by rw [beq_eq_false_iff_ne];exact hk
   have HS2:Hid (loneB (.mk k s l)=false):=qh (by rw [HS.out,decide_eq_false hk];rfl)
   clear hk
   go_enter Tryz.func112,Tryz.ntmps112
   go_upto_region 1 with fail
   rw [HW.out]
   go_wp2
   go_ret
   exact ⟨by rw [HS2.out];rfl,by first | exact HB.out | (rw [hh];exact HB.out)⟩
set_option maxRecDepth 100000 in
set_option maxHeartbeats 2000000 in
theorem isMode_any (t:Nd):Says 115 modeB t:=by
 intro w v0 v1 v2 ht
 obtain ⟨k,s,l,a,cap,rfl,rfl,rfl,rfl,hs,hl⟩:=ht.form
 have hb0:=(Below.refl w.heap.size w).alloc (Nat.le_refl _) (.cells #[.int .i64 k,.string s,.slice a l.length cap] 24)
 obtain ⟨h,hh⟩:∃ h,w.heap.size=h:=⟨_,rfl⟩
 obtain ⟨W1,hW1⟩:∃ W1,w.alloc (.cells #[.int .i64 k,.string s,.slice a l.length cap] 24)=W1:=⟨_,rfl⟩
 have R1:Row3 W1 h (.int .i64 k) (.string s) (.slice a l.length cap):=by rw [←hW1,←hh];exact Row3.new _ _ _ _
 have T1:=ht.later hb0
 rw [hW1] at hb0 T1
 rw [hh] at hb0
 have HB:=qh hb0
 have HT1:=qh T1
 have HR1:=qh R1
 have HW:=qh hW1
 obtain ⟨⟨n0,n1,n2⟩,_⟩:=R1.cells
 have CL:=isLone_any _ (.mk k s l) (Nat.le_refl _) W1 _ _ _ HT1.out
 obtain ⟨V,hV⟩:∃ V,loneB (.mk k s l)=V:=⟨_,rfl⟩
 rw [hV] at CL
 have CC:=qh CL
 have key:modeB (.mk k s l)=(V && (s.toList==[105,110] || (s.toList==[111,117,116] || s.toList==[97,110,121]))):=by
  have e:∀ x:List UInt8,decide (s=⟨x.toArray⟩)=(s.toList==x):=fun x=>by
   rw [ByteArray.toList_eq,Bool.eq_iff_iff,decide_eq_true_eq,beq_iff_eq]
   constructor
   ·intro h;rw [h]
   ·intro h;obtain ⟨⟨d⟩⟩:=s;simp only at h;rw [h]
  have m1:nameB ⟨#[105,110]⟩=true:=by decide +kernel
  have m2:nameB ⟨#[111,117,116]⟩=true:=by decide +kernel
  have m3:nameB ⟨#[97,110,121]⟩=true:=by decide +kernel
  rw [modeB,←hV,loneB]
  rw [show (s.toList==[105,110])=decide (s=⟨#[105,110]⟩) from (e _).symm,show (s.toList==[111,117,116])=decide (s=⟨#[111,117,116]⟩) from (e _).symm,show (s.toList==[97,110,121])=decide (s=⟨#[97,110,121]⟩) from (e _).symm]
  by_cases h1:s=⟨#[105,110]⟩
  ·subst h1;rw [m1];simp
  ·by_cases h2:s=⟨#[111,117,116]⟩
   ·subst h2;rw [m2];simp
   ·by_cases h3:s=⟨#[97,110,121]⟩
    ·subst h3;rw [m3];simp
    ·simp [h1,h2,h3]
 obtain ⟨B1,hB1⟩:∃ B,(s.toList==[105,110])=B:=⟨_,rfl⟩
 obtain ⟨B2,hB2⟩:∃ B,(s.toList==[111,117,116])=B:=⟨_,rfl⟩
 obtain ⟨B3,hB3⟩:∃ B,(s.toList==[97,110,121])=B:=⟨_,rfl⟩
 rw [hB1,hB2,hB3] at key
 have HS:=qh key
 clear CL hV ht hb0 T1 R1 hW1 key
 go_enter Tryz.func115,Tryz.ntmps115
 go_upto_region 1 with fail
 rw [HW.out]
 go_wp2_with fail
 refine CC.out.mono ?_
 rintro e w2 ⟨rfl,hb2⟩
 have R2:=qh (HR1.out.below hb2 HR1.out.lt)
 have HB2:=qh hb2
 clear hb2 n0 n1 n2
 obtain ⟨⟨n0,n1,n2⟩,_⟩:=R2.out.cells
 clear CC
 cases V with
 | false =>
  go_wp2
  go_ret
  exact ⟨by rw [HS.out];rfl,by first | exact HB.out.trans (HB2.out.mono (by have:=HR1.out.lt;omega)) | (rw [hh];exact HB.out.trans (HB2.out.mono (by have:=HR1.out.lt;omega)))⟩
 | true =>
  cases B1 with
  | true =>
   go_wp2
   go_ret
   exact ⟨by rw [HS.out];rfl,by first | exact HB.out.trans (HB2.out.mono (by have:=HR1.out.lt;omega)) | (rw [hh];exact HB.out.trans (HB2.out.mono (by have:=HR1.out.lt;omega)))⟩
  | false =>
   cases B2 with
   | true =>
    go_wp2
    go_ret
    exact ⟨by rw [HS.out];rfl,by first | exact HB.out.trans (HB2.out.mono (by have:=HR1.out.lt;omega)) | (rw [hh];exact HB.out.trans (HB2.out.mono (by have:=HR1.out.lt;omega)))⟩
   | false =>
    cases B3 with
    | true =>
     go_wp2
     go_ret
     exact ⟨by rw [HS.out];rfl,by first | exact HB.out.trans (HB2.out.mono (by have:=HR1.out.lt;omega)) | (rw [hh];exact HB.out.trans (HB2.out.mono (by have:=HR1.out.lt;omega)))⟩
    | false =>
     go_wp2
     go_ret
     exact ⟨by rw [HS.out];rfl,by first | exact HB.out.trans (HB2.out.mono (by have:=HR1.out.lt;omega)) | (rw [hh];exact HB.out.trans (HB2.out.mono (by have:=HR1.out.lt;omega)))⟩
set_option maxRecDepth 100000 in
set_option maxHeartbeats 2000000 in
theorem isType_any (n:Nat):∀ t:Nd,t.sz≤n→Says 61 typB t:=by
 induction n with
 | zero=>intro t h;cases t;simp only [Nd.sz] at h;omega
 | succ n ih =>
  intro t hsz w v0 v1 v2 ht
  obtain ⟨k,s,l,a,cap,rfl,rfl,rfl,rfl,hs,hl⟩:=ht.form
  have hb0:=(Below.refl w.heap.size w).alloc (Nat.le_refl _) (.cells #[.int .i64 k,.string s,.slice a l.length cap] 24)
  obtain ⟨h,hh⟩:∃ h,w.heap.size=h:=⟨_,rfl⟩
  obtain ⟨W1,hW1⟩:∃ W1,w.alloc (.cells #[.int .i64 k,.string s,.slice a l.length cap] 24)=W1:=⟨_,rfl⟩
  have R1:Row3 W1 h (.int .i64 k) (.string s) (.slice a l.length cap):=by rw [←hW1,←hh];exact Row3.new _ _ _ _
  have T1:=ht.later hb0
  rw [hW1] at hb0 T1
  rw [hh] at hb0
  have HB:=qh hb0
  have HT1:=qh T1
  have HR1:=qh R1
  have HW:=qh hW1
  obtain ⟨⟨n0,n1,n2⟩,_⟩:=R1.cells
  have CL:=qh (isLone_any _ (.mk k s l) (Nat.le_refl _) W1 _ _ _ HT1.out)
  have CH_x:=fun w' (hb:Below W1.heap.size W1 w')=>has_any 111 61 ent_isNone ent_isType noneB typB 2 2 k s l a cap w' hl (isNone_any s) (fun i hi=>ih l[i] (Nat.le_of_lt_succ (Nat.lt_of_lt_of_le (Nd.kid_lt _ s l i hi) hsz))) (HT1.out.later hb)
  obtain ⟨V,hV⟩:∃ V,hasB noneB 2 2 typB s l=V:=⟨_,rfl⟩
  rw [hV] at CH_x
  have CC:=qh CH_x
  by_cases hk:k=31
  ·subst hk
   have HS:Hid (typB (.mk 31 s l)=V):=qh (by
    rw [typB,if_pos rfl,←hV,show hasB noneB 2 2 typB s l=hasB noneB ((2:Nat):Int) ((2:Nat):Int) typB s l from rfl,has_eq,typL_all]
    by_cases h2:l.length=2
    ·rw [decide_eq_true h2,decide_eq_true (by omega:2≤l.length),decide_eq_true (by omega:l.length≤2)];rfl
    ·rw [decide_eq_false h2]
     by_cases h3:2≤l.length
     ·rw [decide_eq_false (by omega:¬ l.length≤2)];simp
     ·rw [decide_eq_false h3];simp)
   have HL:Hid (loneB (.mk 31 s l)=false):=qh (by rw [loneB];rfl)
   rw [HL.out] at CL
   clear CH_x hV ih ht hb0 T1 R1 hW1 hsz
   go_enter Tryz.func61,Tryz.ntmps61
   go_upto_region 1 with fail
   rw [HW.out]
   go_wp2_with fail
   refine CL.out.mono ?_
   rintro e w2 ⟨rfl,hb2⟩
   have R2:=qh (HR1.out.below hb2 HR1.out.lt)
   have HB2:=qh hb2
   clear hb2 n0 n1 n2
   obtain ⟨⟨n0,n1,n2⟩,_⟩:=R2.out.cells
   clear CL
   go_wp2_with fail
   refine (CC.out _ HB2.out).mono ?_
   rintro e w3 ⟨rfl,hb3⟩
   have HB3:=qh (HB2.out.trans (hb3.mono HB2.out.size))
   clear hb3 CC n0 n1 n2
   cases V
   ·go_wp2
    go_ret
    exact ⟨by rw [HS.out];rfl,by first | exact HB.out.trans (HB3.out.mono (by have:=HR1.out.lt;omega)) | (rw [hh];exact HB.out.trans (HB3.out.mono (by have:=HR1.out.lt;omega)))⟩
   ·go_wp2
    go_ret
    exact ⟨by rw [HS.out];rfl,by first | exact HB.out.trans (HB3.out.mono (by have:=HR1.out.lt;omega)) | (rw [hh];exact HB.out.trans (HB3.out.mono (by have:=HR1.out.lt;omega)))⟩
  ·obtain ⟨V2,hV2⟩:∃ V,loneB (.mk k s l)=V:=⟨_,rfl⟩
   rw [hV2] at CL
   have HS:Hid (typB (.mk k s l)=V2):=qh (by rw [typB,if_neg hk,←hV2,loneB])
   have e1:(k==31)=false:=by rw [beq_eq_false_iff_ne];exact hk
   clear CH_x CC hV hV2 ih ht hb0 T1 R1 hW1 hsz hk
   go_enter Tryz.func61,Tryz.ntmps61
   go_upto_region 1 with fail
   rw [HW.out]
   go_wp2_with fail
   refine CL.out.mono ?_
   rintro e w2 ⟨rfl,hb2⟩
   have R2:=qh (HR1.out.below hb2 HR1.out.lt)
   have HB2:=qh hb2
   clear hb2 n0 n1 n2
   obtain ⟨⟨n0,n1,n2⟩,_⟩:=R2.out.cells
   clear CL
   cases V2
   ·go_wp2
    go_ret
    exact ⟨by rw [HS.out];rfl,by first | exact HB.out.trans (HB2.out.mono (by have:=HR1.out.lt;omega)) | (rw [hh];exact HB.out.trans (HB2.out.mono (by have:=HR1.out.lt;omega)))⟩
   ·go_wp2
    go_ret
    exact ⟨by rw [HS.out];rfl,by first | exact HB.out.trans (HB2.out.mono (by have:=HR1.out.lt;omega)) | (rw [hh];exact HB.out.trans (HB2.out.mono (by have:=HR1.out.lt;omega)))⟩
end Go.Proofs.YtcimcjmdkjajfaaGreatDoor
namespace Go.Proofs.YtcimcjmdkjajfaaGreatDoor
open Go.RowKit Go.Shelf
theorem relabel {w:World} {k k':Int} {s:ByteArray} {l:List Nd} {v0 v1 v2:Value} (h:NdR w (.mk k s l) v0 v1 v2):NdR w (.mk k' ⟨#[]⟩ l) (.int .i64 k') (.string ⟨#[]⟩) v2:=by
 cases h with
 | mk _ _ _ a cap b o f0 f1 f2 hs hl hc ha h0 h1 h2 hr=>exact .mk k' ⟨#[]⟩ l a cap b o f0 f1 f2 (by decide) hl hc ha h0 h1 h2 hr
set_option maxRecDepth 100000 in
set_option maxHeartbeats 2000000 in
theorem binds_any (g:Nat) (eg:∀ args w,(callFunc g args).run Tryz.prog w = .ok (.enter g args) w) (B:Nd→Bool) (k:Int) (s:ByteArray) (l:List Nd) (a:Option Addr) (cap:Nat) (w:World) (hs:s.size≤maxLen) (hl:l.length≤maxLen)
  (hB:∀ i,(h:i < l.length)→Says g B l[i]) (ht:NdR w (.mk k s l) (.int .i64 k) (.string s) (.slice a l.length cap)) (R:Bool)
  (hR:∀ h:0 < l.length,((decide (l.length=1) || decide (l.length=2)) && ((nameB s || varB s) && ((l.take (l.length - 1)).all typB && B (l[l.length - 1]'(by omega)))))=R) (hR0:l.length=0→R=false) :
  Calls Tryz.prog 116 #[.agg #[.int .i64 k,.string s,.slice a l.length cap],.func (.func g) #[] #[]] w fun e w'=>e = .returned (.bool R)∧Below w.heap.size w w':=by
 have hb0:=(Below.refl w.heap.size w).alloc (Nat.le_refl _) (.cells #[.int .i64 k,.string s,.slice a l.length cap] 24)
 obtain ⟨h,hh⟩:∃ h,w.heap.size=h:=⟨_,rfl⟩
 obtain ⟨W1,hW1⟩:∃ W1,w.alloc (.cells #[.int .i64 k,.string s,.slice a l.length cap] 24)=W1:=⟨_,rfl⟩
 have R1:Row3 W1 h (.int .i64 k) (.string s) (.slice a l.length cap):=by rw [←hW1,←hh];exact Row3.new _ _ _ _
 have T1:=ht.later hb0
 rw [hW1] at hb0 T1
 rw [hh] at hb0
 have HB:=qh hb0
 have HT1:=qh T1
 have HR1:=qh R1
 have HW:=qh hW1
 obtain ⟨⟨n0,n1,n2⟩,_⟩:=R1.cells
 have hcap:=ht.cap
 have HL0:Hid (NdL W1 l (.slice a l.length cap)):=qh ⟨_,_,_,_,HT1.out⟩
 unfold maxLen at hl
 by_cases h0:l.length=0
 ·have hRf:=hR0 h0
  subst hRf
  have e1:((l.length:Int) - 1==0)=false:=by rw [beq_eq_false_iff_ne];omega
  have e2:((l.length:Int) - 1==1)=false:=by rw [beq_eq_false_iff_ne];omega
  clear h0 hR hR0 hB ht hb0 T1 R1 hW1
  go_enter Tryz.func116,Tryz.ntmps116
  go_upto_region 1 with fail
  rw [HW.out]
  go_wp2
  go_ret
  exact ⟨rfl,by first | exact HB.out | (rw [hh];exact HB.out)⟩
 ·have hpos:0 < l.length:=by omega
  have hRp:=hR hpos
  by_cases h12:l.length=1∨l.length=2
  ·rw [show (decide (l.length=1) || decide (l.length=2))=true from by rcases h12 with h | h <;> simp [h],Bool.true_and] at hRp
   obtain ⟨b,o,k1,s1,l1,a1,c1,rfl,e1,x0,x1,x2,r1⟩:=HT1.out.kid (l.length - 1) (by omega)
   have CN0:=isAny_any s hs W1
   have CE0:=fun w' (hb:Below W1.heap.size W1 w')=>every_any 61 ent_isType typB 0 ⟨#[]⟩ (l.take (l.length - 1)) (some ⟨b,o,none⟩) cap w' (by rw [List.length_take];unfold maxLen;omega) (fun i hi=>isType_any _ _ (Nat.le_refl _)) (by
    obtain ⟨k9,s9,u0,u1,h9⟩:=(HL0.out.later hb).take (l.length - 1) (by omega) cap (by omega)
    rw [show (l.take (l.length - 1)).length=l.length - 1 from by rw [List.length_take];omega]
    exact relabel h9)
   rw [show (l.take (l.length - 1)).length=l.length - 1 from by rw [List.length_take];omega] at CE0
   have CG0:=fun w' (hb:Below W1.heap.size W1 w')=>hB (l.length - 1) (by omega) w' (.int .i64 k1) (.string s1) (.slice a1 l1.length c1) (by rw [e1];exact r1.later hb)
   obtain ⟨VN,hVN⟩:∃ V,(nameB s || varB s)=V:=⟨_,rfl⟩
   obtain ⟨VE,hVE⟩:∃ V,(l.take (l.length - 1)).all typB=V:=⟨_,rfl⟩
   obtain ⟨VG,hVG⟩:∃ V,B (l[l.length - 1]'(by omega))=V:=⟨_,rfl⟩
   rw [hVN,hVE,hVG] at hRp
   simp only [hVN] at CN0
   rw [hVE] at CE0
   rw [hVG] at CG0
   obtain ⟨M,hM⟩:∃ M,l.length - 1=M:=⟨_,rfl⟩
   obtain ⟨L,hL⟩:∃ L,l.length=L:=⟨_,rfl⟩
   have hML:((L:Nat):Int) - 1=(M:Int):=by omega
   rw [hM] at CE0 x0 x1 x2
   rw [hL] at n2 hcap hl h12 hpos
   have CN:=qh CN0
   have CE:=qh CE0
   have CG:=qh CG0
   have HRp:=qh hRp
   have HR2:Hid (Row3 W1 h (.int .i64 k) (.string s) (.slice (some ⟨b,o,none⟩) L cap)):=by rw [←hL];exact HR1
   have HW2:Hid (w.alloc (.cells #[.int .i64 k,.string s,.slice (some ⟨b,o,none⟩) L cap] 24)=W1):=by rw [←hL];exact HW
   have L2:=qh (lt_of_cell x0)
   have HX:=qh (show W1.cell? ⟨b,o+M*3,none⟩=some (.int .i64 k1)∧W1.cell? ⟨b,o+M*3+1,none⟩=some (.string s1)∧W1.cell? ⟨b,o+M*3+2,none⟩=some (.slice a1 l1.length c1) from ⟨x0,x1,x2⟩)
   have hM2:M=0∨M=1:=by omega
   have hMc:M≤cap:=by omega
   rw [hL]
   clear hR hR0 hB ht hb0 T1 R1 hW1 hRp hVN hVE hVG CN0 CE0 CG0 e1 r1 x0 x1 x2 HT1 HL0 HR1 HW hL
   rcases hM2 with rfl | rfl
   ·have hL1:L=1:=by omega
    subst hL1
    obtain ⟨⟨n0,n1,n2⟩,_⟩:=HR2.out.cells
    go_enter Tryz.func116,Tryz.ntmps116
    go_upto_region 1 with fail
    rw [HW2.out]
    go_wp2_with fail
    refine CN.out.mono ?_
    rintro e w2 ⟨rfl,hb2⟩
    have R2:=qh (HR2.out.below hb2 HR2.out.lt)
    have HB2:=qh hb2
    clear hb2 n0 n1 n2 CN
    obtain ⟨⟨n0,n1,n2⟩,_⟩:=R2.out.cells
    cases VN with
    | false =>
     go_wp2
     go_ret
     exact ⟨by rw [←HRp.out];rfl,by first | exact HB.out.trans (HB2.out.mono (by have:=HR2.out.lt;omega)) | (rw [hh];exact HB.out.trans (HB2.out.mono (by have:=HR2.out.lt;omega)))⟩
    | true =>
     go_wp2_with fail
     refine (CE.out _ HB2.out).mono ?_
     rintro e w3 ⟨rfl,hb3⟩
     have HB3:=qh (HB2.out.trans (hb3.mono HB2.out.size))
     clear hb3 n0 n1 n2 CE
     obtain ⟨⟨n0,n1,n2⟩,_⟩:=(HR2.out.below HB3.out HR2.out.lt).cells
     have x0:=(HB3.out.cell (p:=⟨b,o+0*3,none⟩) L2.out).trans HX.out.1
     have x1:=(HB3.out.cell (p:=⟨b,o+0*3+1,none⟩) L2.out).trans HX.out.2.1
     have x2:=(HB3.out.cell (p:=⟨b,o+0*3+2,none⟩) L2.out).trans HX.out.2.2
     simp only [Nat.zero_mul,Nat.add_zero] at x0 x1 x2
     cases VE with
     | false =>
      go_wp2
      go_ret
      exact ⟨by rw [←HRp.out];rfl,by first | exact HB.out.trans (HB3.out.mono (by have:=HR2.out.lt;omega)) | (rw [hh];exact HB.out.trans (HB3.out.mono (by have:=HR2.out.lt;omega)))⟩
     | true =>
      go_wp2_with fail
      refine (CG.out _ HB3.out).mono ?_
      rintro e w4 ⟨rfl,hb4⟩
      have HB4:=qh (HB3.out.trans (hb4.mono HB3.out.size))
      clear hb4 n0 n1 n2 x0 x1 x2 CG
      cases VG
      ·skip
       go_wp2
       go_ret
       exact ⟨by rw [←HRp.out];rfl,by first | exact HB.out.trans (HB4.out.mono (by have:=HR2.out.lt;omega)) | (rw [hh];exact HB.out.trans (HB4.out.mono (by have:=HR2.out.lt;omega)))⟩
      ·skip
       go_wp2
       go_ret
       exact ⟨by rw [←HRp.out];rfl,by first | exact HB.out.trans (HB4.out.mono (by have:=HR2.out.lt;omega)) | (rw [hh];exact HB.out.trans (HB4.out.mono (by have:=HR2.out.lt;omega)))⟩
   ·have hL1:L=2:=by omega
    subst hL1
    obtain ⟨⟨n0,n1,n2⟩,_⟩:=HR2.out.cells
    go_enter Tryz.func116,Tryz.ntmps116
    go_upto_region 1 with fail
    rw [HW2.out]
    go_wp2_with fail
    refine CN.out.mono ?_
    rintro e w2 ⟨rfl,hb2⟩
    have R2:=qh (HR2.out.below hb2 HR2.out.lt)
    have HB2:=qh hb2
    clear hb2 n0 n1 n2 CN
    obtain ⟨⟨n0,n1,n2⟩,_⟩:=R2.out.cells
    cases VN with
    | false =>
     go_wp2
     go_ret
     exact ⟨by rw [←HRp.out];rfl,by first | exact HB.out.trans (HB2.out.mono (by have:=HR2.out.lt;omega)) | (rw [hh];exact HB.out.trans (HB2.out.mono (by have:=HR2.out.lt;omega)))⟩
    | true =>
     go_wp2_with fail
     refine (CE.out _ HB2.out).mono ?_
     rintro e w3 ⟨rfl,hb3⟩
     have HB3:=qh (HB2.out.trans (hb3.mono HB2.out.size))
     clear hb3 n0 n1 n2 CE
     obtain ⟨⟨n0,n1,n2⟩,_⟩:=(HR2.out.below HB3.out HR2.out.lt).cells
     have x0:=(HB3.out.cell (p:=⟨b,o+1*3,none⟩) L2.out).trans HX.out.1
     have x1:=(HB3.out.cell (p:=⟨b,o+1*3+1,none⟩) L2.out).trans HX.out.2.1
     have x2:=(HB3.out.cell (p:=⟨b,o+1*3+2,none⟩) L2.out).trans HX.out.2.2
     simp only [Nat.one_mul] at x0 x1 x2
     cases VE with
     | false =>
      go_wp2
      go_ret
      exact ⟨by rw [←HRp.out];rfl,by first | exact HB.out.trans (HB3.out.mono (by have:=HR2.out.lt;omega)) | (rw [hh];exact HB.out.trans (HB3.out.mono (by have:=HR2.out.lt;omega)))⟩
     | true =>
      go_wp2_with fail
      refine (CG.out _ HB3.out).mono ?_
      rintro e w4 ⟨rfl,hb4⟩
      have HB4:=qh (HB3.out.trans (hb4.mono HB3.out.size))
      clear hb4 n0 n1 n2 x0 x1 x2 CG
      cases VG
      ·skip
       go_wp2
       go_ret
       exact ⟨by rw [←HRp.out];rfl,by first | exact HB.out.trans (HB4.out.mono (by have:=HR2.out.lt;omega)) | (rw [hh];exact HB.out.trans (HB4.out.mono (by have:=HR2.out.lt;omega)))⟩
      ·skip
       go_wp2
       go_ret
       exact ⟨by rw [←HRp.out];rfl,by first | exact HB.out.trans (HB4.out.mono (by have:=HR2.out.lt;omega)) | (rw [hh];exact HB.out.trans (HB4.out.mono (by have:=HR2.out.lt;omega)))⟩
  ·have e1:((l.length:Int) - 1==0)=false:=by rw [beq_eq_false_iff_ne];omega
   have e2:((l.length:Int) - 1==1)=false:=by rw [beq_eq_false_iff_ne];omega
   have hRf:R=false:=by rw [←hRp,decide_eq_false (fun h=>h12 (.inl h)),decide_eq_false (fun h=>h12 (.inr h))];rfl
   subst hRf
   clear hR hR0 hB ht hb0 T1 R1 hW1 hRp
   go_enter Tryz.func116,Tryz.ntmps116
   go_upto_region 1 with fail
   rw [HW.out]
   go_wp2
   go_ret
   exact ⟨rfl,by first | exact HB.out | (rw [hh];exact HB.out)⟩
end Go.Proofs.YtcimcjmdkjajfaaGreatDoor
namespace Go.Proofs.YtcimcjmdkjajfaaGreatDoor
open Go.RowKit Go.Shelf
theorem bind_val (s:ByteArray) (l:List Nd) (h:0 < l.length) (X:Bool):((decide (l.length=1) || decide (l.length=2)) && ((nameB s || varB s) && ((l.take (l.length - 1)).all typB && X)))=(bindB s l && X):=by
 unfold bindB
 match l,h with
 | [a],_=>simp
 | [a,b],_=>cases (nameB s || varB s) <;> cases h:typB a <;> cases X <;> simp [headTyp,h]
 | a :: b :: c :: l,_=>simp
theorem has_v (N:ByteArray→Bool) (lo hi:Nat) (a b:Int) (ha:a=(lo:Int)) (hb:b=(hi:Int)) (B:Nd→Bool) (s:ByteArray) (l:List Nd):hasB N a b B s l=(decide (lo≤l.length) && (decide (l.length≤hi) && (N s && l.all B))):=by
 subst ha;subst hb;exact has_eq N lo hi B s l
theorem not_binary {k:Int} (h1:k≠22) (h2:k≠23) (h3:k≠24) (h4:k≠25) (h5:k≠26) (h6:k≠27) (h7:k≠28):isBinary k=false:=by
 unfold isBinary
 rw [Bool.and_eq_false_iff,decide_eq_false_iff_not,decide_eq_false_iff_not]
 omega
theorem two_dec (n m:Nat):(decide (n≤m) && decide (m≤n))=decide (m=n):=by
 by_cases h:m=n
 ·rw [decide_eq_true h,decide_eq_true (by omega),decide_eq_true (by omega)];rfl
 ·rw [decide_eq_false h]
  by_cases h2:n≤m
  ·rw [decide_eq_false (by omega:¬ m≤n),Bool.and_false]
  ·rw [decide_eq_false h2,Bool.false_and]
theorem exact_v (N:ByteArray→Bool) (n:Nat) (a:Int) (ha:a=(n:Int)) (B:Nd→Bool) (s:ByteArray) (l:List Nd):hasB N a a B s l=(N s && (decide (l.length=n) && l.all B)):=by
 rw [has_v N n n a a ha ha,←Bool.and_assoc,two_dec]
 cases N s <;> cases decide (l.length=n) <;> cases l.all B <;> rfl
theorem upto_v (N:ByteArray→Bool) (B:Nd→Bool) (s:ByteArray) (l:List Nd):hasB N 0 8 B s l=(N s && (l.all B && decide (l.length≤8))):=by
 rw [has_v N 0 8 0 8 rfl rfl,decide_eq_true (Nat.zero_le _)]
 cases N s <;> cases decide (l.length≤8) <;> cases l.all B <;> rfl
theorem from_v (N:ByteArray→Bool) (lo:Nat) (a:Int) (ha:a=(lo:Int)) (B:Nd→Bool) (s:ByteArray) (l:List Nd):hasB N a (l.length:Int) B s l=(N s && (decide (lo≤l.length) && l.all B)):=by
 rw [has_v N lo l.length a _ ha rfl,decide_eq_true (Nat.le_refl _)]
 cases N s <;> cases decide (lo≤l.length) <;> cases l.all B <;> rfl
set_option maxRecDepth 100000 in
set_option maxHeartbeats 2000000 in
theorem isTerm_any (n:Nat):∀ t:Nd,t.sz≤n→Says 60 termB t:=by
 induction n with
 | zero=>intro t h;cases t;simp only [Nd.sz] at h;omega
 | succ n ih =>
  intro t hsz w v0 v1 v2 ht
  obtain ⟨k,s,l,a,cap,rfl,rfl,rfl,rfl,hs,hl⟩:=ht.form
  have hb0:=(Below.refl w.heap.size w).alloc (Nat.le_refl _) (.cells #[.int .i64 k,.string s,.slice a l.length cap] 24)
  obtain ⟨h,hh⟩:∃ h,w.heap.size=h:=⟨_,rfl⟩
  obtain ⟨W1,hW1⟩:∃ W1,w.alloc (.cells #[.int .i64 k,.string s,.slice a l.length cap] 24)=W1:=⟨_,rfl⟩
  have R1:Row3 W1 h (.int .i64 k) (.string s) (.slice a l.length cap):=by rw [←hW1,←hh];exact Row3.new _ _ _ _
  have T1:=ht.later hb0
  rw [hW1] at hb0 T1
  rw [hh] at hb0
  have HB:=qh hb0
  have HT1:=qh T1
  have HR1:=qh R1
  have HW:=qh hW1
  obtain ⟨⟨n0,n1,n2⟩,_⟩:=R1.cells
  by_cases hk15:k=15
  ·subst hk15
   have CH:=fun w' (hb:Below W1.heap.size W1 w')=>has_any 114 60 ent_isName ent_isTerm nameB termB 0 8 15 s l a cap w' hl (name_says s hs) (fun i hi=>ih l[i] (Nat.le_of_lt_succ (Nat.lt_of_lt_of_le (Nd.kid_lt _ s l i hi) hsz))) (HT1.out.later hb)
   obtain ⟨V,hV⟩:∃ V,hasB nameB 0 8 termB s l=V:=⟨_,rfl⟩
   rw [hV] at CH
   have CC:=qh CH
   have HS:Hid (termB (.mk 15 s l)=V):=qh (by rw [←hV];rw [termB,if_pos rfl,termL_all,upto_v])
   clear CH hV
   clear ht hb0 T1 R1 hW1 ih hsz
   go_enter Tryz.func60,Tryz.ntmps60
   go_upto_region 1 with fail
   rw [HW.out]
   go_wp2_with fail
   refine (CC.out _ (Below.refl _ _)).mono ?_
   rintro e w2 ⟨rfl,hb2⟩
   have HB2:=qh hb2
   clear hb2 CC n0 n1 n2
   cases V
   ·skip
    go_wp2
    go_ret
    exact ⟨by rw [HS.out];rfl,by first | exact HB.out.trans (HB2.out.mono (by have:=HR1.out.lt;omega)) | (rw [hh];exact HB.out.trans (HB2.out.mono (by have:=HR1.out.lt;omega)))⟩
   ·skip
    go_wp2
    go_ret
    exact ⟨by rw [HS.out];rfl,by first | exact HB.out.trans (HB2.out.mono (by have:=HR1.out.lt;omega)) | (rw [hh];exact HB.out.trans (HB2.out.mono (by have:=HR1.out.lt;omega)))⟩
  ·skip
   by_cases hk16:k=16
   ·subst hk16
    have CH:=fun w' (hb:Below W1.heap.size W1 w')=>has_any 73 60 ent_isVar ent_isTerm varB termB 0 8 16 s l a cap w' hl (var_says s hs) (fun i hi=>ih l[i] (Nat.le_of_lt_succ (Nat.lt_of_lt_of_le (Nd.kid_lt _ s l i hi) hsz))) (HT1.out.later hb)
    obtain ⟨V,hV⟩:∃ V,hasB varB 0 8 termB s l=V:=⟨_,rfl⟩
    rw [hV] at CH
    have CC:=qh CH
    have HS:Hid (termB (.mk 16 s l)=V):=qh (by rw [←hV];rw [termB,if_neg (by decide),if_pos rfl,termL_all,upto_v])
    clear CH hV
    clear ht hb0 T1 R1 hW1 ih hsz
    go_enter Tryz.func60,Tryz.ntmps60
    go_upto_region 1 with fail
    rw [HW.out]
    go_wp2_with fail
    refine (CC.out _ (Below.refl _ _)).mono ?_
    rintro e w2 ⟨rfl,hb2⟩
    have HB2:=qh hb2
    clear hb2 CC n0 n1 n2
    cases V
    ·skip
     go_wp2
     go_ret
     exact ⟨by rw [HS.out];rfl,by first | exact HB.out.trans (HB2.out.mono (by have:=HR1.out.lt;omega)) | (rw [hh];exact HB.out.trans (HB2.out.mono (by have:=HR1.out.lt;omega)))⟩
    ·skip
     go_wp2
     go_ret
     exact ⟨by rw [HS.out];rfl,by first | exact HB.out.trans (HB2.out.mono (by have:=HR1.out.lt;omega)) | (rw [hh];exact HB.out.trans (HB2.out.mono (by have:=HR1.out.lt;omega)))⟩
   ·skip
    by_cases hk17:k=17
    ·subst hk17
     obtain ⟨V,hV⟩:∃ V,termB (.mk 17 s l)=V:=⟨_,rfl⟩
     have hV2:(bindB s l && termE l)=V:=by rw [←hV];rw [termB,if_neg (by decide),if_neg (by decide),decide_eq_true rfl,Bool.true_and]
     have CC:=qh (fun w' (hb:Below W1.heap.size W1 w')=>binds_any 60 ent_isTerm termB 17 s l a cap w' hs hl (fun i hi=>ih l[i] (Nat.le_of_lt_succ (Nat.lt_of_lt_of_le (Nd.kid_lt _ s l i hi) hsz))) (HT1.out.later hb) V (fun h=>by rw [bind_val s l h,←termE_get h];exact hV2) (fun h=>by rw [←hV2,List.eq_nil_of_length_eq_zero h,termE,Bool.and_false]))
     have HS:Hid (termB (.mk 17 s l)=V):=qh hV
     clear hV hV2
     clear ht hb0 T1 R1 hW1 ih hsz
     go_enter Tryz.func60,Tryz.ntmps60
     go_upto_region 1 with fail
     rw [HW.out]
     go_wp2_with fail
     refine (CC.out _ (Below.refl _ _)).mono ?_
     rintro e w2 ⟨rfl,hb2⟩
     have HB2:=qh hb2
     clear hb2 CC n0 n1 n2
     cases V
     ·skip
      go_wp2
      go_ret
      exact ⟨by rw [HS.out];rfl,by first | exact HB.out.trans (HB2.out.mono (by have:=HR1.out.lt;omega)) | (rw [hh];exact HB.out.trans (HB2.out.mono (by have:=HR1.out.lt;omega)))⟩
     ·skip
      go_wp2
      go_ret
      exact ⟨by rw [HS.out];rfl,by first | exact HB.out.trans (HB2.out.mono (by have:=HR1.out.lt;omega)) | (rw [hh];exact HB.out.trans (HB2.out.mono (by have:=HR1.out.lt;omega)))⟩
    ·skip
     have HS:Hid (termB (.mk k s l)=false):=qh (by rw [termB,if_neg hk15,if_neg hk16,decide_eq_false hk17];rfl)
     have e15:(k==15)=false:=by rw [beq_eq_false_iff_ne];exact hk15
     have e16:(k==16)=false:=by rw [beq_eq_false_iff_ne];exact hk16
     have e17:(k==17)=false:=by rw [beq_eq_false_iff_ne];exact hk17
     clear ht hb0 T1 R1 hW1 hk15 hk16 hk17 ih hsz
     go_enter Tryz.func60,Tryz.ntmps60
     go_upto_region 1 with fail
     rw [HW.out]
     go_wp2
     go_ret
     exact ⟨by rw [HS.out];rfl,by first | exact HB.out | (rw [hh];exact HB.out)⟩
set_option maxRecDepth 100000 in
set_option maxHeartbeats 2000000 in
theorem isForm_any (n:Nat):∀ t:Nd,t.sz≤n→Says 59 formB t:=by
 induction n with
 | zero=>intro t h;cases t;simp only [Nd.sz] at h;omega
 | succ n ih =>
  intro t hsz w v0 v1 v2 ht
  obtain ⟨k,s,l,a,cap,rfl,rfl,rfl,rfl,hs,hl⟩:=ht.form
  have hb0:=(Below.refl w.heap.size w).alloc (Nat.le_refl _) (.cells #[.int .i64 k,.string s,.slice a l.length cap] 24)
  obtain ⟨h,hh⟩:∃ h,w.heap.size=h:=⟨_,rfl⟩
  obtain ⟨W1,hW1⟩:∃ W1,w.alloc (.cells #[.int .i64 k,.string s,.slice a l.length cap] 24)=W1:=⟨_,rfl⟩
  have R1:Row3 W1 h (.int .i64 k) (.string s) (.slice a l.length cap):=by rw [←hW1,←hh];exact Row3.new _ _ _ _
  have T1:=ht.later hb0
  rw [hW1] at hb0 T1
  rw [hh] at hb0
  have HB:=qh hb0
  have HT1:=qh T1
  have HR1:=qh R1
  have HW:=qh hW1
  obtain ⟨⟨n0,n1,n2⟩,_⟩:=R1.cells
  by_cases hk15:k=15
  ·subst hk15
   obtain ⟨V,hV⟩:∃ V,termB (.mk 15 s l)=V:=⟨_,rfl⟩
   have CH:=fun w' (hb:Below W1.heap.size W1 w')=>isTerm_any _ (.mk 15 s l) (Nat.le_refl _) w' _ _ _ (HT1.out.later hb)
   rw [hV] at CH
   have CC:=qh CH
   have HS:Hid (formB (.mk 15 s l)=V):=qh (by rw [←hV];rw [formB,if_pos rfl])
   clear CH hV
   clear ht hb0 T1 R1 hW1 ih hsz
   go_enter Tryz.func59,Tryz.ntmps59
   go_upto_region 1 with fail
   rw [HW.out]
   go_wp2_with fail
   refine (CC.out _ (Below.refl _ _)).mono ?_
   rintro e w2 ⟨rfl,hb2⟩
   have HB2:=qh hb2
   clear hb2 CC n0 n1 n2
   cases V
   ·skip
    go_wp2
    go_ret
    exact ⟨by rw [HS.out];rfl,by first | exact HB.out.trans (HB2.out.mono (by have:=HR1.out.lt;omega)) | (rw [hh];exact HB.out.trans (HB2.out.mono (by have:=HR1.out.lt;omega)))⟩
   ·skip
    go_wp2
    go_ret
    exact ⟨by rw [HS.out];rfl,by first | exact HB.out.trans (HB2.out.mono (by have:=HR1.out.lt;omega)) | (rw [hh];exact HB.out.trans (HB2.out.mono (by have:=HR1.out.lt;omega)))⟩
  ·skip
   by_cases hk18:k=18
   ·subst hk18
    obtain ⟨V,hV⟩:∃ V,formB (.mk 18 s l)=V:=⟨_,rfl⟩
    have hV2:(bindB s l && formE l)=V:=by rw [←hV];rw [formB,if_neg (by decide),if_pos (by decide)]
    have CC:=qh (fun w' (hb:Below W1.heap.size W1 w')=>binds_any 59 ent_isForm formB 18 s l a cap w' hs hl (fun i hi=>ih l[i] (Nat.le_of_lt_succ (Nat.lt_of_lt_of_le (Nd.kid_lt _ s l i hi) hsz))) (HT1.out.later hb) V (fun h=>by rw [bind_val s l h,←formE_get h];exact hV2) (fun h=>by rw [←hV2,List.eq_nil_of_length_eq_zero h,formE,Bool.and_false]))
    have HS:Hid (formB (.mk 18 s l)=V):=qh hV
    clear hV hV2
    clear ht hb0 T1 R1 hW1 ih hsz
    go_enter Tryz.func59,Tryz.ntmps59
    go_upto_region 1 with fail
    rw [HW.out]
    go_wp2_with fail
    refine (CC.out _ (Below.refl _ _)).mono ?_
    rintro e w2 ⟨rfl,hb2⟩
    have HB2:=qh hb2
    clear hb2 CC n0 n1 n2
    cases V
    ·skip
     go_wp2
     go_ret
     exact ⟨by rw [HS.out];rfl,by first | exact HB.out.trans (HB2.out.mono (by have:=HR1.out.lt;omega)) | (rw [hh];exact HB.out.trans (HB2.out.mono (by have:=HR1.out.lt;omega)))⟩
    ·skip
     go_wp2
     go_ret
     exact ⟨by rw [HS.out];rfl,by first | exact HB.out.trans (HB2.out.mono (by have:=HR1.out.lt;omega)) | (rw [hh];exact HB.out.trans (HB2.out.mono (by have:=HR1.out.lt;omega)))⟩
   ·skip
    by_cases hk19:k=19
    ·subst hk19
     obtain ⟨V,hV⟩:∃ V,formB (.mk 19 s l)=V:=⟨_,rfl⟩
     have hV2:(bindB s l && formE l)=V:=by rw [←hV];rw [formB,if_neg (by decide),if_pos (by decide)]
     have CC:=qh (fun w' (hb:Below W1.heap.size W1 w')=>binds_any 59 ent_isForm formB 19 s l a cap w' hs hl (fun i hi=>ih l[i] (Nat.le_of_lt_succ (Nat.lt_of_lt_of_le (Nd.kid_lt _ s l i hi) hsz))) (HT1.out.later hb) V (fun h=>by rw [bind_val s l h,←formE_get h];exact hV2) (fun h=>by rw [←hV2,List.eq_nil_of_length_eq_zero h,formE,Bool.and_false]))
     have HS:Hid (formB (.mk 19 s l)=V):=qh hV
     clear hV hV2
     clear ht hb0 T1 R1 hW1 ih hsz
     go_enter Tryz.func59,Tryz.ntmps59
     go_upto_region 1 with fail
     rw [HW.out]
     go_wp2_with fail
     refine (CC.out _ (Below.refl _ _)).mono ?_
     rintro e w2 ⟨rfl,hb2⟩
     have HB2:=qh hb2
     clear hb2 CC n0 n1 n2
     cases V
     ·skip
      go_wp2
      go_ret
      exact ⟨by rw [HS.out];rfl,by first | exact HB.out.trans (HB2.out.mono (by have:=HR1.out.lt;omega)) | (rw [hh];exact HB.out.trans (HB2.out.mono (by have:=HR1.out.lt;omega)))⟩
     ·skip
      go_wp2
      go_ret
      exact ⟨by rw [HS.out];rfl,by first | exact HB.out.trans (HB2.out.mono (by have:=HR1.out.lt;omega)) | (rw [hh];exact HB.out.trans (HB2.out.mono (by have:=HR1.out.lt;omega)))⟩
    ·skip
     by_cases hk20:k=20
     ·subst hk20
      have CH:=fun w' (hb:Below W1.heap.size W1 w')=>has_any 111 59 ent_isNone ent_isForm noneB formB 0 0 20 s l a cap w' hl (isNone_any s) (fun i hi=>ih l[i] (Nat.le_of_lt_succ (Nat.lt_of_lt_of_le (Nd.kid_lt _ s l i hi) hsz))) (HT1.out.later hb)
      obtain ⟨V,hV⟩:∃ V,hasB noneB 0 0 formB s l=V:=⟨_,rfl⟩
      rw [hV] at CH
      have CC:=qh CH
      have HS:Hid (formB (.mk 20 s l)=V):=qh (by rw [←hV];rw [formB,if_neg (by decide),if_neg (by decide),if_pos (by decide),has_zero,Bool.and_comm])
      clear CH hV
      clear ht hb0 T1 R1 hW1 ih hsz
      go_enter Tryz.func59,Tryz.ntmps59
      go_upto_region 1 with fail
      rw [HW.out]
      go_wp2_with fail
      refine (CC.out _ (Below.refl _ _)).mono ?_
      rintro e w2 ⟨rfl,hb2⟩
      have HB2:=qh hb2
      clear hb2 CC n0 n1 n2
      cases V
      ·skip
       go_wp2
       go_ret
       exact ⟨by rw [HS.out];rfl,by first | exact HB.out.trans (HB2.out.mono (by have:=HR1.out.lt;omega)) | (rw [hh];exact HB.out.trans (HB2.out.mono (by have:=HR1.out.lt;omega)))⟩
      ·skip
       go_wp2
       go_ret
       exact ⟨by rw [HS.out];rfl,by first | exact HB.out.trans (HB2.out.mono (by have:=HR1.out.lt;omega)) | (rw [hh];exact HB.out.trans (HB2.out.mono (by have:=HR1.out.lt;omega)))⟩
     ·skip
      by_cases hk21:k=21
      ·subst hk21
       have CH:=fun w' (hb:Below W1.heap.size W1 w')=>has_any 111 59 ent_isNone ent_isForm noneB formB 0 0 21 s l a cap w' hl (isNone_any s) (fun i hi=>ih l[i] (Nat.le_of_lt_succ (Nat.lt_of_lt_of_le (Nd.kid_lt _ s l i hi) hsz))) (HT1.out.later hb)
       obtain ⟨V,hV⟩:∃ V,hasB noneB 0 0 formB s l=V:=⟨_,rfl⟩
       rw [hV] at CH
       have CC:=qh CH
       have HS:Hid (formB (.mk 21 s l)=V):=qh (by rw [←hV];rw [formB,if_neg (by decide),if_neg (by decide),if_pos (by decide),has_zero,Bool.and_comm])
       clear CH hV
       clear ht hb0 T1 R1 hW1 ih hsz
       go_enter Tryz.func59,Tryz.ntmps59
       go_upto_region 1 with fail
       rw [HW.out]
       go_wp2_with fail
       refine (CC.out _ (Below.refl _ _)).mono ?_
       rintro e w2 ⟨rfl,hb2⟩
       have HB2:=qh hb2
       clear hb2 CC n0 n1 n2
       cases V
       ·skip
        go_wp2
        go_ret
        exact ⟨by rw [HS.out];rfl,by first | exact HB.out.trans (HB2.out.mono (by have:=HR1.out.lt;omega)) | (rw [hh];exact HB.out.trans (HB2.out.mono (by have:=HR1.out.lt;omega)))⟩
       ·skip
        go_wp2
        go_ret
        exact ⟨by rw [HS.out];rfl,by first | exact HB.out.trans (HB2.out.mono (by have:=HR1.out.lt;omega)) | (rw [hh];exact HB.out.trans (HB2.out.mono (by have:=HR1.out.lt;omega)))⟩
      ·skip
       by_cases hk29:k=29
       ·subst hk29
        have CH:=fun w' (hb:Below W1.heap.size W1 w')=>has_any 111 59 ent_isNone ent_isForm noneB formB 1 1 29 s l a cap w' hl (isNone_any s) (fun i hi=>ih l[i] (Nat.le_of_lt_succ (Nat.lt_of_lt_of_le (Nd.kid_lt _ s l i hi) hsz))) (HT1.out.later hb)
        obtain ⟨V,hV⟩:∃ V,hasB noneB 1 1 formB s l=V:=⟨_,rfl⟩
        rw [hV] at CH
        have CC:=qh CH
        have HS:Hid (formB (.mk 29 s l)=V):=qh (by rw [←hV];rw [formB,if_neg (by decide),if_neg (by decide),if_neg (by decide),if_pos (by decide),exact_v noneB 1 1 rfl,formL_all])
        clear CH hV
        clear ht hb0 T1 R1 hW1 ih hsz
        go_enter Tryz.func59,Tryz.ntmps59
        go_upto_region 1 with fail
        rw [HW.out]
        go_wp2_with fail
        refine (CC.out _ (Below.refl _ _)).mono ?_
        rintro e w2 ⟨rfl,hb2⟩
        have HB2:=qh hb2
        clear hb2 CC n0 n1 n2
        cases V
        ·skip
         go_wp2
         go_ret
         exact ⟨by rw [HS.out];rfl,by first | exact HB.out.trans (HB2.out.mono (by have:=HR1.out.lt;omega)) | (rw [hh];exact HB.out.trans (HB2.out.mono (by have:=HR1.out.lt;omega)))⟩
        ·skip
         go_wp2
         go_ret
         exact ⟨by rw [HS.out];rfl,by first | exact HB.out.trans (HB2.out.mono (by have:=HR1.out.lt;omega)) | (rw [hh];exact HB.out.trans (HB2.out.mono (by have:=HR1.out.lt;omega)))⟩
       ·skip
        by_cases hk30:k=30
        ·subst hk30
         have CH:=fun w' (hb:Below W1.heap.size W1 w')=>has_any 111 59 ent_isNone ent_isForm noneB formB 1 1 30 s l a cap w' hl (isNone_any s) (fun i hi=>ih l[i] (Nat.le_of_lt_succ (Nat.lt_of_lt_of_le (Nd.kid_lt _ s l i hi) hsz))) (HT1.out.later hb)
         obtain ⟨V,hV⟩:∃ V,hasB noneB 1 1 formB s l=V:=⟨_,rfl⟩
         rw [hV] at CH
         have CC:=qh CH
         have HS:Hid (formB (.mk 30 s l)=V):=qh (by rw [←hV];rw [formB,if_neg (by decide),if_neg (by decide),if_neg (by decide),if_pos (by decide),exact_v noneB 1 1 rfl,formL_all])
         clear CH hV
         clear ht hb0 T1 R1 hW1 ih hsz
         go_enter Tryz.func59,Tryz.ntmps59
         go_upto_region 1 with fail
         rw [HW.out]
         go_wp2_with fail
         refine (CC.out _ (Below.refl _ _)).mono ?_
         rintro e w2 ⟨rfl,hb2⟩
         have HB2:=qh hb2
         clear hb2 CC n0 n1 n2
         cases V
         ·skip
          go_wp2
          go_ret
          exact ⟨by rw [HS.out];rfl,by first | exact HB.out.trans (HB2.out.mono (by have:=HR1.out.lt;omega)) | (rw [hh];exact HB.out.trans (HB2.out.mono (by have:=HR1.out.lt;omega)))⟩
         ·skip
          go_wp2
          go_ret
          exact ⟨by rw [HS.out];rfl,by first | exact HB.out.trans (HB2.out.mono (by have:=HR1.out.lt;omega)) | (rw [hh];exact HB.out.trans (HB2.out.mono (by have:=HR1.out.lt;omega)))⟩
        ·skip
         by_cases hk22:k=22
         ·subst hk22
          have CH:=fun w' (hb:Below W1.heap.size W1 w')=>has_any 111 59 ent_isNone ent_isForm noneB formB 2 2 22 s l a cap w' hl (isNone_any s) (fun i hi=>ih l[i] (Nat.le_of_lt_succ (Nat.lt_of_lt_of_le (Nd.kid_lt _ s l i hi) hsz))) (HT1.out.later hb)
          obtain ⟨V,hV⟩:∃ V,hasB noneB 2 2 formB s l=V:=⟨_,rfl⟩
          rw [hV] at CH
          have CC:=qh CH
          have HS:Hid (formB (.mk 22 s l)=V):=qh (by rw [←hV];rw [formB,if_neg (by decide),if_neg (by decide),if_neg (by decide),if_neg (by decide),exact_v noneB 2 2 rfl,formL_all];rfl)
          clear CH hV
          clear ht hb0 T1 R1 hW1 ih hsz
          go_enter Tryz.func59,Tryz.ntmps59
          go_upto_region 1 with fail
          rw [HW.out]
          go_wp2_with fail
          refine (CC.out _ (Below.refl _ _)).mono ?_
          rintro e w2 ⟨rfl,hb2⟩
          have HB2:=qh hb2
          clear hb2 CC n0 n1 n2
          cases V
          ·skip
           go_wp2
           go_ret
           exact ⟨by rw [HS.out];rfl,by first | exact HB.out.trans (HB2.out.mono (by have:=HR1.out.lt;omega)) | (rw [hh];exact HB.out.trans (HB2.out.mono (by have:=HR1.out.lt;omega)))⟩
          ·skip
           go_wp2
           go_ret
           exact ⟨by rw [HS.out];rfl,by first | exact HB.out.trans (HB2.out.mono (by have:=HR1.out.lt;omega)) | (rw [hh];exact HB.out.trans (HB2.out.mono (by have:=HR1.out.lt;omega)))⟩
         ·skip
          by_cases hk23:k=23
          ·subst hk23
           have CH:=fun w' (hb:Below W1.heap.size W1 w')=>has_any 111 59 ent_isNone ent_isForm noneB formB 2 2 23 s l a cap w' hl (isNone_any s) (fun i hi=>ih l[i] (Nat.le_of_lt_succ (Nat.lt_of_lt_of_le (Nd.kid_lt _ s l i hi) hsz))) (HT1.out.later hb)
           obtain ⟨V,hV⟩:∃ V,hasB noneB 2 2 formB s l=V:=⟨_,rfl⟩
           rw [hV] at CH
           have CC:=qh CH
           have HS:Hid (formB (.mk 23 s l)=V):=qh (by rw [←hV];rw [formB,if_neg (by decide),if_neg (by decide),if_neg (by decide),if_neg (by decide),exact_v noneB 2 2 rfl,formL_all];rfl)
           clear CH hV
           clear ht hb0 T1 R1 hW1 ih hsz
           go_enter Tryz.func59,Tryz.ntmps59
           go_upto_region 1 with fail
           rw [HW.out]
           go_wp2_with fail
           refine (CC.out _ (Below.refl _ _)).mono ?_
           rintro e w2 ⟨rfl,hb2⟩
           have HB2:=qh hb2
           clear hb2 CC n0 n1 n2
           cases V
           ·skip
            go_wp2
            go_ret
            exact ⟨by rw [HS.out];rfl,by first | exact HB.out.trans (HB2.out.mono (by have:=HR1.out.lt;omega)) | (rw [hh];exact HB.out.trans (HB2.out.mono (by have:=HR1.out.lt;omega)))⟩
           ·skip
            go_wp2
            go_ret
            exact ⟨by rw [HS.out];rfl,by first | exact HB.out.trans (HB2.out.mono (by have:=HR1.out.lt;omega)) | (rw [hh];exact HB.out.trans (HB2.out.mono (by have:=HR1.out.lt;omega)))⟩
          ·skip
           by_cases hk24:k=24
           ·subst hk24
            have CH:=fun w' (hb:Below W1.heap.size W1 w')=>has_any 111 59 ent_isNone ent_isForm noneB formB 2 2 24 s l a cap w' hl (isNone_any s) (fun i hi=>ih l[i] (Nat.le_of_lt_succ (Nat.lt_of_lt_of_le (Nd.kid_lt _ s l i hi) hsz))) (HT1.out.later hb)
            obtain ⟨V,hV⟩:∃ V,hasB noneB 2 2 formB s l=V:=⟨_,rfl⟩
            rw [hV] at CH
            have CC:=qh CH
            have HS:Hid (formB (.mk 24 s l)=V):=qh (by rw [←hV];rw [formB,if_neg (by decide),if_neg (by decide),if_neg (by decide),if_neg (by decide),exact_v noneB 2 2 rfl,formL_all];rfl)
            clear CH hV
            clear ht hb0 T1 R1 hW1 ih hsz
            go_enter Tryz.func59,Tryz.ntmps59
            go_upto_region 1 with fail
            rw [HW.out]
            go_wp2_with fail
            refine (CC.out _ (Below.refl _ _)).mono ?_
            rintro e w2 ⟨rfl,hb2⟩
            have HB2:=qh hb2
            clear hb2 CC n0 n1 n2
            cases V
            ·skip
             go_wp2
             go_ret
             exact ⟨by rw [HS.out];rfl,by first | exact HB.out.trans (HB2.out.mono (by have:=HR1.out.lt;omega)) | (rw [hh];exact HB.out.trans (HB2.out.mono (by have:=HR1.out.lt;omega)))⟩
            ·skip
             go_wp2
             go_ret
             exact ⟨by rw [HS.out];rfl,by first | exact HB.out.trans (HB2.out.mono (by have:=HR1.out.lt;omega)) | (rw [hh];exact HB.out.trans (HB2.out.mono (by have:=HR1.out.lt;omega)))⟩
           ·skip
            by_cases hk25:k=25
            ·subst hk25
             have CH:=fun w' (hb:Below W1.heap.size W1 w')=>has_any 111 59 ent_isNone ent_isForm noneB formB 2 2 25 s l a cap w' hl (isNone_any s) (fun i hi=>ih l[i] (Nat.le_of_lt_succ (Nat.lt_of_lt_of_le (Nd.kid_lt _ s l i hi) hsz))) (HT1.out.later hb)
             obtain ⟨V,hV⟩:∃ V,hasB noneB 2 2 formB s l=V:=⟨_,rfl⟩
             rw [hV] at CH
             have CC:=qh CH
             have HS:Hid (formB (.mk 25 s l)=V):=qh (by rw [←hV];rw [formB,if_neg (by decide),if_neg (by decide),if_neg (by decide),if_neg (by decide),exact_v noneB 2 2 rfl,formL_all];rfl)
             clear CH hV
             clear ht hb0 T1 R1 hW1 ih hsz
             go_enter Tryz.func59,Tryz.ntmps59
             go_upto_region 1 with fail
             rw [HW.out]
             go_wp2_with fail
             refine (CC.out _ (Below.refl _ _)).mono ?_
             rintro e w2 ⟨rfl,hb2⟩
             have HB2:=qh hb2
             clear hb2 CC n0 n1 n2
             cases V
             ·skip
              go_wp2
              go_ret
              exact ⟨by rw [HS.out];rfl,by first | exact HB.out.trans (HB2.out.mono (by have:=HR1.out.lt;omega)) | (rw [hh];exact HB.out.trans (HB2.out.mono (by have:=HR1.out.lt;omega)))⟩
             ·skip
              go_wp2
              go_ret
              exact ⟨by rw [HS.out];rfl,by first | exact HB.out.trans (HB2.out.mono (by have:=HR1.out.lt;omega)) | (rw [hh];exact HB.out.trans (HB2.out.mono (by have:=HR1.out.lt;omega)))⟩
            ·skip
             by_cases hk26:k=26
             ·subst hk26
              have CH:=fun w' (hb:Below W1.heap.size W1 w')=>has_any 111 59 ent_isNone ent_isForm noneB formB 2 2 26 s l a cap w' hl (isNone_any s) (fun i hi=>ih l[i] (Nat.le_of_lt_succ (Nat.lt_of_lt_of_le (Nd.kid_lt _ s l i hi) hsz))) (HT1.out.later hb)
              obtain ⟨V,hV⟩:∃ V,hasB noneB 2 2 formB s l=V:=⟨_,rfl⟩
              rw [hV] at CH
              have CC:=qh CH
              have HS:Hid (formB (.mk 26 s l)=V):=qh (by rw [←hV];rw [formB,if_neg (by decide),if_neg (by decide),if_neg (by decide),if_neg (by decide),exact_v noneB 2 2 rfl,formL_all];rfl)
              clear CH hV
              clear ht hb0 T1 R1 hW1 ih hsz
              go_enter Tryz.func59,Tryz.ntmps59
              go_upto_region 1 with fail
              rw [HW.out]
              go_wp2_with fail
              refine (CC.out _ (Below.refl _ _)).mono ?_
              rintro e w2 ⟨rfl,hb2⟩
              have HB2:=qh hb2
              clear hb2 CC n0 n1 n2
              cases V
              ·skip
               go_wp2
               go_ret
               exact ⟨by rw [HS.out];rfl,by first | exact HB.out.trans (HB2.out.mono (by have:=HR1.out.lt;omega)) | (rw [hh];exact HB.out.trans (HB2.out.mono (by have:=HR1.out.lt;omega)))⟩
              ·skip
               go_wp2
               go_ret
               exact ⟨by rw [HS.out];rfl,by first | exact HB.out.trans (HB2.out.mono (by have:=HR1.out.lt;omega)) | (rw [hh];exact HB.out.trans (HB2.out.mono (by have:=HR1.out.lt;omega)))⟩
             ·skip
              by_cases hk27:k=27
              ·subst hk27
               have CH:=fun w' (hb:Below W1.heap.size W1 w')=>has_any 111 59 ent_isNone ent_isForm noneB formB 2 2 27 s l a cap w' hl (isNone_any s) (fun i hi=>ih l[i] (Nat.le_of_lt_succ (Nat.lt_of_lt_of_le (Nd.kid_lt _ s l i hi) hsz))) (HT1.out.later hb)
               obtain ⟨V,hV⟩:∃ V,hasB noneB 2 2 formB s l=V:=⟨_,rfl⟩
               rw [hV] at CH
               have CC:=qh CH
               have HS:Hid (formB (.mk 27 s l)=V):=qh (by rw [←hV];rw [formB,if_neg (by decide),if_neg (by decide),if_neg (by decide),if_neg (by decide),exact_v noneB 2 2 rfl,formL_all];rfl)
               clear CH hV
               clear ht hb0 T1 R1 hW1 ih hsz
               go_enter Tryz.func59,Tryz.ntmps59
               go_upto_region 1 with fail
               rw [HW.out]
               go_wp2_with fail
               refine (CC.out _ (Below.refl _ _)).mono ?_
               rintro e w2 ⟨rfl,hb2⟩
               have HB2:=qh hb2
               clear hb2 CC n0 n1 n2
               cases V
               ·skip
                go_wp2
                go_ret
                exact ⟨by rw [HS.out];rfl,by first | exact HB.out.trans (HB2.out.mono (by have:=HR1.out.lt;omega)) | (rw [hh];exact HB.out.trans (HB2.out.mono (by have:=HR1.out.lt;omega)))⟩
               ·skip
                go_wp2
                go_ret
                exact ⟨by rw [HS.out];rfl,by first | exact HB.out.trans (HB2.out.mono (by have:=HR1.out.lt;omega)) | (rw [hh];exact HB.out.trans (HB2.out.mono (by have:=HR1.out.lt;omega)))⟩
              ·skip
               by_cases hk28:k=28
               ·subst hk28
                have CH:=fun w' (hb:Below W1.heap.size W1 w')=>has_any 111 59 ent_isNone ent_isForm noneB formB 2 2 28 s l a cap w' hl (isNone_any s) (fun i hi=>ih l[i] (Nat.le_of_lt_succ (Nat.lt_of_lt_of_le (Nd.kid_lt _ s l i hi) hsz))) (HT1.out.later hb)
                obtain ⟨V,hV⟩:∃ V,hasB noneB 2 2 formB s l=V:=⟨_,rfl⟩
                rw [hV] at CH
                have CC:=qh CH
                have HS:Hid (formB (.mk 28 s l)=V):=qh (by rw [←hV];rw [formB,if_neg (by decide),if_neg (by decide),if_neg (by decide),if_neg (by decide),exact_v noneB 2 2 rfl,formL_all];rfl)
                clear CH hV
                clear ht hb0 T1 R1 hW1 ih hsz
                go_enter Tryz.func59,Tryz.ntmps59
                go_upto_region 1 with fail
                rw [HW.out]
                go_wp2_with fail
                refine (CC.out _ (Below.refl _ _)).mono ?_
                rintro e w2 ⟨rfl,hb2⟩
                have HB2:=qh hb2
                clear hb2 CC n0 n1 n2
                cases V
                ·skip
                 go_wp2
                 go_ret
                 exact ⟨by rw [HS.out];rfl,by first | exact HB.out.trans (HB2.out.mono (by have:=HR1.out.lt;omega)) | (rw [hh];exact HB.out.trans (HB2.out.mono (by have:=HR1.out.lt;omega)))⟩
                ·skip
                 go_wp2
                 go_ret
                 exact ⟨by rw [HS.out];rfl,by first | exact HB.out.trans (HB2.out.mono (by have:=HR1.out.lt;omega)) | (rw [hh];exact HB.out.trans (HB2.out.mono (by have:=HR1.out.lt;omega)))⟩
               ·skip
                have HS:Hid (formB (.mk k s l)=false):=qh (by rw [formB,if_neg hk15,if_neg (by rintro (h | h) <;> contradiction),if_neg (by rintro (h | h) <;> contradiction),if_neg (by rintro (h | h) <;> contradiction),not_binary hk22 hk23 hk24 hk25 hk26 hk27 hk28];rfl)
                have e15:(k==15)=false:=by rw [beq_eq_false_iff_ne];exact hk15
                have e18:(k==18)=false:=by rw [beq_eq_false_iff_ne];exact hk18
                have e19:(k==19)=false:=by rw [beq_eq_false_iff_ne];exact hk19
                have e20:(k==20)=false:=by rw [beq_eq_false_iff_ne];exact hk20
                have e21:(k==21)=false:=by rw [beq_eq_false_iff_ne];exact hk21
                have e29:(k==29)=false:=by rw [beq_eq_false_iff_ne];exact hk29
                have e30:(k==30)=false:=by rw [beq_eq_false_iff_ne];exact hk30
                have e22:(k==22)=false:=by rw [beq_eq_false_iff_ne];exact hk22
                have e23:(k==23)=false:=by rw [beq_eq_false_iff_ne];exact hk23
                have e24:(k==24)=false:=by rw [beq_eq_false_iff_ne];exact hk24
                have e25:(k==25)=false:=by rw [beq_eq_false_iff_ne];exact hk25
                have e26:(k==26)=false:=by rw [beq_eq_false_iff_ne];exact hk26
                have e27:(k==27)=false:=by rw [beq_eq_false_iff_ne];exact hk27
                have e28:(k==28)=false:=by rw [beq_eq_false_iff_ne];exact hk28
                clear ht hb0 T1 R1 hW1 hk15 hk18 hk19 hk20 hk21 hk29 hk30 hk22 hk23 hk24 hk25 hk26 hk27 hk28 ih hsz
                go_enter Tryz.func59,Tryz.ntmps59
                go_upto_region 1 with fail
                rw [HW.out]
                go_wp2
                go_ret
                exact ⟨by rw [HS.out];rfl,by first | exact HB.out | (rw [hh];exact HB.out)⟩
end Go.Proofs.YtcimcjmdkjajfaaGreatDoor
namespace Go.Proofs.YtcimcjmdkjajfaaGreatDoor
open Go.RowKit Go.Shelf
set_option maxRecDepth 100000 in
set_option maxHeartbeats 2000000 in
theorem isItem_3 (s:ByteArray) (l:List Nd) (w:World) (a:Option Addr) (cap:Nat) (_hs:s.size≤maxLen) (hl:l.length≤maxLen) (ht:NdR w (.mk 3 s l) (.int .i64 3) (.string s) (.slice a l.length cap)) :
  Calls Tryz.prog 58 #[.agg #[.int .i64 3,.string s,.slice a l.length cap]] w fun e w'=>e = .returned (.bool (itemB (.mk 3 s l)))∧Below w.heap.size w w':=by
 have hb0:=(Below.refl w.heap.size w).alloc (Nat.le_refl _) (.cells #[.int .i64 3,.string s,.slice a l.length cap] 24)
 obtain ⟨h,hh⟩:∃ h,w.heap.size=h:=⟨_,rfl⟩
 obtain ⟨W1,hW1⟩:∃ W1,w.alloc (.cells #[.int .i64 3,.string s,.slice a l.length cap] 24)=W1:=⟨_,rfl⟩
 have R1:Row3 W1 h (.int .i64 3) (.string s) (.slice a l.length cap):=by rw [←hW1,←hh];exact Row3.new _ _ _ _
 have T1:=ht.later hb0
 rw [hW1] at hb0 T1
 rw [hh] at hb0
 have HB:=qh hb0
 have HT1:=qh T1
 have HR1:=qh R1
 have HW:=qh hW1
 obtain ⟨⟨n0,n1,n2⟩,_⟩:=R1.cells
 have hcap:=ht.cap
 have HL0:Hid (NdL W1 l (.slice a l.length cap)):=qh ⟨_,_,_,_,HT1.out⟩
 have hItem:itemB (.mk 3 s l)=(noneB s && (decide (2≤l.length) && ((l.take (l.length - 1)).all loneB && typE l))):=by
  rw [itemB,if_neg (by decide),if_pos rfl,nameL_all]
 unfold maxLen at hl
 by_cases h2:2≤l.length
 ·rw [decide_eq_true h2,Bool.true_and,typE_get (show 0 < l.length by omega)] at hItem
  obtain ⟨b,o,k1,s1,l1,a1,c1,rfl,e1,x0,x1,x2,r1⟩:=HT1.out.kid (l.length - 1) (by omega)
  have CN0:=isNone_any s W1
  have CE0:=fun w' (hb:Below W1.heap.size W1 w')=>every_any 112 ent_isLone loneB 0 ⟨#[]⟩ (l.take (l.length - 1)) (some ⟨b,o,none⟩) cap w' (by rw [List.length_take];unfold maxLen;omega) (fun i hi=>isLone_any _ _ (Nat.le_refl _)) (by
   obtain ⟨k9,s9,u0,u1,h9⟩:=(HL0.out.later hb).take (l.length - 1) (by omega) cap (by omega)
   rw [show (l.take (l.length - 1)).length=l.length - 1 from by rw [List.length_take];omega]
   exact relabel h9)
  rw [show (l.take (l.length - 1)).length=l.length - 1 from by rw [List.length_take];omega] at CE0
  have CG0:=fun w' (hb:Below W1.heap.size W1 w')=>isType_any _ (l[l.length - 1]'(by omega)) (Nat.le_refl _) w' (.int .i64 k1) (.string s1) (.slice a1 l1.length c1) (by rw [e1];exact r1.later hb)
  obtain ⟨VN,hVN⟩:∃ V,noneB s=V:=⟨_,rfl⟩
  obtain ⟨VE,hVE⟩:∃ V,(l.take (l.length - 1)).all loneB=V:=⟨_,rfl⟩
  obtain ⟨VG,hVG⟩:∃ V,typB (l[l.length - 1]'(by omega))=V:=⟨_,rfl⟩
  rw [hVN,hVE,hVG] at hItem
  rw [hVN] at CN0
  rw [hVE] at CE0
  rw [hVG] at CG0
  obtain ⟨R,hR⟩:∃ R,itemB (.mk 3 s l)=R:=⟨_,rfl⟩
  rw [hR] at hItem ⊢
  obtain ⟨M,hM⟩:∃ M,l.length - 1=M:=⟨_,rfl⟩
  obtain ⟨L,hL⟩:∃ L,l.length=L:=⟨_,rfl⟩
  have hML:((L:Nat):Int) - 1=(M:Int):=by omega
  rw [hM] at CE0 x0 x1 x2
  rw [hL] at n2 hcap hl h2
  have CN:=qh CN0
  have CE:=qh CE0
  have CG:=qh CG0
  have HRp:=qh hItem
  have HR2:Hid (Row3 W1 h (.int .i64 3) (.string s) (.slice (some ⟨b,o,none⟩) L cap)):=by rw [←hL];exact HR1
  have HW2:Hid (w.alloc (.cells #[.int .i64 3,.string s,.slice (some ⟨b,o,none⟩) L cap] 24)=W1):=by rw [←hL];exact HW
  have L2:=qh (lt_of_cell x0)
  have HX:=qh (show W1.cell? ⟨b,o+M*3,none⟩=some (.int .i64 k1)∧W1.cell? ⟨b,o+M*3+1,none⟩=some (.string s1)∧W1.cell? ⟨b,o+M*3+2,none⟩=some (.slice a1 l1.length c1) from ⟨x0,x1,x2⟩)
  have hM1:0 < (M:Int):=by omega
  have hM0:(0:Int)≤(M:Int):=by omega
  have hMc:(M:Int)≤(cap:Int):=by omega
  have hMl:(M:Int) < (L:Int):=by omega
  have hMn:M≤cap:=by omega
  have hMm:M < L:=by omega
  have h63:(L:Int)≤9223372036854775807:=by omega
  rw [hL]
  have HLL:=qh hL
  clear ht hb0 T1 R1 hW1 hItem hR hVN hVE hVG CN0 CE0 CG0 e1 r1 x0 x1 x2 HT1 HL0 HR1 HW hL hM
  go_enter Tryz.func58,Tryz.ntmps58
  go_upto_region 1 with fail
  rw [HW2.out]
  go_wp2_with fail
  refine CN.out.mono ?_
  rintro e w2 ⟨rfl,hb2⟩
  have R2:=qh (HR2.out.below hb2 HR2.out.lt)
  have HB2:=qh hb2
  clear hb2 n0 n1 n2 CN
  obtain ⟨⟨n0,n1,n2⟩,_⟩:=R2.out.cells
  cases VN with
  | false =>
   go_wp2
   go_ret
   exact ⟨by rw [HRp.out];rfl,by first | exact HB.out.trans (HB2.out.mono (by have:=HR2.out.lt;omega)) | (rw [hh];exact HB.out.trans (HB2.out.mono (by have:=HR2.out.lt;omega)))⟩
  | true =>
   go_wp2_with fail
   refine (CE.out _ HB2.out).mono ?_
   rintro e w3 ⟨rfl,hb3⟩
   have HB3:=qh (HB2.out.trans (hb3.mono HB2.out.size))
   clear hb3 n0 n1 n2 CE
   obtain ⟨⟨n0,n1,n2⟩,_⟩:=(HR2.out.below HB3.out HR2.out.lt).cells
   have x0:=(HB3.out.cell (p:=⟨b,o+M*3,none⟩) L2.out).trans HX.out.1
   have x1:=(HB3.out.cell (p:=⟨b,o+M*3+1,none⟩) L2.out).trans HX.out.2.1
   have x2:=(HB3.out.cell (p:=⟨b,o+M*3+2,none⟩) L2.out).trans HX.out.2.2
   cases VE with
   | false =>
    go_wp2
    go_ret
    exact ⟨by rw [HRp.out];rfl,by first | exact HB.out.trans (HB3.out.mono (by have:=HR2.out.lt;omega)) | (rw [hh];exact HB.out.trans (HB3.out.mono (by have:=HR2.out.lt;omega)))⟩
   | true =>
    go_wp2_with fail
    refine (CG.out _ HB3.out).mono ?_
    rintro e w4 ⟨rfl,hb4⟩
    have HB4:=qh (HB3.out.trans (hb4.mono HB3.out.size))
    clear hb4 n0 n1 n2 x0 x1 x2 CG
    cases VG
    ·skip
     go_wp2
     go_ret
     exact ⟨by rw [HRp.out];rfl,by first | exact HB.out.trans (HB4.out.mono (by have:=HR2.out.lt;omega)) | (rw [hh];exact HB.out.trans (HB4.out.mono (by have:=HR2.out.lt;omega)))⟩
    ·skip
     go_wp2
     go_ret
     exact ⟨by rw [HRp.out];rfl,by first | exact HB.out.trans (HB4.out.mono (by have:=HR2.out.lt;omega)) | (rw [hh];exact HB.out.trans (HB4.out.mono (by have:=HR2.out.lt;omega)))⟩
 ·have hRf:itemB (.mk 3 s l)=false:=by rw [hItem,decide_eq_false h2];simp
  have e1:¬ (0:Int) < (l.length:Int) - 1:=by omega
  have hl0:(l.length:Int)≤9223372036854775807:=by omega
  rw [hRf]
  clear ht hb0 T1 R1 hW1 hItem hRf h2
  go_enter Tryz.func58,Tryz.ntmps58
  go_upto_region 1 with fail
  rw [HW.out]
  go_wp2
  go_ret
  exact ⟨rfl,by first | exact HB.out | (rw [hh];exact HB.out)⟩
set_option maxRecDepth 100000 in
set_option maxHeartbeats 2000000 in
theorem isItem_any:∀ t:Nd,Says 58 itemB t:=by
 intro t w v0 v1 v2 ht
 obtain ⟨k,s,l,a,cap,rfl,rfl,rfl,rfl,hs,hl⟩:=ht.form
 by_cases hk3:k=3
 ·subst hk3;exact isItem_3 s l w a cap hs hl ht
 have e3:(k==3)=false:=by rw [beq_eq_false_iff_ne];exact hk3
 have hb0:=(Below.refl w.heap.size w).alloc (Nat.le_refl _) (.cells #[.int .i64 k,.string s,.slice a l.length cap] 24)
 obtain ⟨h,hh⟩:∃ h,w.heap.size=h:=⟨_,rfl⟩
 obtain ⟨W1,hW1⟩:∃ W1,w.alloc (.cells #[.int .i64 k,.string s,.slice a l.length cap] 24)=W1:=⟨_,rfl⟩
 have R1:Row3 W1 h (.int .i64 k) (.string s) (.slice a l.length cap):=by rw [←hW1,←hh];exact Row3.new _ _ _ _
 have T1:=ht.later hb0
 rw [hW1] at hb0 T1
 rw [hh] at hb0
 have HB:=qh hb0
 have HT1:=qh T1
 have HR1:=qh R1
 have HW:=qh hW1
 obtain ⟨⟨n0,n1,n2⟩,_⟩:=R1.cells
 by_cases hk2:k=2
 ·subst hk2
  clear e3 hk3
  have CH:=fun w' (hb:Below W1.heap.size W1 w')=>has_any 111 112 ent_isNone ent_isLone noneB loneB 1 l.length 2 s l a cap w' hl (isNone_any s) (fun i hi=>isLone_any _ l[i] (Nat.le_refl _)) (HT1.out.later hb)
  obtain ⟨V,hV⟩:∃ V,hasB noneB 1 l.length loneB s l=V:=⟨_,rfl⟩
  rw [hV] at CH
  have CC:=qh CH
  have HS:Hid (itemB (.mk 2 s l)=V):=qh (by rw [←hV];rw [itemB,if_pos (by decide),nameL_all,from_v noneB 1 1 rfl])
  clear CH hV
  clear ht hb0 T1 R1 hW1
  go_enter Tryz.func58,Tryz.ntmps58
  go_upto_region 1 with fail
  rw [HW.out]
  go_wp2_with fail
  refine (CC.out _ (Below.refl _ _)).mono ?_
  rintro e w2 ⟨rfl,hb2⟩
  have HB2:=qh hb2
  clear hb2 CC n0 n1 n2
  cases V
  ·skip
   go_wp2
   go_ret
   exact ⟨by rw [HS.out];rfl,by first | exact HB.out.trans (HB2.out.mono (by have:=HR1.out.lt;omega)) | (rw [hh];exact HB.out.trans (HB2.out.mono (by have:=HR1.out.lt;omega)))⟩
  ·skip
   go_wp2
   go_ret
   exact ⟨by rw [HS.out];rfl,by first | exact HB.out.trans (HB2.out.mono (by have:=HR1.out.lt;omega)) | (rw [hh];exact HB.out.trans (HB2.out.mono (by have:=HR1.out.lt;omega)))⟩
 ·skip
  by_cases hk14:k=14
  ·subst hk14
   clear e3 hk3
   have CH:=fun w' (hb:Below W1.heap.size W1 w')=>has_any 111 112 ent_isNone ent_isLone noneB loneB 1 l.length 14 s l a cap w' hl (isNone_any s) (fun i hi=>isLone_any _ l[i] (Nat.le_refl _)) (HT1.out.later hb)
   obtain ⟨V,hV⟩:∃ V,hasB noneB 1 l.length loneB s l=V:=⟨_,rfl⟩
   rw [hV] at CH
   have CC:=qh CH
   have HS:Hid (itemB (.mk 14 s l)=V):=qh (by rw [←hV];rw [itemB,if_pos (by decide),nameL_all,from_v noneB 1 1 rfl])
   clear CH hV
   clear ht hb0 T1 R1 hW1
   go_enter Tryz.func58,Tryz.ntmps58
   go_upto_region 1 with fail
   rw [HW.out]
   go_wp2_with fail
   refine (CC.out _ (Below.refl _ _)).mono ?_
   rintro e w2 ⟨rfl,hb2⟩
   have HB2:=qh hb2
   clear hb2 CC n0 n1 n2
   cases V
   ·skip
    go_wp2
    go_ret
    exact ⟨by rw [HS.out];rfl,by first | exact HB.out.trans (HB2.out.mono (by have:=HR1.out.lt;omega)) | (rw [hh];exact HB.out.trans (HB2.out.mono (by have:=HR1.out.lt;omega)))⟩
   ·skip
    go_wp2
    go_ret
    exact ⟨by rw [HS.out];rfl,by first | exact HB.out.trans (HB2.out.mono (by have:=HR1.out.lt;omega)) | (rw [hh];exact HB.out.trans (HB2.out.mono (by have:=HR1.out.lt;omega)))⟩
  ·skip
   by_cases hk4:k=4
   ·subst hk4
    clear e3 hk3
    have CH:=fun w' (hb:Below W1.heap.size W1 w')=>has_any 114 61 ent_isName ent_isType nameB typB 0 8 4 s l a cap w' hl (name_says s hs) (fun i hi=>isType_any _ l[i] (Nat.le_refl _)) (HT1.out.later hb)
    obtain ⟨V,hV⟩:∃ V,hasB nameB 0 8 typB s l=V:=⟨_,rfl⟩
    rw [hV] at CH
    have CC:=qh CH
    have HS:Hid (itemB (.mk 4 s l)=V):=qh (by rw [←hV];rw [itemB,if_neg (by decide),if_neg (by decide),if_pos (by decide),typL_all,upto_v])
    clear CH hV
    clear ht hb0 T1 R1 hW1
    go_enter Tryz.func58,Tryz.ntmps58
    go_upto_region 1 with fail
    rw [HW.out]
    go_wp2_with fail
    refine (CC.out _ (Below.refl _ _)).mono ?_
    rintro e w2 ⟨rfl,hb2⟩
    have HB2:=qh hb2
    clear hb2 CC n0 n1 n2
    cases V
    ·skip
     go_wp2
     go_ret
     exact ⟨by rw [HS.out];rfl,by first | exact HB.out.trans (HB2.out.mono (by have:=HR1.out.lt;omega)) | (rw [hh];exact HB.out.trans (HB2.out.mono (by have:=HR1.out.lt;omega)))⟩
    ·skip
     go_wp2
     go_ret
     exact ⟨by rw [HS.out];rfl,by first | exact HB.out.trans (HB2.out.mono (by have:=HR1.out.lt;omega)) | (rw [hh];exact HB.out.trans (HB2.out.mono (by have:=HR1.out.lt;omega)))⟩
   ·skip
    by_cases hk5:k=5
    ·subst hk5
     clear e3 hk3
     have CH:=fun w' (hb:Below W1.heap.size W1 w')=>has_any 114 61 ent_isName ent_isType nameB typB 0 8 5 s l a cap w' hl (name_says s hs) (fun i hi=>isType_any _ l[i] (Nat.le_refl _)) (HT1.out.later hb)
     obtain ⟨V,hV⟩:∃ V,hasB nameB 0 8 typB s l=V:=⟨_,rfl⟩
     rw [hV] at CH
     have CC:=qh CH
     have HS:Hid (itemB (.mk 5 s l)=V):=qh (by rw [←hV];rw [itemB,if_neg (by decide),if_neg (by decide),if_pos (by decide),typL_all,upto_v])
     clear CH hV
     clear ht hb0 T1 R1 hW1
     go_enter Tryz.func58,Tryz.ntmps58
     go_upto_region 1 with fail
     rw [HW.out]
     go_wp2_with fail
     refine (CC.out _ (Below.refl _ _)).mono ?_
     rintro e w2 ⟨rfl,hb2⟩
     have HB2:=qh hb2
     clear hb2 CC n0 n1 n2
     cases V
     ·skip
      go_wp2
      go_ret
      exact ⟨by rw [HS.out];rfl,by first | exact HB.out.trans (HB2.out.mono (by have:=HR1.out.lt;omega)) | (rw [hh];exact HB.out.trans (HB2.out.mono (by have:=HR1.out.lt;omega)))⟩
     ·skip
      go_wp2
      go_ret
      exact ⟨by rw [HS.out];rfl,by first | exact HB.out.trans (HB2.out.mono (by have:=HR1.out.lt;omega)) | (rw [hh];exact HB.out.trans (HB2.out.mono (by have:=HR1.out.lt;omega)))⟩
    ·skip
     by_cases hk6:k=6
     ·subst hk6
      clear e3 hk3
      have CH:=fun w' (hb:Below W1.heap.size W1 w')=>has_any 114 61 ent_isName ent_isType nameB typB 0 8 6 s l a cap w' hl (name_says s hs) (fun i hi=>isType_any _ l[i] (Nat.le_refl _)) (HT1.out.later hb)
      obtain ⟨V,hV⟩:∃ V,hasB nameB 0 8 typB s l=V:=⟨_,rfl⟩
      rw [hV] at CH
      have CC:=qh CH
      have HS:Hid (itemB (.mk 6 s l)=V):=qh (by rw [←hV];rw [itemB,if_neg (by decide),if_neg (by decide),if_pos (by decide),typL_all,upto_v])
      clear CH hV
      clear ht hb0 T1 R1 hW1
      go_enter Tryz.func58,Tryz.ntmps58
      go_upto_region 1 with fail
      rw [HW.out]
      go_wp2_with fail
      refine (CC.out _ (Below.refl _ _)).mono ?_
      rintro e w2 ⟨rfl,hb2⟩
      have HB2:=qh hb2
      clear hb2 CC n0 n1 n2
      cases V
      ·skip
       go_wp2
       go_ret
       exact ⟨by rw [HS.out];rfl,by first | exact HB.out.trans (HB2.out.mono (by have:=HR1.out.lt;omega)) | (rw [hh];exact HB.out.trans (HB2.out.mono (by have:=HR1.out.lt;omega)))⟩
      ·skip
       go_wp2
       go_ret
       exact ⟨by rw [HS.out];rfl,by first | exact HB.out.trans (HB2.out.mono (by have:=HR1.out.lt;omega)) | (rw [hh];exact HB.out.trans (HB2.out.mono (by have:=HR1.out.lt;omega)))⟩
     ·skip
      by_cases hk7:k=7
      ·subst hk7
       clear e3 hk3
       have CH:=fun w' (hb:Below W1.heap.size W1 w')=>has_any 114 115 ent_isName ent_isMode nameB modeB 0 8 7 s l a cap w' hl (name_says s hs) (fun i hi=>isMode_any l[i]) (HT1.out.later hb)
       obtain ⟨V,hV⟩:∃ V,hasB nameB 0 8 modeB s l=V:=⟨_,rfl⟩
       rw [hV] at CH
       have CC:=qh CH
       have HS:Hid (itemB (.mk 7 s l)=V):=qh (by rw [←hV];rw [itemB,if_neg (by decide),if_neg (by decide),if_neg (by decide),if_pos rfl,modeL_all,upto_v])
       clear CH hV
       clear ht hb0 T1 R1 hW1
       go_enter Tryz.func58,Tryz.ntmps58
       go_upto_region 1 with fail
       rw [HW.out]
       go_wp2_with fail
       refine (CC.out _ (Below.refl _ _)).mono ?_
       rintro e w2 ⟨rfl,hb2⟩
       have HB2:=qh hb2
       clear hb2 CC n0 n1 n2
       cases V
       ·skip
        go_wp2
        go_ret
        exact ⟨by rw [HS.out];rfl,by first | exact HB.out.trans (HB2.out.mono (by have:=HR1.out.lt;omega)) | (rw [hh];exact HB.out.trans (HB2.out.mono (by have:=HR1.out.lt;omega)))⟩
       ·skip
        go_wp2
        go_ret
        exact ⟨by rw [HS.out];rfl,by first | exact HB.out.trans (HB2.out.mono (by have:=HR1.out.lt;omega)) | (rw [hh];exact HB.out.trans (HB2.out.mono (by have:=HR1.out.lt;omega)))⟩
      ·skip
       by_cases hk8:k=8
       ·subst hk8
        clear e3 hk3
        have CH:=fun w' (hb:Below W1.heap.size W1 w')=>has_any 114 59 ent_isName ent_isForm nameB formB 1 1 8 s l a cap w' hl (name_says s hs) (fun i hi=>isForm_any _ l[i] (Nat.le_refl _)) (HT1.out.later hb)
        obtain ⟨V,hV⟩:∃ V,hasB nameB 1 1 formB s l=V:=⟨_,rfl⟩
        rw [hV] at CH
        have CC:=qh CH
        have HS:Hid (itemB (.mk 8 s l)=V):=qh (by rw [←hV];rw [itemB,if_neg (by decide),if_neg (by decide),if_neg (by decide),if_neg (by decide),if_pos (by decide),formL_all,exact_v nameB 1 1 rfl])
        clear CH hV
        clear ht hb0 T1 R1 hW1
        go_enter Tryz.func58,Tryz.ntmps58
        go_upto_region 1 with fail
        rw [HW.out]
        go_wp2_with fail
        refine (CC.out _ (Below.refl _ _)).mono ?_
        rintro e w2 ⟨rfl,hb2⟩
        have HB2:=qh hb2
        clear hb2 CC n0 n1 n2
        cases V
        ·skip
         go_wp2
         go_ret
         exact ⟨by rw [HS.out];rfl,by first | exact HB.out.trans (HB2.out.mono (by have:=HR1.out.lt;omega)) | (rw [hh];exact HB.out.trans (HB2.out.mono (by have:=HR1.out.lt;omega)))⟩
        ·skip
         go_wp2
         go_ret
         exact ⟨by rw [HS.out];rfl,by first | exact HB.out.trans (HB2.out.mono (by have:=HR1.out.lt;omega)) | (rw [hh];exact HB.out.trans (HB2.out.mono (by have:=HR1.out.lt;omega)))⟩
       ·skip
        by_cases hk9:k=9
        ·subst hk9
         clear e3 hk3
         have CH:=fun w' (hb:Below W1.heap.size W1 w')=>has_any 114 59 ent_isName ent_isForm nameB formB 1 1 9 s l a cap w' hl (name_says s hs) (fun i hi=>isForm_any _ l[i] (Nat.le_refl _)) (HT1.out.later hb)
         obtain ⟨V,hV⟩:∃ V,hasB nameB 1 1 formB s l=V:=⟨_,rfl⟩
         rw [hV] at CH
         have CC:=qh CH
         have HS:Hid (itemB (.mk 9 s l)=V):=qh (by rw [←hV];rw [itemB,if_neg (by decide),if_neg (by decide),if_neg (by decide),if_neg (by decide),if_pos (by decide),formL_all,exact_v nameB 1 1 rfl])
         clear CH hV
         clear ht hb0 T1 R1 hW1
         go_enter Tryz.func58,Tryz.ntmps58
         go_upto_region 1 with fail
         rw [HW.out]
         go_wp2_with fail
         refine (CC.out _ (Below.refl _ _)).mono ?_
         rintro e w2 ⟨rfl,hb2⟩
         have HB2:=qh hb2
         clear hb2 CC n0 n1 n2
         cases V
         ·skip
          go_wp2
          go_ret
          exact ⟨by rw [HS.out];rfl,by first | exact HB.out.trans (HB2.out.mono (by have:=HR1.out.lt;omega)) | (rw [hh];exact HB.out.trans (HB2.out.mono (by have:=HR1.out.lt;omega)))⟩
         ·skip
          go_wp2
          go_ret
          exact ⟨by rw [HS.out];rfl,by first | exact HB.out.trans (HB2.out.mono (by have:=HR1.out.lt;omega)) | (rw [hh];exact HB.out.trans (HB2.out.mono (by have:=HR1.out.lt;omega)))⟩
        ·skip
         by_cases hk10:k=10
         ·subst hk10
          clear e3 hk3
          have CH:=fun w' (hb:Below W1.heap.size W1 w')=>has_any 114 59 ent_isName ent_isForm nameB formB 1 1 10 s l a cap w' hl (name_says s hs) (fun i hi=>isForm_any _ l[i] (Nat.le_refl _)) (HT1.out.later hb)
          obtain ⟨V,hV⟩:∃ V,hasB nameB 1 1 formB s l=V:=⟨_,rfl⟩
          rw [hV] at CH
          have CC:=qh CH
          have HS:Hid (itemB (.mk 10 s l)=V):=qh (by rw [←hV];rw [itemB,if_neg (by decide),if_neg (by decide),if_neg (by decide),if_neg (by decide),if_pos (by decide),formL_all,exact_v nameB 1 1 rfl])
          clear CH hV
          clear ht hb0 T1 R1 hW1
          go_enter Tryz.func58,Tryz.ntmps58
          go_upto_region 1 with fail
          rw [HW.out]
          go_wp2_with fail
          refine (CC.out _ (Below.refl _ _)).mono ?_
          rintro e w2 ⟨rfl,hb2⟩
          have HB2:=qh hb2
          clear hb2 CC n0 n1 n2
          cases V
          ·skip
           go_wp2
           go_ret
           exact ⟨by rw [HS.out];rfl,by first | exact HB.out.trans (HB2.out.mono (by have:=HR1.out.lt;omega)) | (rw [hh];exact HB.out.trans (HB2.out.mono (by have:=HR1.out.lt;omega)))⟩
          ·skip
           go_wp2
           go_ret
           exact ⟨by rw [HS.out];rfl,by first | exact HB.out.trans (HB2.out.mono (by have:=HR1.out.lt;omega)) | (rw [hh];exact HB.out.trans (HB2.out.mono (by have:=HR1.out.lt;omega)))⟩
         ·skip
          by_cases hk11:k=11
          ·subst hk11
           clear e3 hk3
           have CH:=fun w' (hb:Below W1.heap.size W1 w')=>has_any 114 59 ent_isName ent_isForm nameB formB 1 1 11 s l a cap w' hl (name_says s hs) (fun i hi=>isForm_any _ l[i] (Nat.le_refl _)) (HT1.out.later hb)
           obtain ⟨V,hV⟩:∃ V,hasB nameB 1 1 formB s l=V:=⟨_,rfl⟩
           rw [hV] at CH
           have CC:=qh CH
           have HS:Hid (itemB (.mk 11 s l)=V):=qh (by rw [←hV];rw [itemB,if_neg (by decide),if_neg (by decide),if_neg (by decide),if_neg (by decide),if_pos (by decide),formL_all,exact_v nameB 1 1 rfl])
           clear CH hV
           clear ht hb0 T1 R1 hW1
           go_enter Tryz.func58,Tryz.ntmps58
           go_upto_region 1 with fail
           rw [HW.out]
           go_wp2_with fail
           refine (CC.out _ (Below.refl _ _)).mono ?_
           rintro e w2 ⟨rfl,hb2⟩
           have HB2:=qh hb2
           clear hb2 CC n0 n1 n2
           cases V
           ·skip
            go_wp2
            go_ret
            exact ⟨by rw [HS.out];rfl,by first | exact HB.out.trans (HB2.out.mono (by have:=HR1.out.lt;omega)) | (rw [hh];exact HB.out.trans (HB2.out.mono (by have:=HR1.out.lt;omega)))⟩
           ·skip
            go_wp2
            go_ret
            exact ⟨by rw [HS.out];rfl,by first | exact HB.out.trans (HB2.out.mono (by have:=HR1.out.lt;omega)) | (rw [hh];exact HB.out.trans (HB2.out.mono (by have:=HR1.out.lt;omega)))⟩
          ·skip
           by_cases hk12:k=12
           ·subst hk12
            clear e3 hk3
            have CH:=fun w' (hb:Below W1.heap.size W1 w')=>has_any 114 112 ent_isName ent_isLone nameB loneB 0 0 12 s l a cap w' hl (name_says s hs) (fun i hi=>isLone_any _ l[i] (Nat.le_refl _)) (HT1.out.later hb)
            obtain ⟨V,hV⟩:∃ V,hasB nameB 0 0 loneB s l=V:=⟨_,rfl⟩
            rw [hV] at CH
            have CC:=qh CH
            have HS:Hid (itemB (.mk 12 s l)=V):=qh (by rw [←hV];rw [itemB,if_neg (by decide),if_neg (by decide),if_neg (by decide),if_neg (by decide),if_neg (by decide),if_pos (by decide),has_zero,Bool.and_comm])
            clear CH hV
            clear ht hb0 T1 R1 hW1
            go_enter Tryz.func58,Tryz.ntmps58
            go_upto_region 1 with fail
            rw [HW.out]
            go_wp2_with fail
            refine (CC.out _ (Below.refl _ _)).mono ?_
            rintro e w2 ⟨rfl,hb2⟩
            have HB2:=qh hb2
            clear hb2 CC n0 n1 n2
            cases V
            ·skip
             go_wp2
             go_ret
             exact ⟨by rw [HS.out];rfl,by first | exact HB.out.trans (HB2.out.mono (by have:=HR1.out.lt;omega)) | (rw [hh];exact HB.out.trans (HB2.out.mono (by have:=HR1.out.lt;omega)))⟩
            ·skip
             go_wp2
             go_ret
             exact ⟨by rw [HS.out];rfl,by first | exact HB.out.trans (HB2.out.mono (by have:=HR1.out.lt;omega)) | (rw [hh];exact HB.out.trans (HB2.out.mono (by have:=HR1.out.lt;omega)))⟩
           ·skip
            by_cases hk13:k=13
            ·subst hk13
             clear e3 hk3
             have CH:=fun w' (hb:Below W1.heap.size W1 w')=>has_any 114 112 ent_isName ent_isLone nameB loneB 0 0 13 s l a cap w' hl (name_says s hs) (fun i hi=>isLone_any _ l[i] (Nat.le_refl _)) (HT1.out.later hb)
             obtain ⟨V,hV⟩:∃ V,hasB nameB 0 0 loneB s l=V:=⟨_,rfl⟩
             rw [hV] at CH
             have CC:=qh CH
             have HS:Hid (itemB (.mk 13 s l)=V):=qh (by rw [←hV];rw [itemB,if_neg (by decide),if_neg (by decide),if_neg (by decide),if_neg (by decide),if_neg (by decide),if_pos (by decide),has_zero,Bool.and_comm])
             clear CH hV
             clear ht hb0 T1 R1 hW1
             go_enter Tryz.func58,Tryz.ntmps58
             go_upto_region 1 with fail
             rw [HW.out]
             go_wp2_with fail
             refine (CC.out _ (Below.refl _ _)).mono ?_
             rintro e w2 ⟨rfl,hb2⟩
             have HB2:=qh hb2
             clear hb2 CC n0 n1 n2
             cases V
             ·skip
              go_wp2
              go_ret
              exact ⟨by rw [HS.out];rfl,by first | exact HB.out.trans (HB2.out.mono (by have:=HR1.out.lt;omega)) | (rw [hh];exact HB.out.trans (HB2.out.mono (by have:=HR1.out.lt;omega)))⟩
             ·skip
              go_wp2
              go_ret
              exact ⟨by rw [HS.out];rfl,by first | exact HB.out.trans (HB2.out.mono (by have:=HR1.out.lt;omega)) | (rw [hh];exact HB.out.trans (HB2.out.mono (by have:=HR1.out.lt;omega)))⟩
            ·skip
             have HS:Hid (itemB (.mk k s l)=false):=qh (by rw [itemB,if_neg (by rintro (h | h) <;> contradiction),if_neg hk3,if_neg (by rintro (h | h | h) <;> contradiction),if_neg hk7,if_neg (by rintro (h | h | h | h) <;> contradiction),if_neg (by rintro (h | h) <;> contradiction),Bool.and_false])
             have e2:(k==2)=false:=by rw [beq_eq_false_iff_ne];exact hk2
             have e14:(k==14)=false:=by rw [beq_eq_false_iff_ne];exact hk14
             have e4:(k==4)=false:=by rw [beq_eq_false_iff_ne];exact hk4
             have e5:(k==5)=false:=by rw [beq_eq_false_iff_ne];exact hk5
             have e6:(k==6)=false:=by rw [beq_eq_false_iff_ne];exact hk6
             have e7:(k==7)=false:=by rw [beq_eq_false_iff_ne];exact hk7
             have e8:(k==8)=false:=by rw [beq_eq_false_iff_ne];exact hk8
             have e9:(k==9)=false:=by rw [beq_eq_false_iff_ne];exact hk9
             have e10:(k==10)=false:=by rw [beq_eq_false_iff_ne];exact hk10
             have e11:(k==11)=false:=by rw [beq_eq_false_iff_ne];exact hk11
             have e12:(k==12)=false:=by rw [beq_eq_false_iff_ne];exact hk12
             have e13:(k==13)=false:=by rw [beq_eq_false_iff_ne];exact hk13
             clear ht hb0 T1 R1 hW1 hk2 hk14 hk4 hk5 hk6 hk7 hk8 hk9 hk10 hk11 hk12 hk13
             go_enter Tryz.func58,Tryz.ntmps58
             go_upto_region 1 with fail
             rw [HW.out]
             go_wp2
             go_ret
             exact ⟨by rw [HS.out];rfl,by first | exact HB.out | (rw [hh];exact HB.out)⟩
set_option maxRecDepth 100000 in
set_option maxHeartbeats 2000000 in
theorem isText_any (t:Nd):Says 57 textB t:=by
 intro w v0 v1 v2 ht
 obtain ⟨k,s,l,a,cap,rfl,rfl,rfl,rfl,hs,hl⟩:=ht.form
 have hb0:=(Below.refl w.heap.size w).alloc (Nat.le_refl _) (.cells #[.int .i64 k,.string s,.slice a l.length cap] 24)
 obtain ⟨h,hh⟩:∃ h,w.heap.size=h:=⟨_,rfl⟩
 obtain ⟨W1,hW1⟩:∃ W1,w.alloc (.cells #[.int .i64 k,.string s,.slice a l.length cap] 24)=W1:=⟨_,rfl⟩
 have R1:Row3 W1 h (.int .i64 k) (.string s) (.slice a l.length cap):=by rw [←hW1,←hh];exact Row3.new _ _ _ _
 have T1:=ht.later hb0
 rw [hW1] at hb0 T1
 rw [hh] at hb0
 have HB:=qh hb0
 have HT1:=qh T1
 have HR1:=qh R1
 have HW:=qh hW1
 obtain ⟨⟨n0,n1,n2⟩,_⟩:=R1.cells
 have CH:=fun w' (hb:Below W1.heap.size W1 w')=>has_any 111 58 ent_isNone ent_isItem noneB itemB 0 l.length k s l a cap w' hl (isNone_any s) (fun i hi=>isItem_any l[i]) (HT1.out.later hb)
 obtain ⟨V,hV⟩:∃ V,hasB noneB 0 l.length itemB s l=V:=⟨_,rfl⟩
 rw [hV] at CH
 have CC:=qh CH
 have hv2:(noneB s && itemL l)=V:=by rw [←hV,from_v noneB 0 0 rfl,itemL_all,decide_eq_true (Nat.zero_le _),Bool.true_and]
 have HS0:=qh hv2
 clear CH hV hv2 ht hb0 T1 R1 hW1
 by_cases hk:k=1
 ·subst hk
  have HS:Hid (textB (.mk 1 s l)=V):=qh (by rw [textB,decide_eq_true rfl,Bool.true_and];exact HS0.out)
  clear HS0
  go_enter Tryz.func57,Tryz.ntmps57
  go_upto_region 1 with fail
  rw [HW.out]
  go_wp2_with fail
  refine (CC.out _ (Below.refl _ _)).mono ?_
  rintro e w2 ⟨rfl,hb2⟩
  have HB2:=qh hb2
  clear hb2 CC n0 n1 n2
  cases V
  ·skip
   go_wp2
   go_ret
   exact ⟨by rw [HS.out];rfl,by first | exact HB.out.trans (HB2.out.mono (by have:=HR1.out.lt;omega)) | (rw [hh];exact HB.out.trans (HB2.out.mono (by have:=HR1.out.lt;omega)))⟩
  ·skip
   go_wp2
   go_ret
   exact ⟨by rw [HS.out];rfl,by first | exact HB.out.trans (HB2.out.mono (by have:=HR1.out.lt;omega)) | (rw [hh];exact HB.out.trans (HB2.out.mono (by have:=HR1.out.lt;omega)))⟩
 ·have e1:(k==1)=false:=by rw [beq_eq_false_iff_ne];exact hk
  have HS:Hid (textB (.mk k s l)=false):=qh (by rw [textB,decide_eq_false hk];rfl)
  clear hk HS0
  go_enter Tryz.func57,Tryz.ntmps57
  go_upto_region 1 with fail
  rw [HW.out]
  go_wp2
  go_ret
  exact ⟨by rw [HS.out];rfl,by first | exact HB.out | (rw [hh];exact HB.out)⟩
set_option maxRecDepth 100000 in
set_option maxHeartbeats 400000 in
theorem size_any (t:Nd) (w:World) (v0 v1 v2:Value) (ht:NdR w t v0 v1 v2) :
  Calls Tryz.prog 16 #[.agg #[v0,v1,v2]] w fun e w'=>e = .returned (.int .i64 ((min t.sz 4001:Nat):Int))∧Below w.heap.size w w':=by
 obtain ⟨k,s,l,a,cap,rfl,rfl,rfl,rfl,hs,hl⟩:=ht.form
 have hb0:=(Below.refl w.heap.size w).alloc (Nat.le_refl _) (.cells #[.int .i64 k,.string s,.slice a l.length cap] 24)
 have C:=measure_any _ _ _ _ _ (ht.later hb0)
 obtain ⟨V,hV⟩:∃ V,(min (Nd.mk k s l).sz 4001:Nat)=V:=⟨_,rfl⟩
 rw [hV] at C ⊢
 have CC:=qh C
 have HB:=qh hb0
 clear C hV ht hb0
 go_enter Tryz.func16,Tryz.ntmps16
 go_wp2_with fail
 refine CC.out.mono ?_
 rintro e w1 ⟨lv,rfl,_,hb⟩
 have HB1:=qh (HB.out.trans (hb.mono HB.out.size))
 clear hb CC
 go_wp2
 go_ret
 exact ⟨rfl,HB1.out⟩
set_option maxRecDepth 100000 in
set_option maxHeartbeats 2000000 in
theorem check_tree (t:Nd) (w:World) (v0 v1 v2:Value) (ht:NdR w t v0 v1 v2) :
  Calls Tryz.prog 14 #[.agg #[v0,v1,v2]] w fun e w'=>e = .returned (.int .i64 (chkN t))∧Below w.heap.size w w':=by
 obtain ⟨k,s,l,a,cap,rfl,rfl,rfl,rfl,hs,hl⟩:=ht.form
 have hb0:=(Below.refl w.heap.size w).alloc (Nat.le_refl _) (.cells #[.int .i64 k,.string s,.slice a l.length cap] 24)
 obtain ⟨h,hh⟩:∃ h,w.heap.size=h:=⟨_,rfl⟩
 obtain ⟨W1,hW1⟩:∃ W1,w.alloc (.cells #[.int .i64 k,.string s,.slice a l.length cap] 24)=W1:=⟨_,rfl⟩
 have R1:Row3 W1 h (.int .i64 k) (.string s) (.slice a l.length cap):=by rw [←hW1,←hh];exact Row3.new _ _ _ _
 have T1:=ht.later hb0
 rw [hW1] at hb0 T1
 rw [hh] at hb0
 have HB:=qh hb0
 have HT1:=qh T1
 have HR1:=qh R1
 have HW:=qh hW1
 obtain ⟨⟨n0,n1,n2⟩,_⟩:=R1.cells
 have CM:=qh (measure_any _ W1 _ _ _ HT1.out)
 have C1:=qh (fun w' (hb:Below W1.heap.size W1 w')=>isText_any (.mk k s l) w' _ _ _ (HT1.out.later hb))
 have C2:=qh (fun w' (hb:Below W1.heap.size W1 w')=>isItem_any (.mk k s l) w' _ _ _ (HT1.out.later hb))
 have C3:=qh (fun w' (hb:Below W1.heap.size W1 w')=>isForm_any _ (.mk k s l) (Nat.le_refl _) w' _ _ _ (HT1.out.later hb))
 have C4:=qh (fun w' (hb:Below W1.heap.size W1 w')=>isTerm_any _ (.mk k s l) (Nat.le_refl _) w' _ _ _ (HT1.out.later hb))
 have C5:=qh (fun w' (hb:Below W1.heap.size W1 w')=>isType_any _ (.mk k s l) (Nat.le_refl _) w' _ _ _ (HT1.out.later hb))
 obtain ⟨R,hR⟩:∃ R,chkN (.mk k s l)=R:=⟨_,rfl⟩
 rw [hR]
 have HR:Hid ((if 4000 < (Nd.mk k s l).sz then 2 else if 100 < (Nd.mk k s l).dp then 5 else if typB (.mk k s l) || (termB (.mk k s l) || (formB (.mk k s l) || (itemB (.mk k s l) || textB (.mk k s l)))) then 0 else 21)=R):=qh hR
 obtain ⟨S,hS⟩:∃ S,(Nd.mk k s l).sz=S:=⟨_,rfl⟩
 obtain ⟨D,hD⟩:∃ D,(Nd.mk k s l).dp=D:=⟨_,rfl⟩
 obtain ⟨B1,h1⟩:∃ B,textB (.mk k s l)=B:=⟨_,rfl⟩
 obtain ⟨B2,h2⟩:∃ B,itemB (.mk k s l)=B:=⟨_,rfl⟩
 obtain ⟨B3,h3⟩:∃ B,formB (.mk k s l)=B:=⟨_,rfl⟩
 obtain ⟨B4,h4⟩:∃ B,termB (.mk k s l)=B:=⟨_,rfl⟩
 obtain ⟨B5,h5⟩:∃ B,typB (.mk k s l)=B:=⟨_,rfl⟩
 rw [hS,hD,h1,h2,h3,h4,h5] at HR
 rw [hS,hD] at CM
 rw [h1] at C1
 rw [h2] at C2
 rw [h3] at C3
 rw [h4] at C4
 rw [h5] at C5
 clear hR hS hD h1 h2 h3 h4 h5 ht hb0 T1 R1 hW1
 by_cases hS:4000 < S
 ·have e0:(min S 4001:Nat)=4001:=by omega
  rw [e0] at CM
  have HRv:Hid (R=2):=qh (by rw [←HR.out,if_pos hS])
  clear e0 hS C1 C2 C3 C4 C5 HR
  go_enter Tryz.func14,Tryz.ntmps14
  go_upto_region 1 with fail
  rw [HW.out]
  go_wp2_with fail
  refine CM.out.mono ?_
  rintro e w2 ⟨lv,rfl,_,hb2⟩
  have HB2:=qh hb2
  clear hb2 n0 n1 n2 CM
  go_wp2
  go_ret
  exact ⟨by rw [HRv.out];rfl,by first | exact HB.out.trans (HB2.out.mono (by have:=HR1.out.lt;omega)) | (rw [hh];exact HB.out.trans (HB2.out.mono (by have:=HR1.out.lt;omega)))⟩
 ·have e0:(min S 4001:Nat)=S:=by omega
  rw [e0] at CM
  rw [if_neg hS] at HR
  go_enter Tryz.func14,Tryz.ntmps14
  go_upto_region 1 with fail
  rw [HW.out]
  go_wp2_with fail
  refine CM.out.mono ?_
  rintro e w2 ⟨lv,rfl,hlv,hb2⟩
  obtain rfl:=hlv (by omega)
  have R2:=qh (HR1.out.below hb2 HR1.out.lt)
  have HB2:=qh hb2
  have hS':¬ (4000:Int) < (S:Int):=by omega
  clear hlv hb2 n0 n1 n2 CM e0 hS
  obtain ⟨⟨n0,n1,n2⟩,_⟩:=R2.out.cells
  by_cases hD:100 < lv
  ·have hD':(100:Int) < (lv:Int):=by omega
   have HRv:Hid (R=5):=qh (by rw [←HR.out,if_pos hD])
   clear hD C1 C2 C3 C4 C5 HR
   go_wp2
   go_ret
   exact ⟨by rw [HRv.out];rfl,by first | exact HB.out.trans (HB2.out.mono (by have:=HR1.out.lt;omega)) | (rw [hh];exact HB.out.trans (HB2.out.mono (by have:=HR1.out.lt;omega)))⟩
  ·have hD':¬ (100:Int) < (lv:Int):=by omega
   rw [if_neg hD] at HR
   clear hD
   go_wp2_with fail
   refine (C1.out _ HB2.out).mono ?_
   rintro e w3 ⟨rfl,hbn⟩
   have HB3:=qh (HB2.out.trans (hbn.mono HB2.out.size))
   clear hbn n0 n1 n2 C1
   obtain ⟨⟨n0,n1,n2⟩,_⟩:=(HR1.out.below HB3.out HR1.out.lt).cells
   cases B1 with
   | true =>
    have HRv:Hid (R=0):=qh (by rw [←HR.out];simp)
    go_wp2
    go_ret
    exact ⟨by rw [HRv.out];rfl,by first | exact HB.out.trans (HB3.out.mono (by have:=HR1.out.lt;omega)) | (rw [hh];exact HB.out.trans (HB3.out.mono (by have:=HR1.out.lt;omega)))⟩
   | false =>
    go_wp2_with fail
    refine (C2.out _ HB3.out).mono ?_
    rintro e w4 ⟨rfl,hbn⟩
    have HB4:=qh (HB3.out.trans (hbn.mono HB3.out.size))
    clear hbn n0 n1 n2 C2
    obtain ⟨⟨n0,n1,n2⟩,_⟩:=(HR1.out.below HB4.out HR1.out.lt).cells
    cases B2 with
    | true =>
     have HRv:Hid (R=0):=qh (by rw [←HR.out];simp)
     go_wp2
     go_ret
     exact ⟨by rw [HRv.out];rfl,by first | exact HB.out.trans (HB4.out.mono (by have:=HR1.out.lt;omega)) | (rw [hh];exact HB.out.trans (HB4.out.mono (by have:=HR1.out.lt;omega)))⟩
    | false =>
     go_wp2_with fail
     refine (C3.out _ HB4.out).mono ?_
     rintro e w5 ⟨rfl,hbn⟩
     have HB5:=qh (HB4.out.trans (hbn.mono HB4.out.size))
     clear hbn n0 n1 n2 C3
     obtain ⟨⟨n0,n1,n2⟩,_⟩:=(HR1.out.below HB5.out HR1.out.lt).cells
     cases B3 with
     | true =>
      have HRv:Hid (R=0):=qh (by rw [←HR.out];simp)
      go_wp2
      go_ret
      exact ⟨by rw [HRv.out];rfl,by first | exact HB.out.trans (HB5.out.mono (by have:=HR1.out.lt;omega)) | (rw [hh];exact HB.out.trans (HB5.out.mono (by have:=HR1.out.lt;omega)))⟩
     | false =>
      go_wp2_with fail
      refine (C4.out _ HB5.out).mono ?_
      rintro e w6 ⟨rfl,hbn⟩
      have HB6:=qh (HB5.out.trans (hbn.mono HB5.out.size))
      clear hbn n0 n1 n2 C4
      obtain ⟨⟨n0,n1,n2⟩,_⟩:=(HR1.out.below HB6.out HR1.out.lt).cells
      cases B4 with
      | true =>
       have HRv:Hid (R=0):=qh (by rw [←HR.out];simp)
       go_wp2
       go_ret
       exact ⟨by rw [HRv.out];rfl,by first | exact HB.out.trans (HB6.out.mono (by have:=HR1.out.lt;omega)) | (rw [hh];exact HB.out.trans (HB6.out.mono (by have:=HR1.out.lt;omega)))⟩
      | false =>
       go_wp2_with fail
       refine (C5.out _ HB6.out).mono ?_
       rintro e w7 ⟨rfl,hbn⟩
       have HB7:=qh (HB6.out.trans (hbn.mono HB6.out.size))
       clear hbn n0 n1 n2 C5
       obtain ⟨⟨n0,n1,n2⟩,_⟩:=(HR1.out.below HB7.out HR1.out.lt).cells
       cases B5 with
       | true =>
        have HRv:Hid (R=0):=qh (by rw [←HR.out];simp)
        go_wp2
        go_ret
        exact ⟨by rw [HRv.out];rfl,by first | exact HB.out.trans (HB7.out.mono (by have:=HR1.out.lt;omega)) | (rw [hh];exact HB.out.trans (HB7.out.mono (by have:=HR1.out.lt;omega)))⟩
       | false =>
        have HRv:Hid (R=21):=qh (by rw [←HR.out];rfl)
        go_wp2
        go_ret
        exact ⟨by rw [HRv.out];rfl,by first | exact HB.out.trans (HB7.out.mono (by have:=HR1.out.lt;omega)) | (rw [hh];exact HB.out.trans (HB7.out.mono (by have:=HR1.out.lt;omega)))⟩
end Go.Proofs.YtcimcjmdkjajfaaGreatDoor
namespace Go.Proofs.YtcimcjmdkjajfaaGreatDoor
open Go.RowKit
section
variable {P:Program} {w w0:World} {ops:Array Oper} {rest:List Oper} {o:Oper} {a:Act} {Q:Exit→Act→World→Prop}
theorem insert_step (hg:o.guard=none) (m x v:Operand) (t:TypeId) (ho:o.op=Op.insert t m x v) {k e:TypeId} (ht:P.underlying t=some (.map k e)) (hk:P.underlying k=some .string)
  {b:Nat} {L:List (List UInt8×Value)} (hM:a.eval m = .map (some b)) (hm:StrMap w b L) {B:Nat} (hB:B≤b) (hb:Below B w0 w) (s:List UInt8) (hx:a.eval x=S_ s) {u:Value} (hv:a.eval v=u) (hs:found L s=none) (hd:o.dst=none)
  (hK:∀ w',StrMap w' b (L++[(s,u)])→Below B w0 w'→wpList P ops Q rest a w'):wpList P ops Q (o :: rest) a w :=
 wpList_insert_str hg m x v t ho ht hk hM hm s hx hv hs (fun w' h1 h2 h3 h4 h5 h6=>hK w' h1 (hb.trans ⟨h3,h4,h5,Nat.le_of_eq h2.symm,fun j hj=>h6 j (by have:=hb.size;omega)⟩)) hd
theorem strMap_made (w:World):StrMap (w.alloc (.map #[] 0)) w.heap.size []:=⟨#[],0,by show (w.heap.push _)[w.heap.size]?=_;simp,by simp⟩
end
set_option maxRecDepth 100000 in
set_option maxHeartbeats 1000000 in
theorem items_made (w:World):Calls Tryz.prog 135 #[] w fun e w'=>e = .returned (.map (some w.heap.size))∧StrMap w' w.heap.size itemsL∧Below w.heap.size w w':=by
 have hmm:=@run_makeMap Tryz.prog
 have m0:=qh (strMap_made w)
 have b0:=qh ((Below.refl w.heap.size w).alloc (Nat.le_refl _) (.map #[] 0))
 go_enter Tryz.func135,Tryz.ntmps135
 go_wp2_with (first
  | (refine insert_step (by rfl) _ _ _ _ (by rfl) Tryz.underlying132 Tryz.underlying9 (by rfl) m0.out (Nat.le_refl _) b0.out [116,121,112,101] (by rfl) (u:=F_ 174) (by rfl) (by rfl) (by rfl) ?_;intro w1 m b;have m1:=qh m;have b1:=qh b;clear m b m0 b0)
  | (refine insert_step (by rfl) _ _ _ _ (by rfl) Tryz.underlying132 Tryz.underlying9 (by rfl) m1.out (Nat.le_refl _) b1.out [101,120,112,111,114,116] (by rfl) (u:=F_ 174) (by rfl) (by rfl) (by rfl) ?_;intro w2 m b;have m2:=qh m;have b2:=qh b;clear m b m1 b1)
  | (refine insert_step (by rfl) _ _ _ _ (by rfl) Tryz.underlying132 Tryz.underlying9 (by rfl) m2.out (Nat.le_refl _) b2.out [99,111,110,115,116] (by rfl) (u:=F_ 175) (by rfl) (by rfl) (by rfl) ?_;intro w3 m b;have m3:=qh m;have b3:=qh b;clear m b m2 b2)
  | (refine insert_step (by rfl) _ _ _ _ (by rfl) Tryz.underlying132 Tryz.underlying9 (by rfl) m3.out (Nat.le_refl _) b3.out [112,114,101,100] (by rfl) (u:=F_ 176) (by rfl) (by rfl) (by rfl) ?_;intro w4 m b;have m4:=qh m;have b4:=qh b;clear m b m3 b3)
  | (refine insert_step (by rfl) _ _ _ _ (by rfl) Tryz.underlying132 Tryz.underlying9 (by rfl) m4.out (Nat.le_refl _) b4.out [102,97,99,116] (by rfl) (u:=F_ 176) (by rfl) (by rfl) (by rfl) ?_;intro w5 m b;have m5:=qh m;have b5:=qh b;clear m b m4 b4)
  | (refine insert_step (by rfl) _ _ _ _ (by rfl) Tryz.underlying132 Tryz.underlying9 (by rfl) m5.out (Nat.le_refl _) b5.out [108,97,115,116,105,110,103] (by rfl) (u:=F_ 176) (by rfl) (by rfl) (by rfl) ?_;intro w6 m b;have m6:=qh m;have b6:=qh b;clear m b m5 b5)
  | (refine insert_step (by rfl) _ _ _ _ (by rfl) Tryz.underlying132 Tryz.underlying9 (by rfl) m6.out (Nat.le_refl _) b6.out [109,111,100,101] (by rfl) (u:=F_ 177) (by rfl) (by rfl) (by rfl) ?_;intro w7 m b;have m7:=qh m;have b7:=qh b;clear m b m6 b6)
  | (refine insert_step (by rfl) _ _ _ _ (by rfl) Tryz.underlying132 Tryz.underlying9 (by rfl) m7.out (Nat.le_refl _) b7.out [114,117,108,101] (by rfl) (u:=F_ 178) (by rfl) (by rfl) (by rfl) ?_;intro w8 m b;have m8:=qh m;have b8:=qh b;clear m b m7 b7)
  | (refine insert_step (by rfl) _ _ _ _ (by rfl) Tryz.underlying132 Tryz.underlying9 (by rfl) m8.out (Nat.le_refl _) b8.out [111,110,99,101] (by rfl) (u:=F_ 178) (by rfl) (by rfl) (by rfl) ?_;intro w9 m b;have m9:=qh m;have b9:=qh b;clear m b m8 b8)
  | (refine insert_step (by rfl) _ _ _ _ (by rfl) Tryz.underlying132 Tryz.underlying9 (by rfl) m9.out (Nat.le_refl _) b9.out [109,111,115,116] (by rfl) (u:=F_ 178) (by rfl) (by rfl) (by rfl) ?_;intro w10 m b;have m10:=qh m;have b10:=qh b;clear m b m9 b9)
  | (refine insert_step (by rfl) _ _ _ _ (by rfl) Tryz.underlying132 Tryz.underlying9 (by rfl) m10.out (Nat.le_refl _) b10.out [113,117,101,114,121] (by rfl) (u:=F_ 178) (by rfl) (by rfl) (by rfl) ?_;intro w11 m b;have m11:=qh m;have b11:=qh b;clear m b m10 b10)
  | (refine insert_step (by rfl) _ _ _ _ (by rfl) Tryz.underlying132 Tryz.underlying9 (by rfl) m11.out (Nat.le_refl _) b11.out [109,111,100,117,108,101] (by rfl) (u:=F_ 179) (by rfl) (by rfl) (by rfl) ?_;intro w12 m b;have m12:=qh m;have b12:=qh b;clear m b m11 b11)
  | (refine insert_step (by rfl) _ _ _ _ (by rfl) Tryz.underlying132 Tryz.underlying9 (by rfl) m12.out (Nat.le_refl _) b12.out [117,115,101] (by rfl) (u:=F_ 179) (by rfl) (by rfl) (by rfl) ?_;intro w13 m b;have m13:=qh m;have b13:=qh b;clear m b m12 b12))
 go_ret
 exact ⟨rfl,m13.out,b13.out⟩
set_option maxRecDepth 100000 in
set_option maxHeartbeats 1000000 in
theorem parts_made (w:World):Calls Tryz.prog 136 #[] w fun e w'=>e = .returned (.map (some w.heap.size))∧StrMap w' w.heap.size partsL∧Below w.heap.size w w':=by
 have hmm:=@run_makeMap Tryz.prog
 have m0:=qh (strMap_made w)
 have b0:=qh ((Below.refl w.heap.size w).alloc (Nat.le_refl _) (.map #[] 0))
 go_enter Tryz.func136,Tryz.ntmps136
 go_wp2_with (first
  | (refine insert_step (by rfl) _ _ _ _ (by rfl) Tryz.underlying132 Tryz.underlying9 (by rfl) m0.out (Nat.le_refl _) b0.out [33] (by rfl) (u:=F_ 180) (by rfl) (by rfl) (by rfl) ?_;intro w1 m b;have m1:=qh m;have b1:=qh b;clear m b m0 b0)
  | (refine insert_step (by rfl) _ _ _ _ (by rfl) Tryz.underlying132 Tryz.underlying9 (by rfl) m1.out (Nat.le_refl _) b1.out [97,108,108] (by rfl) (u:=F_ 181) (by rfl) (by rfl) (by rfl) ?_;intro w2 m b;have m2:=qh m;have b2:=qh b;clear m b m1 b1)
  | (refine insert_step (by rfl) _ _ _ _ (by rfl) Tryz.underlying132 Tryz.underlying9 (by rfl) m2.out (Nat.le_refl _) b2.out [101,120] (by rfl) (u:=F_ 181) (by rfl) (by rfl) (by rfl) ?_;intro w3 m b;have m3:=qh m;have b3:=qh b;clear m b m2 b2)
  | (refine insert_step (by rfl) _ _ _ _ (by rfl) Tryz.underlying132 Tryz.underlying9 (by rfl) m3.out (Nat.le_refl _) b3.out [111,110,101] (by rfl) (u:=F_ 182) (by rfl) (by rfl) (by rfl) ?_;intro w4 m b;have m4:=qh m;have b4:=qh b;clear m b m3 b3)
  | (refine insert_step (by rfl) _ _ _ _ (by rfl) Tryz.underlying132 Tryz.underlying9 (by rfl) m4.out (Nat.le_refl _) b4.out [116,111,112] (by rfl) (u:=F_ 182) (by rfl) (by rfl) (by rfl) ?_;intro w5 m b;have m5:=qh m;have b5:=qh b;clear m b m4 b4)
  | (refine insert_step (by rfl) _ _ _ _ (by rfl) Tryz.underlying132 Tryz.underlying9 (by rfl) m5.out (Nat.le_refl _) b5.out [123] (by rfl) (u:=F_ 183) (by rfl) (by rfl) (by rfl) ?_;intro w6 m b;have m6:=qh m;have b6:=qh b;clear m b m5 b5)
  | (refine insert_step (by rfl) _ _ _ _ (by rfl) Tryz.underlying132 Tryz.underlying9 (by rfl) m6.out (Nat.le_refl _) b6.out [40] (by rfl) (u:=F_ 184) (by rfl) (by rfl) (by rfl) ?_;intro w7 m b;have m7:=qh m;have b7:=qh b;clear m b m6 b6))
 go_ret
 exact ⟨rfl,m7.out,b7.out⟩
end Go.Proofs.YtcimcjmdkjajfaaGreatDoor
namespace Go.Proofs.YtcimcjmdkjajfaaGreatDoor
open Go.RowKit
theorem massert_nil (w:World):(Instr.typeAssert Value.nilIface 20 130 true).run Tryz.prog w = .ok (.tuple #[.agg #[.int .i64 0],.bool false]) w:=by kernel_rfl
theorem massert_yes (v:Value) (w:World):(Instr.typeAssert (.iface 130 v) 20 130 true).run Tryz.prog w = .ok (.tuple #[v,.bool true]) w:=by kernel_rfl
set_option maxRecDepth 100000 in
set_option maxHeartbeats 400000 in
theorem pcatch_idle (h:Nat) (w:World) :
  CallsD Tryz.prog 134 #[.pointer (some ⟨h,0,none⟩),.pointer (some ⟨h+1,0,none⟩),.pointer (some ⟨h+1+1,0,none⟩)] .returning w fun e u' w' =>
   e = .returned (.tuple #[])∧u' = .returning∧w'=w.alloc (.cells #[.int .i64 0] 130):=by
 have hta:=massert_nil
 have hwd:∀ x,Fence.wide.fn x:=fun _=>trivial
 refine callsD_of_wpS Tryz.func134 rfl fun c₀ cs hu=>?_
 apply wpS_seq
 apply wpS_region
 simp [wpOpsS,go_sem,recoverD,hu,Tryz.ntmps134,Exit.thenS,hta]
 refine wpS_of_wp ?_
 simp only [Array.replicate_succ,Array.replicate_zero,List.push_toArray,List.nil_append,List.cons_append,List.append_toArray,List.setIfInBounds_toArray,List.set_cons_succ,List.set_cons_zero]
 go_wp2
 refine ⟨rfl,.returning,by cases c₀;simp_all,.tuple #[],by simp [results,Tryz.results134],rfl,rfl,rfl⟩
set_option maxRecDepth 100000 in
set_option maxHeartbeats 400000 in
theorem pcatch_panic (h i:Nat) (older:List PanicEntry) (u0 u1 u2:Value) (x y:Int) (w:World) (hR:Row3 w h u0 u1 u2)
  (c1:w.cell? ⟨h+1,0,none⟩=some (.int .i64 x)) (c2:w.cell? ⟨h+1+1,0,none⟩=some (.int .i64 y))
  (f1:w.frozen? ⟨h+1,0,none⟩=false) (f2:w.frozen? ⟨h+1+1,0,none⟩=false) :
  CallsD Tryz.prog 134 #[.pointer (some ⟨h,0,none⟩),.pointer (some ⟨h+1,0,none⟩),.pointer (some ⟨h+1+1,0,none⟩)] (.panicking ({ v:=.iface 130 (.agg #[.int .i64 i]),recovered:=false } :: older)) w fun e u' w' =>
   e = .returned (.tuple #[])∧u' = .panicking ({ v:=.iface 130 (.agg #[.int .i64 i]),recovered:=true } :: older)∧Below h w w'∧Row3 w' h (.int .i64 0) (.string ⟨#[]⟩) (.slice none 0 0)∧w'.cell? ⟨h+1,0,none⟩=some (.int .i64 i)∧w'.cell? ⟨h+1+1,0,none⟩=some (.int .i64 20):=by
 obtain ⟨⟨r0,r1,r2⟩,g0,g1,g2⟩:=hR.cells
 have b0:=hR.lt
 have b1:=block_lt_of_cell c1
 have b2:=block_lt_of_cell c2
 simp only at b1 b2
 have hta:=massert_yes
 have hwd:∀ x,Fence.wide.fn x:=fun _=>trivial
 have HR:=qh hR
 clear hR
 refine callsD_of_wpS Tryz.func134 rfl fun c₀ cs hu=>?_
 apply wpS_seq
 apply wpS_region
 simp [wpOpsS,go_sem,recoverD,hu,Tryz.ntmps134,Exit.thenS,hta]
 refine wpS_of_wp ?_
 simp only [Array.replicate_succ,Array.replicate_zero,List.push_toArray,List.nil_append,List.cons_append,List.append_toArray,List.setIfInBounds_toArray,List.set_cons_succ,List.set_cons_zero]
 clear hwd hta
 go_wp2
 go_region
 refine ⟨rfl,.panicking ({ v:=.iface 130 (.agg #[.int .i64 i]),recovered:=true } :: older),rfl,.tuple #[],by simp [results,Tryz.results134],rfl,rfl,?_,?_,?_,?_⟩
 ·exact ((((below3 (Below.refl h w) (Nat.le_refl _) _ _ _).setCell (p:=⟨h+1,0,none⟩) (by simp) _).setCell (p:=⟨h+1+1,0,none⟩) (by simp only;omega) _).alloc (by simp [World.setCell];omega) _).drew
 ·exact ((((HR.out.put _ _ _).other (p:=⟨h+1,0,none⟩) _ (by simp)).other (p:=⟨h+1+1,0,none⟩) _ (by simp only;omega)).alloc _).drewN 1
 ·simp [go_sem,b1,c1]
 ·simp [go_sem,b2,c2]
end Go.Proofs.YtcimcjmdkjajfaaGreatDoor
namespace Go.Proofs.YtcimcjmdkjajfaaGreatDoor
open Go.RowKit
theorem boxed_otherP {W:World} {B:Nat} {t:TypeId} {v u:Value} (h:Boxed W B t v) (p:Addr) (hne:B≠p.block):Boxed (W.setCell p u) B t v:=(Below.heap_setCell _ _ _ _ hne).trans h
theorem boxed_put3 {W:World} {B h:Nat} {t:TypeId} {v u0 u1 u2:Value} (hb:Boxed W B t v) (hne:B≠h):Boxed (((W.setCell ⟨h,0,none⟩ u0).setCell ⟨h,1,none⟩ u1).setCell ⟨h,2,none⟩ u2) B t v :=
 boxed_otherP (boxed_otherP (boxed_otherP hb ⟨h,0,none⟩ hne) ⟨h,1,none⟩ hne) ⟨h,2,none⟩ hne
theorem boxed_drew {W:World} {B:Nat} {t:TypeId} {v:Value} (hb:Boxed W B t v):Boxed W.drew B t v:=hb
theorem row3_drew {W:World} {b:Nat} {u0 u1 u2:Value} (h:Row3 W b u0 u1 u2):Row3 W.drew b u0 u1 u2:=h
theorem scan_toks2 (s:ByteArray) (l:List Lx.Tok) (hl:Lx.scan (bs s) = .toks l) (w:World) (hs:s.size≤maxLen) :
  Calls Tryz.prog 133 #[.string s] w fun e w'=>∃ v,e = .returned (.tuple #[v,.int .i64 0,.int .i64 0])∧Toks w.heap.size v l w'∧Below w.heap.size w w':=by
 refine (scan_any s w hs).mono ?_
 rintro e w' ⟨hb,h⟩
 rw [hl] at h
 obtain ⟨v,h1,h2⟩:=h
 exact ⟨v,h1,h2,hb⟩
theorem scan_bads2 (s:ByteArray) (i er:Nat) (hl:Lx.scan (bs s) = .bad i er) (w:World) (hs:s.size≤maxLen) :
  Calls Tryz.prog 133 #[.string s] w fun e w'=>e = .returned (.tuple #[.slice none 0 0,.int .i64 i,.int .i64 er])∧Below w.heap.size w w':=by
 refine (scan_any s w hs).mono ?_
 rintro e w' ⟨hb,h⟩
 rw [hl] at h
 exact ⟨h,hb⟩
set_option maxRecDepth 100000 in
set_option maxHeartbeats 1000000 in
theorem parse_bad (s:ByteArray) (i er:Nat) (hl:Lx.scan (bs s) = .bad i er) (her:er≠0) (w:World) (hs:s.size≤maxLen) (fn:Value) :
  Calls Tryz.prog 92 #[.string s,fn] w fun e w'=>e = .returned (.tuple #[.agg #[.int .i64 0,.string ⟨#[]⟩,.slice none 0 0],.int .i64 i,.int .i64 er])∧Below w.heap.size w w':=by
 have C:=qh (fun w=>scan_bads2 s i er hl w hs)
 have he:((er:Int)==0)=false:=by rw [beq_eq_false_iff_ne];omega
 clear hl her hs
 have c0:=cells3 w (.int .i64 0) (.string ⟨#[]⟩) (.slice none 0 0) 24 _ rfl
 have hb0:=qh (((Below.refl w.heap.size w).alloc (Nat.le_refl _) (.cells #[.int .i64 0,.string ⟨#[]⟩,.slice none 0 0] 24)).alloc (by simp) (.cells #[.int .i64 0] 3) |>.alloc (by simp;omega) (.cells #[.int .i64 0] 26))
 clear c0
 go_enter_defers Tryz.func92,Tryz.ntmps92
 go_wp2_with fail
 refine (C.out _).mono ?_
 rintro e w1 ⟨rfl,hb⟩
 have z1:=hb.size
 simp only [World.size_alloc] at z1
 have bx0:Row3 w1 w.heap.size (.int .i64 0) (.string ⟨#[]⟩) (.slice none 0 0):=(hb.block w.heap.size (by simp only [World.size_alloc];omega)).trans (heap3_1 w _ _ _)
 have bx1:Boxed w1 (w.heap.size+1) 3 (.int .i64 0):=(hb.block (w.heap.size+1) (by simp only [World.size_alloc];omega)).trans (heap3_2 w _ _ _)
 have bx2:Boxed w1 (w.heap.size+1+1) 26 (.int .i64 0):=(hb.block (w.heap.size+1+1) (by simp only [World.size_alloc];omega)).trans (heap3_3 w _ _ _)
 have B1:=qh (hb0.out.trans (hb.mono (by simp only [World.size_alloc];omega)))
 obtain ⟨⟨r0,r1,r2⟩,g0,g1,g2⟩:=bx0.cells
 have d1:=bx1.cell
 have d2:=bx2.cell
 have f1:=bx1.frozen
 have f2:=bx2.frozen
 have l0:=bx0.lt
 have l1:=bx1.lt
 have l2:=bx2.lt
 have R0:=qh bx0
 have X1:=qh bx1
 have X2:=qh bx2
 clear hb bx0 bx1 bx2 z1 hb0
 go_wp2_with fail
 go_region
 generalize hV:World.drew _=V
 have RV:=qh (show Row3 V w.heap.size (.int .i64 0) (.string ⟨#[]⟩) (.slice none 0 0) by
  rw [←hV]
  exact row3_drew (((((R0.out.other (p:=⟨w.heap.size+1,0,none⟩) _ (by simp)).other (p:=⟨w.heap.size+1+1,0,none⟩) _ (by simp only;omega)).put _ _ _).other (p:=⟨w.heap.size+1,0,none⟩) _ (by simp)).other (p:=⟨w.heap.size+1+1,0,none⟩) _ (by simp only;omega)))
 have V1:=qh (show Boxed V (w.heap.size+1) 3 (.int .i64 i) by
  rw [←hV]
  exact boxed_drew (boxed_otherP (Boxed.set _ (boxed_put3 (boxed_otherP (Boxed.set _ X1.out) ⟨w.heap.size+1+1,0,none⟩ (by simp only;omega)) (by omega))) ⟨w.heap.size+1+1,0,none⟩ (by simp only;omega)))
 have V2:=qh (show Boxed V (w.heap.size+1+1) 26 (.int .i64 er) by
  rw [←hV]
  exact boxed_drew (Boxed.set _ (boxed_otherP (boxed_put3 (Boxed.set _ (boxed_otherP X2.out ⟨w.heap.size+1,0,none⟩ (by simp only;omega))) (by omega)) ⟨w.heap.size+1,0,none⟩ (by simp only;omega))))
 have BV:=qh (show Below w.heap.size w V by
  rw [←hV]
  exact (((below3 ((B1.out.setCell (p:=⟨w.heap.size+1,0,none⟩) (by simp) _).setCell (p:=⟨w.heap.size+1+1,0,none⟩) (by simp only;omega) _) (Nat.le_refl _) _ _ _).setCell (p:=⟨w.heap.size+1,0,none⟩) (by simp) _).setCell (p:=⟨w.heap.size+1+1,0,none⟩) (by simp only;omega) _).drew)
 clear hV r0 r1 r2 g0 g1 g2 d1 d2 f1 f2 R0 X1 X2 B1 C
 go_wp2
 obtain ⟨⟨r0,r1,r2⟩,_⟩:=RV.out.cells
 have d1:=V1.out.cell
 have d2:=V2.out.cell
 refine ⟨.tuple #[.agg #[.int .i64 0,.string ⟨#[]⟩,.slice none 0 0],.int .i64 i,.int .i64 er],by simp [results,Tryz.results92,go_sem,r0,r1,r2,d1,d2],rfl,BV.out⟩
end Go.Proofs.YtcimcjmdkjajfaaGreatDoor
namespace Go.Proofs.YtcimcjmdkjajfaaGreatDoor
open Go.RowKit
theorem scanT_every (l:Lx.Bs) (Q:Lx.Tok→Prop) (hQ:∀ i k j,i < l.length→Lx.tokAt l i=some (k,j)→j - i≤40→Q ⟨k,Lx.slice l i j,i⟩) :
  ∀ (f:Nat) (pre:List Lx.Tok) (i:Nat) (ts:List Lx.Tok),(∀ t∈pre,Q t)→Lx.scanT l f pre i = .toks ts→∀ t∈ts,Q t
 | 0,_,_,_,hp,h=>by simp [Lx.scanT] at h;subst h;exact hp
 | f+1,pre,i,ts,hp,h=>by
  unfold Lx.scanT at h
  split at h
  ·simp at h;subst h;exact hp
  ·rename_i hi
   split at h
   ·simp at h
   ·rename_i k j ht
    split at h
    ·simp at h
    ·split at h
     ·simp at h
     ·rename_i h40
      refine scanT_every l Q hQ f _ _ _ (fun t hm=>?_) h
      rcases List.mem_append.1 hm with hm | hm
      ·exact hp t hm
      ·obtain rfl:=List.mem_singleton.1 hm
       exact hQ i k j (by omega) ht (by omega)
theorem scan_every {l:Lx.Bs} {ts:List Lx.Tok} (h:Lx.scan l = .toks ts) (Q:Lx.Tok→Prop) (hQ:∀ i k j,i < l.length→l.length≤20000→Lx.tokAt l i=some (k,j)→j - i≤40→Q ⟨k,Lx.slice l i j,i⟩):l.length≤20000∧∀ t∈ts,Q t:=by
 unfold Lx.scan at h
 split at h
 ·simp at h
 ·rename_i hl
  exact ⟨by omega,scanT_every l Q (fun i k j hi=>hQ i k j hi (by omega)) _ _ _ _ (by simp) h⟩
theorem slice_len (l:Lx.Bs) (i j:Nat):(Lx.slice l i j).length≤j - i:=by
 unfold Lx.slice
 rw [List.length_take]
 omega
theorem slice_head {l:Lx.Bs} {i j:Nat} (hi:i < l.length) (hj:i < j):∃ r,Lx.slice l i j=l[i] :: r:=by
 unfold Lx.slice
 rw [List.drop_eq_getElem_cons hi]
 obtain ⟨m,hm⟩:∃ m,j - i=m+1:=⟨j - i - 1,by omega⟩
 rw [hm,List.take_succ_cons]
 exact ⟨_,rfl⟩
theorem scan_bounds {l:Lx.Bs} {ts:List Lx.Tok} (h:Lx.scan l = .toks ts):∀ t∈ts,t.text.length≤40∧t.pos≤20000∧t.kind≤4 :=
 (scan_every h (fun t=>t.text.length≤40∧t.pos≤20000∧t.kind≤4) fun _i _k _j hi hl ht h40=>⟨Nat.le_trans (slice_len _ _ _) h40,Nat.le_trans (Nat.le_of_lt hi) hl,(tok_kind ht).2⟩).2
theorem tok_sane {l:Lx.Bs} {i k j:Nat} (hi:i < l.length) (h:Lx.tokAt l i=some (k,j)) (hk:k=1∨k=2):∀ s∈specials,Lx.slice l i j≠s:=by
 have hlt:=(Lx.tokAt_lt h).1
 obtain ⟨r,hr⟩:=slice_head hi hlt
 unfold Lx.tokAt at h
 rw [List.getElem?_eq_getElem hi] at h
 simp only at h
 intro s hs e
 rw [hr] at e
 split at h
 ·rename_i hsm
  split at h
  ·simp at h;omega
  ·rename_i ho
   split at h
   ·simp at h;omega
   ·rename_i hw
    simp only [Option.some.injEq,Prod.mk.injEq] at h
    obtain ⟨_,rfl⟩:=h
    rw [hr,e] at hw
    have hc:∀ c r',s=c :: r'→Lx.small c=true:=fun c r' hc=>by rw [hc] at e;rw [←(List.cons.inj e).1];exact hsm
    simp only [specials,List.mem_cons,List.not_mem_nil,or_false] at hs
    rcases hs with rfl | rfl | rfl | rfl | rfl | rfl | rfl | rfl | rfl | rfl | rfl | rfl | rfl | rfl | rfl | rfl | rfl | rfl | rfl | rfl | rfl
    all_goals first
     | exact absurd (hc _ _ rfl) (by decide)
     | exact hw (by decide)
     | skip
    have e0:l[i]=111:=(List.cons.inj e).1
    have hs2:Lx.slice l i (Lx.nameTo l i)=[111,45]:=by rw [hr,e]
    have h1:l[i+1]?=some 45:=by
     have:=congrArg (fun x:Lx.Bs=>x[1]?) hs2
     simp only [Lx.slice] at this
     rw [List.getElem?_take] at this
     split at this
     ·rw [List.getElem?_drop] at this;exact this
     ·cases this
    have hi1:i+1 < l.length:=by
     rcases Nat.lt_or_ge (i+1) l.length with h' | h'
     ·exact h'
     ·rw [List.getElem?_eq_none h'] at h1;cases h1
    have h1':l[i+1]=45:=by rw [List.getElem?_eq_getElem hi1] at h1;exact Option.some.inj h1
    have hrun:Lx.runTo l i=i+1:=by
     rw [Lx.runTo_step hi,e0,if_pos (by decide),Lx.runTo_step hi1,h1',if_neg (by decide)]
    have hn:Lx.nameTo l i=i+1:=by
     unfold Lx.nameTo
     simp only [hrun]
     rw [if_neg]
     rintro ⟨h2,_⟩
     rw [h1] at h2
     cases h2
    have:=congrArg List.length hs2
    have h3:=slice_len l i (Lx.nameTo l i)
    rw [this,hn] at h3
    simp at h3
 ·rename_i hsm
  split at h
  ·rename_i hcap
   have hc:∀ c r',s=c :: r'→Lx.capital c=true:=fun c r' hc=>by rw [hc] at e;rw [←(List.cons.inj e).1];exact hcap
   simp only [specials,List.mem_cons,List.not_mem_nil,or_false] at hs
   rcases hs with rfl | rfl | rfl | rfl | rfl | rfl | rfl | rfl | rfl | rfl | rfl | rfl | rfl | rfl | rfl | rfl | rfl | rfl | rfl | rfl | rfl
   all_goals exact absurd (hc _ _ rfl) (by decide)
  ·split at h
   ·simp at h;omega
   ·split at h
    ·simp at h;omega
    ·simp at h
theorem scan_saneT {l:Lx.Bs} {ts:List Lx.Tok} (h:Lx.scan l = .toks ts):SaneT ts:=by
 have H:=(scan_every h (fun t=>t.kind=1∨t.kind=2→∀ s∈specials,t.text≠s) fun i k j hi hl ht h40 hk=>tok_sane hi ht hk).2
 intro q hk s hs
 unfold Sx.knd at hk
 unfold Sx.txt
 cases ht:ts[q]? with
 | none=>rw [ht] at hk;simp at hk
 | some t =>
  rw [ht] at hk
  exact H t (List.mem_of_getElem? ht) hk s hs
end Go.Proofs.YtcimcjmdkjajfaaGreatDoor
namespace Go.Proofs.YtcimcjmdkjajfaaGreatDoor
open Go.RowKit
theorem ps_ready {B:Nat} {s:ByteArray} {l:List Lx.Tok} {v:Value} {w:World} {pb mi mp:Nat} (hl:Lx.scan (bs s) = .toks l) (ht:Toks B v l w) (gl:GLw w)
  (hrow:w.heap[pb]?=some (.cells #[v,.int .i64 0,.int .i64 (s.size:Nat),.map (some mi),.map (some mp)] 135 (0,0))) (hmi:StrMap w mi itemsL) (hmp:StrMap w mp partsL) (hni:mi≠pb) (hnp:mp≠pb) (hp:2≤pb) :
  ∃ E:PE,E.pb=pb∧E.ts=l∧E.en=s.size∧PS E 0 w:=by
 have h6:=scan_len hl
 have hsz:s.size≤20000:=by
  have:=(scan_every hl (fun _=>True) fun _ _ _ _ _ _ _=>trivial).1
  rwa [bs_len] at this
 have hsm:=scan_bounds hl
 have hsl:=ht.sl
 rcases ht.2 with ⟨rfl,hn⟩ | ⟨g,cap,cur,rfl,hg,hh,hnc,_,_,_⟩
 ·obtain rfl:l=[]:=List.length_eq_zero_iff.1 hn
  exact ⟨⟨pb,[],none,0,0,0,s.size,mi,mp⟩,rfl,rfl,rfl,⟨hrow,Nat.zero_le _,⟨by simp,by simp,hsz,fun h=>absurd rfl h,fun h=>absurd rfl h,Nat.le_refl _,fun i hi=>absurd hi (Nat.not_lt_zero _),fun i hi=>absurd hi (Nat.not_lt_zero _),fun i hi=>absurd hi (Nat.not_lt_zero _),hp,gl,hni,hnp,hmi,hmp⟩⟩⟩
 ·obtain ⟨a,cap',he,hcs⟩:=hsl
  have hts:∀ i (hi:i < l.length),TokAt w g (0+i*3) (ofTok l[i]):=by
   intro i hi
   have hne:l.map ofTok≠[]:=by intro e;rw [List.map_eq_nil_iff] at e;subst e;simp at hi
   obtain ⟨b,o,ha,hc⟩:=hcs hne
   rw [ha] at he
   injection he with he1 he2 he3
   injection he1 with he1
   injection he1 with hb ho
   subst hb;subst ho
   have:=hc i (by rw [List.length_map];exact hi)
   rwa [List.getElem_map] at this
  refine ⟨⟨pb,l,some ⟨g,0,none⟩,g,0,cap,s.size,mi,mp⟩,rfl,rfl,rfl,⟨hrow,Nat.zero_le _,⟨h6,hsm,hsz,fun _=>rfl,fun hne hgp=>?_,hnc,fun i hi=>(hts i hi).1,fun i hi=>(hts i hi).2.1,fun i hi=>(hts i hi).2.2,hp,gl,hni,hnp,hmi,hmp⟩⟩⟩
  simp only at hgp
  have h0:0 < l.length:=List.length_pos_iff.2 hne
  have c:=(hts 0 h0).2.1
  rw [hgp,cell_of_row _ _ _ _ _ _ hrow] at c
  simp at c
end Go.Proofs.YtcimcjmdkjajfaaGreatDoor
namespace Go.Proofs.YtcimcjmdkjajfaaGreatDoor
open Go.RowKit
set_option maxRecDepth 100000 in
set_option maxHeartbeats 2000000 in
theorem parse_no (s:ByteArray) (l:List Lx.Tok) (hl:Lx.scan (bs s) = .toks l) (w:World) (hw:2≤w.heap.size) (gl:GLw w) (hs:s.size≤maxLen) (g:Nat) (eg:∀ args w,(callFunc g args).run Tryz.prog w = .ok (.enter g args) w) (q:Nat)
  (CW:∀ (E:PE) w,E.ts=l→E.en=s.size→PS E 0 w→Calls Tryz.prog g #[.pointer (some ⟨E.pb,0,none⟩)] w (Gr E w (.bad q))) :
  Calls Tryz.prog 92 #[.string s,F_ g] w fun e w'=>(∀ E:PE,E.ts=l→E.en=s.size→e = .returned (.tuple #[.agg #[.int .i64 0,.string ⟨#[]⟩,.slice none 0 0],.int .i64 (E.pos q:Nat),.int .i64 20]))∧Below w.heap.size w w':=by
 have C:=qh (fun w=>scan_toks2 s l hl w hs)
 have CI:=qh items_made
 have CP:=qh parts_made
 have CW':=qh CW
 have Hl:=qh hl
 have GL:=qh gl
 have hmf:∀ (fn:Fn) (first cap:Array Value) (w:World),(Instr.makeFunc fn first cap).run Tryz.prog w = .ok (.func fn first cap) w:=fun _ _ _ _=>rfl
 have eg2:∀ args w,(callFunc 134 args).run Tryz.prog w = .ok (.enter 134 args) w:=enters_of Tryz.func134 (by kernel_rfl) rfl
 have hb0:=qh (((Below.refl w.heap.size w).alloc (Nat.le_refl _) (.cells #[.int .i64 0,.string ⟨#[]⟩,.slice none 0 0] 24)).alloc (by simp) (.cells #[.int .i64 0] 3) |>.alloc (by simp;omega) (.cells #[.int .i64 0] 26))
 clear hl gl CW
 unfold F_
 go_enter_defers Tryz.func92,Tryz.ntmps92
 go_wp2_with fail
 refine (C.out _).mono ?_
 rintro e w1 ⟨v,rfl,ht,hb⟩
 obtain ⟨va,vcap,rfl⟩:=ownsRow_shape ht
 have z1:=hb.size
 simp only [World.size_alloc] at z1 ht
 have bx0:Row3 w1 w.heap.size (.int .i64 0) (.string ⟨#[]⟩) (.slice none 0 0):=(hb.block w.heap.size (by simp only [World.size_alloc];omega)).trans (heap3_1 w _ _ _)
 have bx1:Boxed w1 (w.heap.size+1) 3 (.int .i64 0):=(hb.block (w.heap.size+1) (by simp only [World.size_alloc];omega)).trans (heap3_2 w _ _ _)
 have bx2:Boxed w1 (w.heap.size+1+1) 26 (.int .i64 0):=(hb.block (w.heap.size+1+1) (by simp only [World.size_alloc];omega)).trans (heap3_3 w _ _ _)
 have B1:=qh (hb0.out.trans (hb.mono (by simp only [World.size_alloc];omega)))
 have d1:=bx1.cell
 have d2:=bx2.cell
 have f1:=bx1.frozen
 have f2:=bx2.frozen
 have l0:=bx0.lt
 have l1:=bx1.lt
 have l2:=bx2.lt
 have R0:=qh bx0
 have X1:=qh bx1
 have X2:=qh bx2
 have HT:=qh ht
 clear hb bx0 bx1 bx2 z1 hb0 ht
 go_wp2_with fail
 generalize hW2:World.setCell (World.setCell w1 _ _) _ _=W2
 have S2:W2.heap.size=w1.heap.size:=by rw [←hW2,setCell_size,setCell_size]
 have R2:=qh (show Row3 W2 w.heap.size (.int .i64 0) (.string ⟨#[]⟩) (.slice none 0 0) by
  rw [←hW2]
  exact (R0.out.other (p:=⟨w.heap.size+1,0,none⟩) _ (by simp)).other (p:=⟨w.heap.size+1+1,0,none⟩) _ (by simp only;omega))
 have Y1:=qh (show Boxed W2 (w.heap.size+1) 3 (.int .i64 0) by
  rw [←hW2]
  exact boxed_otherP (Boxed.set _ X1.out) ⟨w.heap.size+1+1,0,none⟩ (by simp only;omega))
 have Y2:=qh (show Boxed W2 (w.heap.size+1+1) 26 (.int .i64 0) by
  rw [←hW2]
  exact Boxed.set _ (boxed_otherP X2.out ⟨w.heap.size+1,0,none⟩ (by simp only;omega)))
 have B2:=qh (show Below w.heap.size w W2 by
  rw [←hW2]
  exact (B1.out.setCell (p:=⟨w.heap.size+1,0,none⟩) (by simp) _).setCell (p:=⟨w.heap.size+1+1,0,none⟩) (by simp only;omega) _)
 have T2:=qh (show Toks (w.heap.size+1+1+1) (.slice va l.length vcap) l W2 by
  rw [←hW2]
  exact ownsRow_blocks HT.out fun k hk _ _=>(Below.heap_setCell _ _ _ _ (by simp only;omega)).trans (Below.heap_setCell _ _ _ _ (by simp only;omega)))
 clear hW2 d1 d2 f1 f2 R0 X1 X2 B1 HT C
 refine (CI.out _).mono ?_
 rintro e w3 ⟨rfl,m3,b3⟩
 simp only [S2] at m3 b3
 have M3:=qh m3
 have b3':=qh b3
 have z3:=m3.lt
 clear m3 b3 CI
 go_wp2_with fail
 refine (CP.out _).mono ?_
 rintro e w4 ⟨rfl,m4,b4⟩
 have M4:=qh m4
 have b4':=qh b4
 have z4:=m4.lt
 clear m4 b4 CP
 go_wp2_with fail
 generalize hW5:w4.alloc (.cells #[.slice va l.length vcap,.int .i64 0,.int .i64 (s.size:Nat),.map (some w1.heap.size),.map (some w3.heap.size)] 135)=W5
 have z5:W5.heap.size=w4.heap.size+1:=by rw [←hW5,World.size_alloc]
 have row5:W5.heap[w4.heap.size]?=some (.cells #[.slice va l.length vcap,.int .i64 0,.int .i64 (s.size:Nat),.map (some w1.heap.size),.map (some w3.heap.size)] 135 (0,0)):=by
  rw [←hW5];exact World.alloc_heap_new w4 _
 have b5:Below w4.heap.size w4 W5:=by rw [←hW5];exact (Below.refl _ _).alloc (Nat.le_refl _) _
 have HK:∀ k,k < w1.heap.size→W5.heap[k]?=W2.heap[k]?:=fun k hk=>(b5.block k (by omega)).trans ((b4'.out.block k (by omega)).trans (b3'.out.block k hk))
 have BB:=qh (B2.out.trans ((b3'.out.trans ((b4'.out.trans (b5.mono (by omega))).mono (by omega))).mono (by omega)))
 have GL5:=GL.out.keep fun b hb _=>BB.out.block b (by omega)
 have T5:=ownsRow_below' (ownsRow_below' (ownsRow_below' T2.out (by rw [S2];exact b3'.out)) b4'.out) b5
 obtain ⟨E,e1,e2,e3,hPS⟩:=ps_ready Hl.out T5 GL5 row5 ((M3.out.keep (b4'.out.block _ (by omega))).keep (b5.block _ (by omega))) (M4.out.keep (b5.block _ (by omega))) (by omega) (by omega) (by omega)
 have K:=CW'.out E _ e2 e3 hPS
 rw [e1] at K
 clear hW5 row5 b5 GL5 T5 M3 M4 CW' GL hPS
 refine K.mono ?_
 rintro e w6 ⟨rfl,hm,hq⟩
 have HK6:∀ k,k < w1.heap.size→w6.heap[k]?=W2.heap[k]?:=fun k hk=>(hm.blk k (by omega) (by omega)).trans (HK k hk)
 have B6:=qh ((BB.out.setCell (p:=⟨E.pb,1,none⟩) (by simp only;omega) (.int .i64 (q:Nat))).trans (Below.mono hm (by omega)))
 have R6:=qh (show Row3 w6 w.heap.size (.int .i64 0) (.string ⟨#[]⟩) (.slice none 0 0) from (HK6 _ (by omega)).trans R2.out)
 have U1:=qh (show Boxed w6 (w.heap.size+1) 3 (.int .i64 0) from (HK6 _ (by omega)).trans Y1.out)
 have U2:=qh (show Boxed w6 (w.heap.size+1+1) 26 (.int .i64 0) from (HK6 _ (by omega)).trans Y2.out)
 clear K hm hq HK HK6 BB R2 Y1 Y2 T2 b3' b4' B2
 go_wp2_with fail
 refine leaves_cons (f:=134) (args:=#[.pointer (some ⟨w.heap.size,0,none⟩),.pointer (some ⟨w.heap.size+1,0,none⟩),.pointer (some ⟨w.heap.size+1+1,0,none⟩)]) (by simp) (by simp [invoke,go_sem,eg2]) ?_
 unfold misfit
 refine (pcatch_panic w.heap.size (E.pos q) [] _ _ _ 0 0 w6 R6.out U1.out.cell U2.out.cell U1.out.frozen U2.out.frozen).mono ?_
 rintro e u' w7 ⟨rfl,rfl,b7,r7,x7,y7⟩
 obtain ⟨⟨c0,c1,c2⟩,_⟩:=r7.cells
 refine ⟨.tuple #[.agg #[.int .i64 0,.string ⟨#[]⟩,.slice none 0 0],.int .i64 (E.pos q:Nat),.int .i64 20],by simp [results,Tryz.results92,go_sem,c0,c1,c2,x7,y7],fun E' h1 h2=>?_,B6.out.trans b7⟩
 have hE:E'.pos q=E.pos q:=by unfold PE.pos;rw [h1,h2,e2,e3]
 rw [hE]
end Go.Proofs.YtcimcjmdkjajfaaGreatDoor
namespace Go.Proofs.YtcimcjmdkjajfaaGreatDoor
open Go.RowKit
theorem PS.aside {E:PE} {q:Nat} {w w':World} {b:Nat} {v0 v1:Value} {a:Option Addr} {n c:Nat} (h:PS E q w) (hR:Row3 w b v0 v1 (.slice a n c)) (h2:2≤b) (he:∀ j,j≠b→w'.heap[j]?=w.heap[j]?):PS E q w':=by
 have hpb:E.pb≠b:=by
  intro e
  have h1:=h.row
  rw [e] at h1
  have:=h1.symm.trans hR
  simp [PE.row] at this
 have hmi:E.mi≠b:=by
  intro e
  obtain ⟨es,k,h1,_⟩:=h.g.mi
  rw [e] at h1
  have:=h1.symm.trans hR
  simp at this
 have hmp:E.mp≠b:=by
  intro e
  obtain ⟨es,k,h1,_⟩:=h.g.mp
  rw [e] at h1
  have:=h1.symm.trans hR
  simp at this
 have htb:∀ i,i < E.ts.length→E.tb≠b:=by
  intro i hi e
  have c2:=h.g.c2 i hi
  rw [e,cell_of_row _ _ _ _ _ _ hR] at c2
  rcases Nat.lt_or_ge (E.off+i*3+2) 3 with hl | hl
  ·have h0:E.off+i*3+2=2:=by omega
   rw [h0] at c2
   simp at c2
  ·rw [Array.getElem?_eq_none (by simpa using hl)] at c2
   cases c2
 have hc:∀ i,i < E.ts.length→∀ p,w'.cell? ⟨E.tb,p,none⟩=w.cell? ⟨E.tb,p,none⟩:=fun i hi p=>World.cell?_of_block (w:=w) (he E.tb (htb i hi))
 exact ⟨(he _ hpb).trans h.row,h.le,⟨h.g.few,h.g.small,h.g.endS,h.g.ha,h.g.hb,h.g.hc,fun i hi=>(hc i hi _).trans (h.g.c0 i hi),fun i hi=>(hc i hi _).trans (h.g.c1 i hi),fun i hi=>(hc i hi _).trans (h.g.c2 i hi),h.g.hp,h.g.gl.keep (fun j hj _=>he j (by omega)),h.g.hmi,h.g.hmp,h.g.mi.keep (he _ hmi),h.g.mp.keep (he _ hmp)⟩⟩
set_option maxRecDepth 100000 in
set_option maxHeartbeats 2000000 in
theorem parse_left (s:ByteArray) (l:List Lx.Tok) (hl:Lx.scan (bs s) = .toks l) (w:World) (hw:2≤w.heap.size) (gl:GLw w) (hs:s.size≤maxLen) (g:Nat) (eg:∀ args w,(callFunc g args).run Tryz.prog w = .ok (.enter g args) w) (q:Nat) (k:Int) (sx:ByteArray) (kids:List Nd) (hql:q < l.length)
  (CW:∀ (E:PE) w,E.ts=l→E.en=s.size→PS E 0 w→Calls Tryz.prog g #[.pointer (some ⟨E.pb,0,none⟩)] w (Gr E w (.ok (.mk k sx kids) q))) :
  Calls Tryz.prog 92 #[.string s,F_ g] w fun e w'=>(∀ E:PE,E.ts=l→E.en=s.size→e = .returned (.tuple #[.agg #[.int .i64 0,.string ⟨#[]⟩,.slice none 0 0],.int .i64 (E.pos q:Nat),.int .i64 20]))∧Below w.heap.size w w':=by
 have C:=qh (fun w=>scan_toks2 s l hl w hs)
 have CI:=qh items_made
 have CP:=qh parts_made
 have CW':=qh CW
 have Hl:=qh hl
 have GL:=qh gl
 have hmf:∀ (fn:Fn) (first cap:Array Value) (w:World),(Instr.makeFunc fn first cap).run Tryz.prog w = .ok (.func fn first cap) w:=fun _ _ _ _=>rfl
 have eg2:∀ args w,(callFunc 134 args).run Tryz.prog w = .ok (.enter 134 args) w:=enters_of Tryz.func134 (by kernel_rfl) rfl
 have hb0:=qh (((Below.refl w.heap.size w).alloc (Nat.le_refl _) (.cells #[.int .i64 0,.string ⟨#[]⟩,.slice none 0 0] 24)).alloc (by simp) (.cells #[.int .i64 0] 3) |>.alloc (by simp;omega) (.cells #[.int .i64 0] 26))
 clear hl gl CW
 unfold F_
 go_enter_defers Tryz.func92,Tryz.ntmps92
 go_wp2_with fail
 refine (C.out _).mono ?_
 rintro e w1 ⟨v,rfl,ht,hb⟩
 obtain ⟨va,vcap,rfl⟩:=ownsRow_shape ht
 have z1:=hb.size
 simp only [World.size_alloc] at z1 ht
 have bx0:Row3 w1 w.heap.size (.int .i64 0) (.string ⟨#[]⟩) (.slice none 0 0):=(hb.block w.heap.size (by simp only [World.size_alloc];omega)).trans (heap3_1 w _ _ _)
 have bx1:Boxed w1 (w.heap.size+1) 3 (.int .i64 0):=(hb.block (w.heap.size+1) (by simp only [World.size_alloc];omega)).trans (heap3_2 w _ _ _)
 have bx2:Boxed w1 (w.heap.size+1+1) 26 (.int .i64 0):=(hb.block (w.heap.size+1+1) (by simp only [World.size_alloc];omega)).trans (heap3_3 w _ _ _)
 have B1:=qh (hb0.out.trans (hb.mono (by simp only [World.size_alloc];omega)))
 have d1:=bx1.cell
 have d2:=bx2.cell
 have f1:=bx1.frozen
 have f2:=bx2.frozen
 have l0:=bx0.lt
 have l1:=bx1.lt
 have l2:=bx2.lt
 have R0:=qh bx0
 have X1:=qh bx1
 have X2:=qh bx2
 have HT:=qh ht
 clear hb bx0 bx1 bx2 z1 hb0 ht
 go_wp2_with fail
 generalize hW2:World.setCell (World.setCell w1 _ _) _ _=W2
 have S2:W2.heap.size=w1.heap.size:=by rw [←hW2,setCell_size,setCell_size]
 have R2:=qh (show Row3 W2 w.heap.size (.int .i64 0) (.string ⟨#[]⟩) (.slice none 0 0) by
  rw [←hW2]
  exact (R0.out.other (p:=⟨w.heap.size+1,0,none⟩) _ (by simp)).other (p:=⟨w.heap.size+1+1,0,none⟩) _ (by simp only;omega))
 have Y1:=qh (show Boxed W2 (w.heap.size+1) 3 (.int .i64 0) by
  rw [←hW2]
  exact boxed_otherP (Boxed.set _ X1.out) ⟨w.heap.size+1+1,0,none⟩ (by simp only;omega))
 have Y2:=qh (show Boxed W2 (w.heap.size+1+1) 26 (.int .i64 0) by
  rw [←hW2]
  exact Boxed.set _ (boxed_otherP X2.out ⟨w.heap.size+1,0,none⟩ (by simp only;omega)))
 have B2:=qh (show Below w.heap.size w W2 by
  rw [←hW2]
  exact (B1.out.setCell (p:=⟨w.heap.size+1,0,none⟩) (by simp) _).setCell (p:=⟨w.heap.size+1+1,0,none⟩) (by simp only;omega) _)
 have T2:=qh (show Toks (w.heap.size+1+1+1) (.slice va l.length vcap) l W2 by
  rw [←hW2]
  exact ownsRow_blocks HT.out fun k hk _ _=>(Below.heap_setCell _ _ _ _ (by simp only;omega)).trans (Below.heap_setCell _ _ _ _ (by simp only;omega)))
 clear hW2 d1 d2 f1 f2 R0 X1 X2 B1 HT C
 refine (CI.out _).mono ?_
 rintro e w3 ⟨rfl,m3,b3⟩
 simp only [S2] at m3 b3
 have M3:=qh m3
 have b3':=qh b3
 have z3:=m3.lt
 clear m3 b3 CI
 go_wp2_with fail
 refine (CP.out _).mono ?_
 rintro e w4 ⟨rfl,m4,b4⟩
 have M4:=qh m4
 have b4':=qh b4
 have z4:=m4.lt
 clear m4 b4 CP
 go_wp2_with fail
 generalize hW5:w4.alloc (.cells #[.slice va l.length vcap,.int .i64 0,.int .i64 (s.size:Nat),.map (some w1.heap.size),.map (some w3.heap.size)] 135)=W5
 have z5:W5.heap.size=w4.heap.size+1:=by rw [←hW5,World.size_alloc]
 have row5:W5.heap[w4.heap.size]?=some (.cells #[.slice va l.length vcap,.int .i64 0,.int .i64 (s.size:Nat),.map (some w1.heap.size),.map (some w3.heap.size)] 135 (0,0)):=by
  rw [←hW5];exact World.alloc_heap_new w4 _
 have b5:Below w4.heap.size w4 W5:=by rw [←hW5];exact (Below.refl _ _).alloc (Nat.le_refl _) _
 have HK:∀ k,k < w1.heap.size→W5.heap[k]?=W2.heap[k]?:=fun k hk=>(b5.block k (by omega)).trans ((b4'.out.block k (by omega)).trans (b3'.out.block k hk))
 have BB:=qh (B2.out.trans ((b3'.out.trans ((b4'.out.trans (b5.mono (by omega))).mono (by omega))).mono (by omega)))
 have GL5:=GL.out.keep fun b hb _=>BB.out.block b (by omega)
 have T5:=ownsRow_below' (ownsRow_below' (ownsRow_below' T2.out (by rw [S2];exact b3'.out)) b4'.out) b5
 obtain ⟨E,e1,e2,e3,hPS⟩:=ps_ready Hl.out T5 GL5 row5 ((M3.out.keep (b4'.out.block _ (by omega))).keep (b5.block _ (by omega))) (M4.out.keep (b5.block _ (by omega))) (by omega) (by omega) (by omega)
 have K:=CW'.out E _ e2 e3 hPS
 rw [e1] at K
 clear hW5 row5 b5 GL5 T5 M3 M4 CW' GL
 refine K.mono ?_
 rintro e w6 ⟨⟨va6,vc6,rfl,_⟩,hm,hq⟩
 have HK6:∀ k,k < w1.heap.size→w6.heap[k]?=W2.heap[k]?:=fun k hk=>(hm.blk k (by omega) (by omega)).trans (HK k hk)
 have B6:=qh ((BB.out.setCell (p:=⟨E.pb,1,none⟩) (by simp only;omega) (.int .i64 (q:Nat))).trans (Below.mono hm (by omega)))
 have R6:=qh (show Row3 w6 w.heap.size (.int .i64 0) (.string ⟨#[]⟩) (.slice none 0 0) from (HK6 _ (by omega)).trans R2.out)
 have U1:=qh (show Boxed w6 (w.heap.size+1) 3 (.int .i64 0) from (HK6 _ (by omega)).trans Y1.out)
 have U2:=qh (show Boxed w6 (w.heap.size+1+1) 26 (.int .i64 0) from (HK6 _ (by omega)).trans Y2.out)
 have P6:=qh (hm.ps hPS hq)
 have hpz:w.heap.size < E.pb:=by omega
 have l6:=hm.size
 obtain ⟨⟨c0,c1,c2⟩,g0,g1,g2⟩:=R6.out.cells
 clear K hm hq HK HK6 BB R2 Y1 Y2 T2 b3' b4' B2 hPS
 have h6a:=R6.out.lt
 have D:=qh (fun w h=>refuse_any E q w h)
 go_wp2_with fail
 generalize hW7:World.setCell (World.setCell (World.setCell w6 _ _) _ _) _ _=W7
 have HE:∀ j,j≠w.heap.size→W7.heap[j]?=w6.heap[j]?:=fun j hj=>by
  rw [←hW7]
  exact (Below.heap_setCell _ _ _ _ hj).trans ((Below.heap_setCell _ _ _ _ hj).trans (Below.heap_setCell _ _ _ _ hj))
 have R7:=qh (show Row3 W7 w.heap.size (.int .i64 k) (.string sx) (.slice va6 kids.length vc6) by rw [←hW7];exact R6.out.put _ _ _)
 have P7:=qh (P6.out.aside R6.out hw HE)
 have N1:=qh (show Boxed W7 (w.heap.size+1) 3 (.int .i64 0) from (HE _ (by omega)).trans U1.out)
 have N2:=qh (show Boxed W7 (w.heap.size+1+1) 26 (.int .i64 0) from (HE _ (by omega)).trans U2.out)
 have B7:=qh (show Below w.heap.size w W7 by rw [←hW7];exact below3 B6.out (Nat.le_refl _) _ _ _)
 obtain ⟨p0,p1,p2,p3,p4⟩:=P7.out.cells
 have pz:=P7.out.lt
 rw [e1] at p0 p1
 rw [e2] at p0
 have hlt:(q:Int) < (l.length:Int):=by omega
 clear hW7 HE R6 P6 U1 U2 B6 c0 c1 c2 g0 g1 g2 p2 p3 p4
 go_quiet (fail)
 generalize hW8:W7.drewN _=W8
 have b8:Below W7.heap.size W7 W8:=by rw [←hW8];exact below_drewN (Below.refl _ _) _
 have K8:=D.out _ (P7.out.later b8)
 rw [e1] at K8
 have h7:=R7.out.lt
 have h71:=N1.out.lt
 have h72:=N2.out.lt
 have z8:=b8.size
 have HB8:=qh b8
 clear hW8 b8 p0 p1 D
 go_wp2_with fail
 refine K8.mono ?_
 rintro e w9 ⟨rfl,b9⟩
 have b89:=HB8.out.trans (b9.mono z8)
 have R6:=qh (show Row3 w9 w.heap.size (.int .i64 k) (.string sx) (.slice va6 kids.length vc6) from (b89.block _ h7).trans R7.out)
 have U1:=qh (show Boxed w9 (w.heap.size+1) 3 (.int .i64 0) from (b89.block _ h71).trans N1.out)
 have U2:=qh (show Boxed w9 (w.heap.size+1+1) 26 (.int .i64 0) from (b89.block _ h72).trans N2.out)
 have B6:=qh (B7.out.trans (b89.mono (by omega)))
 clear b89 b9 HB8 K8 P7 N1 N2 B7 R7
 go_wp2_with fail
 refine leaves_cons (f:=134) (args:=#[.pointer (some ⟨w.heap.size,0,none⟩),.pointer (some ⟨w.heap.size+1,0,none⟩),.pointer (some ⟨w.heap.size+1+1,0,none⟩)]) (by simp) (by simp [invoke,go_sem,eg2]) ?_
 unfold misfit
 refine (pcatch_panic w.heap.size (E.pos q) [] _ _ _ 0 0 w9 R6.out U1.out.cell U2.out.cell U1.out.frozen U2.out.frozen).mono ?_
 rintro e u' w10 ⟨rfl,rfl,b7,r7,x7,y7⟩
 obtain ⟨⟨c0,c1,c2⟩,_⟩:=r7.cells
 refine ⟨.tuple #[.agg #[.int .i64 0,.string ⟨#[]⟩,.slice none 0 0],.int .i64 (E.pos q:Nat),.int .i64 20],by simp [results,Tryz.results92,go_sem,c0,c1,c2,x7,y7],fun E' h1 h2=>?_,B6.out.trans b7⟩
 have hE:E'.pos q=E.pos q:=by unfold PE.pos;rw [h1,h2,e2,e3]
 rw [hE]
end Go.Proofs.YtcimcjmdkjajfaaGreatDoor
namespace Go.Proofs.YtcimcjmdkjajfaaGreatDoor
open Go.RowKit
set_option maxRecDepth 100000 in
set_option maxHeartbeats 2000000 in
theorem parse_yes (s:ByteArray) (l:List Lx.Tok) (hl:Lx.scan (bs s) = .toks l) (w:World) (hw:2≤w.heap.size) (gl:GLw w) (hs:s.size≤maxLen) (g:Nat) (eg:∀ args w,(callFunc g args).run Tryz.prog w = .ok (.enter g args) w) (q:Nat) (k:Int) (sx:ByteArray) (kids:List Nd) (hql:q=l.length) (er:Nat) (he:((er:Int)==0)=true)
  (CK:∀ va vc w,NdR w (.mk k sx kids) (.int .i64 k) (.string sx) (.slice va kids.length vc)→Calls Tryz.prog 14 #[.agg #[.int .i64 k,.string sx,.slice va kids.length vc]] w fun e w'=>e = .returned (.int .i64 er)∧Below w.heap.size w w')
  (CW:∀ (E:PE) w,E.ts=l→E.en=s.size→PS E 0 w→Calls Tryz.prog g #[.pointer (some ⟨E.pb,0,none⟩)] w (Gr E w (.ok (.mk k sx kids) q))) :
  Calls Tryz.prog 92 #[.string s,F_ g] w fun e w'=>(∃ va vc,e = .returned (.tuple #[.agg #[.int .i64 k,.string sx,.slice va kids.length vc],.int .i64 0,.int .i64 0])∧NdS (fun b=>w.heap.size≤b) w' (.mk k sx kids) (.int .i64 k) (.string sx) (.slice va kids.length vc))∧Below w.heap.size w w':=by
 have C:=qh (fun w=>scan_toks2 s l hl w hs)
 have CI:=qh items_made
 have CP:=qh parts_made
 have CW':=qh CW
 have Hl:=qh hl
 have GL:=qh gl
 have hmf:∀ (fn:Fn) (first cap:Array Value) (w:World),(Instr.makeFunc fn first cap).run Tryz.prog w = .ok (.func fn first cap) w:=fun _ _ _ _=>rfl
 have eg2:∀ args w,(callFunc 134 args).run Tryz.prog w = .ok (.enter 134 args) w:=enters_of Tryz.func134 (by kernel_rfl) rfl
 have hb0:=qh (((Below.refl w.heap.size w).alloc (Nat.le_refl _) (.cells #[.int .i64 0,.string ⟨#[]⟩,.slice none 0 0] 24)).alloc (by simp) (.cells #[.int .i64 0] 3) |>.alloc (by simp;omega) (.cells #[.int .i64 0] 26))
 clear hl gl CW
 unfold F_
 go_enter_defers Tryz.func92,Tryz.ntmps92
 go_wp2_with fail
 refine (C.out _).mono ?_
 rintro e w1 ⟨v,rfl,ht,hb⟩
 obtain ⟨va,vcap,rfl⟩:=ownsRow_shape ht
 have z1:=hb.size
 simp only [World.size_alloc] at z1 ht
 have bx0:Row3 w1 w.heap.size (.int .i64 0) (.string ⟨#[]⟩) (.slice none 0 0):=(hb.block w.heap.size (by simp only [World.size_alloc];omega)).trans (heap3_1 w _ _ _)
 have bx1:Boxed w1 (w.heap.size+1) 3 (.int .i64 0):=(hb.block (w.heap.size+1) (by simp only [World.size_alloc];omega)).trans (heap3_2 w _ _ _)
 have bx2:Boxed w1 (w.heap.size+1+1) 26 (.int .i64 0):=(hb.block (w.heap.size+1+1) (by simp only [World.size_alloc];omega)).trans (heap3_3 w _ _ _)
 have B1:=qh (hb0.out.trans (hb.mono (by simp only [World.size_alloc];omega)))
 have d1:=bx1.cell
 have d2:=bx2.cell
 have f1:=bx1.frozen
 have f2:=bx2.frozen
 have l0:=bx0.lt
 have l1:=bx1.lt
 have l2:=bx2.lt
 have R0:=qh bx0
 have X1:=qh bx1
 have X2:=qh bx2
 have HT:=qh ht
 clear hb bx0 bx1 bx2 z1 hb0 ht
 go_wp2_with fail
 generalize hW2:World.setCell (World.setCell w1 _ _) _ _=W2
 have S2:W2.heap.size=w1.heap.size:=by rw [←hW2,setCell_size,setCell_size]
 have R2:=qh (show Row3 W2 w.heap.size (.int .i64 0) (.string ⟨#[]⟩) (.slice none 0 0) by
  rw [←hW2]
  exact (R0.out.other (p:=⟨w.heap.size+1,0,none⟩) _ (by simp)).other (p:=⟨w.heap.size+1+1,0,none⟩) _ (by simp only;omega))
 have Y1:=qh (show Boxed W2 (w.heap.size+1) 3 (.int .i64 0) by
  rw [←hW2]
  exact boxed_otherP (Boxed.set _ X1.out) ⟨w.heap.size+1+1,0,none⟩ (by simp only;omega))
 have Y2:=qh (show Boxed W2 (w.heap.size+1+1) 26 (.int .i64 0) by
  rw [←hW2]
  exact Boxed.set _ (boxed_otherP X2.out ⟨w.heap.size+1,0,none⟩ (by simp only;omega)))
 have B2:=qh (show Below w.heap.size w W2 by
  rw [←hW2]
  exact (B1.out.setCell (p:=⟨w.heap.size+1,0,none⟩) (by simp) _).setCell (p:=⟨w.heap.size+1+1,0,none⟩) (by simp only;omega) _)
 have T2:=qh (show Toks (w.heap.size+1+1+1) (.slice va l.length vcap) l W2 by
  rw [←hW2]
  exact ownsRow_blocks HT.out fun k hk _ _=>(Below.heap_setCell _ _ _ _ (by simp only;omega)).trans (Below.heap_setCell _ _ _ _ (by simp only;omega)))
 clear hW2 d1 d2 f1 f2 R0 X1 X2 B1 HT C
 refine (CI.out _).mono ?_
 rintro e w3 ⟨rfl,m3,b3⟩
 simp only [S2] at m3 b3
 have M3:=qh m3
 have b3':=qh b3
 have z3:=m3.lt
 clear m3 b3 CI
 go_wp2_with fail
 refine (CP.out _).mono ?_
 rintro e w4 ⟨rfl,m4,b4⟩
 have M4:=qh m4
 have b4':=qh b4
 have z4:=m4.lt
 clear m4 b4 CP
 go_wp2_with fail
 generalize hW5:w4.alloc (.cells #[.slice va l.length vcap,.int .i64 0,.int .i64 (s.size:Nat),.map (some w1.heap.size),.map (some w3.heap.size)] 135)=W5
 have z5:W5.heap.size=w4.heap.size+1:=by rw [←hW5,World.size_alloc]
 have row5:W5.heap[w4.heap.size]?=some (.cells #[.slice va l.length vcap,.int .i64 0,.int .i64 (s.size:Nat),.map (some w1.heap.size),.map (some w3.heap.size)] 135 (0,0)):=by
  rw [←hW5];exact World.alloc_heap_new w4 _
 have b5:Below w4.heap.size w4 W5:=by rw [←hW5];exact (Below.refl _ _).alloc (Nat.le_refl _) _
 have HK:∀ k,k < w1.heap.size→W5.heap[k]?=W2.heap[k]?:=fun k hk=>(b5.block k (by omega)).trans ((b4'.out.block k (by omega)).trans (b3'.out.block k hk))
 have BB:=qh (B2.out.trans ((b3'.out.trans ((b4'.out.trans (b5.mono (by omega))).mono (by omega))).mono (by omega)))
 have GL5:=GL.out.keep fun b hb _=>BB.out.block b (by omega)
 have T5:=ownsRow_below' (ownsRow_below' (ownsRow_below' T2.out (by rw [S2];exact b3'.out)) b4'.out) b5
 obtain ⟨E,e1,e2,e3,hPS⟩:=ps_ready Hl.out T5 GL5 row5 ((M3.out.keep (b4'.out.block _ (by omega))).keep (b5.block _ (by omega))) (M4.out.keep (b5.block _ (by omega))) (by omega) (by omega) (by omega)
 have K:=CW'.out E _ e2 e3 hPS
 rw [e1] at K
 clear hW5 row5 b5 GL5 T5 M3 M4 CW' GL
 refine K.mono ?_
 rintro e w6 ⟨⟨va6,vc6,rfl,hn⟩,hm,hq⟩
 have HK6:∀ k,k < w1.heap.size→w6.heap[k]?=W2.heap[k]?:=fun k hk=>(hm.blk k (by omega) (by omega)).trans (HK k hk)
 have B6:=qh ((BB.out.setCell (p:=⟨E.pb,1,none⟩) (by simp only;omega) (.int .i64 (q:Nat))).trans (Below.mono hm (by omega)))
 have R6:=qh (show Row3 w6 w.heap.size (.int .i64 0) (.string ⟨#[]⟩) (.slice none 0 0) from (HK6 _ (by omega)).trans R2.out)
 have U1:=qh (show Boxed w6 (w.heap.size+1) 3 (.int .i64 0) from (HK6 _ (by omega)).trans Y1.out)
 have U2:=qh (show Boxed w6 (w.heap.size+1+1) 26 (.int .i64 0) from (HK6 _ (by omega)).trans Y2.out)
 have P6:=qh (hm.ps hPS hq)
 have S6:=qh hn
 have CK':=qh CK
 clear hn CK
 have hpz:w.heap.size < E.pb:=by omega
 have l6:=hm.size
 obtain ⟨⟨c0,c1,c2⟩,g0,g1,g2⟩:=R6.out.cells
 clear K hm hq HK HK6 BB R2 Y1 Y2 T2 b3' b4' B2 hPS
 have h6a:=R6.out.lt
 go_wp2_with fail
 generalize hW7:World.setCell (World.setCell (World.setCell w6 _ _) _ _) _ _=W7
 have HE:∀ j,j≠w.heap.size→W7.heap[j]?=w6.heap[j]?:=fun j hj=>by
  rw [←hW7]
  exact (Below.heap_setCell _ _ _ _ hj).trans ((Below.heap_setCell _ _ _ _ hj).trans (Below.heap_setCell _ _ _ _ hj))
 have R7:=qh (show Row3 W7 w.heap.size (.int .i64 k) (.string sx) (.slice va6 kids.length vc6) by rw [←hW7];exact R6.out.put _ _ _)
 have S7:=qh (S6.out.keep (w':=W7) (S':=fun b=>w.heap.size+1+1 < b) fun b h1 h2=>⟨HE b (by omega),by omega⟩)
 have P7:=qh (P6.out.aside R6.out hw HE)
 have N1:=qh (show Boxed W7 (w.heap.size+1) 3 (.int .i64 0) from (HE _ (by omega)).trans U1.out)
 have N2:=qh (show Boxed W7 (w.heap.size+1+1) 26 (.int .i64 0) from (HE _ (by omega)).trans U2.out)
 have B7:=qh (show Below w.heap.size w W7 by rw [←hW7];exact below3 B6.out (Nat.le_refl _) _ _ _)
 obtain ⟨p0,p1,p2,p3,p4⟩:=P7.out.cells
 have pz:=P7.out.lt
 rw [e1] at p0 p1
 rw [e2] at p0
 have hlt:decide ((q:Int) < (l.length:Int))=false:=decide_eq_false (by omega)
 clear hW7 HE R6 S6 P6 U1 U2 B6 c0 c1 c2 g0 g1 g2 p2 p3 p4
 go_quiet (fail)
 generalize hW8:W7.drewN _=W8
 have b8:Below W7.heap.size W7 W8:=by rw [←hW8];exact below_drewN (Below.refl _ _) _
 have h7:=R7.out.lt
 have h71:=N1.out.lt
 have h72:=N2.out.lt
 have z8:=b8.size
 have R8:=qh (show Row3 W8 w.heap.size (.int .i64 k) (.string sx) (.slice va6 kids.length vc6) from (b8.block _ h7).trans R7.out)
 have S8:=qh (S7.out.keep (w':=W8) (S':=fun b=>w.heap.size+1+1 < b) fun b h1 h2=>⟨b8.block b h2,h1⟩)
 have K8:=CK'.out va6 vc6 W8 S8.out.toR
 have HB8:=qh b8
 obtain ⟨⟨c0,c1,c2⟩,g0,g1,g2⟩:=R8.out.cells
 have h8:=R8.out.lt
 clear hW8 b8 p0 p1 CK'
 go_wp2_with fail
 refine K8.mono ?_
 rintro e w9 ⟨rfl,b9⟩
 have b89:=HB8.out.trans (b9.mono z8)
 have R9:=qh (show Row3 w9 w.heap.size (.int .i64 k) (.string sx) (.slice va6 kids.length vc6) from (b9.block _ h8).trans R8.out)
 have U1:=qh (show Boxed w9 (w.heap.size+1) 3 (.int .i64 0) from (b89.block _ h71).trans N1.out)
 have U2:=qh (show Boxed w9 (w.heap.size+1+1) 26 (.int .i64 0) from (b89.block _ h72).trans N2.out)
 have S9:=qh (S8.out.keep (w':=w9) (S':=fun b=>w.heap.size+1+1 < b) fun b h1 h2=>⟨b9.block b h2,h1⟩)
 have B9:=qh (B7.out.trans (b89.mono (by omega)))
 clear b89 b9 HB8 K8 P7 N1 N2 B7 R7 c0 c1 c2 g0 g1 g2 S7 S8 R8
 obtain ⟨⟨c0,c1,c2⟩,g0,g1,g2⟩:=R9.out.cells
 have u1:=U1.out.cell
 have u2:=U2.out.cell
 have v1:=U1.out.frozen
 have v2:=U2.out.frozen
 have h9:=R9.out.lt
 have h91:=U1.out.lt
 have h92:=U2.out.lt
 go_wp2_with fail
 generalize hWA:World.setCell (World.setCell (World.setCell (World.setCell (World.setCell w9 _ _) _ _) _ _) _ _) _ _=WA
 have RA:=qh (show Row3 WA w.heap.size (.int .i64 k) (.string sx) (.slice va6 kids.length vc6) by
  rw [←hWA]
  exact ((R9.out.put _ _ _).other (p:=⟨w.heap.size+1,0,none⟩) _ (by simp)).other (p:=⟨w.heap.size+1+1,0,none⟩) _ (by simp only;omega))
 have A1:=qh (show Boxed WA (w.heap.size+1) 3 (.int .i64 0) by
  rw [←hWA]
  exact boxed_otherP (Boxed.set _ (boxed_put3 U1.out (by omega))) ⟨w.heap.size+1+1,0,none⟩ (by simp only;omega))
 have A2:=qh (show Boxed WA (w.heap.size+1+1) 26 (.int .i64 0) by
  rw [←hWA]
  exact Boxed.set _ (boxed_otherP (boxed_put3 U2.out (by omega)) ⟨w.heap.size+1,0,none⟩ (by simp only;omega)))
 have BA:=qh (show Below w.heap.size w WA by
  rw [←hWA]
  exact ((below3 B9.out (Nat.le_refl _) _ _ _).setCell (p:=⟨w.heap.size+1,0,none⟩) (by simp) _).setCell (p:=⟨w.heap.size+1+1,0,none⟩) (by simp only;omega) _)
 have HA:∀ b,w.heap.size+1+1 < b→WA.heap[b]?=w9.heap[b]?:=fun b hb=>by
  rw [←hWA]
  exact (Below.heap_setCell _ _ _ _ (by simp only;omega)).trans ((Below.heap_setCell _ _ _ _ (by simp only;omega)).trans ((Below.heap_setCell _ _ _ _ (by simp only;omega)).trans ((Below.heap_setCell _ _ _ _ (by simp only;omega)).trans (Below.heap_setCell _ _ _ _ (by simp only;omega)))))
 have zA:w9.heap.size=WA.heap.size:=by rw [←hWA];simp only [setCell_size]
 clear hWA c0 c1 c2 g0 g1 g2 u1 u2 v1 v2
 refine leaves_cons (f:=134) (args:=#[.pointer (some ⟨w.heap.size,0,none⟩),.pointer (some ⟨w.heap.size+1,0,none⟩),.pointer (some ⟨w.heap.size+1+1,0,none⟩)]) (by simp) (by simp [invoke,go_sem,eg2]) ?_
 refine (pcatch_idle w.heap.size WA).mono ?_
 rintro e u' wz ⟨rfl,rfl,rfl⟩
 obtain ⟨⟨c0,c1,c2⟩,_⟩:=(RA.out.alloc (.cells #[.int .i64 0] 130)).cells
 have x1:=(boxed_alloc A1.out (.cells #[.int .i64 0] 130)).cell
 have x2:=(boxed_alloc A2.out (.cells #[.int .i64 0] 130)).cell
 refine ⟨.tuple #[.agg #[.int .i64 k,.string sx,.slice va6 kids.length vc6],.int .i64 0,.int .i64 0],by simp [results,Tryz.results92,go_sem,c0,c1,c2,x1,x2],⟨va6,vc6,rfl,S9.out.keep fun b h1 h2=>⟨(Below.heap_alloc _ _ _ (by rw [←zA];exact h2)).trans (HA b h1),by omega⟩⟩,BA.out.alloc (by rw [←zA];omega) _⟩
set_option maxRecDepth 100000 in
set_option maxHeartbeats 2000000 in
theorem parse_wrong (s:ByteArray) (l:List Lx.Tok) (hl:Lx.scan (bs s) = .toks l) (w:World) (hw:2≤w.heap.size) (gl:GLw w) (hs:s.size≤maxLen) (g:Nat) (eg:∀ args w,(callFunc g args).run Tryz.prog w = .ok (.enter g args) w) (q:Nat) (k:Int) (sx:ByteArray) (kids:List Nd) (hql:q=l.length) (er:Nat) (he:((er:Int)==0)=false)
  (CK:∀ va vc w,NdR w (.mk k sx kids) (.int .i64 k) (.string sx) (.slice va kids.length vc)→Calls Tryz.prog 14 #[.agg #[.int .i64 k,.string sx,.slice va kids.length vc]] w fun e w'=>e = .returned (.int .i64 er)∧Below w.heap.size w w')
  (CW:∀ (E:PE) w,E.ts=l→E.en=s.size→PS E 0 w→Calls Tryz.prog g #[.pointer (some ⟨E.pb,0,none⟩)] w (Gr E w (.ok (.mk k sx kids) q))) :
  Calls Tryz.prog 92 #[.string s,F_ g] w fun e w'=>(e = .returned (.tuple #[.agg #[.int .i64 0,.string ⟨#[]⟩,.slice none 0 0],.int .i64 0,.int .i64 er]))∧Below w.heap.size w w':=by
 have C:=qh (fun w=>scan_toks2 s l hl w hs)
 have CI:=qh items_made
 have CP:=qh parts_made
 have CW':=qh CW
 have Hl:=qh hl
 have GL:=qh gl
 have hmf:∀ (fn:Fn) (first cap:Array Value) (w:World),(Instr.makeFunc fn first cap).run Tryz.prog w = .ok (.func fn first cap) w:=fun _ _ _ _=>rfl
 have eg2:∀ args w,(callFunc 134 args).run Tryz.prog w = .ok (.enter 134 args) w:=enters_of Tryz.func134 (by kernel_rfl) rfl
 have hb0:=qh (((Below.refl w.heap.size w).alloc (Nat.le_refl _) (.cells #[.int .i64 0,.string ⟨#[]⟩,.slice none 0 0] 24)).alloc (by simp) (.cells #[.int .i64 0] 3) |>.alloc (by simp;omega) (.cells #[.int .i64 0] 26))
 clear hl gl CW
 unfold F_
 go_enter_defers Tryz.func92,Tryz.ntmps92
 go_wp2_with fail
 refine (C.out _).mono ?_
 rintro e w1 ⟨v,rfl,ht,hb⟩
 obtain ⟨va,vcap,rfl⟩:=ownsRow_shape ht
 have z1:=hb.size
 simp only [World.size_alloc] at z1 ht
 have bx0:Row3 w1 w.heap.size (.int .i64 0) (.string ⟨#[]⟩) (.slice none 0 0):=(hb.block w.heap.size (by simp only [World.size_alloc];omega)).trans (heap3_1 w _ _ _)
 have bx1:Boxed w1 (w.heap.size+1) 3 (.int .i64 0):=(hb.block (w.heap.size+1) (by simp only [World.size_alloc];omega)).trans (heap3_2 w _ _ _)
 have bx2:Boxed w1 (w.heap.size+1+1) 26 (.int .i64 0):=(hb.block (w.heap.size+1+1) (by simp only [World.size_alloc];omega)).trans (heap3_3 w _ _ _)
 have B1:=qh (hb0.out.trans (hb.mono (by simp only [World.size_alloc];omega)))
 have d1:=bx1.cell
 have d2:=bx2.cell
 have f1:=bx1.frozen
 have f2:=bx2.frozen
 have l0:=bx0.lt
 have l1:=bx1.lt
 have l2:=bx2.lt
 have R0:=qh bx0
 have X1:=qh bx1
 have X2:=qh bx2
 have HT:=qh ht
 clear hb bx0 bx1 bx2 z1 hb0 ht
 go_wp2_with fail
 generalize hW2:World.setCell (World.setCell w1 _ _) _ _=W2
 have S2:W2.heap.size=w1.heap.size:=by rw [←hW2,setCell_size,setCell_size]
 have R2:=qh (show Row3 W2 w.heap.size (.int .i64 0) (.string ⟨#[]⟩) (.slice none 0 0) by
  rw [←hW2]
  exact (R0.out.other (p:=⟨w.heap.size+1,0,none⟩) _ (by simp)).other (p:=⟨w.heap.size+1+1,0,none⟩) _ (by simp only;omega))
 have Y1:=qh (show Boxed W2 (w.heap.size+1) 3 (.int .i64 0) by
  rw [←hW2]
  exact boxed_otherP (Boxed.set _ X1.out) ⟨w.heap.size+1+1,0,none⟩ (by simp only;omega))
 have Y2:=qh (show Boxed W2 (w.heap.size+1+1) 26 (.int .i64 0) by
  rw [←hW2]
  exact Boxed.set _ (boxed_otherP X2.out ⟨w.heap.size+1,0,none⟩ (by simp only;omega)))
 have B2:=qh (show Below w.heap.size w W2 by
  rw [←hW2]
  exact (B1.out.setCell (p:=⟨w.heap.size+1,0,none⟩) (by simp) _).setCell (p:=⟨w.heap.size+1+1,0,none⟩) (by simp only;omega) _)
 have T2:=qh (show Toks (w.heap.size+1+1+1) (.slice va l.length vcap) l W2 by
  rw [←hW2]
  exact ownsRow_blocks HT.out fun k hk _ _=>(Below.heap_setCell _ _ _ _ (by simp only;omega)).trans (Below.heap_setCell _ _ _ _ (by simp only;omega)))
 clear hW2 d1 d2 f1 f2 R0 X1 X2 B1 HT C
 refine (CI.out _).mono ?_
 rintro e w3 ⟨rfl,m3,b3⟩
 simp only [S2] at m3 b3
 have M3:=qh m3
 have b3':=qh b3
 have z3:=m3.lt
 clear m3 b3 CI
 go_wp2_with fail
 refine (CP.out _).mono ?_
 rintro e w4 ⟨rfl,m4,b4⟩
 have M4:=qh m4
 have b4':=qh b4
 have z4:=m4.lt
 clear m4 b4 CP
 go_wp2_with fail
 generalize hW5:w4.alloc (.cells #[.slice va l.length vcap,.int .i64 0,.int .i64 (s.size:Nat),.map (some w1.heap.size),.map (some w3.heap.size)] 135)=W5
 have z5:W5.heap.size=w4.heap.size+1:=by rw [←hW5,World.size_alloc]
 have row5:W5.heap[w4.heap.size]?=some (.cells #[.slice va l.length vcap,.int .i64 0,.int .i64 (s.size:Nat),.map (some w1.heap.size),.map (some w3.heap.size)] 135 (0,0)):=by
  rw [←hW5];exact World.alloc_heap_new w4 _
 have b5:Below w4.heap.size w4 W5:=by rw [←hW5];exact (Below.refl _ _).alloc (Nat.le_refl _) _
 have HK:∀ k,k < w1.heap.size→W5.heap[k]?=W2.heap[k]?:=fun k hk=>(b5.block k (by omega)).trans ((b4'.out.block k (by omega)).trans (b3'.out.block k hk))
 have BB:=qh (B2.out.trans ((b3'.out.trans ((b4'.out.trans (b5.mono (by omega))).mono (by omega))).mono (by omega)))
 have GL5:=GL.out.keep fun b hb _=>BB.out.block b (by omega)
 have T5:=ownsRow_below' (ownsRow_below' (ownsRow_below' T2.out (by rw [S2];exact b3'.out)) b4'.out) b5
 obtain ⟨E,e1,e2,e3,hPS⟩:=ps_ready Hl.out T5 GL5 row5 ((M3.out.keep (b4'.out.block _ (by omega))).keep (b5.block _ (by omega))) (M4.out.keep (b5.block _ (by omega))) (by omega) (by omega) (by omega)
 have K:=CW'.out E _ e2 e3 hPS
 rw [e1] at K
 clear hW5 row5 b5 GL5 T5 M3 M4 CW' GL
 refine K.mono ?_
 rintro e w6 ⟨⟨va6,vc6,rfl,hn⟩,hm,hq⟩
 have HK6:∀ k,k < w1.heap.size→w6.heap[k]?=W2.heap[k]?:=fun k hk=>(hm.blk k (by omega) (by omega)).trans (HK k hk)
 have B6:=qh ((BB.out.setCell (p:=⟨E.pb,1,none⟩) (by simp only;omega) (.int .i64 (q:Nat))).trans (Below.mono hm (by omega)))
 have R6:=qh (show Row3 w6 w.heap.size (.int .i64 0) (.string ⟨#[]⟩) (.slice none 0 0) from (HK6 _ (by omega)).trans R2.out)
 have U1:=qh (show Boxed w6 (w.heap.size+1) 3 (.int .i64 0) from (HK6 _ (by omega)).trans Y1.out)
 have U2:=qh (show Boxed w6 (w.heap.size+1+1) 26 (.int .i64 0) from (HK6 _ (by omega)).trans Y2.out)
 have P6:=qh (hm.ps hPS hq)
 have S6:=qh hn
 have CK':=qh CK
 clear hn CK
 have hpz:w.heap.size < E.pb:=by omega
 have l6:=hm.size
 obtain ⟨⟨c0,c1,c2⟩,g0,g1,g2⟩:=R6.out.cells
 clear K hm hq HK HK6 BB R2 Y1 Y2 T2 b3' b4' B2 hPS
 have h6a:=R6.out.lt
 go_wp2_with fail
 generalize hW7:World.setCell (World.setCell (World.setCell w6 _ _) _ _) _ _=W7
 have HE:∀ j,j≠w.heap.size→W7.heap[j]?=w6.heap[j]?:=fun j hj=>by
  rw [←hW7]
  exact (Below.heap_setCell _ _ _ _ hj).trans ((Below.heap_setCell _ _ _ _ hj).trans (Below.heap_setCell _ _ _ _ hj))
 have R7:=qh (show Row3 W7 w.heap.size (.int .i64 k) (.string sx) (.slice va6 kids.length vc6) by rw [←hW7];exact R6.out.put _ _ _)
 have S7:=qh (S6.out.keep (w':=W7) (S':=fun b=>w.heap.size+1+1 < b) fun b h1 h2=>⟨HE b (by omega),by omega⟩)
 have P7:=qh (P6.out.aside R6.out hw HE)
 have N1:=qh (show Boxed W7 (w.heap.size+1) 3 (.int .i64 0) from (HE _ (by omega)).trans U1.out)
 have N2:=qh (show Boxed W7 (w.heap.size+1+1) 26 (.int .i64 0) from (HE _ (by omega)).trans U2.out)
 have B7:=qh (show Below w.heap.size w W7 by rw [←hW7];exact below3 B6.out (Nat.le_refl _) _ _ _)
 obtain ⟨p0,p1,p2,p3,p4⟩:=P7.out.cells
 have pz:=P7.out.lt
 rw [e1] at p0 p1
 rw [e2] at p0
 have hlt:decide ((q:Int) < (l.length:Int))=false:=decide_eq_false (by omega)
 clear hW7 HE R6 S6 P6 U1 U2 B6 c0 c1 c2 g0 g1 g2 p2 p3 p4
 go_quiet (fail)
 generalize hW8:W7.drewN _=W8
 have b8:Below W7.heap.size W7 W8:=by rw [←hW8];exact below_drewN (Below.refl _ _) _
 have h7:=R7.out.lt
 have h71:=N1.out.lt
 have h72:=N2.out.lt
 have z8:=b8.size
 have R8:=qh (show Row3 W8 w.heap.size (.int .i64 k) (.string sx) (.slice va6 kids.length vc6) from (b8.block _ h7).trans R7.out)
 have S8:=qh (S7.out.keep (w':=W8) (S':=fun b=>w.heap.size+1+1 < b) fun b h1 h2=>⟨b8.block b h2,h1⟩)
 have K8:=CK'.out va6 vc6 W8 S8.out.toR
 have HB8:=qh b8
 obtain ⟨⟨c0,c1,c2⟩,g0,g1,g2⟩:=R8.out.cells
 have h8:=R8.out.lt
 clear hW8 b8 p0 p1 CK'
 go_wp2_with fail
 refine K8.mono ?_
 rintro e w9 ⟨rfl,b9⟩
 have b89:=HB8.out.trans (b9.mono z8)
 have R9:=qh (show Row3 w9 w.heap.size (.int .i64 k) (.string sx) (.slice va6 kids.length vc6) from (b9.block _ h8).trans R8.out)
 have U1:=qh (show Boxed w9 (w.heap.size+1) 3 (.int .i64 0) from (b89.block _ h71).trans N1.out)
 have U2:=qh (show Boxed w9 (w.heap.size+1+1) 26 (.int .i64 0) from (b89.block _ h72).trans N2.out)
 have S9:=qh (S8.out.keep (w':=w9) (S':=fun b=>w.heap.size+1+1 < b) fun b h1 h2=>⟨b9.block b h2,h1⟩)
 have B9:=qh (B7.out.trans (b89.mono (by omega)))
 clear b89 b9 HB8 K8 P7 N1 N2 B7 R7 c0 c1 c2 g0 g1 g2 S7 S8 R8
 obtain ⟨⟨c0,c1,c2⟩,g0,g1,g2⟩:=R9.out.cells
 have u1:=U1.out.cell
 have u2:=U2.out.cell
 have v1:=U1.out.frozen
 have v2:=U2.out.frozen
 have h9:=R9.out.lt
 have h91:=U1.out.lt
 have h92:=U2.out.lt
 go_wp2_with fail
 generalize hWA:World.setCell (World.setCell (World.setCell (World.setCell (World.setCell w9 _ _) _ _) _ _) _ _) _ _=WA
 have RA:=qh (show Row3 WA w.heap.size (.int .i64 0) (.string ⟨#[]⟩) (.slice none 0 0) by
  rw [←hWA]
  exact ((R9.out.put _ _ _).other (p:=⟨w.heap.size+1,0,none⟩) _ (by simp)).other (p:=⟨w.heap.size+1+1,0,none⟩) _ (by simp only;omega))
 have A1:=qh (show Boxed WA (w.heap.size+1) 3 (.int .i64 0) by
  rw [←hWA]
  exact boxed_otherP (Boxed.set _ (boxed_put3 U1.out (by omega))) ⟨w.heap.size+1+1,0,none⟩ (by simp only;omega))
 have A2:=qh (show Boxed WA (w.heap.size+1+1) 26 (.int .i64 er) by
  rw [←hWA]
  exact Boxed.set _ (boxed_otherP (boxed_put3 U2.out (by omega)) ⟨w.heap.size+1,0,none⟩ (by simp only;omega)))
 have BA:=qh (show Below w.heap.size w WA by
  rw [←hWA]
  exact ((below3 B9.out (Nat.le_refl _) _ _ _).setCell (p:=⟨w.heap.size+1,0,none⟩) (by simp) _).setCell (p:=⟨w.heap.size+1+1,0,none⟩) (by simp only;omega) _)
 have HA:∀ b,w.heap.size+1+1 < b→WA.heap[b]?=w9.heap[b]?:=fun b hb=>by
  rw [←hWA]
  exact (Below.heap_setCell _ _ _ _ (by simp only;omega)).trans ((Below.heap_setCell _ _ _ _ (by simp only;omega)).trans ((Below.heap_setCell _ _ _ _ (by simp only;omega)).trans ((Below.heap_setCell _ _ _ _ (by simp only;omega)).trans (Below.heap_setCell _ _ _ _ (by simp only;omega)))))
 have zA:w9.heap.size=WA.heap.size:=by rw [←hWA];simp only [setCell_size]
 clear hWA c0 c1 c2 g0 g1 g2 u1 u2 v1 v2
 refine leaves_cons (f:=134) (args:=#[.pointer (some ⟨w.heap.size,0,none⟩),.pointer (some ⟨w.heap.size+1,0,none⟩),.pointer (some ⟨w.heap.size+1+1,0,none⟩)]) (by simp) (by simp [invoke,go_sem,eg2]) ?_
 refine (pcatch_idle w.heap.size WA).mono ?_
 rintro e u' wz ⟨rfl,rfl,rfl⟩
 obtain ⟨⟨c0,c1,c2⟩,_⟩:=(RA.out.alloc (.cells #[.int .i64 0] 130)).cells
 have x1:=(boxed_alloc A1.out (.cells #[.int .i64 0] 130)).cell
 have x2:=(boxed_alloc A2.out (.cells #[.int .i64 0] 130)).cell
 refine ⟨.tuple #[.agg #[.int .i64 0,.string ⟨#[]⟩,.slice none 0 0],.int .i64 0,.int .i64 er],by simp [results,Tryz.results92,go_sem,c0,c1,c2,x1,x2],rfl,BA.out.alloc (by rw [←zA];omega) _⟩
end Go.Proofs.YtcimcjmdkjajfaaGreatDoor
namespace Go.Proofs.YtcimcjmdkjajfaaGreatDoor
open Go.RowKit
def posT (l:List Lx.Tok) (en q:Nat):Nat:=match l[q]? with | some t=>t.pos | none=>en
def node0:Value:=.agg #[.int .i64 0,.string ⟨#[]⟩,.slice none 0 0]
def ParseOut (l:List Lx.Tok) (en:Nat) (chk:Nd→Nat) (r:Sx.PR Nd) (w:World) (e:Ending) (w':World):Prop :=
 Below w.heap.size w w' ∧
 match r with
 | .bad q=>e = .returned (.tuple #[node0,.int .i64 (posT l en q:Nat),.int .i64 20])
 | .ok (.mk k s kids) q =>
  if q < l.length then e = .returned (.tuple #[node0,.int .i64 (posT l en q:Nat),.int .i64 20])
  else if chk (.mk k s kids)=0 then ∃ va vc,e = .returned (.tuple #[.agg #[.int .i64 k,.string s,.slice va kids.length vc],.int .i64 0,.int .i64 0])∧NdS (fun b=>w.heap.size≤b) w' (.mk k s kids) (.int .i64 k) (.string s) (.slice va kids.length vc)
  else e = .returned (.tuple #[node0,.int .i64 0,.int .i64 (chk (.mk k s kids):Nat)])
theorem posT_of (l:List Lx.Tok) (en q:Nat):∃ E:PE,E.ts=l∧E.en=en∧E.pos q=posT l en q:=⟨⟨0,l,none,0,0,0,en,0,0⟩,rfl,rfl,rfl⟩
theorem parse_any (s:ByteArray) (l:List Lx.Tok) (hl:Lx.scan (bs s) = .toks l) (w:World) (hw:2≤w.heap.size) (gl:GLw w) (hs:s.size≤maxLen) (g:Nat) (eg:∀ args w,(callFunc g args).run Tryz.prog w = .ok (.enter g args) w) (r:Sx.PR Nd) (hr:∀ n q,r = .ok n q→q≤l.length) (chk:Nd→Nat)
  (CW:∀ (E:PE) w,E.ts=l→E.en=s.size→PS E 0 w→Calls Tryz.prog g #[.pointer (some ⟨E.pb,0,none⟩)] w (Gr E w r))
  (CK:∀ k sx kids va vc w,NdR w (.mk k sx kids) (.int .i64 k) (.string sx) (.slice va kids.length vc)→Calls Tryz.prog 14 #[.agg #[.int .i64 k,.string sx,.slice va kids.length vc]] w fun e w'=>e = .returned (.int .i64 (chk (.mk k sx kids):Nat))∧Below w.heap.size w w') :
  Calls Tryz.prog 92 #[.string s,F_ g] w (ParseOut l s.size chk r w):=by
 cases r with
 | bad q =>
  refine (parse_no s l hl w hw gl hs g eg q CW).mono ?_
  rintro e w' ⟨h,hb⟩
  obtain ⟨E,h1,h2,h3⟩:=posT_of l s.size q
  exact ⟨hb,by rw [h E h1 h2,h3];rfl⟩
 | ok n q =>
  obtain ⟨k,sx,kids⟩:=n
  by_cases hq:q < l.length
  ·refine (parse_left s l hl w hw gl hs g eg q k sx kids hq CW).mono ?_
   rintro e w' ⟨h,hb⟩
   obtain ⟨E,h1,h2,h3⟩:=posT_of l s.size q
   refine ⟨hb,?_⟩
   simp only [if_pos hq]
   rw [h E h1 h2,h3]
   rfl
  ·have hql:q=l.length:=by have:=hr _ _ rfl;omega
   by_cases h0:chk (.mk k sx kids)=0
   ·refine (parse_yes s l hl w hw gl hs g eg q k sx kids hql (chk (.mk k sx kids)) (by rw [h0];rfl) (fun va vc w h=>CK k sx kids va vc w h) CW).mono ?_
    rintro e w' ⟨h,hb⟩
    refine ⟨hb,?_⟩
    simp only [if_neg hq,if_pos h0]
    exact h
   ·refine (parse_wrong s l hl w hw gl hs g eg q k sx kids hql (chk (.mk k sx kids)) (by rw [beq_eq_false_iff_ne];omega) (fun va vc w h=>CK k sx kids va vc w h) CW).mono ?_
    rintro e w' ⟨h,hb⟩
    refine ⟨hb,?_⟩
    simp only [if_neg hq,if_neg h0]
    exact h
end Go.Proofs.YtcimcjmdkjajfaaGreatDoor
namespace Go.Proofs.YtcimcjmdkjajfaaGreatDoor
open Go.RowKit Go.Shelf
theorem item_le {ts:List Lx.Tok} {f p:Nat} {a:Nd} {q:Nat} (h:Sx.item ts f p = .ok a q):q≤ts.length:=by
 unfold Sx.item at h
 split at h
 ·cases h
 ·split at h
  ·cases h
  ·split at h
   ·rename_i ht
    cases h
    have:=Sx.txt_lt (ts:=ts) (p:=_) (by rw [ht];simp)
    omega
   ·cases h
theorem items_le (ts:List Lx.Tok):∀ (f:Nat) (acc:List Nd) (p:Nat) (l:List Nd) (q:Nat),p≤ts.length→Sx.items ts f acc p = .ok l q→q≤ts.length
 | 0,_,_,_,_,_,h=>by simp only [Sx.items] at h;cases h
 | f+1,acc,p,l,q,hp,h=>by
  simp only [Sx.items] at h
  split at h
  ·split at h
   ·cases h
   ·rename_i a q1 hi
    exact items_le ts f _ q1 l q (item_le hi) h
  ·cases h;exact hp
theorem whole_le {ts:List Lx.Tok} {f:Nat} {what:Int} {n:Nd} {q:Nat} (h:Sx.whole ts f what = .ok n q):q≤ts.length:=by
 unfold Sx.whole at h
 split at h
 ·exact ((Sx.form_goes ts f).2.2.1 0 _ _ h).2
 ·split at h
  ·exact ((Sx.term_goes ts f).1 0 _ _ h).2
  ·split at h
   ·exact ((Sx.typed_goes ts f).1 0 _ _ h).2
   ·split at h
    ·cases h
    ·rename_i l q1 hi
     cases h
     exact items_le ts f _ _ _ _ (Nat.zero_le _) hi
def chkT (t:Nd):Nat:=(chkN t).toNat
theorem chkT_cast (t:Nd):((chkT t:Nat):Int)=chkN t:=by
 unfold chkT
 have h:0≤chkN t:=by
  unfold chkN
  split
  ·decide
  ·split
   ·decide
   ·split <;> decide
 exact Int.toNat_of_nonneg h
def parseP (l:Lx.Bs) (what:Int):Option Nd×Nat×Nat:=match Lx.scan l with
 | .bad p er=>(none,p,er)
 | .toks ts=>match Sx.whole ts (Sx.fuel ts) what with
  | .bad q=>(none,posT ts l.length q,20)
  | .ok nd q=>if q < ts.length then (none,posT ts l.length q,20) else if chkT nd=0 then (some nd,0,0) else (none,0,chkT nd)
def NodeIs (B:Nat) (w:World) (k:Int) (s:ByteArray) (a:Option Addr) (n c:Nat):Option Nd→Prop
 | none=>k=0∧s=⟨#[]⟩∧a=none∧n=0∧c=0
 | some t=>NdS (fun b=>B≤b) w t (.int .i64 k) (.string s) (.slice a n c)
def ParseR (r:Option Nd×Nat×Nat) (w:World) (e:Ending) (w':World):Prop :=
 ∃ k s a n c,e = .returned (.tuple #[.agg #[.int .i64 k,.string s,.slice a n c],.int .i64 (r.2.1:Nat),.int .i64 (r.2.2:Nat)])∧Below w.heap.size w w'∧NodeIs w.heap.size w' k s a n c r.1
theorem parse_one (s:ByteArray) (what:Int) (w:World) (hw:2≤w.heap.size) (gl:GLw w) (hs:s.size≤maxLen) (g:Nat) (eg:∀ args w,(callFunc g args).run Tryz.prog w = .ok (.enter g args) w)
  (CW:∀ (E:PE) w,SaneT E.ts→PS E 0 w→Calls Tryz.prog g #[.pointer (some ⟨E.pb,0,none⟩)] w (Gr E w (Sx.whole E.ts (Sx.fuel E.ts) what))) :
  Calls Tryz.prog 92 #[.string s,F_ g] w (ParseR (parseP (bs s) what) w):=by
 have hlen:(bs s).length=s.size:=bs_len s
 cases hsc:Lx.scan (bs s) with
 | bad p er =>
  refine (parse_bad s p er hsc (by rcases scan_err hsc with h | h | h <;> omega) w hs (F_ g)).mono ?_
  rintro e w' ⟨rfl,hb⟩
  have hp:parseP (bs s) what=(none,p,er):=by unfold parseP;rw [hsc]
  rw [hp]
  exact ⟨0,⟨#[]⟩,none,0,0,rfl,hb,rfl,rfl,rfl,rfl,rfl⟩
 | toks l =>
  refine (parse_any s l hsc w hw gl hs g eg (Sx.whole l (Sx.fuel l) what) (fun n q h=>whole_le h) chkT (fun E w h1 h2 h3=>by
   have:=CW E w (by rw [h1];exact scan_saneT hsc) h3
   rw [h1] at this
   exact this) (fun k sx kids va vc w h=>(check_tree _ w _ _ _ h).mono fun e w' hq=>⟨by rw [hq.1,chkT_cast],hq.2⟩)).mono ?_
  rintro e w' ⟨hb,ho⟩
  have hp:parseP (bs s) what=match Sx.whole l (Sx.fuel l) what with
   | .bad q=>(none,posT l s.size q,20)
   | .ok nd q=>if q < l.length then (none,posT l s.size q,20) else if chkT nd=0 then (some nd,0,0) else (none,0,chkT nd):=by
   unfold parseP;rw [hsc,hlen]
  rw [hp]
  cases hr:Sx.whole l (Sx.fuel l) what with
  | bad q =>
   rw [hr] at ho
   exact ⟨0,⟨#[]⟩,none,0,0,ho,hb,rfl,rfl,rfl,rfl,rfl⟩
  | ok nd q =>
   obtain ⟨k,sx,kids⟩:=nd
   rw [hr] at ho
   simp only at ho ⊢
   by_cases hq:q < l.length
   ·rw [if_pos hq] at ho ⊢
    exact ⟨0,⟨#[]⟩,none,0,0,ho,hb,rfl,rfl,rfl,rfl,rfl⟩
   ·rw [if_neg hq] at ho ⊢
    by_cases h0:chkT (.mk k sx kids)=0
    ·rw [if_pos h0] at ho ⊢
     obtain ⟨va,vc,he,hn⟩:=ho
     exact ⟨k,sx,va,kids.length,vc,he,hb,hn⟩
    ·rw [if_neg h0] at ho ⊢
     exact ⟨0,⟨#[]⟩,none,0,0,ho,hb,rfl,rfl,rfl,rfl,rfl⟩
theorem gr_text (E:PE) (w:World) (hs:SaneT E.ts) (h:PS E 0 w):Calls Tryz.prog 93 #[.pointer (some ⟨E.pb,0,none⟩)] w (Gr E w (Sx.whole E.ts (Sx.fuel E.ts) 1)):=by
 have:=text_walk E hs 0 w h (Sx.fuel E.ts) (by unfold Sx.fuel;omega)
 have e:Sx.whole E.ts (Sx.fuel E.ts) 1=appR 1 Sx.noS (Sx.items E.ts (Sx.fuel E.ts) [] 0):=by
  unfold Sx.whole
  rw [if_neg (by decide),if_neg (by decide),if_neg (by decide)]
  cases Sx.items E.ts (Sx.fuel E.ts) [] 0 <;> rfl
 rw [e]
 exact this
theorem gr_form (E:PE) (w:World) (hs:SaneT E.ts) (h:PS E 0 w):Calls Tryz.prog 95 #[.pointer (some ⟨E.pb,0,none⟩)] w (Gr E w (Sx.whole E.ts (Sx.fuel E.ts) 18)):=by
 have:=form_any E hs (Sx.fuel E.ts) 0 w h (by unfold Sx.fuel;omega)
 unfold Sx.whole
 rw [if_pos rfl]
 exact this
theorem ret_node3 {W:World} {b:Nat} {v0 v1 v2:Value} {fn:Func} {t u u':Nat} {a:Act} {R:Ending→World→Prop} {v v':Value} (h:Row3 W b v0 v1 v2) (hr:fn.results=#[ResultVar.cell t 24,ResultVar.tmp u,ResultVar.tmp u']) (hv:(a.tmps[u]?).getD undef=v) (hv':(a.tmps[u']?).getD undef=v') (hd:a.defers=[]) (ha:(a.tmps[t]?).getD undef = .pointer (some ⟨b,0,none⟩))
  (hR:R (.returned (.tuple #[.agg #[v0,v1,v2],v,v'])) W):bodyPost Tryz.prog fn R .ret a W:=by
 obtain ⟨⟨c0,c1,c2⟩,_⟩:=h.cells
 exact bodyPost_ret (v:=.tuple #[.agg #[v0,v1,v2],v,v']) (by simp [results,hr,go_sem,ha,hv,hv',c0,c1,c2]) hd hR
set_option maxRecDepth 100000 in
set_option maxHeartbeats 1000000 in
theorem Parse_any (s:ByteArray) (w:World) (hw:2≤w.heap.size) (gl:GLw w) (hs:s.size≤maxLen) :
  Calls Tryz.prog 39 #[.string s] w (ParseR (parseP (bs s) 1) w):=by
 have eg:∀ args w,(callFunc 93 args).run Tryz.prog w = .ok (.enter 93 args) w:=enters_of Tryz.func93 (by kernel_rfl) rfl
 have hb0:=(Below.refl w.heap.size w).alloc (Nat.le_refl _) (.cells #[.int .i64 0,.string ⟨#[]⟩,.slice none 0 0] 24)
 have C:=qh (parse_one s 1 (w.alloc (.cells #[.int .i64 0,.string ⟨#[]⟩,.slice none 0 0] 24)) (by simp;omega) (gl.keep fun b hb1 hb2=>hb0.block b hb2) hs _ eg (fun E w hs h=>gr_text E w hs h))
 obtain ⟨r,hr⟩:∃ r,parseP (bs s) 1=r:=⟨_,rfl⟩
 rw [hr] at C ⊢
 obtain ⟨r0,at0,er⟩:=r
 have HB:=qh hb0
 have R1:=qh (Row3.new w (.int .i64 0) (.string ⟨#[]⟩) (.slice none 0 0))
 unfold F_ at C
 clear hr hb0 eg gl hw
 go_enter Tryz.func39,Tryz.ntmps39
 go_wp2_with fail
 refine C.out.mono ?_
 rintro e w1 ⟨k,sx,a,n,c,rfl,hb,hn⟩
 have R2:=qh (R1.out.below hb R1.out.lt)
 have HB1:=qh hb
 have HN:=qh hn
 clear hb hn C
 obtain ⟨⟨n0,n1,n2⟩,m0,m1,m2⟩:=R2.out.cells
 go_wp2
 refine ret_node3 (Row3.put R2.out _ _ _) rfl rfl rfl rfl rfl ⟨k,sx,a,n,c,rfl,?_,?_⟩
 ·exact (((HB.out.trans (HB1.out.mono (by simp))).setCell (p:=⟨w.heap.size,0,none⟩) (Nat.le_refl _) _).setCell (p:=⟨w.heap.size,1,none⟩) (Nat.le_refl _) _).setCell (p:=⟨w.heap.size,2,none⟩) (Nat.le_refl _) _
 ·have h:=HN.out
  cases r0 with
  | none=>exact h
  | some t=>exact NdS.keep (fun b hb1 hb2=>⟨(Below.heap_setCell _ _ _ _ (by simp at hb1;simp only;omega)).trans ((Below.heap_setCell _ _ _ _ (by simp at hb1;simp only;omega)).trans (Below.heap_setCell _ _ _ _ (by simp at hb1;simp only;omega))),by simp at hb1;omega⟩) h
set_option maxRecDepth 100000 in
set_option maxHeartbeats 1000000 in
theorem ParseForm_any (s:ByteArray) (w:World) (hw:2≤w.heap.size) (gl:GLw w) (hs:s.size≤maxLen) :
  Calls Tryz.prog 41 #[.string s] w (ParseR (parseP (bs s) 18) w):=by
 have eg:∀ args w,(callFunc 95 args).run Tryz.prog w = .ok (.enter 95 args) w:=enters_of Tryz.func95 (by kernel_rfl) rfl
 have hb0:=(Below.refl w.heap.size w).alloc (Nat.le_refl _) (.cells #[.int .i64 0,.string ⟨#[]⟩,.slice none 0 0] 24)
 have C:=qh (parse_one s 18 (w.alloc (.cells #[.int .i64 0,.string ⟨#[]⟩,.slice none 0 0] 24)) (by simp;omega) (gl.keep fun b hb1 hb2=>hb0.block b hb2) hs _ eg (fun E w hs h=>gr_form E w hs h))
 obtain ⟨r,hr⟩:∃ r,parseP (bs s) 18=r:=⟨_,rfl⟩
 rw [hr] at C ⊢
 obtain ⟨r0,at0,er⟩:=r
 have HB:=qh hb0
 have R1:=qh (Row3.new w (.int .i64 0) (.string ⟨#[]⟩) (.slice none 0 0))
 unfold F_ at C
 clear hr hb0 eg gl hw
 go_enter Tryz.func41,Tryz.ntmps41
 go_wp2_with fail
 refine C.out.mono ?_
 rintro e w1 ⟨k,sx,a,n,c,rfl,hb,hn⟩
 have R2:=qh (R1.out.below hb R1.out.lt)
 have HB1:=qh hb
 have HN:=qh hn
 clear hb hn C
 obtain ⟨⟨n0,n1,n2⟩,m0,m1,m2⟩:=R2.out.cells
 go_wp2
 refine ret_node3 (Row3.put R2.out _ _ _) rfl rfl rfl rfl rfl ⟨k,sx,a,n,c,rfl,?_,?_⟩
 ·exact (((HB.out.trans (HB1.out.mono (by simp))).setCell (p:=⟨w.heap.size,0,none⟩) (Nat.le_refl _) _).setCell (p:=⟨w.heap.size,1,none⟩) (Nat.le_refl _) _).setCell (p:=⟨w.heap.size,2,none⟩) (Nat.le_refl _) _
 ·have h:=HN.out
  cases r0 with
  | none=>exact h
  | some t=>exact NdS.keep (fun b hb1 hb2=>⟨(Below.heap_setCell _ _ _ _ (by simp at hb1;simp only;omega)).trans ((Below.heap_setCell _ _ _ _ (by simp at hb1;simp only;omega)).trans (Below.heap_setCell _ _ _ _ (by simp at hb1;simp only;omega))),by simp at hb1;omega⟩) h
end Go.Proofs.YtcimcjmdkjajfaaGreatDoor
namespace Go.Proofs.YtcimcjmdkjajfaaGreatDoor
open Go.RowKit Go.Shelf
theorem ownsRow_kind {w:World} {base e size n:Nat} {v:Value} {xs:List Value} (h:w.ownsRow base e size v n xs):∀ g,v.ownBlock=some g→∃ c fz,w.heap[g]?=some (.cells c e fz):=by
 intro g hg
 rcases h.2 with ⟨rfl,_⟩ | ⟨g',cap,cur,rfl,hb,hh,_⟩
 ·simp [Value.ownBlock] at hg
 ·obtain rfl:g'=g:=by simpa [Value.ownBlock] using hg
  exact ⟨_,_,hh⟩
theorem sizeBuilder:(Tryz.prog.info? 150).map (·.size)=some 2:=by kernel_rfl
theorem infoByte:(Tryz.prog.info? 5).map (fun i=>(i.zero,i.size,i.bytes))=some (some (.int .u8 0),1,1):=by kernel_rfl
theorem liesPrinter:liesAt Tryz.prog Tryz.prog.depth 152 (2 / Tryz.prog.cellsOf 152) 0 150 1=true:=by kernel_rfl
set_option maxHeartbeats 1000000 in
set_option maxRecDepth 100000 in
theorem pCopyCheck_used (b:Nat) (w:World) (h0:w.cell? ⟨b,0,none⟩=some (.pointer (some ⟨b,0,none⟩))) :
  Calls Tryz.prog 204 #[.pointer (some ⟨b,0,none⟩)] w fun e w'=>e = .returned (.tuple #[])∧w'=w:=by
 obtain ⟨j,hj,_⟩:=Option.map_eq_some_iff.1 sizeBuilder
 go_enter Tryz.func204,Tryz.ntmps204
 go_wp2
 rw [Lib.run_neq_ptr_same w _ Tryz.underlying147 hj]
 go_wp2
 go_end0
 exact ⟨rfl,rfl⟩
set_option maxHeartbeats 1000000 in
set_option maxRecDepth 100000 in
theorem pCopyCheck_fresh (b:Nat) (w:World) (h0:w.cell? ⟨b,0,none⟩=some (.pointer none)) (hsh:w.shape? b=some (152,2)) (hfz:w.frozen? ⟨b,0,none⟩=false) :
  Calls Tryz.prog 204 #[.pointer (some ⟨b,0,none⟩)] w fun e w'=>e = .returned (.tuple #[])∧w'=w.setCell ⟨b,0,none⟩ (.pointer (some ⟨b,0,none⟩)):=by
 obtain ⟨j,hj,hjs⟩:=Option.map_eq_some_iff.1 sizeBuilder
 go_enter Tryz.func204,Tryz.ntmps204
 go_wp2
 rw [Lib.run_to_unsafe w ⟨b,0,none⟩ Tryz.underlying147 Tryz.underlying209 hj (by rw [hjs];decide) hsh (Nat.zero_lt_succ 1)]
 simp only [Result.andThen]
 rw [Oper.upon_value]
 go_wp2
 rw [run_callFunc_extern Tryz.func234 (by kernel_rfl) (by kernel_rfl) (by kernel_rfl) (e:=Extern.AbiNoEscape.same) (by kernel_rfl)]
 rw [Lib.run_noEscape]
 simp only [Result.andThen]
 rw [Oper.upon_value]
 go_wp2
 rw [Lib.run_from_unsafe w ⟨b,0,none⟩ Tryz.underlying209 Tryz.underlying147 hj hsh liesPrinter]
 simp only [Result.andThen]
 rw [Oper.upon_value]
 go_wp2
 go_end0
 exact ⟨rfl,rfl⟩
theorem pCopyCheck_any (B b:Nat) (bs:List Value) (w:World) (h:Lib.IsBuilder 152 5 B b bs w) :
  Calls Tryz.prog 204 #[.pointer (some ⟨b,0,none⟩)] w fun e w'=>e = .returned (.tuple #[])∧(Lib.BuilderAt 152 5 B b (.pointer (some ⟨b,0,none⟩)) bs w'∧Below B w w'∧Lib.OthersKept 5 (some b) w w'):=by
 rcases h with h | h
 ·refine (pCopyCheck_fresh b w h.cell0 h.shape h.frozen0).mono ?_
  rintro e w' ⟨rfl,rfl⟩
  exact ⟨rfl,h.used _,(Below.refl B w).setCell (p:=⟨b,0,none⟩) h.1 _,(Lib.OthersKept.refl _ _ w).setCell ⟨b,0,none⟩ rfl _⟩
 ·refine (pCopyCheck_used b w h.cell0).mono ?_
  rintro e w' ⟨rfl,rfl⟩
  exact ⟨rfl,h,Below.refl B _,Lib.OthersKept.refl _ _ _⟩
set_option maxHeartbeats 2000000 in
set_option maxRecDepth 100000 in
theorem pWriteString_any (B b:Nat) (bs:List Value) (s:ByteArray) (w:World) (h:Lib.IsBuilder 152 5 B b bs w) (hlen:bs.length+s.size≤140737488355328) (hBw:B≤w.heap.size) :
  Calls Tryz.prog 155 #[.pointer (some ⟨b,0,none⟩),.string s] w fun e w'=>e = .returned (.tuple #[.int .i64 s.size,.nilIface])∧(Lib.BuilderAt 152 5 B b (.pointer (some ⟨b,0,none⟩)) (bs++Lib.strCells s) w'∧Below B w w'∧Lib.OthersKept 5 (some b) w w'):=by
 obtain ⟨i0,hi,hz0,hz1,hz2⟩:=info_parts infoByte
 go_enter Tryz.func155,Tryz.ntmps155
 go_wp2_with fail
 refine (pCopyCheck_any B b bs _ h).mono ?_
 rintro e w1 ⟨rfl,h1,hb1,hk1⟩
 obtain ⟨hB,v,hbk,hown,hne⟩:=h1
 have c0:w1.cell? ⟨b,0,none⟩=some (.pointer (some ⟨b,0,none⟩)):=by rw [Lib.cell_of_heap hbk];rfl
 have c1:w1.cell? ⟨b,1,none⟩=some v:=by rw [Lib.cell_of_heap hbk];rfl
 go_wp2_with (at_builtin;refine Lib.wpList_append_own_string _ rfl _ _ 148 9 rfl B 5 i0 Tryz.underlying148 Tryz.underlying9 hi hz0 hz1 hz2 _ _ _ rfl hown s rfl ?c3 ?c4 ?c5 ?_)
 case c3=>unfold maxLen;omega
 case c4=>omega
 case c5=>have:=hb1.size;omega
 intro v' w2 hown' hgrow _
 have hlt:b < w1.heap.size:=by
  rcases Nat.lt_or_ge b w1.heap.size with h' | h'
  ·exact h'
  ·simp [Array.getElem?_eq_none h'] at hbk
 have hb2:w2.heap[b]?=some (.cells #[.pointer (some ⟨b,0,none⟩),v] 152 (0,0)):=by
  rw [hgrow.block b hlt (fun e=>hne e.symm)]
  exact hbk
 have d0:w2.cell? ⟨b,0,none⟩=some (.pointer (some ⟨b,0,none⟩)):=by rw [Lib.cell_of_heap hb2];rfl
 have d1:w2.cell? ⟨b,1,none⟩=some v:=by rw [Lib.cell_of_heap hb2];rfl
 have f1:w2.frozen? ⟨b,1,none⟩=false:=Lib.frozen_of_heap hb2 1
 obtain ⟨ao,n',cap,rfl⟩:∃ ao n' cap,v' = .slice ao n' cap:=by
  rcases hown'.2 with ⟨hv,_⟩ | ⟨g,cap,cur,hv,_⟩
  ·exact ⟨_,_,_,hv⟩
  ·exact ⟨_,_,_,hv⟩
 go_wp2
 go_ret2
 refine ⟨rfl,?_,?_,(hk1.grown hgrow (ownsRow_kind hown)).setCell ⟨b,1,none⟩ rfl _⟩
 ·exact Lib.BuilderAt.put (T:=152) (e:=5) hB hb2 (bs':=bs++Lib.strCells s) (by simpa [Lib.strCells_length] using hown') (by decide)
 ·exact (hb1.grown hgrow (by have:=hb1.size;omega) (fun k hk=>(hown.lt k hk).1)).setCell (p:=⟨b,1,none⟩) hB _
structure Wr (B b:Nat) (w w':World):Prop where
 bl:Below B w w'
 kp:Lib.OthersKept 5 (some b) w w'
theorem Wr.refl (B b:Nat) (w:World):Wr B b w w:=⟨Below.refl _ _,Lib.OthersKept.refl _ _ _⟩
theorem Wr.trans {B b:Nat} {w w1 w2:World} (h:Wr B b w w1) (h2:Wr B b w1 w2):Wr B b w w2:=⟨h.bl.trans h2.bl,fun k o e1 e2 e3=>h2.kp k o (h.kp k o e1 e2 e3) e2 e3⟩
theorem Wr.alloc {B b:Nat} {w w1:World} (h:Wr B b w w1) (hB:B≤w1.heap.size) (o:Obj):Wr B b w (w1.alloc o):=⟨h.bl.alloc hB o,h.kp.alloc o⟩
def PrW (B b:Nat) (l:List UInt8) (w:World):Prop:=Lib.IsBuilder 152 5 B b (Lib.byteCells l) w
theorem PrW.alloc {B b:Nat} {l:List UInt8} {w:World} (h:PrW B b l w) (o:Obj):PrW B b l (w.alloc o):=by
 rcases h with ⟨h1,v,h2,h3,h4⟩ | ⟨h1,v,h2,h3,h4⟩
 ·exact .inl ⟨h1,v,(Below.heap_alloc _ _ _ (heap_lt h2)).trans h2,ownsRow_blocks h3 fun k _ hk _=>Below.heap_alloc _ _ _ hk,h4⟩
 ·exact .inr ⟨h1,v,(Below.heap_alloc _ _ _ (heap_lt h2)).trans h2,ownsRow_blocks h3 fun k _ hk _=>Below.heap_alloc _ _ _ hk,h4⟩
theorem PrW.lt {B b:Nat} {l:List UInt8} {w:World} (h:PrW B b l w):b < w.heap.size:=by
 rcases h with ⟨h1,v,h2,h3,h4⟩ | ⟨h1,v,h2,h3,h4⟩ <;> exact heap_lt h2
theorem Wr.row3 {B b:Nat} {w w':World} (h:Wr B b w w') {X:Nat} {v0 v1 v2:Value} (r:Row3 w X v0 v1 v2) (hX:X≠b):Row3 w' X v0 v1 v2 :=
 h.kp X _ r (fun e=>hX (Option.some.inj e)) (fun c fz e=>absurd (Obj.cells.inj e).2.1 (by decide))
theorem byteCellsP_append (a b:List UInt8):Lib.byteCells (a++b)=Lib.byteCells a++Lib.byteCells b:=by simp [Lib.byteCells]
theorem byteCellsP_len (a:List UInt8):(Lib.byteCells a).length=a.length:=by simp [Lib.byteCells]
theorem pWrite (B b:Nat) (l:List UInt8) (s:ByteArray) (w:World) (h:PrW B b l w) (hlen:l.length+s.size≤140737488355328) (hBw:B≤w.heap.size) :
  Calls Tryz.prog 155 #[.pointer (some ⟨b,0,none⟩),.string s] w fun e w'=>e = .returned (.tuple #[.int .i64 s.size,.nilIface])∧PrW B b (l++bs s) w'∧Wr B b w w':=by
 refine (pWriteString_any B b _ s w h (by rw [byteCellsP_len];exact hlen) hBw).mono ?_
 rintro e w' ⟨rfl,h1,h2,h3⟩
 refine ⟨rfl,?_,⟨h2,h3⟩⟩
 unfold PrW
 rw [byteCellsP_append]
 exact .inr h1
def wordsOf (L:List ByteArray):List UInt8:=L.flatMap bs
theorem wordsOf_take {L:List ByteArray} {i:Nat} (h:i < L.length):wordsOf (L.take (i+1))=wordsOf (L.take i)++bs L[i]:=by
 unfold wordsOf
 rw [List.take_succ_eq_append_getElem h,List.flatMap_append]
 simp
set_option maxHeartbeats 1000000 in
set_option maxRecDepth 100000 in
theorem put_any (B b c:Nat) (l:List UInt8) (L:List ByteArray) (n cap:Nat) (w:World) (h:PrW B b l w) (hBw:B≤w.heap.size) (hn:n=L.length) (hL:L.length≤1000) (hlen:l.length+(wordsOf L).length≤100000000) (hcb:c≠b)
  (hc:w.heap[c]?=some (.cells (L.map Value.string).toArray 9 (0,0))) :
  Calls Tryz.prog 194 #[.pointer (some ⟨b,0,none⟩),.slice (some ⟨c,0,none⟩) n cap] w fun e w'=>e = .returned (.tuple #[])∧PrW B b (l++wordsOf L) w'∧Wr B b w w':=by
 subst hn
 have HC:=qh hc
 have HLN:=qh hlen
 clear hc hlen
 go_enter Tryz.func194,Tryz.ntmps194
 go_wp2
 go_loopw [8] (fun v wr=>∃ i:Nat,i≤L.length∧v = .int .i64 i∧Hid (PrW B b (l++wordsOf (L.take i)) wr)∧Hid (Wr B b w wr)) (fun v _=>L.length - (intOf v).toNat)
 case atStart=>exact ⟨0,Nat.zero_le _,rfl,qh (by rw [List.take_zero];simpa [wordsOf] using h),Wr.refl _ _ _⟩
 case round =>
  obtain ⟨i,hi,rfl,hP,hW⟩:=hrel
  by_cases hlt:i < L.length
  ·have hlt':(i:Int) < (L.length:Int):=by omega
   have hi0:(0:Int)≤(i:Int):=by omega
   have hrow:wr.heap[c]?=some (.cells (L.map Value.string).toArray 9 (0,0)):=hW.out.kp c _ HC.out (fun e=>hcb (Option.some.inj e)) (fun _ _ e=>absurd (Obj.cells.inj e).2.1 (by decide))
   have x0:wr.cell? ⟨c,i,none⟩=some (.string L[i]):=by
    rw [cell_of_row _ _ _ _ _ _ hrow]
    simp [hlt]
   have hsz:(l++wordsOf (L.take i)).length+(L[i]).size≤140737488355328:=by
    have h1:=HLN.out
    have h2:(wordsOf (L.take (i+1))).length≤(wordsOf L).length:=by
     conv=>rhs;rw [←List.take_append_drop (i+1) L]
     unfold wordsOf
     rw [List.flatMap_append,List.length_append]
     omega
    rw [wordsOf_take hlt,List.length_append,bs_len] at h2
    rw [List.length_append]
    omega
   have C:=qh (pWrite B b _ L[i] wr hP.out hsz (Nat.le_trans hBw hW.out.bl.size))
   have HT:=qh (wordsOf_take hlt)
   clear hsz hrow
   go_wp2_with fail
   refine C.out.mono ?_
   rintro e w5 ⟨rfl,hp5,hw5⟩
   have P5:Hid (PrW B b (l++wordsOf (L.take (i+1))) w5):=qh (by rw [HT.out,←List.append_assoc];exact hp5)
   have W5:=qh (hW.out.trans hw5)
   clear hp5 hw5 C x0
   go_wp2
   go_roundw
   case rel=>exact ⟨i+1,hlt,by push_cast;rfl,P5,W5⟩
   case measure=>simp [intOf];omega
  ·have hlt':¬ ((i:Int) < (L.length:Int)):=by omega
   go_wp2
   go_end0
   refine ⟨rfl,?_,hW.out⟩
   have:=hP.out
   rwa [List.take_of_length_le (by omega)] at this
end Go.Proofs.YtcimcjmdkjajfaaGreatDoor
namespace Go.Proofs.YtcimcjmdkjajfaaGreatDoor
open Go.RowKit
theorem runOpsG {w:World} (h:GLw w):(loadVar 184 ⟨1,0,none⟩).run Tryz.prog w = .ok (.agg opsArr) w:=by
 obtain ⟨t,fr,h1⟩:=h.g1
 exact run_loadVar_row w 1 t _ opsArr fr _ h1 Tryz.underlying184 rfl (by kernel_rfl)
def findO (k:Int):List (List UInt8×Int)→List UInt8
 | []=>[]
 | o :: l=>if o.2=k then o.1 else findO k l
theorem findO_step {k:Int} {i:Nat} {s:List UInt8} {c:Int} (h:openL[i]?=some (s,c)):findO k (openL.drop i)=if c=k then s else findO k (openL.drop (i+1)):=by
 have hi:i < openL.length:=(List.getElem?_eq_some_iff.1 h).1
 rw [List.drop_eq_getElem_cons hi,(List.getElem?_eq_some_iff.1 h).2]
 rfl
def opensW (k:Int):List UInt8:=findO k openL
def findP (k:Int):List (List UInt8×Int×Nat)→Option (List UInt8×Nat)
 | []=>none
 | o :: l=>if o.2.1=k then some (o.1,o.2.2) else findP k l
theorem findP_step {k:Int} {i:Nat} {s:List UInt8} {c:Int} {b:Nat} (h:opsL[i]?=some (s,c,b)):findP k (opsL.drop i)=if c=k then some (s,b) else findP k (opsL.drop (i+1)):=by
 have hi:i < opsL.length:=(List.getElem?_eq_some_iff.1 h).1
 rw [List.drop_eq_getElem_cons hi,(List.getElem?_eq_some_iff.1 h).2]
 rfl
def opOf (k:Int):Option (List UInt8×Nat):=findP k opsL
def opRes (k:Int):Option (List UInt8×Nat)→Value
 | some (s,b)=>.tuple #[.agg #[S_ s,.int .i64 k,.int .i64 (b:Nat)],.bool true]
 | none=>.tuple #[.agg #[.string ⟨#[]⟩,.int .i64 0,.int .i64 0],.bool false]
set_option maxRecDepth 100000 in
set_option maxHeartbeats 1000000 in
theorem opens_any (k:Int) (s:ByteArray) (a:Option Addr) (n cap:Nat) (w:World) (h:GLw w) (_h2:2≤w.heap.size) :
  Calls Tryz.prog 226 #[.agg #[.int .i64 k,.string s,.slice a n cap]] w fun e w'=>e = .returned (S_ (opensW k))∧Below w.heap.size w w':=by
 have hb0:=(Below.refl w.heap.size w).alloc (Nat.le_refl _) (.cells #[.int .i64 k,.string s,.slice a n cap] 24)
 have hl:=runOpen (h.keep fun b hb hl=>hb0.block b hl)
 have R0:=qh (Row3.new w (.int .i64 k) (.string s) (.slice a n cap))
 obtain ⟨V,hV⟩:∃ V,opensW k=V:=⟨_,rfl⟩
 rw [hV]
 have HV:=qh hV
 have HB:=qh hb0
 have Hl:=qh hl
 clear h hl hV hb0
 go_enter Tryz.func226,Tryz.ntmps226
 go_wp2_with (refine wpList_load_glob rfl _ _ rfl Hl.out ?_)
 obtain ⟨W,hW⟩:∃ W,w.alloc (.cells #[.int .i64 k,.string s,.slice a n cap] 24)=W:=⟨_,rfl⟩
 rw [hW] at R0 HB
 rw [hW]
 clear hW Hl
 go_loopw [6] (fun v6 wr=>∃ i:Nat,i≤20∧v6 = .int .i64 i∧Hid (findO k (openL.drop i)=V)∧Hid (Below W.heap.size W wr)) (fun v6 _=>20 - (intOf v6).toNat)
 case atStart=>exact ⟨0,Nat.zero_le _,rfl,HV,Below.refl _ _⟩
 case round =>
  obtain ⟨i,hi,rfl,hrun,hbl⟩:=hrel
  by_cases hlt:i < 20
  ·have hlt':(i:Int) < 20:=by omega
   obtain ⟨t,c,hget,hidx⟩:=indexOpen i hlt wr
   have Hidx:=qh hidx
   have Hst:=qh (findO_step (k:=k) hget)
   have hm1:(i:Int)+1≤20:=by omega
   have R1:=qh (R0.out.below hbl.out R0.out.lt)
   have R2:=qh (R1.out.alloc (.cells #[S_ t,.int .i64 c] 180))
   obtain ⟨⟨n0,n1,n2⟩,_⟩:=R2.out.cells
   clear hidx hget
   by_cases hs:c=k
   ·have HF:=qh (hrun.out.symm.trans (Hst.out.trans (if_pos hs)))
    have hs':((c:Int)==k)=true:=by rw [beq_iff_eq];exact hs
    clear hs
    unfold S_ at Hidx n0 n1 n2
    go_wp2_with (refine wpList_index_run rfl _ _ _ rfl rfl rfl Hidx.out ?_)
    go_ret
    exact ⟨by rw [HF.out];rfl,HB.out.trans ((hbl.out.alloc hbl.out.size _).mono (by have:=R0.out.lt;omega))⟩
   ·have HF:=qh ((Hst.out.trans (if_neg hs)).symm.trans hrun.out)
    have hs':((c:Int)==k)=false:=by rw [beq_eq_false_iff_ne];exact hs
    clear hs
    unfold S_ at Hidx n0 n1 n2
    go_wp2_with (refine wpList_index_run rfl _ _ _ rfl rfl rfl Hidx.out ?_)
    go_roundw
    case rel=>exact ⟨i+1,hlt,by push_cast;rfl,HF,hbl.out.alloc hbl.out.size _⟩
    case measure=>simp [intOf];omega
  ·have hlt':¬ ((i:Int) < 20):=by omega
   obtain rfl:i=20:=by omega
   have HF:Hid ([]=V):=qh hrun.out
   go_wp2
   go_ret
   exact ⟨by rw [←HF.out];rfl,HB.out.trans (hbl.out.mono (by have:=R0.out.lt;omega))⟩
def RowO (W:World) (b:Nat) (v0 v1 v2:Value):Prop:=W.heap[b]?=some (.cells #[v0,v1,v2] 183 (0,0))
section
variable {W:World} {b:Nat} {v0 v1 v2:Value}
theorem RowO.cells (h:RowO W b v0 v1 v2):(W.cell? ⟨b,0,none⟩=some v0∧W.cell? ⟨b,1,none⟩=some v1∧W.cell? ⟨b,2,none⟩=some v2)∧W.frozen? ⟨b,0,none⟩=false∧W.frozen? ⟨b,1,none⟩=false∧W.frozen? ⟨b,2,none⟩=false:=by
 have h0:W.heap[b]?=some (.cells #[v0,v1,v2] 183 (0,0)):=h
 exact ⟨⟨cell_of_row _ _ _ _ _ _ h0,cell_of_row _ _ _ _ _ _ h0,cell_of_row _ _ _ _ _ _ h0⟩,by simp [World.frozen?,h0],by simp [World.frozen?,h0],by simp [World.frozen?,h0]⟩
theorem RowO.lt (h:RowO W b v0 v1 v2):b < W.heap.size:=heap_lt h
theorem RowO.alloc (h:RowO W b v0 v1 v2) (o:Obj):RowO (W.alloc o) b v0 v1 v2:=(Below.heap_alloc _ _ _ h.lt).trans h
theorem RowO.below {W':World} {n:Nat} (h:RowO W b v0 v1 v2) (hb:Below n W W') (hn:b < n):RowO W' b v0 v1 v2:=(hb.block b hn).trans h
theorem RowO.put (h:RowO W b v0 v1 v2) (u0 u1 u2:Value):RowO (((W.setCell ⟨b,0,none⟩ u0).setCell ⟨b,1,none⟩ u1).setCell ⟨b,2,none⟩ u2) b u0 u1 u2:=by
 have h0:W.heap[b]?=some (.cells #[v0,v1,v2] 183 (0,0)):=h
 exact (setCell_row (setCell_row (setCell_row h0))).trans rfl
theorem ret_op2 {fn:Func} {t u:Nat} {a:Act} {R:Ending→World→Prop} {v:Value} (h:RowO W b v0 v1 v2) (hr:fn.results=#[ResultVar.cell t 183,ResultVar.tmp u]) (hv:(a.tmps[u]?).getD undef=v) (hd:a.defers=[]) (ha:(a.tmps[t]?).getD undef = .pointer (some ⟨b,0,none⟩))
  (hR:R (.returned (.tuple #[.agg #[v0,v1,v2],v])) W):bodyPost Tryz.prog fn R .ret a W:=by
 obtain ⟨⟨c0,c1,c2⟩,_⟩:=h.cells
 exact bodyPost_ret (v:=.tuple #[.agg #[v0,v1,v2],v]) (by simp [results,hr,go_sem,ha,hv,c0,c1,c2]) hd hR
end
set_option maxRecDepth 100000 in
set_option maxHeartbeats 1000000 in
theorem operatorOf_any (k:Int) (s:ByteArray) (a:Option Addr) (n cap:Nat) (w:World) (h:GLw w) (_h2:2≤w.heap.size) :
  Calls Tryz.prog 228 #[.agg #[.int .i64 k,.string s,.slice a n cap]] w fun e w'=>e = .returned (opRes k (opOf k))∧Below w.heap.size w w':=by
 obtain ⟨W,hW⟩:∃ W,(w.alloc (.cells #[.int .i64 k,.string s,.slice a n cap] 24)).alloc (.cells #[.string ⟨#[]⟩,.int .i64 0,.int .i64 0] 183)=W:=⟨_,rfl⟩
 have hb0:=((Below.refl w.heap.size w).alloc (Nat.le_refl _) (.cells #[.int .i64 k,.string s,.slice a n cap] 24)).alloc (by simp) (.cells #[.string ⟨#[]⟩,.int .i64 0,.int .i64 0] 183)
 have hl:=runOpsG (h.keep fun b hb hl=>hb0.block b hl)
 have R0:=qh ((Row3.new w (.int .i64 k) (.string s) (.slice a n cap)).alloc (.cells #[.string ⟨#[]⟩,.int .i64 0,.int .i64 0] 183))
 have O0:Hid (RowO W (w.heap.size+1) (.string ⟨#[]⟩) (.int .i64 0) (.int .i64 0)):=qh (by rw [←hW];exact alloc_at (by simp))
 obtain ⟨V,hV⟩:∃ V,opOf k=V:=⟨_,rfl⟩
 rw [hV]
 have HV:=qh hV
 have HB:=qh hb0
 have Hl:=qh hl
 have HW:=qh hW
 clear h hl hV hb0 hW
 go_enter Tryz.func228,Tryz.ntmps228
 go_wp2_with (refine wpList_load_glob rfl _ _ rfl Hl.out ?_)
 rw [HW.out] at R0 HB
 rw [HW.out]
 clear HW Hl
 go_loopw [7] (fun v6 wr=>∃ i:Nat,i≤8∧v6 = .int .i64 i∧Hid (findP k (opsL.drop i)=V)∧Hid (Below W.heap.size W wr)) (fun v6 _=>8 - (intOf v6).toNat)
 case atStart=>exact ⟨0,Nat.zero_le _,rfl,HV,Below.refl _ _⟩
 case round =>
  obtain ⟨i,hi,rfl,hrun,hbl⟩:=hrel
  have O1:=qh (O0.out.below hbl.out O0.out.lt)
  by_cases hlt:i < 8
  ·have hlt':(i:Int) < 8:=by omega
   obtain ⟨t,c,b,hget,hne,hidx⟩:=indexOps i hlt wr
   have Hidx:=qh hidx
   have Hst:=qh (findP_step (k:=k) hget)
   have hm1:(i:Int)+1≤8:=by omega
   have R1:=qh (R0.out.below hbl.out R0.out.lt)
   have R2:=qh (R1.out.alloc (.cells #[S_ t,.int .i64 c,.int .i64 (b:Nat)] 183))
   have O2:=qh (O1.out.alloc (.cells #[S_ t,.int .i64 c,.int .i64 (b:Nat)] 183))
   obtain ⟨⟨n0,n1,n2⟩,_⟩:=R2.out.cells
   obtain ⟨⟨o0,o1,o2⟩,p0,p1,p2⟩:=O2.out.cells
   clear hidx hget hne
   by_cases hs:c=k
   ·have HF:=qh (hrun.out.symm.trans (Hst.out.trans (if_pos hs)))
    have hs':((c:Int)==k)=true:=by rw [beq_iff_eq];exact hs
    have Hs:=qh hs
    clear hs
    unfold S_ at Hidx n0 n1 n2 O2 o0 o1 o2 p0 p1 p2
    go_wp2_with (refine wpList_index_run rfl _ _ _ rfl rfl rfl Hidx.out ?_)
    refine ret_op2 (O2.out.put _ _ _) Tryz.results228 rfl rfl rfl ?_
    exact ⟨by rw [HF.out,←Hs.out];rfl,below3 (HB.out.trans ((hbl.out.alloc hbl.out.size _).mono (by have:=R0.out.lt;omega))) (by omega) _ _ _⟩
   ·have HF:=qh ((Hst.out.trans (if_neg hs)).symm.trans hrun.out)
    have hs':((c:Int)==k)=false:=by rw [beq_eq_false_iff_ne];exact hs
    clear hs
    unfold S_ at Hidx n0 n1 n2 O2 o0 o1 o2 p0 p1 p2
    go_wp2_with (refine wpList_index_run rfl _ _ _ rfl rfl rfl Hidx.out ?_)
    go_roundw
    case rel=>exact ⟨i+1,hlt,by push_cast;rfl,HF,hbl.out.alloc hbl.out.size _⟩
    case measure=>simp [intOf];omega
  ·have hlt':¬ ((i:Int) < 8):=by omega
   obtain rfl:i=8:=by omega
   have HF:Hid (none=V):=qh hrun.out
   obtain ⟨⟨o0,o1,o2⟩,p0,p1,p2⟩:=O1.out.cells
   go_wp2
   refine ret_op2 (O1.out.put _ _ _) Tryz.results228 rfl rfl rfl ?_
   exact ⟨by rw [←HF.out];rfl,below3 (HB.out.trans (hbl.out.mono (by have:=R0.out.lt;omega))) (by omega) _ _ _⟩
end Go.Proofs.YtcimcjmdkjajfaaGreatDoor
namespace Go.Proofs.YtcimcjmdkjajfaaGreatDoor
open Go.RowKit
abbrev Tx:=List UInt8
theorem bs_mk (l:Tx):bs ⟨l.toArray⟩=l:=rfl
def parB (k:Int) (bind:Nat) (more:Bool):Bool:=(match opOf k with | some (_,b)=>decide (b < bind) | none=>false) || ((decide (k=18) || decide (k=19)) && more)
def txtF (k:Int) (f:Bool→Tx) (bind:Nat) (more:Bool):Tx:=if parB k bind more then 40 :: (f false++[41]) else f more
def kidF (l:List Nd) (ks:List (Bool→Tx)) (i bind:Nat) (more:Bool):Tx:=match l[i]?,ks[i]? with
 | some (.mk k _ _),some f=>txtF k f bind more
 | _,_=>[]
def argF (x:Nd) (f:Bool→Tx):Tx:=match x with | .mk k s l=>if k=17∨0 < l.length then 40 :: (f false++[41]) else bs s
def binderF (s:ByteArray) (l:List Nd) (ks:List (Bool→Tx)):Tx:=bs s++((if 1 < l.length then [58,32]++kidF l ks 0 6 false else [])++([46,32]++kidF l ks (l.length - 1) 0 false))
def opSign (k:Int):Tx:=match opOf k with | some (s,_)=>s | none=>[]
def opBind (k:Int):Nat:=match opOf k with | some (_,b)=>b | none=>0
def leftB (b:Nat):Nat:=if b=0 then 0 else b+1
def rightB (b:Nat):Nat:=if b=0 then 1 else b
def bareF (k:Int) (s:ByteArray) (l:List Nd) (ks:List (Bool→Tx)) (more:Bool):Tx :=
 if k=15∨k=16 then bs s++(l.zip ks).flatMap fun p=>32 :: argF p.1 p.2
 else if k=17 then opensW k++binderF s l ks
 else if k=18∨k=19 then (opensW k++[32])++binderF s l ks
 else if k=20∨k=21 then opensW k
 else if k=29 then opensW k++kidF l ks 0 5 more
 else if k=30 then opensW k++(kidF l ks 0 0 false++[125])
 else kidF l ks 0 (leftB (opBind k)) true++(([32]++(opSign k++[32]))++kidF l ks 1 (rightB (opBind k)) more)
mutual
def Nd.bare:Nd→Bool→Tx
 | .mk k s l=>fun more=>bareF k s l (Nd.bareL l) more
def Nd.bareL:List Nd→List (Bool→Tx)
 | []=>[]
 | a :: l=>Nd.bare a :: Nd.bareL l
end
theorem bareL_map:∀ l:List Nd,Nd.bareL l=l.map Nd.bare
 | []=>by simp only [Nd.bareL,List.map_nil]
 | a :: l=>by simp only [Nd.bareL,List.map_cons];rw [bareL_map l]
def Nd.kd:Nd→Int | .mk k _ _=>k
def Nd.txt (t:Nd) (bind:Nat) (more:Bool):Tx:=txtF t.kd t.bare bind more
def Nd.arg (t:Nd):Tx:=argF t t.bare
theorem kidF_at {l:List Nd} {i:Nat} (h:i < l.length) (bind:Nat) (more:Bool):kidF l (Nd.bareL l) i bind more=(l[i]).txt bind more:=by
 unfold kidF
 rw [bareL_map,List.getElem?_eq_getElem h,List.getElem?_map,List.getElem?_eq_getElem h]
 generalize l[i]=x
 cases x
 rfl
theorem zip_map_self:∀ l:List Nd,(l.zip (l.map Nd.bare)).flatMap (fun p=>32 :: argF p.1 p.2)=l.flatMap fun x=>32 :: x.arg
 | []=>rfl
 | a :: l=>by simp only [List.map_cons,List.zip_cons_cons,List.flatMap_cons];rw [zip_map_self l];rfl
theorem bare_name {k:Int} (h:k=15∨k=16) (s:ByteArray) (l:List Nd) (more:Bool):(Nd.mk k s l).bare more=bs s++l.flatMap fun x=>32 :: x.arg:=by
 simp only [Nd.bare,bareF]
 rw [if_pos h,bareL_map,zip_map_self]
def shapeB (k:Int) (n:Nat):Bool:=decide (k=15) || (decide (k=16) || ((decide (17≤k) && decide (k≤19) && (decide (n=1) || decide (n=2))) || (decide (k=20) || (decide (k=21) || (((decide (k=29) || decide (k=30)) && decide (1≤n)) || ((decide (22≤k) && decide (k≤28) || decide (k=31)) && decide (2≤n)))))))
mutual
def Nd.okP:Nd→Bool
 | .mk k s l=>shapeB k l.length && (decide (s.size≤64) && Nd.okL l)
def Nd.okL:List Nd→Bool
 | []=>true
 | a :: l=>a.okP && Nd.okL l
end
theorem okL_get:∀ {l:List Nd} (_:Nd.okL l=true) (i:Nat) (h:i < l.length),(l[i]).okP=true
 | a :: l,ho,0,_=>by simp only [Nd.okL,Bool.and_eq_true] at ho;exact ho.1
 | a :: l,ho,i+1,h=>by
  simp only [Nd.okL,Bool.and_eq_true] at ho
  simpa using okL_get ho.2 i (by simpa using h)
theorem PrW.later {B b:Nat} {l:List UInt8} {w w':World} (h:PrW B b l w) (hb:Below w.heap.size w w'):PrW B b l w':=by
 rcases h with ⟨h1,v,h2,h3,h4⟩ | ⟨h1,v,h2,h3,h4⟩
 ·exact .inl ⟨h1,v,(hb.block _ (heap_lt h2)).trans h2,ownsRow_blocks h3 fun k _ hk _=>hb.block _ hk,h4⟩
 ·exact .inr ⟨h1,v,(hb.block _ (heap_lt h2)).trans h2,ownsRow_blocks h3 fun k _ hk _=>hb.block _ hk,h4⟩
theorem Wr.of {B b:Nat} {w w':World} (hb:Below w.heap.size w w') (hB:B≤w.heap.size):Wr B b w w':=⟨hb.mono hB,fun k _ e1 _ _=>(hb.block k (heap_lt e1)).trans e1⟩
theorem Wr.later {B b:Nat} {w w1 w':World} (h:Wr B b w w1) (hb:Below w1.heap.size w1 w') (hB:B≤w1.heap.size):Wr B b w w':=h.trans (Wr.of hb hB)
theorem Wr.rowO {B b:Nat} {w w':World} (h:Wr B b w w') {X:Nat} {v0 v1 v2:Value} (r:RowO w X v0 v1 v2) (hX:X≠b):RowO w' X v0 v1 v2 :=
 h.kp X _ r (fun e=>hX (Option.some.inj e)) (fun c fz e=>absurd (Obj.cells.inj e).2.1 (by decide))
structure PrI (w0:World) (b:Nat) (l:Tx) (w:World):Prop where
 p:PrW w0.heap.size b l w
 bl:Below w0.heap.size w0 w
 gl:GLw w0
 two:2≤w0.heap.size
theorem PrI.size {w0:World} {b:Nat} {l:Tx} {w:World} (h:PrI w0 b l w):w0.heap.size≤w.heap.size:=h.bl.size
theorem PrI.alloc {w0:World} {b:Nat} {l:Tx} {w:World} (h:PrI w0 b l w) (o:Obj):PrI w0 b l (w.alloc o):=⟨h.p.alloc o,h.bl.alloc h.size o,h.gl,h.two⟩
theorem PrI.later {w0:World} {b:Nat} {l:Tx} {w w':World} (h:PrI w0 b l w) (hb:Below w.heap.size w w'):PrI w0 b l w':=⟨h.p.later hb,h.bl.trans (hb.mono h.size),h.gl,h.two⟩
theorem PrI.next {w0:World} {b:Nat} {l l':Tx} {w w':World} (h:PrI w0 b l w) (hp:PrW w0.heap.size b l' w') (hw:Wr w0.heap.size b w w'):PrI w0 b l' w':=⟨hp,h.bl.trans hw.bl,h.gl,h.two⟩
theorem PrI.glw {w0:World} {b:Nat} {l:Tx} {w:World} (h:PrI w0 b l w):GLw w:=h.gl.keep fun k _ hl=>h.bl.block k hl
theorem PrI.two' {w0:World} {b:Nat} {l:Tx} {w:World} (h:PrI w0 b l w):2≤w.heap.size:=Nat.le_trans h.two h.size
theorem PrI.tree {w0:World} {b:Nat} {l:Tx} {w:World} (h:PrI w0 b l w) {t:Nd} {v0 v1 v2:Value} (ht:NdR w0 t v0 v1 v2):NdR w t v0 v1 v2:=ht.later h.bl
theorem PrI.cell {w0:World} {b:Nat} {l:Tx} {w:World} (h:PrI w0 b l w) {p:Addr} {v:Value} (hc:w0.cell? p=some v):w.cell? p=some v:=(h.bl.cell (World.block_lt_of_cell? w0 p hc)).trans hc
def PrO (w0:World) (b:Nat) (l:Tx) (w:World) (T:Tx) (e:Ending) (w':World):Prop:=e = .returned (.tuple #[])∧PrI w0 b (l++T) w'∧Wr w0.heap.size b w w'
theorem putL {w0:World} {b:Nat} {l:Tx} {w:World} (h:PrI w0 b l w) (L:List ByteArray) (hL:L.length≤1000) (hlen:l.length+(wordsOf L).length≤100000000) :
  Calls Tryz.prog 194 #[.pointer (some ⟨b,0,none⟩),.slice (some ⟨w.heap.size,0,none⟩) L.length L.length] (w.alloc (.cells (L.map Value.string).toArray 9)) (PrO w0 b l w (wordsOf L)):=by
 refine (put_any w0.heap.size b w.heap.size l L L.length L.length _ (h.alloc _).p (h.alloc _).size rfl hL hlen (by have:=h.p.lt;omega) (World.alloc_heap_new w _)).mono ?_
 rintro e w' ⟨rfl,h1,h2⟩
 have hw:=((Wr.refl w0.heap.size b w).alloc h.size _).trans h2
 exact ⟨rfl,h.next h1 hw,hw⟩
theorem put1 {w0:World} {b:Nat} {l:Tx} {w:World} (h:PrI w0 b l w) (n:Nat) (hn:n=w.heap.size) (s:ByteArray) (hlen:l.length+(bs s).length≤100000000) :
  Calls Tryz.prog 194 #[.pointer (some ⟨b,0,none⟩),.slice (some ⟨n,0,none⟩) 1 1] (w.alloc (.cells #[.string s] 9)) (PrO w0 b l w (bs s)):=by
 subst hn
 have:=putL h [s] (by simp) (by simpa [wordsOf] using hlen)
 simpa [wordsOf] using this
theorem put2 {w0:World} {b:Nat} {l:Tx} {w:World} (h:PrI w0 b l w) (n:Nat) (hn:n=w.heap.size) (s t:ByteArray) (hlen:l.length+(bs s++bs t).length≤100000000) :
  Calls Tryz.prog 194 #[.pointer (some ⟨b,0,none⟩),.slice (some ⟨n,0,none⟩) 2 2] (w.alloc (.cells #[.string s,.string t] 9)) (PrO w0 b l w (bs s++bs t)):=by
 subst hn
 have:=putL h [s,t] (by simp) (by simpa [wordsOf] using hlen)
 simpa [wordsOf] using this
theorem put3 {w0:World} {b:Nat} {l:Tx} {w:World} (h:PrI w0 b l w) (n:Nat) (hn:n=w.heap.size) (s t u:ByteArray) (hlen:l.length+(bs s++(bs t++bs u)).length≤100000000) :
  Calls Tryz.prog 194 #[.pointer (some ⟨b,0,none⟩),.slice (some ⟨n,0,none⟩) 3 3] (w.alloc (.cells #[.string s,.string t,.string u] 9)) (PrO w0 b l w (bs s++(bs t++bs u))):=by
 subst hn
 have:=putL h [s,t,u] (by simp) (by simpa [wordsOf] using hlen)
 simpa [wordsOf] using this
def SaysB (w0:World) (b:Nat) (t:Nd):Prop:=∀ (v0 v1 v2:Value) (more:Bool) (l:Tx) (w:World),NdR w0 t v0 v1 v2→PrI w0 b l w→l.length+(t.bare more).length≤100000000 →
 Calls Tryz.prog 229 #[.pointer (some ⟨b,0,none⟩),.agg #[v0,v1,v2],.bool more] w (PrO w0 b l w (t.bare more))
def SaysT (w0:World) (b:Nat) (t:Nd):Prop:=∀ (v0 v1 v2:Value) (bind:Nat) (more:Bool) (l:Tx) (w:World),bind≤8→NdR w0 t v0 v1 v2→PrI w0 b l w→l.length+(t.txt bind more).length≤100000000 →
 Calls Tryz.prog 195 #[.pointer (some ⟨b,0,none⟩),.agg #[v0,v1,v2],.int .i64 bind,.bool more] w (PrO w0 b l w (t.txt bind more))
def SaysA (w0:World) (b:Nat) (t:Nd):Prop:=∀ (v0 v1 v2:Value) (l:Tx) (w:World),NdR w0 t v0 v1 v2→PrI w0 b l w→l.length+t.arg.length≤100000000 →
 Calls Tryz.prog 247 #[.pointer (some ⟨b,0,none⟩),.agg #[v0,v1,v2]] w (PrO w0 b l w t.arg)
end Go.Proofs.YtcimcjmdkjajfaaGreatDoor
namespace Go.Proofs.YtcimcjmdkjajfaaGreatDoor
open Go.RowKit
set_option maxRecDepth 100000 in
set_option maxHeartbeats 2000000 in
theorem argument_of {w0:World} {b:Nat} {t:Nd} (hb:SaysB w0 b t):SaysA w0 b t:=by
 intro v0 v1 v2 l w ht hp hlen
 obtain ⟨k,s,kl,a,cap,rfl,rfl,rfl,rfl,hs,hl⟩:=ht.form
 obtain ⟨W,hW⟩:∃ W,w.alloc (.cells #[.int .i64 k,.string s,.slice a kl.length cap] 24)=W:=⟨_,rfl⟩
 have R0':Row3 W w.heap.size (.int .i64 k) (.string s) (.slice a kl.length cap):=by rw [←hW];exact Row3.new _ _ _ _
 have P0:=qh (hW▸hp.alloc (.cells #[.int .i64 k,.string s,.slice a kl.length cap] 24))
 have K0:=qh (hW▸(Wr.refl w0.heap.size b w).alloc hp.size (.cells #[.int .i64 k,.string s,.slice a kl.length cap] 24))
 have hne:w.heap.size≠b:=by have:=hp.p.lt;omega
 have HW:=qh hW
 have R0:=qh R0'
 obtain ⟨⟨n0,n1,n2⟩,_⟩:=R0'.cells
 have HN:=qh ht
 have HL:=qh hlen
 unfold maxLen at hl
 obtain ⟨T,hT⟩:∃ T,(Nd.mk k s kl).arg=T:=⟨_,rfl⟩
 rw [hT] at HL
 rw [hT]
 have HT:=qh hT
 clear ht hlen hT hW R0' hp
 by_cases hc:k=17∨0 < kl.length
 ·have HE:Hid (T=40 :: ((Nd.mk k s kl).bare false++[41])):=qh (HT.out.symm.trans (if_pos hc))
  have hlen1:l.length+((Nd.mk k s kl).bare false).length+2≤100000000:=by
   have:=HL.out
   rw [HE.out] at this
   simp only [List.length_cons,List.length_append,List.length_nil] at this
   omega
  have C1:=qh (fun w' (h:PrI w0 b l w') n (hn:n=w'.heap.size)=>put1 h n hn ⟨#[40]⟩ (by simp [bs];omega))
  have C2:=qh (fun w' (h:PrI w0 b (l++bs ⟨#[40]⟩) w')=>hb _ _ _ false _ w' HN.out h (by simp [bs];omega))
  have C3:=qh (fun w' (h:PrI w0 b ((l++bs ⟨#[40]⟩)++(Nd.mk k s kl).bare false) w') n (hn:n=w'.heap.size)=>put1 h n hn ⟨#[41]⟩ (by simp [bs];omega))
  have HE2:Hid (T=bs ⟨#[40]⟩++((Nd.mk k s kl).bare false++bs ⟨#[41]⟩)):=HE
  clear hlen1 HE
  obtain ⟨A,hA⟩:∃ A,(k==17)=A:=⟨_,rfl⟩
  have hAl:Hid (A=false→0 < kl.length):=qh (fun e=>by
   rcases hc with h | h
   ·rw [h] at hA;subst e;exact absurd hA (by decide)
   ·exact h)
  clear hc
  cases A with
  | true =>
   go_enter Tryz.func247,Tryz.ntmps247
   go_upto_region 1 with fail
   rw [HW.out]
   go_wp2_with fail
   refine (C1.out _ P0.out _ (by first | rfl | simp only [World.size_alloc])).mono ?_
   rintro e w1 ⟨rfl,pp,kk⟩
   have P1:=qh pp
   have K1:=qh (K0.out.trans kk)
   have R1:=qh (kk.row3 R0.out hne)
   clear pp kk C1 n0 n1 n2
   obtain ⟨⟨n0,n1,n2⟩,_⟩:=R1.out.cells
   go_wp2_with fail
   refine (C2.out _ P1.out).mono ?_
   rintro e w2 ⟨rfl,pp,kk⟩
   have P2:=qh pp
   have K2:=qh (K1.out.trans kk)
   have R2:=qh (kk.row3 R1.out hne)
   clear pp kk C2 n0 n1 n2
   obtain ⟨⟨n0,n1,n2⟩,_⟩:=R2.out.cells
   go_wp2_with fail
   refine (C3.out _ P2.out _ (by first | rfl | simp only [World.size_alloc])).mono ?_
   rintro e w3 ⟨rfl,pp,kk⟩
   have P3:=qh pp
   have K3:=qh (K2.out.trans kk)
   have R3:=qh (kk.row3 R2.out hne)
   clear pp kk C3 n0 n1 n2
   go_wp2
   go_end0
   exact ⟨rfl,by rw [HE2.out];simpa only [List.append_assoc,bs_mk] using P3.out,K3.out⟩
  | false =>
   have j0:=hAl.out rfl
   have i0:(0:Int) < (kl.length:Int):=by omega
   go_enter Tryz.func247,Tryz.ntmps247
   go_upto_region 1 with fail
   rw [HW.out]
   go_wp2_with fail
   refine (C1.out _ P0.out _ (by first | rfl | simp only [World.size_alloc])).mono ?_
   rintro e w1 ⟨rfl,pp,kk⟩
   have P1:=qh pp
   have K1:=qh (K0.out.trans kk)
   have R1:=qh (kk.row3 R0.out hne)
   clear pp kk C1 n0 n1 n2
   obtain ⟨⟨n0,n1,n2⟩,_⟩:=R1.out.cells
   go_wp2_with fail
   refine (C2.out _ P1.out).mono ?_
   rintro e w2 ⟨rfl,pp,kk⟩
   have P2:=qh pp
   have K2:=qh (K1.out.trans kk)
   have R2:=qh (kk.row3 R1.out hne)
   clear pp kk C2 n0 n1 n2
   obtain ⟨⟨n0,n1,n2⟩,_⟩:=R2.out.cells
   go_wp2_with fail
   refine (C3.out _ P2.out _ (by first | rfl | simp only [World.size_alloc])).mono ?_
   rintro e w3 ⟨rfl,pp,kk⟩
   have P3:=qh pp
   have K3:=qh (K2.out.trans kk)
   have R3:=qh (kk.row3 R2.out hne)
   clear pp kk C3 n0 n1 n2
   go_wp2
   go_end0
   exact ⟨rfl,by rw [HE2.out];simpa only [List.append_assoc,bs_mk] using P3.out,K3.out⟩
 ·have HE:Hid (T=bs s):=qh (HT.out.symm.trans (if_neg hc))
  have hlen1:l.length+(bs s).length≤100000000:=by
   have:=HL.out
   rwa [HE.out] at this
  have C1:=qh (fun w' (h:PrI w0 b l w') n (hn:n=w'.heap.size)=>put1 h n hn s hlen1)
  have hA:(k==17)=false:=by rw [beq_eq_false_iff_ne];exact fun e=>hc (.inl e)
  have j0:¬ (0 < kl.length):=fun e=>hc (.inr e)
  have j0':decide (0 < kl.length)=false:=by simpa using j0
  have i0:¬ ((0:Int) < (kl.length:Int)):=by omega
  clear hlen1 hc
  go_enter Tryz.func247,Tryz.ntmps247
  go_upto_region 1 with fail
  rw [HW.out]
  go_wp2_with fail
  refine (C1.out _ P0.out _ (by first | rfl | simp only [World.size_alloc])).mono ?_
  rintro e w1 ⟨rfl,pp,kk⟩
  have P1:=qh pp
  have K1:=qh (K0.out.trans kk)
  have R1:=qh (kk.row3 R0.out hne)
  clear pp kk C1 n0 n1 n2
  go_wp2
  go_end0
  exact ⟨rfl,by rw [HE.out];simpa only [List.append_assoc,bs_mk] using P1.out,K1.out⟩
set_option maxRecDepth 100000 in
set_option maxHeartbeats 2000000 in
theorem node_of {w0:World} {b:Nat} {t:Nd} (hb:SaysB w0 b t):SaysT w0 b t:=by
 intro v0 v1 v2 bind more l w hbd ht hp hlen
 obtain ⟨k,s,kl,a,cap,rfl,rfl,rfl,rfl,hs,hl⟩:=ht.form
 obtain ⟨W,hW⟩:∃ W,w.alloc (.cells #[.int .i64 k,.string s,.slice a kl.length cap] 24)=W:=⟨_,rfl⟩
 have R0':Row3 W w.heap.size (.int .i64 k) (.string s) (.slice a kl.length cap):=by rw [←hW];exact Row3.new _ _ _ _
 have P0:=qh (hW▸hp.alloc (.cells #[.int .i64 k,.string s,.slice a kl.length cap] 24))
 have K0:=qh (hW▸(Wr.refl w0.heap.size b w).alloc hp.size (.cells #[.int .i64 k,.string s,.slice a kl.length cap] 24))
 have hne:w.heap.size≠b:=by have:=hp.p.lt;omega
 have HW:=qh hW
 have R0:=qh R0'
 obtain ⟨⟨n0,n1,n2⟩,_⟩:=R0'.cells
 have HN:=qh ht
 have HL:=qh hlen
 unfold maxLen at hl
 obtain ⟨T,hT⟩:∃ T,(Nd.mk k s kl).txt bind more=T:=⟨_,rfl⟩
 rw [hT] at HL
 rw [hT]
 have HT:=qh hT
 have CO:=qh (fun w' (h:PrI w0 b l w')=>operatorOf_any k s a kl.length cap w' h.glw h.two')
 clear ht hlen hT hW R0' hp
 obtain ⟨pr,hpr⟩:∃ pr,parB k bind more=pr:=⟨_,rfl⟩
 have HPR:=qh hpr
 clear hpr
 have HE1:Hid (pr=true→T=bs ⟨#[40]⟩++((Nd.mk k s kl).bare false++bs ⟨#[41]⟩)):=qh (fun e=>HT.out.symm.trans (if_pos (HPR.out.trans e)))
 have HE0:Hid (pr=false→T=(Nd.mk k s kl).bare more):=qh (fun e=>HT.out.symm.trans (if_neg (by rw [Nd.kd,HPR.out,e];decide)))
 have C1:=qh (fun (e:pr=true) w' (h:PrI w0 b l w') n (hn:n=w'.heap.size)=>put1 h n hn ⟨#[40]⟩ (by have:=HL.out;rw [HE1.out e] at this;simp [bs] at this ⊢;omega))
 have C2:=qh (fun (e:pr=true) w' (h:PrI w0 b (l++bs ⟨#[40]⟩) w')=>hb _ _ _ false _ w' HN.out h (by have:=HL.out;rw [HE1.out e] at this;simp [bs] at this ⊢;omega))
 have C3:=qh (fun (e:pr=true) w' (h:PrI w0 b ((l++bs ⟨#[40]⟩)++(Nd.mk k s kl).bare false) w') n (hn:n=w'.heap.size)=>put1 h n hn ⟨#[41]⟩ (by have:=HL.out;rw [HE1.out e] at this;simp [bs] at this ⊢;omega))
 have C4:=qh (fun (e:pr=false) w' (h:PrI w0 b l w')=>hb _ _ _ more _ w' HN.out h (by have:=HL.out;rwa [HE0.out e] at this))
 clear HT HL
 unfold parB at HPR
 obtain ⟨A,hA⟩:∃ A,(k==18)=A:=⟨_,rfl⟩
 obtain ⟨B,hB⟩:∃ B,(k==19)=B:=⟨_,rfl⟩
 have hA':decide (k=18)=A:=hA
 have hB':decide (k=19)=B:=hB
 rw [hA',hB'] at HPR
 clear hA' hB'
 obtain ⟨op,hop⟩:∃ op,opOf k=op:=⟨_,rfl⟩
 rw [hop] at HPR CO
 clear hop
 rcases op with _ | ⟨sg,bd⟩
 ·unfold opRes at CO
  cases A with
  | true =>
   cases more with
   | true =>
    have hq:pr=true:=by rw [←HPR.out];simp
    go_enter Tryz.func195,Tryz.ntmps195
    go_upto_region 1 with fail
    rw [HW.out]
    go_wp2_with fail
    refine (CO.out _ P0.out).mono ?_
    rintro e w1 ⟨rfl,bb⟩
    have P1:=qh (P0.out.later bb)
    have K1:=qh (K0.out.later bb P0.out.size)
    have R1:=qh (R0.out.below bb R0.out.lt)
    clear bb CO n0 n1 n2
    obtain ⟨⟨n0,n1,n2⟩,_⟩:=R1.out.cells
    have D1:=qh (C1.out hq)
    have D2:=qh (C2.out hq)
    have D3:=qh (C3.out hq)
    clear C1 C2 C3
    have P1o:=qh (P1.out.alloc (.cells #[.string ⟨#[]⟩,.int .i64 0,.int .i64 0] 183))
    have K1o:=qh (K1.out.alloc P1.out.size (.cells #[.string ⟨#[]⟩,.int .i64 0,.int .i64 0] 183))
    have R1o:=qh (R1.out.alloc (.cells #[.string ⟨#[]⟩,.int .i64 0,.int .i64 0] 183))
    clear n0 n1 n2 P1 K1 R1
    obtain ⟨⟨n0,n1,n2⟩,_⟩:=R1o.out.cells
    have P1:=P1o
    have K1:=K1o
    have R1:=R1o
    clear P1o K1o R1o
    go_wp2_with fail
    refine (D1.out _ P1.out _ (by first | rfl | simp only [World.size_alloc])).mono ?_
    rintro e w2 ⟨rfl,pp,kk⟩
    have P2:=qh pp
    have K2:=qh (K1.out.trans kk)
    have R2:=qh (kk.row3 R1.out hne)
    clear pp kk D1 n0 n1 n2
    obtain ⟨⟨n0,n1,n2⟩,_⟩:=R2.out.cells
    go_wp2_with fail
    refine (D2.out _ P2.out).mono ?_
    rintro e w3 ⟨rfl,pp,kk⟩
    have P3:=qh pp
    have K3:=qh (K2.out.trans kk)
    have R3:=qh (kk.row3 R2.out hne)
    clear pp kk D2 n0 n1 n2
    obtain ⟨⟨n0,n1,n2⟩,_⟩:=R3.out.cells
    go_wp2_with fail
    refine (D3.out _ P3.out _ (by first | rfl | simp only [World.size_alloc])).mono ?_
    rintro e w4 ⟨rfl,pp,kk⟩
    have P4:=qh pp
    have K4:=qh (K3.out.trans kk)
    have R4:=qh (kk.row3 R3.out hne)
    clear pp kk D3 n0 n1 n2
    go_wp2
    go_end0
    exact ⟨rfl,by rw [HE1.out hq];simpa only [List.append_assoc,bs_mk] using P4.out,K4.out⟩
   | false =>
    have hq:pr=false:=by rw [←HPR.out];simp
    go_enter Tryz.func195,Tryz.ntmps195
    go_upto_region 1 with fail
    rw [HW.out]
    go_wp2_with fail
    refine (CO.out _ P0.out).mono ?_
    rintro e w1 ⟨rfl,bb⟩
    have P1:=qh (P0.out.later bb)
    have K1:=qh (K0.out.later bb P0.out.size)
    have R1:=qh (R0.out.below bb R0.out.lt)
    clear bb CO n0 n1 n2
    obtain ⟨⟨n0,n1,n2⟩,_⟩:=R1.out.cells
    have D4:=qh (C4.out hq)
    clear C1 C2 C3 C4
    have P1o:=qh (P1.out.alloc (.cells #[.string ⟨#[]⟩,.int .i64 0,.int .i64 0] 183))
    have K1o:=qh (K1.out.alloc P1.out.size (.cells #[.string ⟨#[]⟩,.int .i64 0,.int .i64 0] 183))
    have R1o:=qh (R1.out.alloc (.cells #[.string ⟨#[]⟩,.int .i64 0,.int .i64 0] 183))
    clear n0 n1 n2 P1 K1 R1
    obtain ⟨⟨n0,n1,n2⟩,_⟩:=R1o.out.cells
    have P1:=P1o
    have K1:=K1o
    have R1:=R1o
    clear P1o K1o R1o
    go_wp2_with fail
    refine (D4.out _ P1.out).mono ?_
    rintro e w2 ⟨rfl,pp,kk⟩
    have P2:=qh pp
    have K2:=qh (K1.out.trans kk)
    have R2:=qh (kk.row3 R1.out hne)
    clear pp kk D4 n0 n1 n2
    go_wp2
    go_end0
    exact ⟨rfl,by rw [HE0.out hq];simpa only [List.append_assoc,bs_mk] using P2.out,K2.out⟩
  | false =>
   cases B with
   | true =>
    cases more with
    | true =>
     have hq:pr=true:=by rw [←HPR.out];simp
     go_enter Tryz.func195,Tryz.ntmps195
     go_upto_region 1 with fail
     rw [HW.out]
     go_wp2_with fail
     refine (CO.out _ P0.out).mono ?_
     rintro e w1 ⟨rfl,bb⟩
     have P1:=qh (P0.out.later bb)
     have K1:=qh (K0.out.later bb P0.out.size)
     have R1:=qh (R0.out.below bb R0.out.lt)
     clear bb CO n0 n1 n2
     obtain ⟨⟨n0,n1,n2⟩,_⟩:=R1.out.cells
     have D1:=qh (C1.out hq)
     have D2:=qh (C2.out hq)
     have D3:=qh (C3.out hq)
     clear C1 C2 C3
     have P1o:=qh (P1.out.alloc (.cells #[.string ⟨#[]⟩,.int .i64 0,.int .i64 0] 183))
     have K1o:=qh (K1.out.alloc P1.out.size (.cells #[.string ⟨#[]⟩,.int .i64 0,.int .i64 0] 183))
     have R1o:=qh (R1.out.alloc (.cells #[.string ⟨#[]⟩,.int .i64 0,.int .i64 0] 183))
     clear n0 n1 n2 P1 K1 R1
     obtain ⟨⟨n0,n1,n2⟩,_⟩:=R1o.out.cells
     have P1:=P1o
     have K1:=K1o
     have R1:=R1o
     clear P1o K1o R1o
     go_wp2_with fail
     refine (D1.out _ P1.out _ (by first | rfl | simp only [World.size_alloc])).mono ?_
     rintro e w2 ⟨rfl,pp,kk⟩
     have P2:=qh pp
     have K2:=qh (K1.out.trans kk)
     have R2:=qh (kk.row3 R1.out hne)
     clear pp kk D1 n0 n1 n2
     obtain ⟨⟨n0,n1,n2⟩,_⟩:=R2.out.cells
     go_wp2_with fail
     refine (D2.out _ P2.out).mono ?_
     rintro e w3 ⟨rfl,pp,kk⟩
     have P3:=qh pp
     have K3:=qh (K2.out.trans kk)
     have R3:=qh (kk.row3 R2.out hne)
     clear pp kk D2 n0 n1 n2
     obtain ⟨⟨n0,n1,n2⟩,_⟩:=R3.out.cells
     go_wp2_with fail
     refine (D3.out _ P3.out _ (by first | rfl | simp only [World.size_alloc])).mono ?_
     rintro e w4 ⟨rfl,pp,kk⟩
     have P4:=qh pp
     have K4:=qh (K3.out.trans kk)
     have R4:=qh (kk.row3 R3.out hne)
     clear pp kk D3 n0 n1 n2
     go_wp2
     go_end0
     exact ⟨rfl,by rw [HE1.out hq];simpa only [List.append_assoc,bs_mk] using P4.out,K4.out⟩
    | false =>
     have hq:pr=false:=by rw [←HPR.out];simp
     go_enter Tryz.func195,Tryz.ntmps195
     go_upto_region 1 with fail
     rw [HW.out]
     go_wp2_with fail
     refine (CO.out _ P0.out).mono ?_
     rintro e w1 ⟨rfl,bb⟩
     have P1:=qh (P0.out.later bb)
     have K1:=qh (K0.out.later bb P0.out.size)
     have R1:=qh (R0.out.below bb R0.out.lt)
     clear bb CO n0 n1 n2
     obtain ⟨⟨n0,n1,n2⟩,_⟩:=R1.out.cells
     have D4:=qh (C4.out hq)
     clear C1 C2 C3 C4
     have P1o:=qh (P1.out.alloc (.cells #[.string ⟨#[]⟩,.int .i64 0,.int .i64 0] 183))
     have K1o:=qh (K1.out.alloc P1.out.size (.cells #[.string ⟨#[]⟩,.int .i64 0,.int .i64 0] 183))
     have R1o:=qh (R1.out.alloc (.cells #[.string ⟨#[]⟩,.int .i64 0,.int .i64 0] 183))
     clear n0 n1 n2 P1 K1 R1
     obtain ⟨⟨n0,n1,n2⟩,_⟩:=R1o.out.cells
     have P1:=P1o
     have K1:=K1o
     have R1:=R1o
     clear P1o K1o R1o
     go_wp2_with fail
     refine (D4.out _ P1.out).mono ?_
     rintro e w2 ⟨rfl,pp,kk⟩
     have P2:=qh pp
     have K2:=qh (K1.out.trans kk)
     have R2:=qh (kk.row3 R1.out hne)
     clear pp kk D4 n0 n1 n2
     go_wp2
     go_end0
     exact ⟨rfl,by rw [HE0.out hq];simpa only [List.append_assoc,bs_mk] using P2.out,K2.out⟩
   | false =>
    have hq:pr=false:=by rw [←HPR.out];simp
    go_enter Tryz.func195,Tryz.ntmps195
    go_upto_region 1 with fail
    rw [HW.out]
    go_wp2_with fail
    refine (CO.out _ P0.out).mono ?_
    rintro e w1 ⟨rfl,bb⟩
    have P1:=qh (P0.out.later bb)
    have K1:=qh (K0.out.later bb P0.out.size)
    have R1:=qh (R0.out.below bb R0.out.lt)
    clear bb CO n0 n1 n2
    obtain ⟨⟨n0,n1,n2⟩,_⟩:=R1.out.cells
    have D4:=qh (C4.out hq)
    clear C1 C2 C3 C4
    have P1o:=qh (P1.out.alloc (.cells #[.string ⟨#[]⟩,.int .i64 0,.int .i64 0] 183))
    have K1o:=qh (K1.out.alloc P1.out.size (.cells #[.string ⟨#[]⟩,.int .i64 0,.int .i64 0] 183))
    have R1o:=qh (R1.out.alloc (.cells #[.string ⟨#[]⟩,.int .i64 0,.int .i64 0] 183))
    clear n0 n1 n2 P1 K1 R1
    obtain ⟨⟨n0,n1,n2⟩,_⟩:=R1o.out.cells
    have P1:=P1o
    have K1:=K1o
    have R1:=R1o
    clear P1o K1o R1o
    go_wp2_with fail
    refine (D4.out _ P1.out).mono ?_
    rintro e w2 ⟨rfl,pp,kk⟩
    have P2:=qh pp
    have K2:=qh (K1.out.trans kk)
    have R2:=qh (kk.row3 R1.out hne)
    clear pp kk D4 n0 n1 n2
    go_wp2
    go_end0
    exact ⟨rfl,by rw [HE0.out hq];simpa only [List.append_assoc,bs_mk] using P2.out,K2.out⟩
 ·unfold opRes S_ at CO
  have hno:w.heap.size+0=w.heap.size:=rfl
  by_cases hbl:bd < bind
  ·have ibl:(bd:Int) < (bind:Int):=by omega
   have hq:pr=true:=by rw [←HPR.out];simp [hbl]
   clear HPR hno C4
   cases A with
   | true =>
    go_enter Tryz.func195,Tryz.ntmps195
    go_upto_region 1 with fail
    rw [HW.out]
    go_wp2_with fail
    refine (CO.out _ P0.out).mono ?_
    rintro e w1 ⟨rfl,bb⟩
    have P1:=qh (P0.out.later bb)
    have K1:=qh (K0.out.later bb P0.out.size)
    have R1:=qh (R0.out.below bb R0.out.lt)
    clear bb CO n0 n1 n2
    obtain ⟨⟨n0,n1,n2⟩,_⟩:=R1.out.cells
    have D1:=qh (C1.out hq)
    have D2:=qh (C2.out hq)
    have D3:=qh (C3.out hq)
    clear C1 C2 C3
    have P1o:=qh (P1.out.alloc (.cells #[.string ⟨sg.toArray⟩,.int .i64 k,.int .i64 (bd:Nat)] 183))
    have K1o:=qh (K1.out.alloc P1.out.size (.cells #[.string ⟨sg.toArray⟩,.int .i64 k,.int .i64 (bd:Nat)] 183))
    have R1o:=qh (R1.out.alloc (.cells #[.string ⟨sg.toArray⟩,.int .i64 k,.int .i64 (bd:Nat)] 183))
    clear n0 n1 n2 P1 K1 R1
    obtain ⟨⟨n0,n1,n2⟩,_⟩:=R1o.out.cells
    have P1:=P1o
    have K1:=K1o
    have R1:=R1o
    clear P1o K1o R1o
    go_wp2_with fail
    refine (D1.out _ P1.out _ (by first | rfl | simp only [World.size_alloc])).mono ?_
    rintro e w2 ⟨rfl,pp,kk⟩
    have P2:=qh pp
    have K2:=qh (K1.out.trans kk)
    have R2:=qh (kk.row3 R1.out hne)
    clear pp kk D1 n0 n1 n2
    obtain ⟨⟨n0,n1,n2⟩,_⟩:=R2.out.cells
    go_wp2_with fail
    refine (D2.out _ P2.out).mono ?_
    rintro e w3 ⟨rfl,pp,kk⟩
    have P3:=qh pp
    have K3:=qh (K2.out.trans kk)
    have R3:=qh (kk.row3 R2.out hne)
    clear pp kk D2 n0 n1 n2
    obtain ⟨⟨n0,n1,n2⟩,_⟩:=R3.out.cells
    go_wp2_with fail
    refine (D3.out _ P3.out _ (by first | rfl | simp only [World.size_alloc])).mono ?_
    rintro e w4 ⟨rfl,pp,kk⟩
    have P4:=qh pp
    have K4:=qh (K3.out.trans kk)
    have R4:=qh (kk.row3 R3.out hne)
    clear pp kk D3 n0 n1 n2
    go_wp2
    go_end0
    exact ⟨rfl,by rw [HE1.out hq];simpa only [List.append_assoc,bs_mk] using P4.out,K4.out⟩
   | false =>
    cases B with
    | true =>
     go_enter Tryz.func195,Tryz.ntmps195
     go_upto_region 1 with fail
     rw [HW.out]
     go_wp2_with fail
     refine (CO.out _ P0.out).mono ?_
     rintro e w1 ⟨rfl,bb⟩
     have P1:=qh (P0.out.later bb)
     have K1:=qh (K0.out.later bb P0.out.size)
     have R1:=qh (R0.out.below bb R0.out.lt)
     clear bb CO n0 n1 n2
     obtain ⟨⟨n0,n1,n2⟩,_⟩:=R1.out.cells
     have D1:=qh (C1.out hq)
     have D2:=qh (C2.out hq)
     have D3:=qh (C3.out hq)
     clear C1 C2 C3
     have P1o:=qh (P1.out.alloc (.cells #[.string ⟨sg.toArray⟩,.int .i64 k,.int .i64 (bd:Nat)] 183))
     have K1o:=qh (K1.out.alloc P1.out.size (.cells #[.string ⟨sg.toArray⟩,.int .i64 k,.int .i64 (bd:Nat)] 183))
     have R1o:=qh (R1.out.alloc (.cells #[.string ⟨sg.toArray⟩,.int .i64 k,.int .i64 (bd:Nat)] 183))
     clear n0 n1 n2 P1 K1 R1
     obtain ⟨⟨n0,n1,n2⟩,_⟩:=R1o.out.cells
     have P1:=P1o
     have K1:=K1o
     have R1:=R1o
     clear P1o K1o R1o
     go_wp2_with fail
     refine (D1.out _ P1.out _ (by first | rfl | simp only [World.size_alloc])).mono ?_
     rintro e w2 ⟨rfl,pp,kk⟩
     have P2:=qh pp
     have K2:=qh (K1.out.trans kk)
     have R2:=qh (kk.row3 R1.out hne)
     clear pp kk D1 n0 n1 n2
     obtain ⟨⟨n0,n1,n2⟩,_⟩:=R2.out.cells
     go_wp2_with fail
     refine (D2.out _ P2.out).mono ?_
     rintro e w3 ⟨rfl,pp,kk⟩
     have P3:=qh pp
     have K3:=qh (K2.out.trans kk)
     have R3:=qh (kk.row3 R2.out hne)
     clear pp kk D2 n0 n1 n2
     obtain ⟨⟨n0,n1,n2⟩,_⟩:=R3.out.cells
     go_wp2_with fail
     refine (D3.out _ P3.out _ (by first | rfl | simp only [World.size_alloc])).mono ?_
     rintro e w4 ⟨rfl,pp,kk⟩
     have P4:=qh pp
     have K4:=qh (K3.out.trans kk)
     have R4:=qh (kk.row3 R3.out hne)
     clear pp kk D3 n0 n1 n2
     go_wp2
     go_end0
     exact ⟨rfl,by rw [HE1.out hq];simpa only [List.append_assoc,bs_mk] using P4.out,K4.out⟩
    | false =>
     go_enter Tryz.func195,Tryz.ntmps195
     go_upto_region 1 with fail
     rw [HW.out]
     go_wp2_with fail
     refine (CO.out _ P0.out).mono ?_
     rintro e w1 ⟨rfl,bb⟩
     have P1:=qh (P0.out.later bb)
     have K1:=qh (K0.out.later bb P0.out.size)
     have R1:=qh (R0.out.below bb R0.out.lt)
     clear bb CO n0 n1 n2
     obtain ⟨⟨n0,n1,n2⟩,_⟩:=R1.out.cells
     have D1:=qh (C1.out hq)
     have D2:=qh (C2.out hq)
     have D3:=qh (C3.out hq)
     clear C1 C2 C3
     have P1o:=qh (P1.out.alloc (.cells #[.string ⟨sg.toArray⟩,.int .i64 k,.int .i64 (bd:Nat)] 183))
     have K1o:=qh (K1.out.alloc P1.out.size (.cells #[.string ⟨sg.toArray⟩,.int .i64 k,.int .i64 (bd:Nat)] 183))
     have R1o:=qh (R1.out.alloc (.cells #[.string ⟨sg.toArray⟩,.int .i64 k,.int .i64 (bd:Nat)] 183))
     clear n0 n1 n2 P1 K1 R1
     obtain ⟨⟨n0,n1,n2⟩,_⟩:=R1o.out.cells
     have P1:=P1o
     have K1:=K1o
     have R1:=R1o
     clear P1o K1o R1o
     go_wp2_with fail
     refine (D1.out _ P1.out _ (by first | rfl | simp only [World.size_alloc])).mono ?_
     rintro e w2 ⟨rfl,pp,kk⟩
     have P2:=qh pp
     have K2:=qh (K1.out.trans kk)
     have R2:=qh (kk.row3 R1.out hne)
     clear pp kk D1 n0 n1 n2
     obtain ⟨⟨n0,n1,n2⟩,_⟩:=R2.out.cells
     go_wp2_with fail
     refine (D2.out _ P2.out).mono ?_
     rintro e w3 ⟨rfl,pp,kk⟩
     have P3:=qh pp
     have K3:=qh (K2.out.trans kk)
     have R3:=qh (kk.row3 R2.out hne)
     clear pp kk D2 n0 n1 n2
     obtain ⟨⟨n0,n1,n2⟩,_⟩:=R3.out.cells
     go_wp2_with fail
     refine (D3.out _ P3.out _ (by first | rfl | simp only [World.size_alloc])).mono ?_
     rintro e w4 ⟨rfl,pp,kk⟩
     have P4:=qh pp
     have K4:=qh (K3.out.trans kk)
     have R4:=qh (kk.row3 R3.out hne)
     clear pp kk D3 n0 n1 n2
     go_wp2
     go_end0
     exact ⟨rfl,by rw [HE1.out hq];simpa only [List.append_assoc,bs_mk] using P4.out,K4.out⟩
  ·have ibl:¬ (bd:Int) < (bind:Int):=by omega
   cases A with
   | true =>
    cases more with
    | true =>
     have hq:pr=true:=by rw [←HPR.out];simp
     go_enter Tryz.func195,Tryz.ntmps195
     go_upto_region 1 with fail
     rw [HW.out]
     go_wp2_with fail
     refine (CO.out _ P0.out).mono ?_
     rintro e w1 ⟨rfl,bb⟩
     have P1:=qh (P0.out.later bb)
     have K1:=qh (K0.out.later bb P0.out.size)
     have R1:=qh (R0.out.below bb R0.out.lt)
     clear bb CO n0 n1 n2
     obtain ⟨⟨n0,n1,n2⟩,_⟩:=R1.out.cells
     have D1:=qh (C1.out hq)
     have D2:=qh (C2.out hq)
     have D3:=qh (C3.out hq)
     clear C1 C2 C3
     have P1o:=qh (P1.out.alloc (.cells #[.string ⟨sg.toArray⟩,.int .i64 k,.int .i64 (bd:Nat)] 183))
     have K1o:=qh (K1.out.alloc P1.out.size (.cells #[.string ⟨sg.toArray⟩,.int .i64 k,.int .i64 (bd:Nat)] 183))
     have R1o:=qh (R1.out.alloc (.cells #[.string ⟨sg.toArray⟩,.int .i64 k,.int .i64 (bd:Nat)] 183))
     clear n0 n1 n2 P1 K1 R1
     obtain ⟨⟨n0,n1,n2⟩,_⟩:=R1o.out.cells
     have P1:=P1o
     have K1:=K1o
     have R1:=R1o
     clear P1o K1o R1o
     go_wp2_with fail
     refine (D1.out _ P1.out _ (by first | rfl | simp only [World.size_alloc])).mono ?_
     rintro e w2 ⟨rfl,pp,kk⟩
     have P2:=qh pp
     have K2:=qh (K1.out.trans kk)
     have R2:=qh (kk.row3 R1.out hne)
     clear pp kk D1 n0 n1 n2
     obtain ⟨⟨n0,n1,n2⟩,_⟩:=R2.out.cells
     go_wp2_with fail
     refine (D2.out _ P2.out).mono ?_
     rintro e w3 ⟨rfl,pp,kk⟩
     have P3:=qh pp
     have K3:=qh (K2.out.trans kk)
     have R3:=qh (kk.row3 R2.out hne)
     clear pp kk D2 n0 n1 n2
     obtain ⟨⟨n0,n1,n2⟩,_⟩:=R3.out.cells
     go_wp2_with fail
     refine (D3.out _ P3.out _ (by first | rfl | simp only [World.size_alloc])).mono ?_
     rintro e w4 ⟨rfl,pp,kk⟩
     have P4:=qh pp
     have K4:=qh (K3.out.trans kk)
     have R4:=qh (kk.row3 R3.out hne)
     clear pp kk D3 n0 n1 n2
     go_wp2
     go_end0
     exact ⟨rfl,by rw [HE1.out hq];simpa only [List.append_assoc,bs_mk] using P4.out,K4.out⟩
    | false =>
     have hq:pr=false:=by rw [←HPR.out];simp [hbl]
     go_enter Tryz.func195,Tryz.ntmps195
     go_upto_region 1 with fail
     rw [HW.out]
     go_wp2_with fail
     refine (CO.out _ P0.out).mono ?_
     rintro e w1 ⟨rfl,bb⟩
     have P1:=qh (P0.out.later bb)
     have K1:=qh (K0.out.later bb P0.out.size)
     have R1:=qh (R0.out.below bb R0.out.lt)
     clear bb CO n0 n1 n2
     obtain ⟨⟨n0,n1,n2⟩,_⟩:=R1.out.cells
     have D4:=qh (C4.out hq)
     clear C1 C2 C3 C4
     have P1o:=qh (P1.out.alloc (.cells #[.string ⟨sg.toArray⟩,.int .i64 k,.int .i64 (bd:Nat)] 183))
     have K1o:=qh (K1.out.alloc P1.out.size (.cells #[.string ⟨sg.toArray⟩,.int .i64 k,.int .i64 (bd:Nat)] 183))
     have R1o:=qh (R1.out.alloc (.cells #[.string ⟨sg.toArray⟩,.int .i64 k,.int .i64 (bd:Nat)] 183))
     clear n0 n1 n2 P1 K1 R1
     obtain ⟨⟨n0,n1,n2⟩,_⟩:=R1o.out.cells
     have P1:=P1o
     have K1:=K1o
     have R1:=R1o
     clear P1o K1o R1o
     go_wp2_with fail
     refine (D4.out _ P1.out).mono ?_
     rintro e w2 ⟨rfl,pp,kk⟩
     have P2:=qh pp
     have K2:=qh (K1.out.trans kk)
     have R2:=qh (kk.row3 R1.out hne)
     clear pp kk D4 n0 n1 n2
     go_wp2
     go_end0
     exact ⟨rfl,by rw [HE0.out hq];simpa only [List.append_assoc,bs_mk] using P2.out,K2.out⟩
   | false =>
    cases B with
    | true =>
     cases more with
     | true =>
      have hq:pr=true:=by rw [←HPR.out];simp
      go_enter Tryz.func195,Tryz.ntmps195
      go_upto_region 1 with fail
      rw [HW.out]
      go_wp2_with fail
      refine (CO.out _ P0.out).mono ?_
      rintro e w1 ⟨rfl,bb⟩
      have P1:=qh (P0.out.later bb)
      have K1:=qh (K0.out.later bb P0.out.size)
      have R1:=qh (R0.out.below bb R0.out.lt)
      clear bb CO n0 n1 n2
      obtain ⟨⟨n0,n1,n2⟩,_⟩:=R1.out.cells
      have D1:=qh (C1.out hq)
      have D2:=qh (C2.out hq)
      have D3:=qh (C3.out hq)
      clear C1 C2 C3
      have P1o:=qh (P1.out.alloc (.cells #[.string ⟨sg.toArray⟩,.int .i64 k,.int .i64 (bd:Nat)] 183))
      have K1o:=qh (K1.out.alloc P1.out.size (.cells #[.string ⟨sg.toArray⟩,.int .i64 k,.int .i64 (bd:Nat)] 183))
      have R1o:=qh (R1.out.alloc (.cells #[.string ⟨sg.toArray⟩,.int .i64 k,.int .i64 (bd:Nat)] 183))
      clear n0 n1 n2 P1 K1 R1
      obtain ⟨⟨n0,n1,n2⟩,_⟩:=R1o.out.cells
      have P1:=P1o
      have K1:=K1o
      have R1:=R1o
      clear P1o K1o R1o
      go_wp2_with fail
      refine (D1.out _ P1.out _ (by first | rfl | simp only [World.size_alloc])).mono ?_
      rintro e w2 ⟨rfl,pp,kk⟩
      have P2:=qh pp
      have K2:=qh (K1.out.trans kk)
      have R2:=qh (kk.row3 R1.out hne)
      clear pp kk D1 n0 n1 n2
      obtain ⟨⟨n0,n1,n2⟩,_⟩:=R2.out.cells
      go_wp2_with fail
      refine (D2.out _ P2.out).mono ?_
      rintro e w3 ⟨rfl,pp,kk⟩
      have P3:=qh pp
      have K3:=qh (K2.out.trans kk)
      have R3:=qh (kk.row3 R2.out hne)
      clear pp kk D2 n0 n1 n2
      obtain ⟨⟨n0,n1,n2⟩,_⟩:=R3.out.cells
      go_wp2_with fail
      refine (D3.out _ P3.out _ (by first | rfl | simp only [World.size_alloc])).mono ?_
      rintro e w4 ⟨rfl,pp,kk⟩
      have P4:=qh pp
      have K4:=qh (K3.out.trans kk)
      have R4:=qh (kk.row3 R3.out hne)
      clear pp kk D3 n0 n1 n2
      go_wp2
      go_end0
      exact ⟨rfl,by rw [HE1.out hq];simpa only [List.append_assoc,bs_mk] using P4.out,K4.out⟩
     | false =>
      have hq:pr=false:=by rw [←HPR.out];simp [hbl]
      go_enter Tryz.func195,Tryz.ntmps195
      go_upto_region 1 with fail
      rw [HW.out]
      go_wp2_with fail
      refine (CO.out _ P0.out).mono ?_
      rintro e w1 ⟨rfl,bb⟩
      have P1:=qh (P0.out.later bb)
      have K1:=qh (K0.out.later bb P0.out.size)
      have R1:=qh (R0.out.below bb R0.out.lt)
      clear bb CO n0 n1 n2
      obtain ⟨⟨n0,n1,n2⟩,_⟩:=R1.out.cells
      have D4:=qh (C4.out hq)
      clear C1 C2 C3 C4
      have P1o:=qh (P1.out.alloc (.cells #[.string ⟨sg.toArray⟩,.int .i64 k,.int .i64 (bd:Nat)] 183))
      have K1o:=qh (K1.out.alloc P1.out.size (.cells #[.string ⟨sg.toArray⟩,.int .i64 k,.int .i64 (bd:Nat)] 183))
      have R1o:=qh (R1.out.alloc (.cells #[.string ⟨sg.toArray⟩,.int .i64 k,.int .i64 (bd:Nat)] 183))
      clear n0 n1 n2 P1 K1 R1
      obtain ⟨⟨n0,n1,n2⟩,_⟩:=R1o.out.cells
      have P1:=P1o
      have K1:=K1o
      have R1:=R1o
      clear P1o K1o R1o
      go_wp2_with fail
      refine (D4.out _ P1.out).mono ?_
      rintro e w2 ⟨rfl,pp,kk⟩
      have P2:=qh pp
      have K2:=qh (K1.out.trans kk)
      have R2:=qh (kk.row3 R1.out hne)
      clear pp kk D4 n0 n1 n2
      go_wp2
      go_end0
      exact ⟨rfl,by rw [HE0.out hq];simpa only [List.append_assoc,bs_mk] using P2.out,K2.out⟩
    | false =>
     have hq:pr=false:=by rw [←HPR.out];simp [hbl]
     go_enter Tryz.func195,Tryz.ntmps195
     go_upto_region 1 with fail
     rw [HW.out]
     go_wp2_with fail
     refine (CO.out _ P0.out).mono ?_
     rintro e w1 ⟨rfl,bb⟩
     have P1:=qh (P0.out.later bb)
     have K1:=qh (K0.out.later bb P0.out.size)
     have R1:=qh (R0.out.below bb R0.out.lt)
     clear bb CO n0 n1 n2
     obtain ⟨⟨n0,n1,n2⟩,_⟩:=R1.out.cells
     have D4:=qh (C4.out hq)
     clear C1 C2 C3 C4
     have P1o:=qh (P1.out.alloc (.cells #[.string ⟨sg.toArray⟩,.int .i64 k,.int .i64 (bd:Nat)] 183))
     have K1o:=qh (K1.out.alloc P1.out.size (.cells #[.string ⟨sg.toArray⟩,.int .i64 k,.int .i64 (bd:Nat)] 183))
     have R1o:=qh (R1.out.alloc (.cells #[.string ⟨sg.toArray⟩,.int .i64 k,.int .i64 (bd:Nat)] 183))
     clear n0 n1 n2 P1 K1 R1
     obtain ⟨⟨n0,n1,n2⟩,_⟩:=R1o.out.cells
     have P1:=P1o
     have K1:=K1o
     have R1:=R1o
     clear P1o K1o R1o
     go_wp2_with fail
     refine (D4.out _ P1.out).mono ?_
     rintro e w2 ⟨rfl,pp,kk⟩
     have P2:=qh pp
     have K2:=qh (K1.out.trans kk)
     have R2:=qh (kk.row3 R1.out hne)
     clear pp kk D4 n0 n1 n2
     go_wp2
     go_end0
     exact ⟨rfl,by rw [HE0.out hq];simpa only [List.append_assoc,bs_mk] using P2.out,K2.out⟩
end Go.Proofs.YtcimcjmdkjajfaaGreatDoor
