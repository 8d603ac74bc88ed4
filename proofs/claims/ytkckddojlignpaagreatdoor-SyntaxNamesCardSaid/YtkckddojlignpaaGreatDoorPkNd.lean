/- A part of the proof, packed: see the last text of this claim. -/
import Derived.Test.YtkckddojlignpaaGreatDoorPkNa
import Derived.Test.YtkckddojlignpaaGreatDoorPkNb
import Derived.Test.YtkckddojlignpaaGreatDoorPkNc
import Derived.Lib.IndexLaws
import Derived.StillTailTactics
import Derived.WalkSmall
import Derived.Carry
import Derived.Recover
import Derived.Defers
set_option maxHeartbeats 20000000
set_option maxRecDepth 100000
namespace Go.Proofs.YtkckddojlignpaaGreatDoor
open Go.RowKit
def q35:List Nd->Bool
 |[]=>false
 |a :: l=>if l.isEmpty then x5 a else q35 l
theorem q3t:∀ {l:List Nd} (h:0 < l.length),q35 l=x5 (l[l.length - 1]'(by omega))
 |[a],_=>by simp[q35]
 |a :: b :: l,_=>by
  simp only[q35];rw[qd (by simp)];have:=q3t (l:=b :: l) (by simp);rw[q35]at this;rw[this];simp
theorem q2c:∀ {l:List Nd} (h:l.length=1),jb l=qt (l[0]'(by omega))
 |[a],_=>by simp[jb]
def itemB:Nd->Bool
 | .mk k s l =>
  if k=2\/k=14 then zb s && (decide (1<=l.length) && yh l)
  else if k=3 then zb s && (decide (2<=l.length) && (yh (l.take (l.length - 1)) && q35 l))
  else zf s && (if k=4\/k=5\/k=6 then yn l && decide (l.length<=8)
   else if k=7 then q14 l && decide (l.length<=8)
   else if k=8\/k=9\/k=10\/k=11 then decide (l.length=1) && jb l
   else if k=12\/k=13 then decide (l.length=0) else false)
theorem qhk(s:ByteArray)(l:List Nd)(w:World)(v0 v1 v2:Value)(ht:NdR w (.mk 2 s l) v0 v1 v2) :
  Calls Tryz.prog 101 #[.agg #[v0,v1,v2]] w fun e w'=>e = .returned (.bool (itemB (.mk 2 s l)))/\Below w.heap.size w w':=by
 obtain⟨k',s',l',a,cap,he,rfl,rfl,rfl,hs,hl⟩:=ht.form
 cases he;unfold maxLen at hl;obtain⟨V,hV⟩:∃ V,zf s=V:=⟨_,rfl⟩;have CN:=qh (fun w=>xg V s w hV);have HV:=qh hV;obtain⟨h,hh⟩:∃ h,w.heap.size=h:=⟨_,rfl⟩;have hb0:=qh ((Below.refl w.heap.size w).alloc (q9 _) (.cells #[.int .i64 2,.string s,.slice a l.length cap] 25));have D0:=qh (nd3 (w:=w) (k:=2) (s:=s) (v2:=.slice a l.length cap) (t:=25) hh);have HH:=qh hh;have HT:=qh ht;have HC:=qh ht.cap;have HL:Hid (NdL w l (.slice a l.length cap)):=qh ⟨_,_,_,_,ht⟩;clear hh ht hV;have HS:Hid (itemB (.mk 2 s l)=(zb s && (decide (1<=l.length) && yh l))):=qh (by rw[itemB,qj (by decide)])
 cases hse:s.toList.isEmpty with
 |false =>
  have HR:Hid (itemB (.mk 2 s l)=false):=qh (by rw[HS.out];unfold zb;rw[hse];rfl);go_enter Tryz.func101,Tryz.ntmps101;go_wp2;go_ret;exact⟨by rw[HR.out];rfl,hb0.out⟩
 |true =>
  by_cases hll:1<=l.length
  ·have e1:(1:Int)<=(l.length:Int):=by omega
   have e2:decide (1<=l.length)=true:=decide_eq_true hll;have e3:decide (0 < l.length)=true:=decide_eq_true hll;have e5:0 < l.length:=hll;obtain⟨V,hV⟩:∃ V,yh l=V:=⟨_,rfl⟩;have C:=qh (fun w hv=>q5d l (.slice a l.length cap) w hv);rw[hV]at C;have HR:Hid (itemB (.mk 2 s l)=V):=qh (by rw[HS.out,decide_eq_true hll,hV];unfold zb;rw[hse];rfl);clear hV;go_enter Tryz.func101,Tryz.ntmps101
   go_wp2_with fail
   refine(C.out _ (HL.out.later hb0.out)).mono ?_;rintro e w1⟨rfl,hbw1⟩;have B1:Hid (Below w.heap.size w w1):=qh (hb0.out.trans (hbw1.mono hb0.out.size));clear C hbw1;go_wp2;go_ret;exact⟨by rw[HR.out];rfl,B1.out⟩
  ·have e1:¬ ((1:Int)<=(l.length:Int)):=by omega
   have e2:decide (1<=l.length)=false:=decide_eq_false hll;have e3:decide (0 < l.length)=false:=decide_eq_false hll;have e6:l=[]:=List.length_eq_zero_iff.1 (by omega);have HR:Hid (itemB (.mk 2 s l)=false):=qh (by rw[HS.out,decide_eq_false hll,Bool.false_and,Bool.and_false]);clear hll;subst e6;go_enter Tryz.func101,Tryz.ntmps101;go_wp2;go_ret;exact⟨by rw[HR.out];rfl,hb0.out⟩
theorem qhj(s:ByteArray)(l:List Nd)(w:World)(v0 v1 v2:Value)(ht:NdR w (.mk 3 s l) v0 v1 v2) :
  Calls Tryz.prog 101 #[.agg #[v0,v1,v2]] w fun e w'=>e = .returned (.bool (itemB (.mk 3 s l)))/\Below w.heap.size w w':=by
 obtain⟨k',s',l',a,cap,he,rfl,rfl,rfl,hs,hl⟩:=ht.form
 cases he;unfold maxLen at hl;obtain⟨V,hV⟩:∃ V,zf s=V:=⟨_,rfl⟩;have CN:=qh (fun w=>xg V s w hV);have HV:=qh hV;obtain⟨h,hh⟩:∃ h,w.heap.size=h:=⟨_,rfl⟩;have hb0:=qh ((Below.refl w.heap.size w).alloc (q9 _) (.cells #[.int .i64 3,.string s,.slice a l.length cap] 25));have D0:=qh (nd3 (w:=w) (k:=3) (s:=s) (v2:=.slice a l.length cap) (t:=25) hh);have HH:=qh hh;have HT:=qh ht;have HC:=qh ht.cap;have HL:Hid (NdL w l (.slice a l.length cap)):=qh ⟨_,_,_,_,ht⟩;clear hh ht hV;have HS:Hid (itemB (.mk 3 s l)=(zb s && (decide (2<=l.length) && (yh (l.take (l.length - 1)) && q35 l)))):=qh (by rw[itemB,qd (by decide),qj (by decide)])
 cases hse:s.toList.isEmpty with
 |false =>
  have HR:Hid (itemB (.mk 3 s l)=false):=qh (by rw[HS.out];unfold zb;rw[hse];rfl);go_enter Tryz.func101,Tryz.ntmps101;go_wp2;go_ret;exact⟨by rw[HR.out];rfl,hb0.out⟩
 |true =>
  by_cases hll:2<=l.length
  ·obtain⟨m,hm⟩:∃ m,l.length=m+1:=⟨l.length - 1,by omega⟩
   have j0:m < l.length:=by omega
   have jc:m<=cap:=by have:=HC.out;omega
   have e1:(1:Int)<=(m:Int):=by omega
   have e2:decide (1<=m)=true:=decide_eq_true (by omega);have e3:decide (0 < m)=true:=decide_eq_true (by omega);have e5:0 < m:=by omega
   have i1:(l.length:Int) - 1=(m:Int):=by omega
   have i2:IntKind.i64.wrap (m:Int)=m:=by rw[IntKind.wrap_i64];omega
   have i3:(m:Int) < (l.length:Int):=by omega
   have i4:(0:Int)<=(m:Int):=by omega
   have i5:(m:Int)<=(cap:Int):=by omega
   obtain⟨V,hV⟩:∃ V,yh (l.take m)=V:=⟨_,rfl⟩;have C:=qh (fun w hv=>q5d (l.take m) (.slice a m cap) w hv);rw[hV]at C;have HR:Hid (itemB (.mk 3 s l)=(V && q35 l)):=qh (by rw[HS.out,decide_eq_true hll,show l.length - 1=m from by omega,hV];unfold zb;rw[hse];rfl);have HLm:=qh (fun w (h:NdL w l (.slice a l.length cap))=>h.take m (by omega) cap jc);have HM:=qh hm;clear hV hm hll;go_enter Tryz.func101,Tryz.ntmps101
   go_wp2_with fail
   refine(C.out _ (HLm.out _ (HL.out.later hb0.out))).mono ?_;rintro e w1⟨rfl,hbw1⟩;have B1:Hid (Below w.heap.size w w1):=qh (hb0.out.trans (hbw1.mono hb0.out.size));have d0:w1.cell? ⟨w.heap.size,0,none⟩=some (.int .i64 3):=(hbw1.cell (p:=⟨w.heap.size,0,none⟩) (by rw[q6];exact Nat.lt_succ_self _)).trans (by rw[HH.out];exact D0.out.1);have d2:w1.cell? ⟨w.heap.size,2,none⟩=some (.slice a l.length cap):=(hbw1.cell (p:=⟨w.heap.size,2,none⟩) (by rw[q6];exact Nat.lt_succ_self _)).trans (by rw[HH.out];exact D0.out.2.2);clear C hbw1
   cases V with
   |false =>
    go_wp2;go_ret;exact⟨by rw[HR.out];rfl,B1.out⟩
   |true =>
    obtain⟨b,o,k1,s1,l1,a1,c1,rfl,eq1,x0,x1,x2,r1⟩:=(HT.out.later B1.out).kid m j0;obtain⟨U,hU⟩:∃ U,x5 l[m]=U:=⟨_,rfl⟩
    have HE:Hid (q35 l=U):=qh (by
     rw[q3t (by omega),<-hU]
     congr 2
     have:=HM.out
     omega)
    rw[eq1]at hU;have CT:=qh (q3f _ (.mk k1 s1 l1) w1 _ _ _ (q9 _) r1);rw[hU]at CT;have nb:=qi x0;clear eq1 hU r1
    go_wp2_with fail
    refine CT.out.mono ?_;clear CT;rintro e w9⟨rfl,hbw9⟩;have B9:Hid (Below w.heap.size w w9):=qh (B1.out.trans (hbw9.mono B1.out.size));clear hbw9 x0 x1 x2 d0 d2;go_wp2;go_ret;exact⟨by rw[HR.out,HE.out];rfl,B9.out⟩
  ·have HR:Hid (itemB (.mk 3 s l)=false):=qh (by rw[HS.out,decide_eq_false hll,Bool.false_and,Bool.and_false])
   by_cases h0:l.length=0
   ·have i1:(l.length:Int) - 1 = -1:=by omega
    have i7:l=[]:=List.length_eq_zero_iff.1 h0;clear hll h0;subst i7;go_enter Tryz.func101,Tryz.ntmps101;go_wp2;go_ret;exact⟨by rw[HR.out];rfl,hb0.out⟩
   ·have i1:(l.length:Int) - 1=0:=by omega
    clear hll h0;go_enter Tryz.func101,Tryz.ntmps101;go_wp2;go_ret;exact⟨by rw[HR.out];rfl,hb0.out⟩
theorem qhi(s:ByteArray)(l:List Nd)(w:World)(v0 v1 v2:Value)(ht:NdR w (.mk 4 s l) v0 v1 v2) :
  Calls Tryz.prog 101 #[.agg #[v0,v1,v2]] w fun e w'=>e = .returned (.bool (itemB (.mk 4 s l)))/\Below w.heap.size w w':=by
 obtain⟨k',s',l',a,cap,he,rfl,rfl,rfl,hs,hl⟩:=ht.form
 cases he;unfold maxLen at hl;obtain⟨V,hV⟩:∃ V,zf s=V:=⟨_,rfl⟩;have CN:=qh (fun w=>xg V s w hV);have HV:=qh hV;obtain⟨h,hh⟩:∃ h,w.heap.size=h:=⟨_,rfl⟩;have hb0:=qh ((Below.refl w.heap.size w).alloc (q9 _) (.cells #[.int .i64 4,.string s,.slice a l.length cap] 25));have D0:=qh (nd3 (w:=w) (k:=4) (s:=s) (v2:=.slice a l.length cap) (t:=25) hh);have HH:=qh hh;have HT:=qh ht;have HC:=qh ht.cap;have HL:Hid (NdL w l (.slice a l.length cap)):=qh ⟨_,_,_,_,ht⟩;clear hh ht hV;have HS:Hid (itemB (.mk 4 s l)=(V && (yn l && decide (l.length<=8)))):=qh (by rw[itemB,qd (by decide),qd (by decide),qj (by decide)];rw[HV.out])
 cases V with
 |false =>
  go_enter Tryz.func101,Tryz.ntmps101
  go_wp2_with fail
  refine(CN.out _).mono ?_;rintro e w1⟨rfl,hbw1⟩;have B1:Hid (Below w.heap.size w w1):=qh (hb0.out.trans (hbw1.mono hb0.out.size));have d0:w1.cell? ⟨w.heap.size,0,none⟩=some (.int .i64 4):=(hbw1.cell (p:=⟨w.heap.size,0,none⟩) (by rw[q6];exact Nat.lt_succ_self _)).trans (by rw[HH.out];exact D0.out.1);have d2:w1.cell? ⟨w.heap.size,2,none⟩=some (.slice a l.length cap):=(hbw1.cell (p:=⟨w.heap.size,2,none⟩) (by rw[q6];exact Nat.lt_succ_self _)).trans (by rw[HH.out];exact D0.out.2.2);clear CN hbw1;go_wp2;go_ret;exact⟨by rw[HS.out];rfl,B1.out⟩
 |true =>
  obtain⟨U,hU⟩:∃ U,(yn l && decide (l.length<=8))=U:=⟨_,rfl⟩;have C:=qh (fun w hv=>q5c l (.slice a l.length cap) w hv);rw[hU]at C HS;clear hU;go_enter Tryz.func101,Tryz.ntmps101
  go_wp2_with fail
  refine(CN.out _).mono ?_;rintro e w1⟨rfl,hbw1⟩;have B1:Hid (Below w.heap.size w w1):=qh (hb0.out.trans (hbw1.mono hb0.out.size));have d0:w1.cell? ⟨w.heap.size,0,none⟩=some (.int .i64 4):=(hbw1.cell (p:=⟨w.heap.size,0,none⟩) (by rw[q6];exact Nat.lt_succ_self _)).trans (by rw[HH.out];exact D0.out.1);have d2:w1.cell? ⟨w.heap.size,2,none⟩=some (.slice a l.length cap):=(hbw1.cell (p:=⟨w.heap.size,2,none⟩) (by rw[q6];exact Nat.lt_succ_self _)).trans (by rw[HH.out];exact D0.out.2.2);clear CN hbw1
  go_wp2_with fail
  refine(C.out _ (HL.out.later B1.out)).mono ?_;rintro e w9⟨rfl,hbw9⟩;have B9:Hid (Below w.heap.size w w9):=qh (B1.out.trans (hbw9.mono B1.out.size));clear C hbw9 d0 d2;go_wp2;go_ret;exact⟨by rw[HS.out];rfl,B9.out⟩
theorem qhh(s:ByteArray)(l:List Nd)(w:World)(v0 v1 v2:Value)(ht:NdR w (.mk 5 s l) v0 v1 v2) :
  Calls Tryz.prog 101 #[.agg #[v0,v1,v2]] w fun e w'=>e = .returned (.bool (itemB (.mk 5 s l)))/\Below w.heap.size w w':=by
 obtain⟨k',s',l',a,cap,he,rfl,rfl,rfl,hs,hl⟩:=ht.form
 cases he;unfold maxLen at hl;obtain⟨V,hV⟩:∃ V,zf s=V:=⟨_,rfl⟩;have CN:=qh (fun w=>xg V s w hV);have HV:=qh hV;obtain⟨h,hh⟩:∃ h,w.heap.size=h:=⟨_,rfl⟩;have hb0:=qh ((Below.refl w.heap.size w).alloc (q9 _) (.cells #[.int .i64 5,.string s,.slice a l.length cap] 25));have D0:=qh (nd3 (w:=w) (k:=5) (s:=s) (v2:=.slice a l.length cap) (t:=25) hh);have HH:=qh hh;have HT:=qh ht;have HC:=qh ht.cap;have HL:Hid (NdL w l (.slice a l.length cap)):=qh ⟨_,_,_,_,ht⟩;clear hh ht hV;have HS:Hid (itemB (.mk 5 s l)=(V && (yn l && decide (l.length<=8)))):=qh (by rw[itemB,qd (by decide),qd (by decide),qj (by decide)];rw[HV.out])
 cases V with
 |false =>
  go_enter Tryz.func101,Tryz.ntmps101
  go_wp2_with fail
  refine(CN.out _).mono ?_;rintro e w1⟨rfl,hbw1⟩;have B1:Hid (Below w.heap.size w w1):=qh (hb0.out.trans (hbw1.mono hb0.out.size));have d0:w1.cell? ⟨w.heap.size,0,none⟩=some (.int .i64 5):=(hbw1.cell (p:=⟨w.heap.size,0,none⟩) (by rw[q6];exact Nat.lt_succ_self _)).trans (by rw[HH.out];exact D0.out.1);have d2:w1.cell? ⟨w.heap.size,2,none⟩=some (.slice a l.length cap):=(hbw1.cell (p:=⟨w.heap.size,2,none⟩) (by rw[q6];exact Nat.lt_succ_self _)).trans (by rw[HH.out];exact D0.out.2.2);clear CN hbw1;go_wp2;go_ret;exact⟨by rw[HS.out];rfl,B1.out⟩
 |true =>
  obtain⟨U,hU⟩:∃ U,(yn l && decide (l.length<=8))=U:=⟨_,rfl⟩;have C:=qh (fun w hv=>q5c l (.slice a l.length cap) w hv);rw[hU]at C HS;clear hU;go_enter Tryz.func101,Tryz.ntmps101
  go_wp2_with fail
  refine(CN.out _).mono ?_;rintro e w1⟨rfl,hbw1⟩;have B1:Hid (Below w.heap.size w w1):=qh (hb0.out.trans (hbw1.mono hb0.out.size));have d0:w1.cell? ⟨w.heap.size,0,none⟩=some (.int .i64 5):=(hbw1.cell (p:=⟨w.heap.size,0,none⟩) (by rw[q6];exact Nat.lt_succ_self _)).trans (by rw[HH.out];exact D0.out.1);have d2:w1.cell? ⟨w.heap.size,2,none⟩=some (.slice a l.length cap):=(hbw1.cell (p:=⟨w.heap.size,2,none⟩) (by rw[q6];exact Nat.lt_succ_self _)).trans (by rw[HH.out];exact D0.out.2.2);clear CN hbw1
  go_wp2_with fail
  refine(C.out _ (HL.out.later B1.out)).mono ?_;rintro e w9⟨rfl,hbw9⟩;have B9:Hid (Below w.heap.size w w9):=qh (B1.out.trans (hbw9.mono B1.out.size));clear C hbw9 d0 d2;go_wp2;go_ret;exact⟨by rw[HS.out];rfl,B9.out⟩
theorem qhg(s:ByteArray)(l:List Nd)(w:World)(v0 v1 v2:Value)(ht:NdR w (.mk 6 s l) v0 v1 v2) :
  Calls Tryz.prog 101 #[.agg #[v0,v1,v2]] w fun e w'=>e = .returned (.bool (itemB (.mk 6 s l)))/\Below w.heap.size w w':=by
 obtain⟨k',s',l',a,cap,he,rfl,rfl,rfl,hs,hl⟩:=ht.form
 cases he;unfold maxLen at hl;obtain⟨V,hV⟩:∃ V,zf s=V:=⟨_,rfl⟩;have CN:=qh (fun w=>xg V s w hV);have HV:=qh hV;obtain⟨h,hh⟩:∃ h,w.heap.size=h:=⟨_,rfl⟩;have hb0:=qh ((Below.refl w.heap.size w).alloc (q9 _) (.cells #[.int .i64 6,.string s,.slice a l.length cap] 25));have D0:=qh (nd3 (w:=w) (k:=6) (s:=s) (v2:=.slice a l.length cap) (t:=25) hh);have HH:=qh hh;have HT:=qh ht;have HC:=qh ht.cap;have HL:Hid (NdL w l (.slice a l.length cap)):=qh ⟨_,_,_,_,ht⟩;clear hh ht hV;have HS:Hid (itemB (.mk 6 s l)=(V && (yn l && decide (l.length<=8)))):=qh (by rw[itemB,qd (by decide),qd (by decide),qj (by decide)];rw[HV.out])
 cases V with
 |false =>
  go_enter Tryz.func101,Tryz.ntmps101
  go_wp2_with fail
  refine(CN.out _).mono ?_;rintro e w1⟨rfl,hbw1⟩;have B1:Hid (Below w.heap.size w w1):=qh (hb0.out.trans (hbw1.mono hb0.out.size));have d0:w1.cell? ⟨w.heap.size,0,none⟩=some (.int .i64 6):=(hbw1.cell (p:=⟨w.heap.size,0,none⟩) (by rw[q6];exact Nat.lt_succ_self _)).trans (by rw[HH.out];exact D0.out.1);have d2:w1.cell? ⟨w.heap.size,2,none⟩=some (.slice a l.length cap):=(hbw1.cell (p:=⟨w.heap.size,2,none⟩) (by rw[q6];exact Nat.lt_succ_self _)).trans (by rw[HH.out];exact D0.out.2.2);clear CN hbw1;go_wp2;go_ret;exact⟨by rw[HS.out];rfl,B1.out⟩
 |true =>
  obtain⟨U,hU⟩:∃ U,(yn l && decide (l.length<=8))=U:=⟨_,rfl⟩;have C:=qh (fun w hv=>q5c l (.slice a l.length cap) w hv);rw[hU]at C HS;clear hU;go_enter Tryz.func101,Tryz.ntmps101
  go_wp2_with fail
  refine(CN.out _).mono ?_;rintro e w1⟨rfl,hbw1⟩;have B1:Hid (Below w.heap.size w w1):=qh (hb0.out.trans (hbw1.mono hb0.out.size));have d0:w1.cell? ⟨w.heap.size,0,none⟩=some (.int .i64 6):=(hbw1.cell (p:=⟨w.heap.size,0,none⟩) (by rw[q6];exact Nat.lt_succ_self _)).trans (by rw[HH.out];exact D0.out.1);have d2:w1.cell? ⟨w.heap.size,2,none⟩=some (.slice a l.length cap):=(hbw1.cell (p:=⟨w.heap.size,2,none⟩) (by rw[q6];exact Nat.lt_succ_self _)).trans (by rw[HH.out];exact D0.out.2.2);clear CN hbw1
  go_wp2_with fail
  refine(C.out _ (HL.out.later B1.out)).mono ?_;rintro e w9⟨rfl,hbw9⟩;have B9:Hid (Below w.heap.size w w9):=qh (B1.out.trans (hbw9.mono B1.out.size));clear C hbw9 d0 d2;go_wp2;go_ret;exact⟨by rw[HS.out];rfl,B9.out⟩
theorem qhf(s:ByteArray)(l:List Nd)(w:World)(v0 v1 v2:Value)(ht:NdR w (.mk 7 s l) v0 v1 v2) :
  Calls Tryz.prog 101 #[.agg #[v0,v1,v2]] w fun e w'=>e = .returned (.bool (itemB (.mk 7 s l)))/\Below w.heap.size w w':=by
 obtain⟨k',s',l',a,cap,he,rfl,rfl,rfl,hs,hl⟩:=ht.form
 cases he;unfold maxLen at hl;obtain⟨V,hV⟩:∃ V,zf s=V:=⟨_,rfl⟩;have CN:=qh (fun w=>xg V s w hV);have HV:=qh hV;obtain⟨h,hh⟩:∃ h,w.heap.size=h:=⟨_,rfl⟩;have hb0:=qh ((Below.refl w.heap.size w).alloc (q9 _) (.cells #[.int .i64 7,.string s,.slice a l.length cap] 25));have D0:=qh (nd3 (w:=w) (k:=7) (s:=s) (v2:=.slice a l.length cap) (t:=25) hh);have HH:=qh hh;have HT:=qh ht;have HC:=qh ht.cap;have HL:Hid (NdL w l (.slice a l.length cap)):=qh ⟨_,_,_,_,ht⟩;clear hh ht hV;have HS:Hid (itemB (.mk 7 s l)=(V && (q14 l && decide (l.length<=8)))):=qh (by rw[itemB,qd (by decide),qd (by decide),qd (by decide),qj (by decide)];rw[HV.out])
 cases V with
 |false =>
  go_enter Tryz.func101,Tryz.ntmps101
  go_wp2_with fail
  refine(CN.out _).mono ?_;rintro e w1⟨rfl,hbw1⟩;have B1:Hid (Below w.heap.size w w1):=qh (hb0.out.trans (hbw1.mono hb0.out.size));have d0:w1.cell? ⟨w.heap.size,0,none⟩=some (.int .i64 7):=(hbw1.cell (p:=⟨w.heap.size,0,none⟩) (by rw[q6];exact Nat.lt_succ_self _)).trans (by rw[HH.out];exact D0.out.1);have d2:w1.cell? ⟨w.heap.size,2,none⟩=some (.slice a l.length cap):=(hbw1.cell (p:=⟨w.heap.size,2,none⟩) (by rw[q6];exact Nat.lt_succ_self _)).trans (by rw[HH.out];exact D0.out.2.2);clear CN hbw1;go_wp2;go_ret;exact⟨by rw[HS.out];rfl,B1.out⟩
 |true =>
  obtain⟨U,hU⟩:∃ U,(q14 l && decide (l.length<=8))=U:=⟨_,rfl⟩;have C:=qh (fun w hv=>qhn l (.slice a l.length cap) w hv);rw[hU]at C HS;clear hU;go_enter Tryz.func101,Tryz.ntmps101
  go_wp2_with fail
  refine(CN.out _).mono ?_;rintro e w1⟨rfl,hbw1⟩;have B1:Hid (Below w.heap.size w w1):=qh (hb0.out.trans (hbw1.mono hb0.out.size));have d0:w1.cell? ⟨w.heap.size,0,none⟩=some (.int .i64 7):=(hbw1.cell (p:=⟨w.heap.size,0,none⟩) (by rw[q6];exact Nat.lt_succ_self _)).trans (by rw[HH.out];exact D0.out.1);have d2:w1.cell? ⟨w.heap.size,2,none⟩=some (.slice a l.length cap):=(hbw1.cell (p:=⟨w.heap.size,2,none⟩) (by rw[q6];exact Nat.lt_succ_self _)).trans (by rw[HH.out];exact D0.out.2.2);clear CN hbw1
  go_wp2_with fail
  refine(C.out _ (HL.out.later B1.out)).mono ?_;rintro e w9⟨rfl,hbw9⟩;have B9:Hid (Below w.heap.size w w9):=qh (B1.out.trans (hbw9.mono B1.out.size));clear C hbw9 d0 d2;go_wp2;go_ret;exact⟨by rw[HS.out];rfl,B9.out⟩
theorem qhe(s:ByteArray)(l:List Nd)(w:World)(v0 v1 v2:Value)(ht:NdR w (.mk 8 s l) v0 v1 v2) :
  Calls Tryz.prog 101 #[.agg #[v0,v1,v2]] w fun e w'=>e = .returned (.bool (itemB (.mk 8 s l)))/\Below w.heap.size w w':=by
 obtain⟨k',s',l',a,cap,he,rfl,rfl,rfl,hs,hl⟩:=ht.form
 cases he;unfold maxLen at hl;obtain⟨V,hV⟩:∃ V,zf s=V:=⟨_,rfl⟩;have CN:=qh (fun w=>xg V s w hV);have HV:=qh hV;obtain⟨h,hh⟩:∃ h,w.heap.size=h:=⟨_,rfl⟩;have hb0:=qh ((Below.refl w.heap.size w).alloc (q9 _) (.cells #[.int .i64 8,.string s,.slice a l.length cap] 25));have D0:=qh (nd3 (w:=w) (k:=8) (s:=s) (v2:=.slice a l.length cap) (t:=25) hh);have HH:=qh hh;have HT:=qh ht;have HC:=qh ht.cap;have HL:Hid (NdL w l (.slice a l.length cap)):=qh ⟨_,_,_,_,ht⟩;clear hh ht hV;have HS:Hid (itemB (.mk 8 s l)=(V && (decide (l.length=1) && jb l))):=qh (by rw[itemB,qd (by decide),qd (by decide),qd (by decide),qd (by decide),qj (by decide)];rw[HV.out])
 cases V with
 |false =>
  go_enter Tryz.func101,Tryz.ntmps101
  go_wp2_with fail
  refine(CN.out _).mono ?_;rintro e w1⟨rfl,hbw1⟩;have B1:Hid (Below w.heap.size w w1):=qh (hb0.out.trans (hbw1.mono hb0.out.size));have d0:w1.cell? ⟨w.heap.size,0,none⟩=some (.int .i64 8):=(hbw1.cell (p:=⟨w.heap.size,0,none⟩) (by rw[q6];exact Nat.lt_succ_self _)).trans (by rw[HH.out];exact D0.out.1);have d2:w1.cell? ⟨w.heap.size,2,none⟩=some (.slice a l.length cap):=(hbw1.cell (p:=⟨w.heap.size,2,none⟩) (by rw[q6];exact Nat.lt_succ_self _)).trans (by rw[HH.out];exact D0.out.2.2);clear CN hbw1;go_wp2;go_ret;exact⟨by rw[HS.out];rfl,B1.out⟩
 |true =>
  by_cases hll:l.length=1
  ·have e1:((l.length:Int)==1)=true:=by rw[hll];rfl
   have j0:0 < l.length:=by omega
   have j1:(0:Int) < (l.length:Int):=by omega
   have HM:=qh hll;clear hll;go_enter Tryz.func101,Tryz.ntmps101
   go_wp2_with fail
   refine(CN.out _).mono ?_;rintro e w1⟨rfl,hbw1⟩;have B1:Hid (Below w.heap.size w w1):=qh (hb0.out.trans (hbw1.mono hb0.out.size));have d0:w1.cell? ⟨w.heap.size,0,none⟩=some (.int .i64 8):=(hbw1.cell (p:=⟨w.heap.size,0,none⟩) (by rw[q6];exact Nat.lt_succ_self _)).trans (by rw[HH.out];exact D0.out.1);have d2:w1.cell? ⟨w.heap.size,2,none⟩=some (.slice a l.length cap):=(hbw1.cell (p:=⟨w.heap.size,2,none⟩) (by rw[q6];exact Nat.lt_succ_self _)).trans (by rw[HH.out];exact D0.out.2.2);clear CN hbw1;obtain⟨b,o,k1,s1,l1,a1,c1,rfl,eq1,x0,x1,x2,r1⟩:=(HT.out.later B1.out).kid 0 j0;obtain⟨U,hU⟩:∃ U,qt l[0]=U:=⟨_,rfl⟩;have HE:Hid (jb l=U):=qh (by rw[q2c HM.out,<-hU]);rw[eq1]at hU;have CT:=qh (q3g _ (.mk k1 s1 l1) w1 _ _ _ (q9 _) r1);rw[hU]at CT;simp only[Nat.zero_mul,Nat.add_zero]at x0 x1 x2;have nb:=qi x0;clear eq1 hU r1
   go_wp2_with fail
   refine CT.out.mono ?_;clear CT;rintro e w9⟨rfl,hbw9⟩;have B9:Hid (Below w.heap.size w w9):=qh (B1.out.trans (hbw9.mono B1.out.size));clear hbw9 x0 x1 x2 d0 d2;go_wp2;go_ret;exact⟨by rw[HS.out,HE.out,decide_eq_true HM.out];rfl,B9.out⟩
  ·have e1:((l.length:Int)==1)=false:=by rw[qc];omega
   rw[decide_eq_false hll,Bool.false_and,Bool.and_false]at HS;clear hll;go_enter Tryz.func101,Tryz.ntmps101
   go_wp2_with fail
   refine(CN.out _).mono ?_;rintro e w1⟨rfl,hbw1⟩;have B1:Hid (Below w.heap.size w w1):=qh (hb0.out.trans (hbw1.mono hb0.out.size));have d0:w1.cell? ⟨w.heap.size,0,none⟩=some (.int .i64 8):=(hbw1.cell (p:=⟨w.heap.size,0,none⟩) (by rw[q6];exact Nat.lt_succ_self _)).trans (by rw[HH.out];exact D0.out.1);have d2:w1.cell? ⟨w.heap.size,2,none⟩=some (.slice a l.length cap):=(hbw1.cell (p:=⟨w.heap.size,2,none⟩) (by rw[q6];exact Nat.lt_succ_self _)).trans (by rw[HH.out];exact D0.out.2.2);clear CN hbw1;go_wp2;go_ret;exact⟨by rw[HS.out];rfl,B1.out⟩
theorem qhd(s:ByteArray)(l:List Nd)(w:World)(v0 v1 v2:Value)(ht:NdR w (.mk 9 s l) v0 v1 v2) :
  Calls Tryz.prog 101 #[.agg #[v0,v1,v2]] w fun e w'=>e = .returned (.bool (itemB (.mk 9 s l)))/\Below w.heap.size w w':=by
 obtain⟨k',s',l',a,cap,he,rfl,rfl,rfl,hs,hl⟩:=ht.form
 cases he;unfold maxLen at hl;obtain⟨V,hV⟩:∃ V,zf s=V:=⟨_,rfl⟩;have CN:=qh (fun w=>xg V s w hV);have HV:=qh hV;obtain⟨h,hh⟩:∃ h,w.heap.size=h:=⟨_,rfl⟩;have hb0:=qh ((Below.refl w.heap.size w).alloc (q9 _) (.cells #[.int .i64 9,.string s,.slice a l.length cap] 25));have D0:=qh (nd3 (w:=w) (k:=9) (s:=s) (v2:=.slice a l.length cap) (t:=25) hh);have HH:=qh hh;have HT:=qh ht;have HC:=qh ht.cap;have HL:Hid (NdL w l (.slice a l.length cap)):=qh ⟨_,_,_,_,ht⟩;clear hh ht hV;have HS:Hid (itemB (.mk 9 s l)=(V && (decide (l.length=1) && jb l))):=qh (by rw[itemB,qd (by decide),qd (by decide),qd (by decide),qd (by decide),qj (by decide)];rw[HV.out])
 cases V with
 |false =>
  go_enter Tryz.func101,Tryz.ntmps101
  go_wp2_with fail
  refine(CN.out _).mono ?_;rintro e w1⟨rfl,hbw1⟩;have B1:Hid (Below w.heap.size w w1):=qh (hb0.out.trans (hbw1.mono hb0.out.size));have d0:w1.cell? ⟨w.heap.size,0,none⟩=some (.int .i64 9):=(hbw1.cell (p:=⟨w.heap.size,0,none⟩) (by rw[q6];exact Nat.lt_succ_self _)).trans (by rw[HH.out];exact D0.out.1);have d2:w1.cell? ⟨w.heap.size,2,none⟩=some (.slice a l.length cap):=(hbw1.cell (p:=⟨w.heap.size,2,none⟩) (by rw[q6];exact Nat.lt_succ_self _)).trans (by rw[HH.out];exact D0.out.2.2);clear CN hbw1;go_wp2;go_ret;exact⟨by rw[HS.out];rfl,B1.out⟩
 |true =>
  by_cases hll:l.length=1
  ·have e1:((l.length:Int)==1)=true:=by rw[hll];rfl
   have j0:0 < l.length:=by omega
   have j1:(0:Int) < (l.length:Int):=by omega
   have HM:=qh hll;clear hll;go_enter Tryz.func101,Tryz.ntmps101
   go_wp2_with fail
   refine(CN.out _).mono ?_;rintro e w1⟨rfl,hbw1⟩;have B1:Hid (Below w.heap.size w w1):=qh (hb0.out.trans (hbw1.mono hb0.out.size));have d0:w1.cell? ⟨w.heap.size,0,none⟩=some (.int .i64 9):=(hbw1.cell (p:=⟨w.heap.size,0,none⟩) (by rw[q6];exact Nat.lt_succ_self _)).trans (by rw[HH.out];exact D0.out.1);have d2:w1.cell? ⟨w.heap.size,2,none⟩=some (.slice a l.length cap):=(hbw1.cell (p:=⟨w.heap.size,2,none⟩) (by rw[q6];exact Nat.lt_succ_self _)).trans (by rw[HH.out];exact D0.out.2.2);clear CN hbw1;obtain⟨b,o,k1,s1,l1,a1,c1,rfl,eq1,x0,x1,x2,r1⟩:=(HT.out.later B1.out).kid 0 j0;obtain⟨U,hU⟩:∃ U,qt l[0]=U:=⟨_,rfl⟩;have HE:Hid (jb l=U):=qh (by rw[q2c HM.out,<-hU]);rw[eq1]at hU;have CT:=qh (q3g _ (.mk k1 s1 l1) w1 _ _ _ (q9 _) r1);rw[hU]at CT;simp only[Nat.zero_mul,Nat.add_zero]at x0 x1 x2;have nb:=qi x0;clear eq1 hU r1
   go_wp2_with fail
   refine CT.out.mono ?_;clear CT;rintro e w9⟨rfl,hbw9⟩;have B9:Hid (Below w.heap.size w w9):=qh (B1.out.trans (hbw9.mono B1.out.size));clear hbw9 x0 x1 x2 d0 d2;go_wp2;go_ret;exact⟨by rw[HS.out,HE.out,decide_eq_true HM.out];rfl,B9.out⟩
  ·have e1:((l.length:Int)==1)=false:=by rw[qc];omega
   rw[decide_eq_false hll,Bool.false_and,Bool.and_false]at HS;clear hll;go_enter Tryz.func101,Tryz.ntmps101
   go_wp2_with fail
   refine(CN.out _).mono ?_;rintro e w1⟨rfl,hbw1⟩;have B1:Hid (Below w.heap.size w w1):=qh (hb0.out.trans (hbw1.mono hb0.out.size));have d0:w1.cell? ⟨w.heap.size,0,none⟩=some (.int .i64 9):=(hbw1.cell (p:=⟨w.heap.size,0,none⟩) (by rw[q6];exact Nat.lt_succ_self _)).trans (by rw[HH.out];exact D0.out.1);have d2:w1.cell? ⟨w.heap.size,2,none⟩=some (.slice a l.length cap):=(hbw1.cell (p:=⟨w.heap.size,2,none⟩) (by rw[q6];exact Nat.lt_succ_self _)).trans (by rw[HH.out];exact D0.out.2.2);clear CN hbw1;go_wp2;go_ret;exact⟨by rw[HS.out];rfl,B1.out⟩
theorem qf3(s:ByteArray)(l:List Nd)(w:World)(v0 v1 v2:Value)(ht:NdR w (.mk 10 s l) v0 v1 v2) :
  Calls Tryz.prog 101 #[.agg #[v0,v1,v2]] w fun e w'=>e = .returned (.bool (itemB (.mk 10 s l)))/\Below w.heap.size w w':=by
 obtain⟨k',s',l',a,cap,he,rfl,rfl,rfl,hs,hl⟩:=ht.form
 cases he;unfold maxLen at hl;obtain⟨V,hV⟩:∃ V,zf s=V:=⟨_,rfl⟩;have CN:=qh (fun w=>xg V s w hV);have HV:=qh hV;obtain⟨h,hh⟩:∃ h,w.heap.size=h:=⟨_,rfl⟩;have hb0:=qh ((Below.refl w.heap.size w).alloc (q9 _) (.cells #[.int .i64 10,.string s,.slice a l.length cap] 25));have D0:=qh (nd3 (w:=w) (k:=10) (s:=s) (v2:=.slice a l.length cap) (t:=25) hh);have HH:=qh hh;have HT:=qh ht;have HC:=qh ht.cap;have HL:Hid (NdL w l (.slice a l.length cap)):=qh ⟨_,_,_,_,ht⟩;clear hh ht hV;have HS:Hid (itemB (.mk 10 s l)=(V && (decide (l.length=1) && jb l))):=qh (by rw[itemB,qd (by decide),qd (by decide),qd (by decide),qd (by decide),qj (by decide)];rw[HV.out])
 cases V with
 |false =>
  go_enter Tryz.func101,Tryz.ntmps101
  go_wp2_with fail
  refine(CN.out _).mono ?_;rintro e w1⟨rfl,hbw1⟩;have B1:Hid (Below w.heap.size w w1):=qh (hb0.out.trans (hbw1.mono hb0.out.size));have d0:w1.cell? ⟨w.heap.size,0,none⟩=some (.int .i64 10):=(hbw1.cell (p:=⟨w.heap.size,0,none⟩) (by rw[q6];exact Nat.lt_succ_self _)).trans (by rw[HH.out];exact D0.out.1);have d2:w1.cell? ⟨w.heap.size,2,none⟩=some (.slice a l.length cap):=(hbw1.cell (p:=⟨w.heap.size,2,none⟩) (by rw[q6];exact Nat.lt_succ_self _)).trans (by rw[HH.out];exact D0.out.2.2);clear CN hbw1;go_wp2;go_ret;exact⟨by rw[HS.out];rfl,B1.out⟩
 |true =>
  by_cases hll:l.length=1
  ·have e1:((l.length:Int)==1)=true:=by rw[hll];rfl
   have j0:0 < l.length:=by omega
   have j1:(0:Int) < (l.length:Int):=by omega
   have HM:=qh hll;clear hll;go_enter Tryz.func101,Tryz.ntmps101
   go_wp2_with fail
   refine(CN.out _).mono ?_;rintro e w1⟨rfl,hbw1⟩;have B1:Hid (Below w.heap.size w w1):=qh (hb0.out.trans (hbw1.mono hb0.out.size));have d0:w1.cell? ⟨w.heap.size,0,none⟩=some (.int .i64 10):=(hbw1.cell (p:=⟨w.heap.size,0,none⟩) (by rw[q6];exact Nat.lt_succ_self _)).trans (by rw[HH.out];exact D0.out.1);have d2:w1.cell? ⟨w.heap.size,2,none⟩=some (.slice a l.length cap):=(hbw1.cell (p:=⟨w.heap.size,2,none⟩) (by rw[q6];exact Nat.lt_succ_self _)).trans (by rw[HH.out];exact D0.out.2.2);clear CN hbw1;obtain⟨b,o,k1,s1,l1,a1,c1,rfl,eq1,x0,x1,x2,r1⟩:=(HT.out.later B1.out).kid 0 j0;obtain⟨U,hU⟩:∃ U,qt l[0]=U:=⟨_,rfl⟩;have HE:Hid (jb l=U):=qh (by rw[q2c HM.out,<-hU]);rw[eq1]at hU;have CT:=qh (q3g _ (.mk k1 s1 l1) w1 _ _ _ (q9 _) r1);rw[hU]at CT;simp only[Nat.zero_mul,Nat.add_zero]at x0 x1 x2;have nb:=qi x0;clear eq1 hU r1
   go_wp2_with fail
   refine CT.out.mono ?_;clear CT;rintro e w9⟨rfl,hbw9⟩;have B9:Hid (Below w.heap.size w w9):=qh (B1.out.trans (hbw9.mono B1.out.size));clear hbw9 x0 x1 x2 d0 d2;go_wp2;go_ret;exact⟨by rw[HS.out,HE.out,decide_eq_true HM.out];rfl,B9.out⟩
  ·have e1:((l.length:Int)==1)=false:=by rw[qc];omega
   rw[decide_eq_false hll,Bool.false_and,Bool.and_false]at HS;clear hll;go_enter Tryz.func101,Tryz.ntmps101
   go_wp2_with fail
   refine(CN.out _).mono ?_;rintro e w1⟨rfl,hbw1⟩;have B1:Hid (Below w.heap.size w w1):=qh (hb0.out.trans (hbw1.mono hb0.out.size));have d0:w1.cell? ⟨w.heap.size,0,none⟩=some (.int .i64 10):=(hbw1.cell (p:=⟨w.heap.size,0,none⟩) (by rw[q6];exact Nat.lt_succ_self _)).trans (by rw[HH.out];exact D0.out.1);have d2:w1.cell? ⟨w.heap.size,2,none⟩=some (.slice a l.length cap):=(hbw1.cell (p:=⟨w.heap.size,2,none⟩) (by rw[q6];exact Nat.lt_succ_self _)).trans (by rw[HH.out];exact D0.out.2.2);clear CN hbw1;go_wp2;go_ret;exact⟨by rw[HS.out];rfl,B1.out⟩
theorem qf2(s:ByteArray)(l:List Nd)(w:World)(v0 v1 v2:Value)(ht:NdR w (.mk 11 s l) v0 v1 v2) :
  Calls Tryz.prog 101 #[.agg #[v0,v1,v2]] w fun e w'=>e = .returned (.bool (itemB (.mk 11 s l)))/\Below w.heap.size w w':=by
 obtain⟨k',s',l',a,cap,he,rfl,rfl,rfl,hs,hl⟩:=ht.form
 cases he;unfold maxLen at hl;obtain⟨V,hV⟩:∃ V,zf s=V:=⟨_,rfl⟩;have CN:=qh (fun w=>xg V s w hV);have HV:=qh hV;obtain⟨h,hh⟩:∃ h,w.heap.size=h:=⟨_,rfl⟩;have hb0:=qh ((Below.refl w.heap.size w).alloc (q9 _) (.cells #[.int .i64 11,.string s,.slice a l.length cap] 25));have D0:=qh (nd3 (w:=w) (k:=11) (s:=s) (v2:=.slice a l.length cap) (t:=25) hh);have HH:=qh hh;have HT:=qh ht;have HC:=qh ht.cap;have HL:Hid (NdL w l (.slice a l.length cap)):=qh ⟨_,_,_,_,ht⟩;clear hh ht hV;have HS:Hid (itemB (.mk 11 s l)=(V && (decide (l.length=1) && jb l))):=qh (by rw[itemB,qd (by decide),qd (by decide),qd (by decide),qd (by decide),qj (by decide)];rw[HV.out])
 cases V with
 |false =>
  go_enter Tryz.func101,Tryz.ntmps101
  go_wp2_with fail
  refine(CN.out _).mono ?_;rintro e w1⟨rfl,hbw1⟩;have B1:Hid (Below w.heap.size w w1):=qh (hb0.out.trans (hbw1.mono hb0.out.size));have d0:w1.cell? ⟨w.heap.size,0,none⟩=some (.int .i64 11):=(hbw1.cell (p:=⟨w.heap.size,0,none⟩) (by rw[q6];exact Nat.lt_succ_self _)).trans (by rw[HH.out];exact D0.out.1);have d2:w1.cell? ⟨w.heap.size,2,none⟩=some (.slice a l.length cap):=(hbw1.cell (p:=⟨w.heap.size,2,none⟩) (by rw[q6];exact Nat.lt_succ_self _)).trans (by rw[HH.out];exact D0.out.2.2);clear CN hbw1;go_wp2;go_ret;exact⟨by rw[HS.out];rfl,B1.out⟩
 |true =>
  by_cases hll:l.length=1
  ·have e1:((l.length:Int)==1)=true:=by rw[hll];rfl
   have j0:0 < l.length:=by omega
   have j1:(0:Int) < (l.length:Int):=by omega
   have HM:=qh hll;clear hll;go_enter Tryz.func101,Tryz.ntmps101
   go_wp2_with fail
   refine(CN.out _).mono ?_;rintro e w1⟨rfl,hbw1⟩;have B1:Hid (Below w.heap.size w w1):=qh (hb0.out.trans (hbw1.mono hb0.out.size));have d0:w1.cell? ⟨w.heap.size,0,none⟩=some (.int .i64 11):=(hbw1.cell (p:=⟨w.heap.size,0,none⟩) (by rw[q6];exact Nat.lt_succ_self _)).trans (by rw[HH.out];exact D0.out.1);have d2:w1.cell? ⟨w.heap.size,2,none⟩=some (.slice a l.length cap):=(hbw1.cell (p:=⟨w.heap.size,2,none⟩) (by rw[q6];exact Nat.lt_succ_self _)).trans (by rw[HH.out];exact D0.out.2.2);clear CN hbw1;obtain⟨b,o,k1,s1,l1,a1,c1,rfl,eq1,x0,x1,x2,r1⟩:=(HT.out.later B1.out).kid 0 j0;obtain⟨U,hU⟩:∃ U,qt l[0]=U:=⟨_,rfl⟩;have HE:Hid (jb l=U):=qh (by rw[q2c HM.out,<-hU]);rw[eq1]at hU;have CT:=qh (q3g _ (.mk k1 s1 l1) w1 _ _ _ (q9 _) r1);rw[hU]at CT;simp only[Nat.zero_mul,Nat.add_zero]at x0 x1 x2;have nb:=qi x0;clear eq1 hU r1
   go_wp2_with fail
   refine CT.out.mono ?_;clear CT;rintro e w9⟨rfl,hbw9⟩;have B9:Hid (Below w.heap.size w w9):=qh (B1.out.trans (hbw9.mono B1.out.size));clear hbw9 x0 x1 x2 d0 d2;go_wp2;go_ret;exact⟨by rw[HS.out,HE.out,decide_eq_true HM.out];rfl,B9.out⟩
  ·have e1:((l.length:Int)==1)=false:=by rw[qc];omega
   rw[decide_eq_false hll,Bool.false_and,Bool.and_false]at HS;clear hll;go_enter Tryz.func101,Tryz.ntmps101
   go_wp2_with fail
   refine(CN.out _).mono ?_;rintro e w1⟨rfl,hbw1⟩;have B1:Hid (Below w.heap.size w w1):=qh (hb0.out.trans (hbw1.mono hb0.out.size));have d0:w1.cell? ⟨w.heap.size,0,none⟩=some (.int .i64 11):=(hbw1.cell (p:=⟨w.heap.size,0,none⟩) (by rw[q6];exact Nat.lt_succ_self _)).trans (by rw[HH.out];exact D0.out.1);have d2:w1.cell? ⟨w.heap.size,2,none⟩=some (.slice a l.length cap):=(hbw1.cell (p:=⟨w.heap.size,2,none⟩) (by rw[q6];exact Nat.lt_succ_self _)).trans (by rw[HH.out];exact D0.out.2.2);clear CN hbw1;go_wp2;go_ret;exact⟨by rw[HS.out];rfl,B1.out⟩
theorem qf1(s:ByteArray)(l:List Nd)(w:World)(v0 v1 v2:Value)(ht:NdR w (.mk 12 s l) v0 v1 v2) :
  Calls Tryz.prog 101 #[.agg #[v0,v1,v2]] w fun e w'=>e = .returned (.bool (itemB (.mk 12 s l)))/\Below w.heap.size w w':=by
 obtain⟨k',s',l',a,cap,he,rfl,rfl,rfl,hs,hl⟩:=ht.form
 cases he;unfold maxLen at hl;obtain⟨V,hV⟩:∃ V,zf s=V:=⟨_,rfl⟩;have CN:=qh (fun w=>xg V s w hV);have HV:=qh hV;obtain⟨h,hh⟩:∃ h,w.heap.size=h:=⟨_,rfl⟩;have hb0:=qh ((Below.refl w.heap.size w).alloc (q9 _) (.cells #[.int .i64 12,.string s,.slice a l.length cap] 25));have D0:=qh (nd3 (w:=w) (k:=12) (s:=s) (v2:=.slice a l.length cap) (t:=25) hh);have HH:=qh hh;have HT:=qh ht;have HC:=qh ht.cap;have HL:Hid (NdL w l (.slice a l.length cap)):=qh ⟨_,_,_,_,ht⟩;clear hh ht hV;have HS:Hid (itemB (.mk 12 s l)=(V && decide (l.length=0))):=qh (by rw[itemB,qd (by decide),qd (by decide),qd (by decide),qd (by decide),qd (by decide),qj (by decide)];rw[HV.out])
 cases V with
 |false =>
  go_enter Tryz.func101,Tryz.ntmps101
  go_wp2_with fail
  refine(CN.out _).mono ?_;rintro e w1⟨rfl,hbw1⟩;have B1:Hid (Below w.heap.size w w1):=qh (hb0.out.trans (hbw1.mono hb0.out.size));have d0:w1.cell? ⟨w.heap.size,0,none⟩=some (.int .i64 12):=(hbw1.cell (p:=⟨w.heap.size,0,none⟩) (by rw[q6];exact Nat.lt_succ_self _)).trans (by rw[HH.out];exact D0.out.1);have d2:w1.cell? ⟨w.heap.size,2,none⟩=some (.slice a l.length cap):=(hbw1.cell (p:=⟨w.heap.size,2,none⟩) (by rw[q6];exact Nat.lt_succ_self _)).trans (by rw[HH.out];exact D0.out.2.2);clear CN hbw1;go_wp2;go_ret;exact⟨by rw[HS.out];rfl,B1.out⟩
 |true =>
  by_cases hll:l.length=0
  ·have e1:((l.length:Int)==0)=true:=by rw[hll];rfl
   rw[decide_eq_true hll]at HS;clear hll;go_enter Tryz.func101,Tryz.ntmps101
   go_wp2_with fail
   refine(CN.out _).mono ?_;rintro e w1⟨rfl,hbw1⟩;have B1:Hid (Below w.heap.size w w1):=qh (hb0.out.trans (hbw1.mono hb0.out.size));have d0:w1.cell? ⟨w.heap.size,0,none⟩=some (.int .i64 12):=(hbw1.cell (p:=⟨w.heap.size,0,none⟩) (by rw[q6];exact Nat.lt_succ_self _)).trans (by rw[HH.out];exact D0.out.1);have d2:w1.cell? ⟨w.heap.size,2,none⟩=some (.slice a l.length cap):=(hbw1.cell (p:=⟨w.heap.size,2,none⟩) (by rw[q6];exact Nat.lt_succ_self _)).trans (by rw[HH.out];exact D0.out.2.2);clear CN hbw1;go_wp2;go_ret;exact⟨by rw[HS.out];rfl,B1.out⟩
  ·have e1:((l.length:Int)==0)=false:=by rw[qc];omega
   rw[decide_eq_false hll,Bool.and_false]at HS;clear hll;go_enter Tryz.func101,Tryz.ntmps101
   go_wp2_with fail
   refine(CN.out _).mono ?_;rintro e w1⟨rfl,hbw1⟩;have B1:Hid (Below w.heap.size w w1):=qh (hb0.out.trans (hbw1.mono hb0.out.size));have d0:w1.cell? ⟨w.heap.size,0,none⟩=some (.int .i64 12):=(hbw1.cell (p:=⟨w.heap.size,0,none⟩) (by rw[q6];exact Nat.lt_succ_self _)).trans (by rw[HH.out];exact D0.out.1);have d2:w1.cell? ⟨w.heap.size,2,none⟩=some (.slice a l.length cap):=(hbw1.cell (p:=⟨w.heap.size,2,none⟩) (by rw[q6];exact Nat.lt_succ_self _)).trans (by rw[HH.out];exact D0.out.2.2);clear CN hbw1;go_wp2;go_ret;exact⟨by rw[HS.out];rfl,B1.out⟩
theorem qf0(s:ByteArray)(l:List Nd)(w:World)(v0 v1 v2:Value)(ht:NdR w (.mk 13 s l) v0 v1 v2) :
  Calls Tryz.prog 101 #[.agg #[v0,v1,v2]] w fun e w'=>e = .returned (.bool (itemB (.mk 13 s l)))/\Below w.heap.size w w':=by
 obtain⟨k',s',l',a,cap,he,rfl,rfl,rfl,hs,hl⟩:=ht.form
 cases he;unfold maxLen at hl;obtain⟨V,hV⟩:∃ V,zf s=V:=⟨_,rfl⟩;have CN:=qh (fun w=>xg V s w hV);have HV:=qh hV;obtain⟨h,hh⟩:∃ h,w.heap.size=h:=⟨_,rfl⟩;have hb0:=qh ((Below.refl w.heap.size w).alloc (q9 _) (.cells #[.int .i64 13,.string s,.slice a l.length cap] 25));have D0:=qh (nd3 (w:=w) (k:=13) (s:=s) (v2:=.slice a l.length cap) (t:=25) hh);have HH:=qh hh;have HT:=qh ht;have HC:=qh ht.cap;have HL:Hid (NdL w l (.slice a l.length cap)):=qh ⟨_,_,_,_,ht⟩;clear hh ht hV;have HS:Hid (itemB (.mk 13 s l)=(V && decide (l.length=0))):=qh (by rw[itemB,qd (by decide),qd (by decide),qd (by decide),qd (by decide),qd (by decide),qj (by decide)];rw[HV.out])
 cases V with
 |false =>
  go_enter Tryz.func101,Tryz.ntmps101
  go_wp2_with fail
  refine(CN.out _).mono ?_;rintro e w1⟨rfl,hbw1⟩;have B1:Hid (Below w.heap.size w w1):=qh (hb0.out.trans (hbw1.mono hb0.out.size));have d0:w1.cell? ⟨w.heap.size,0,none⟩=some (.int .i64 13):=(hbw1.cell (p:=⟨w.heap.size,0,none⟩) (by rw[q6];exact Nat.lt_succ_self _)).trans (by rw[HH.out];exact D0.out.1);have d2:w1.cell? ⟨w.heap.size,2,none⟩=some (.slice a l.length cap):=(hbw1.cell (p:=⟨w.heap.size,2,none⟩) (by rw[q6];exact Nat.lt_succ_self _)).trans (by rw[HH.out];exact D0.out.2.2);clear CN hbw1;go_wp2;go_ret;exact⟨by rw[HS.out];rfl,B1.out⟩
 |true =>
  by_cases hll:l.length=0
  ·have e1:((l.length:Int)==0)=true:=by rw[hll];rfl
   rw[decide_eq_true hll]at HS;clear hll;go_enter Tryz.func101,Tryz.ntmps101
   go_wp2_with fail
   refine(CN.out _).mono ?_;rintro e w1⟨rfl,hbw1⟩;have B1:Hid (Below w.heap.size w w1):=qh (hb0.out.trans (hbw1.mono hb0.out.size));have d0:w1.cell? ⟨w.heap.size,0,none⟩=some (.int .i64 13):=(hbw1.cell (p:=⟨w.heap.size,0,none⟩) (by rw[q6];exact Nat.lt_succ_self _)).trans (by rw[HH.out];exact D0.out.1);have d2:w1.cell? ⟨w.heap.size,2,none⟩=some (.slice a l.length cap):=(hbw1.cell (p:=⟨w.heap.size,2,none⟩) (by rw[q6];exact Nat.lt_succ_self _)).trans (by rw[HH.out];exact D0.out.2.2);clear CN hbw1;go_wp2;go_ret;exact⟨by rw[HS.out];rfl,B1.out⟩
  ·have e1:((l.length:Int)==0)=false:=by rw[qc];omega
   rw[decide_eq_false hll,Bool.and_false]at HS;clear hll;go_enter Tryz.func101,Tryz.ntmps101
   go_wp2_with fail
   refine(CN.out _).mono ?_;rintro e w1⟨rfl,hbw1⟩;have B1:Hid (Below w.heap.size w w1):=qh (hb0.out.trans (hbw1.mono hb0.out.size));have d0:w1.cell? ⟨w.heap.size,0,none⟩=some (.int .i64 13):=(hbw1.cell (p:=⟨w.heap.size,0,none⟩) (by rw[q6];exact Nat.lt_succ_self _)).trans (by rw[HH.out];exact D0.out.1);have d2:w1.cell? ⟨w.heap.size,2,none⟩=some (.slice a l.length cap):=(hbw1.cell (p:=⟨w.heap.size,2,none⟩) (by rw[q6];exact Nat.lt_succ_self _)).trans (by rw[HH.out];exact D0.out.2.2);clear CN hbw1;go_wp2;go_ret;exact⟨by rw[HS.out];rfl,B1.out⟩
theorem qez(s:ByteArray)(l:List Nd)(w:World)(v0 v1 v2:Value)(ht:NdR w (.mk 14 s l) v0 v1 v2) :
  Calls Tryz.prog 101 #[.agg #[v0,v1,v2]] w fun e w'=>e = .returned (.bool (itemB (.mk 14 s l)))/\Below w.heap.size w w':=by
 obtain⟨k',s',l',a,cap,he,rfl,rfl,rfl,hs,hl⟩:=ht.form
 cases he;unfold maxLen at hl;obtain⟨V,hV⟩:∃ V,zf s=V:=⟨_,rfl⟩;have CN:=qh (fun w=>xg V s w hV);have HV:=qh hV;obtain⟨h,hh⟩:∃ h,w.heap.size=h:=⟨_,rfl⟩;have hb0:=qh ((Below.refl w.heap.size w).alloc (q9 _) (.cells #[.int .i64 14,.string s,.slice a l.length cap] 25));have D0:=qh (nd3 (w:=w) (k:=14) (s:=s) (v2:=.slice a l.length cap) (t:=25) hh);have HH:=qh hh;have HT:=qh ht;have HC:=qh ht.cap;have HL:Hid (NdL w l (.slice a l.length cap)):=qh ⟨_,_,_,_,ht⟩;clear hh ht hV;have HS:Hid (itemB (.mk 14 s l)=(zb s && (decide (1<=l.length) && yh l))):=qh (by rw[itemB,qj (by decide)])
 cases hse:s.toList.isEmpty with
 |false =>
  have HR:Hid (itemB (.mk 14 s l)=false):=qh (by rw[HS.out];unfold zb;rw[hse];rfl);go_enter Tryz.func101,Tryz.ntmps101;go_wp2;go_ret;exact⟨by rw[HR.out];rfl,hb0.out⟩
 |true =>
  by_cases hll:1<=l.length
  ·have e1:(1:Int)<=(l.length:Int):=by omega
   have e2:decide (1<=l.length)=true:=decide_eq_true hll;have e3:decide (0 < l.length)=true:=decide_eq_true hll;have e5:0 < l.length:=hll;obtain⟨V,hV⟩:∃ V,yh l=V:=⟨_,rfl⟩;have C:=qh (fun w hv=>q5d l (.slice a l.length cap) w hv);rw[hV]at C;have HR:Hid (itemB (.mk 14 s l)=V):=qh (by rw[HS.out,decide_eq_true hll,hV];unfold zb;rw[hse];rfl);clear hV;go_enter Tryz.func101,Tryz.ntmps101
   go_wp2_with fail
   refine(C.out _ (HL.out.later hb0.out)).mono ?_;rintro e w1⟨rfl,hbw1⟩;have B1:Hid (Below w.heap.size w w1):=qh (hb0.out.trans (hbw1.mono hb0.out.size));clear C hbw1;go_wp2;go_ret;exact⟨by rw[HR.out];rfl,B1.out⟩
  ·have e1:¬ ((1:Int)<=(l.length:Int)):=by omega
   have e2:decide (1<=l.length)=false:=decide_eq_false hll;have e3:decide (0 < l.length)=false:=decide_eq_false hll;have e6:l=[]:=List.length_eq_zero_iff.1 (by omega);have HR:Hid (itemB (.mk 14 s l)=false):=qh (by rw[HS.out,decide_eq_false hll,Bool.false_and,Bool.and_false]);clear hll;subst e6;go_enter Tryz.func101,Tryz.ntmps101;go_wp2;go_ret;exact⟨by rw[HR.out];rfl,hb0.out⟩
theorem qb5(k:Int)(m2:¬ k=2)(m3:¬ k=3)(m4:¬ k=4)(m5:¬ k=5)(m6:¬ k=6)(m7:¬ k=7)(m8:¬ k=8)(m9:¬ k=9)(m10:¬ k=10)(m11:¬ k=11)(m12:¬ k=12)(m13:¬ k=13)(m14:¬ k=14)(s:ByteArray)(l:List Nd)(w:World)(v0 v1 v2:Value)(ht:NdR w (.mk k s l) v0 v1 v2) :
  Calls Tryz.prog 101 #[.agg #[v0,v1,v2]] w fun e w'=>e = .returned (.bool (itemB (.mk k s l)))/\Below w.heap.size w w':=by
 obtain⟨k',s',l',a,cap,he,rfl,rfl,rfl,hs,hl⟩:=ht.form
 cases he;unfold maxLen at hl;obtain⟨V,hV⟩:∃ V,zf s=V:=⟨_,rfl⟩;have CN:=qh (fun w=>xg V s w hV);have HV:=qh hV;obtain⟨h,hh⟩:∃ h,w.heap.size=h:=⟨_,rfl⟩;have hb0:=qh ((Below.refl w.heap.size w).alloc (q9 _) (.cells #[.int .i64 k,.string s,.slice a l.length cap] 25));have D0:=qh (nd3 (w:=w) (k:=k) (s:=s) (v2:=.slice a l.length cap) (t:=25) hh);have HH:=qh hh;have HT:=qh ht;have HC:=qh ht.cap;have HL:Hid (NdL w l (.slice a l.length cap)):=qh ⟨_,_,_,_,ht⟩;clear hh ht hV;have n2:((k:Int)==2)=false:=by rw[qc];exact m2
 have n3:((k:Int)==3)=false:=by rw[qc];exact m3
 have n4:((k:Int)==4)=false:=by rw[qc];exact m4
 have n5:((k:Int)==5)=false:=by rw[qc];exact m5
 have n6:((k:Int)==6)=false:=by rw[qc];exact m6
 have n7:((k:Int)==7)=false:=by rw[qc];exact m7
 have n8:((k:Int)==8)=false:=by rw[qc];exact m8
 have n9:((k:Int)==9)=false:=by rw[qc];exact m9
 have n10:((k:Int)==10)=false:=by rw[qc];exact m10
 have n11:((k:Int)==11)=false:=by rw[qc];exact m11
 have n12:((k:Int)==12)=false:=by rw[qc];exact m12
 have n13:((k:Int)==13)=false:=by rw[qc];exact m13
 have n14:((k:Int)==14)=false:=by rw[qc];exact m14
 have HS:Hid (itemB (.mk k s l)=false):=qh (by rw[itemB,qd (by omega),qd (by omega),qd (by omega),qd (by omega),qd (by omega),qd (by omega),Bool.and_false]);clear m2 m3 m4 m5 m6 m7 m8 m9 m10 m11 m12 m13 m14
 cases V with
 |false =>
  go_enter Tryz.func101,Tryz.ntmps101
  go_wp2_with fail
  refine(CN.out _).mono ?_;rintro e w1⟨rfl,hbw1⟩;have B1:Hid (Below w.heap.size w w1):=qh (hb0.out.trans (hbw1.mono hb0.out.size));have d0:w1.cell? ⟨w.heap.size,0,none⟩=some (.int .i64 k):=(hbw1.cell (p:=⟨w.heap.size,0,none⟩) (by rw[q6];exact Nat.lt_succ_self _)).trans (by rw[HH.out];exact D0.out.1);have d2:w1.cell? ⟨w.heap.size,2,none⟩=some (.slice a l.length cap):=(hbw1.cell (p:=⟨w.heap.size,2,none⟩) (by rw[q6];exact Nat.lt_succ_self _)).trans (by rw[HH.out];exact D0.out.2.2);clear CN hbw1;go_wp2;go_ret;exact⟨by rw[HS.out];rfl,B1.out⟩
 |true =>
  go_enter Tryz.func101,Tryz.ntmps101
  go_wp2_with fail
  refine(CN.out _).mono ?_;rintro e w1⟨rfl,hbw1⟩;have B1:Hid (Below w.heap.size w w1):=qh (hb0.out.trans (hbw1.mono hb0.out.size));have d0:w1.cell? ⟨w.heap.size,0,none⟩=some (.int .i64 k):=(hbw1.cell (p:=⟨w.heap.size,0,none⟩) (by rw[q6];exact Nat.lt_succ_self _)).trans (by rw[HH.out];exact D0.out.1);have d2:w1.cell? ⟨w.heap.size,2,none⟩=some (.slice a l.length cap):=(hbw1.cell (p:=⟨w.heap.size,2,none⟩) (by rw[q6];exact Nat.lt_succ_self _)).trans (by rw[HH.out];exact D0.out.2.2);clear CN hbw1;go_wp2;go_ret;exact⟨by rw[HS.out];rfl,B1.out⟩
theorem qe0(t:Nd)(w:World)(v0 v1 v2:Value)(ht:NdR w t v0 v1 v2) :
  Calls Tryz.prog 101 #[.agg #[v0,v1,v2]] w fun e w'=>e = .returned (.bool (itemB t))/\Below w.heap.size w w':=by
 obtain⟨k,s,l⟩:=t
 by_cases m2:k=2
 ·subst m2;exact qhk s l w v0 v1 v2 ht
 by_cases m3:k=3
 ·subst m3;exact qhj s l w v0 v1 v2 ht
 by_cases m4:k=4
 ·subst m4;exact qhi s l w v0 v1 v2 ht
 by_cases m5:k=5
 ·subst m5;exact qhh s l w v0 v1 v2 ht
 by_cases m6:k=6
 ·subst m6;exact qhg s l w v0 v1 v2 ht
 by_cases m7:k=7
 ·subst m7;exact qhf s l w v0 v1 v2 ht
 by_cases m8:k=8
 ·subst m8;exact qhe s l w v0 v1 v2 ht
 by_cases m9:k=9
 ·subst m9;exact qhd s l w v0 v1 v2 ht
 by_cases m10:k=10
 ·subst m10;exact qf3 s l w v0 v1 v2 ht
 by_cases m11:k=11
 ·subst m11;exact qf2 s l w v0 v1 v2 ht
 by_cases m12:k=12
 ·subst m12;exact qf1 s l w v0 v1 v2 ht
 by_cases m13:k=13
 ·subst m13;exact qf0 s l w v0 v1 v2 ht
 by_cases m14:k=14
 ·subst m14;exact qez s l w v0 v1 v2 ht
 exact qb5 k m2 m3 m4 m5 m6 m7 m8 m9 m10 m11 m12 m13 m14 s l w v0 v1 v2 ht
def q1n:List Nd->Bool
 |[]=>true
 |a :: l=>itemB a && q1n l
theorem wu:∀ (l:List Nd),q1n l=true↔∀ i,(h:i < l.length)->itemB l[i]=true
 |[]=>by simp[q1n]
 |a :: l=>by
  simp only[q1n,ql,wu l]
  constructor
  ·rintro⟨h1,h2⟩ i hi
   cases i with
   |zero=>exact h1
   |succ i=>exact h2 i (by simpa using hi)
  ·intro h
   exact⟨h 0 (by simp),fun i hi=>h (i+1) (by simpa using hi)⟩
def kj:Nd->Bool
 | .mk k s l=>decide (k=1) && (zb s && q1n l)
theorem qlc(t:Nd)(w:World)(v0 v1 v2:Value)(ht:NdR w t v0 v1 v2) :
  Calls Tryz.prog 72 #[.agg #[v0,v1,v2]] w fun e w'=>e = .returned (.bool (kj t))/\Below w.heap.size w w':=by
 obtain⟨k,s,l,a,cap,rfl,rfl,rfl,rfl,hs,hl⟩:=ht.form;unfold maxLen at hl;have hb0:=qh ((Below.refl w.heap.size w).alloc (q9 _) (.cells #[.int .i64 k,.string s,.slice a l.length cap] 25))
 by_cases hk:k=1
 ·subst hk
  cases hse:s.toList.isEmpty with
  |false =>
   have HR:Hid (kj (.mk 1 s l)=false):=qh (by rw[kj];unfold zb;rw[hse];rfl);clear ht;go_enter Tryz.func72,Tryz.ntmps72;go_wp2;go_ret;exact⟨by rw[HR.out];rfl,hb0.out⟩
  |true =>
   have HR:Hid (kj (.mk 1 s l)=q1n l):=qh (by rw[kj,decide_eq_true rfl];unfold zb;rw[hse];rfl);have HT:=qh ht;clear ht hb0;go_enter Tryz.func72,Tryz.ntmps72;go_wp2;obtain⟨h,hh⟩:∃ h,w.heap.size=h:=⟨_,rfl⟩;obtain⟨wz,hwz⟩:∃ wz,w.alloc (Obj.cells #[Value.int IntKind.i64 1,Value.string s,Value.slice a l.length cap] 25)=wz:=⟨_,rfl⟩;have hB:Hid (Below w.heap.size w wz):=qh (by rw[<-hwz];exact(Below.refl _ w).alloc (q9 _) _);have hz:wz.heap.size=h+1:=by rw[<-hwz];simp[hh]
   have g0:wz.cell? ⟨h,2,none⟩=some (.slice a l.length cap):=by
    rw[<-hwz,<-hh];exact(World.cell?_alloc_at _ _ _ _ rfl).trans rfl
   have HG0:=qh g0;have Hz:=qh hz;have HTz:=qh (HT.out.later hB.out);rw[hwz,hh];clear hwz hh hz g0 HT
   go_loopw [3] (fun v3 wr=>∃ i:Nat,i<=l.length/\v3 = .int .i64 (i:Int)/\Hid (∀ j,(h:j < l.length)->j < i->itemB l[j]=true)/\Hid (Below wz.heap.size wz wr)) (fun v3 _=>l.length - (intOf v3).toNat)
   case atStart=>exact⟨0,qv _,rfl,qh (fun j _ h=>absurd h (Nat.not_lt_zero _)),Below.refl _ _⟩
   case round =>
    obtain⟨i,hi,rfl,hall,hbl⟩:=hrel;have g0:=(hbl.out.cell (p:=⟨h,2,none⟩) (by have:=Hz.out;simp only;omega)).trans HG0.out
    by_cases hlt:i < l.length
    ·have hlt':(i:Int) < (l.length:Int):=by omega
     have hi0:(0:Int)<=(i:Int):=by omega
     obtain⟨b,o,k1,s1,l1,a1,c1,rfl,e1,x0,x1,x2,r1⟩:=(HTz.out.later hbl.out).kid i hlt;obtain⟨V,hV⟩:∃ V,itemB l[i]=V:=⟨_,rfl⟩;have HVi:=qh hV;rw[e1]at hV;have C:=qh (qe0 (.mk k1 s1 l1) wr _ _ _ r1);rw[hV]at C;have L0:=qi g0;have L2:=qi x0;clear e1 hV r1
     go_wp2_with fail
     refine C.out.mono ?_;clear C;rintro e w5⟨rfl,hb5⟩;have Hb5:Hid (Below wz.heap.size wz w5):=qh (hbl.out.trans (hb5.mono hbl.out.size));clear hb5 x0 x1 x2 g0
     cases V with
     |false =>
      have HS:Hid (q1n l=false):=qh (by
       rw[Bool.eq_false_iff];intro h;have:=(wu l).1 h i hlt;rw[HVi.out]at this
       cases this)
      go_wp2;go_ret;exact⟨by rw[HR.out,HS.out];rfl,hB.out.trans (Hb5.out.mono hB.out.size)⟩
     |true =>
      go_wp2;go_roundw
      case rel=>exact⟨i+1,hlt,by push_cast;rfl,qh (fun j hj hji=>by
       by_cases e:j=i
       ·subst e;exact HVi.out
       ·exact hall.out j hj (by omega)),Hb5⟩
      case measure=>simp[intOf];omega
    ·have hlt':¬ ((i:Int) < (l.length:Int)):=by omega
     have HS:Hid (q1n l=true):=qh ((wu l).2 fun j hj=>hall.out j hj (by omega));go_wp2;go_ret;exact⟨by rw[HR.out,HS.out];rfl,hB.out.trans (hbl.out.mono hB.out.size)⟩
 ·have hk2:((k:Int) != 1)=true:=by rw[bne_iff_ne];exact hk
  have HR:Hid (kj (.mk k s l)=false):=qh (by rw[kj,decide_eq_false hk,Bool.false_and]);clear hk ht;go_enter Tryz.func72,Tryz.ntmps72;go_wp2;go_ret;exact⟨by rw[HR.out];rfl,hb0.out⟩
def zx(t:Nd):Int:=if 4000 < t.sz then 2 else if 100 < t.dp then 5 else if x5 t||(zv t||(qt t||(itemB t||kj t))) then 0 else 21
theorem q63(t:Nd)(w:World)(v0 v1 v2:Value)(ht:NdR w t v0 v1 v2) :
  Calls Tryz.prog 48 #[.agg #[v0,v1,v2]] w fun e w'=>e = .returned (.int .i64 (zx t))/\Below w.heap.size w w':=by
 obtain⟨k,s,l,a,cap,rfl,rfl,rfl,rfl,hs,hl⟩:=ht.form;unfold maxLen at hl;have CC:=qh (fun w h=>qmx _ (.mk k s l) 4000 w (.int .i64 k) (.string s) (.slice a l.length cap) (q9 _) (by omega) h);have CD:=qh (fun w h=>qnu _ (.mk k s l) 100 w (.int .i64 k) (.string s) (.slice a l.length cap) (q9 _) (by omega) h);have C1:=qh (fun w h=>q3f _ (.mk k s l) w (.int .i64 k) (.string s) (.slice a l.length cap) (q9 _) h);have C2:=qh (fun w h=>qdz _ (.mk k s l) w (.int .i64 k) (.string s) (.slice a l.length cap) (q9 _) h);have C3:=qh (fun w h=>q3g _ (.mk k s l) w (.int .i64 k) (.string s) (.slice a l.length cap) (q9 _) h);have C4:=qh (fun w h=>qe0 (.mk k s l) w (.int .i64 k) (.string s) (.slice a l.length cap) h);have C5:=qh (fun w h=>qlc (.mk k s l) w (.int .i64 k) (.string s) (.slice a l.length cap) h);have HS:Hid (zx (.mk k s l)=if 4000 < (Nd.mk k s l).sz then 2 else if 100 < (Nd.mk k s l).dp then 5 else if x5 (.mk k s l)||(zv (.mk k s l)||(qt (.mk k s l)||(itemB (.mk k s l)||kj (.mk k s l)))) then 0 else 21):=qh rfl;obtain⟨h,hh⟩:∃ h,w.heap.size=h:=⟨_,rfl⟩;have hb0:=qh ((Below.refl w.heap.size w).alloc (q9 _) (.cells #[.int .i64 k,.string s,.slice a l.length cap] 25));have D0:=qh (nd3 (w:=w) (k:=k) (s:=s) (v2:=.slice a l.length cap) (t:=25) hh);have HH:=qh hh;have HT:=qh ht;clear hh ht;obtain⟨V1,hV1⟩:∃ V,x5 (.mk k s l)=V:=⟨_,rfl⟩;obtain⟨V2,hV2⟩:∃ V,zv (.mk k s l)=V:=⟨_,rfl⟩;obtain⟨V3,hV3⟩:∃ V,qt (.mk k s l)=V:=⟨_,rfl⟩;obtain⟨V4,hV4⟩:∃ V,itemB (.mk k s l)=V:=⟨_,rfl⟩;obtain⟨V5,hV5⟩:∃ V,kj (.mk k s l)=V:=⟨_,rfl⟩;obtain⟨N,hN⟩:∃ N,(Nd.mk k s l).sz=N:=⟨_,rfl⟩;obtain⟨M,hM⟩:∃ N,(Nd.mk k s l).dp=N:=⟨_,rfl⟩;obtain⟨R,hR⟩:∃ R,zx (.mk k s l)=R:=⟨_,rfl⟩;rw[hV1,hV2,hV3,hV4,hV5,hN,hM,hR]at HS;rw[hR];rw[hV1]at C1;rw[hV2]at C2;rw[hV3]at C3;rw[hV4]at C4;rw[hV5]at C5;rw[hN]at CC;rw[hM]at CD;clear hV1 hV2 hV3 hV4 hV5 hN hM hR;obtain⟨Q,hQ⟩:∃ Q,min N (4000+1)=Q:=⟨_,rfl⟩;obtain⟨T,hT⟩:∃ Q,min M (100+1)=Q:=⟨_,rfl⟩;rw[hQ]at CC;rw[hT]at CD
 by_cases hn:4000 < N
 ·have HR:Hid (R=2):=qh (by rw[HS.out,qj hn])
  have q:Q=4001:=by omega
  subst q;clear hn hQ;go_enter Tryz.func48,Tryz.ntmps48
  go_wp2_with fail
  refine(CC.out _ (HT.out.later hb0.out)).mono ?_;rintro e wa⟨rfl,hbwa⟩;have Bwa:Hid (Below w.heap.size w wa):=qh (hb0.out.trans (hbwa.mono hb0.out.size));have Ewa:Hid (Below (w.heap.size+1) (w.alloc (.cells #[.int .i64 k,.string s,.slice a l.length cap] 25)) wa):=qh (by have:=hbwa;rw[q6]at this;exact this);clear CC hbwa;have d0:wa.cell? ⟨w.heap.size,0,none⟩=some (.int .i64 k):=(Ewa.out.cell (p:=⟨w.heap.size,0,none⟩) (Nat.lt_succ_self _)).trans (by rw[HH.out];exact D0.out.1);have d1:wa.cell? ⟨w.heap.size,1,none⟩=some (.string s):=(Ewa.out.cell (p:=⟨w.heap.size,1,none⟩) (Nat.lt_succ_self _)).trans (by rw[HH.out];exact D0.out.2.1);have d2:wa.cell? ⟨w.heap.size,2,none⟩=some (.slice a l.length cap):=(Ewa.out.cell (p:=⟨w.heap.size,2,none⟩) (Nat.lt_succ_self _)).trans (by rw[HH.out];exact D0.out.2.2);go_wp2;go_ret;exact⟨by rw[HR.out];rfl,Bwa.out⟩
 ·have q:¬ ((4000:Int) < (Q:Int)):=by omega
  have q1:decide ((4000:Int) < (Q:Int))=false:=decide_eq_false q;have q2:decide (4000 < Q)=false:=decide_eq_false (by omega);rw[qd hn]at HS;clear hn hQ
  by_cases hm:100 < M
  ·have HR:Hid (R=5):=qh (by rw[HS.out,qj hm])
   have q3:T=101:=by omega
   subst q3;clear hm hT;go_enter Tryz.func48,Tryz.ntmps48
   go_wp2_with fail
   refine(CC.out _ (HT.out.later hb0.out)).mono ?_;rintro e wa⟨rfl,hbwa⟩;have Bwa:Hid (Below w.heap.size w wa):=qh (hb0.out.trans (hbwa.mono hb0.out.size));have Ewa:Hid (Below (w.heap.size+1) (w.alloc (.cells #[.int .i64 k,.string s,.slice a l.length cap] 25)) wa):=qh (by have:=hbwa;rw[q6]at this;exact this);clear CC hbwa;have d0:wa.cell? ⟨w.heap.size,0,none⟩=some (.int .i64 k):=(Ewa.out.cell (p:=⟨w.heap.size,0,none⟩) (Nat.lt_succ_self _)).trans (by rw[HH.out];exact D0.out.1);have d1:wa.cell? ⟨w.heap.size,1,none⟩=some (.string s):=(Ewa.out.cell (p:=⟨w.heap.size,1,none⟩) (Nat.lt_succ_self _)).trans (by rw[HH.out];exact D0.out.2.1);have d2:wa.cell? ⟨w.heap.size,2,none⟩=some (.slice a l.length cap):=(Ewa.out.cell (p:=⟨w.heap.size,2,none⟩) (Nat.lt_succ_self _)).trans (by rw[HH.out];exact D0.out.2.2)
   go_wp2_with fail
   refine(CD.out _ (HT.out.later Bwa.out)).mono ?_;rintro e wb⟨rfl,hbwb⟩;have Bwb:Hid (Below w.heap.size w wb):=qh (Bwa.out.trans (hbwb.mono Bwa.out.size));have Ewb:Hid (Below (w.heap.size+1) (w.alloc (.cells #[.int .i64 k,.string s,.slice a l.length cap] 25)) wb):=qh (Ewa.out.trans (hbwb.mono (by have:=Ewa.out.size;rw[q6]at this;exact this)));clear CD hbwb d0 d1 d2;have d0:wb.cell? ⟨w.heap.size,0,none⟩=some (.int .i64 k):=(Ewb.out.cell (p:=⟨w.heap.size,0,none⟩) (Nat.lt_succ_self _)).trans (by rw[HH.out];exact D0.out.1);have d1:wb.cell? ⟨w.heap.size,1,none⟩=some (.string s):=(Ewb.out.cell (p:=⟨w.heap.size,1,none⟩) (Nat.lt_succ_self _)).trans (by rw[HH.out];exact D0.out.2.1);have d2:wb.cell? ⟨w.heap.size,2,none⟩=some (.slice a l.length cap):=(Ewb.out.cell (p:=⟨w.heap.size,2,none⟩) (Nat.lt_succ_self _)).trans (by rw[HH.out];exact D0.out.2.2);go_wp2;go_ret;exact⟨by rw[HR.out];rfl,Bwb.out⟩
  ·have q3:¬ ((100:Int) < (T:Int)):=by omega
   have q4:decide ((100:Int) < (T:Int))=false:=decide_eq_false q3;have q5:decide (100 < T)=false:=decide_eq_false (by omega);rw[qd hm]at HS;clear hm hT;go_enter Tryz.func48,Tryz.ntmps48
   go_wp2_with fail
   refine(CC.out _ (HT.out.later hb0.out)).mono ?_;rintro e wa⟨rfl,hbwa⟩;have Bwa:Hid (Below w.heap.size w wa):=qh (hb0.out.trans (hbwa.mono hb0.out.size));have Ewa:Hid (Below (w.heap.size+1) (w.alloc (.cells #[.int .i64 k,.string s,.slice a l.length cap] 25)) wa):=qh (by have:=hbwa;rw[q6]at this;exact this);clear CC hbwa;have d0:wa.cell? ⟨w.heap.size,0,none⟩=some (.int .i64 k):=(Ewa.out.cell (p:=⟨w.heap.size,0,none⟩) (Nat.lt_succ_self _)).trans (by rw[HH.out];exact D0.out.1);have d1:wa.cell? ⟨w.heap.size,1,none⟩=some (.string s):=(Ewa.out.cell (p:=⟨w.heap.size,1,none⟩) (Nat.lt_succ_self _)).trans (by rw[HH.out];exact D0.out.2.1);have d2:wa.cell? ⟨w.heap.size,2,none⟩=some (.slice a l.length cap):=(Ewa.out.cell (p:=⟨w.heap.size,2,none⟩) (Nat.lt_succ_self _)).trans (by rw[HH.out];exact D0.out.2.2)
   go_wp2_with fail
   refine(CD.out _ (HT.out.later Bwa.out)).mono ?_;rintro e wb⟨rfl,hbwb⟩;have Bwb:Hid (Below w.heap.size w wb):=qh (Bwa.out.trans (hbwb.mono Bwa.out.size));have Ewb:Hid (Below (w.heap.size+1) (w.alloc (.cells #[.int .i64 k,.string s,.slice a l.length cap] 25)) wb):=qh (Ewa.out.trans (hbwb.mono (by have:=Ewa.out.size;rw[q6]at this;exact this)));clear CD hbwb d0 d1 d2;have d0:wb.cell? ⟨w.heap.size,0,none⟩=some (.int .i64 k):=(Ewb.out.cell (p:=⟨w.heap.size,0,none⟩) (Nat.lt_succ_self _)).trans (by rw[HH.out];exact D0.out.1);have d1:wb.cell? ⟨w.heap.size,1,none⟩=some (.string s):=(Ewb.out.cell (p:=⟨w.heap.size,1,none⟩) (Nat.lt_succ_self _)).trans (by rw[HH.out];exact D0.out.2.1);have d2:wb.cell? ⟨w.heap.size,2,none⟩=some (.slice a l.length cap):=(Ewb.out.cell (p:=⟨w.heap.size,2,none⟩) (Nat.lt_succ_self _)).trans (by rw[HH.out];exact D0.out.2.2)
   go_wp2_with fail
   refine(C1.out _ (HT.out.later Bwb.out)).mono ?_;rintro e wc⟨rfl,hbwc⟩;have Bwc:Hid (Below w.heap.size w wc):=qh (Bwb.out.trans (hbwc.mono Bwb.out.size));have Ewc:Hid (Below (w.heap.size+1) (w.alloc (.cells #[.int .i64 k,.string s,.slice a l.length cap] 25)) wc):=qh (Ewb.out.trans (hbwc.mono (by have:=Ewb.out.size;rw[q6]at this;exact this)));clear C1 hbwc d0 d1 d2;have d0:wc.cell? ⟨w.heap.size,0,none⟩=some (.int .i64 k):=(Ewc.out.cell (p:=⟨w.heap.size,0,none⟩) (Nat.lt_succ_self _)).trans (by rw[HH.out];exact D0.out.1);have d1:wc.cell? ⟨w.heap.size,1,none⟩=some (.string s):=(Ewc.out.cell (p:=⟨w.heap.size,1,none⟩) (Nat.lt_succ_self _)).trans (by rw[HH.out];exact D0.out.2.1);have d2:wc.cell? ⟨w.heap.size,2,none⟩=some (.slice a l.length cap):=(Ewc.out.cell (p:=⟨w.heap.size,2,none⟩) (Nat.lt_succ_self _)).trans (by rw[HH.out];exact D0.out.2.2)
   cases V1 with
   |true =>
    have HR:Hid (R=0):=qh (by rw[HS.out];rfl);go_wp2;go_ret;exact⟨by rw[HR.out];rfl,Bwc.out⟩
   |false =>
    go_wp2_with fail
    refine(C2.out _ (HT.out.later Bwc.out)).mono ?_;rintro e wd⟨rfl,hbwd⟩;have Bwd:Hid (Below w.heap.size w wd):=qh (Bwc.out.trans (hbwd.mono Bwc.out.size));have Ewd:Hid (Below (w.heap.size+1) (w.alloc (.cells #[.int .i64 k,.string s,.slice a l.length cap] 25)) wd):=qh (Ewc.out.trans (hbwd.mono (by have:=Ewc.out.size;rw[q6]at this;exact this)));clear C2 hbwd d0 d1 d2;have d0:wd.cell? ⟨w.heap.size,0,none⟩=some (.int .i64 k):=(Ewd.out.cell (p:=⟨w.heap.size,0,none⟩) (Nat.lt_succ_self _)).trans (by rw[HH.out];exact D0.out.1);have d1:wd.cell? ⟨w.heap.size,1,none⟩=some (.string s):=(Ewd.out.cell (p:=⟨w.heap.size,1,none⟩) (Nat.lt_succ_self _)).trans (by rw[HH.out];exact D0.out.2.1);have d2:wd.cell? ⟨w.heap.size,2,none⟩=some (.slice a l.length cap):=(Ewd.out.cell (p:=⟨w.heap.size,2,none⟩) (Nat.lt_succ_self _)).trans (by rw[HH.out];exact D0.out.2.2)
    cases V2 with
    |true =>
     have HR:Hid (R=0):=qh (by rw[HS.out];simp);go_wp2;go_ret;exact⟨by rw[HR.out];rfl,Bwd.out⟩
    |false =>
     go_wp2_with fail
     refine(C3.out _ (HT.out.later Bwd.out)).mono ?_;rintro e we⟨rfl,hbwe⟩;have Bwe:Hid (Below w.heap.size w we):=qh (Bwd.out.trans (hbwe.mono Bwd.out.size));have Ewe:Hid (Below (w.heap.size+1) (w.alloc (.cells #[.int .i64 k,.string s,.slice a l.length cap] 25)) we):=qh (Ewd.out.trans (hbwe.mono (by have:=Ewd.out.size;rw[q6]at this;exact this)));clear C3 hbwe d0 d1 d2;have d0:we.cell? ⟨w.heap.size,0,none⟩=some (.int .i64 k):=(Ewe.out.cell (p:=⟨w.heap.size,0,none⟩) (Nat.lt_succ_self _)).trans (by rw[HH.out];exact D0.out.1);have d1:we.cell? ⟨w.heap.size,1,none⟩=some (.string s):=(Ewe.out.cell (p:=⟨w.heap.size,1,none⟩) (Nat.lt_succ_self _)).trans (by rw[HH.out];exact D0.out.2.1);have d2:we.cell? ⟨w.heap.size,2,none⟩=some (.slice a l.length cap):=(Ewe.out.cell (p:=⟨w.heap.size,2,none⟩) (Nat.lt_succ_self _)).trans (by rw[HH.out];exact D0.out.2.2)
     cases V3 with
     |true =>
      have HR:Hid (R=0):=qh (by rw[HS.out];simp);go_wp2;go_ret;exact⟨by rw[HR.out];rfl,Bwe.out⟩
     |false =>
      go_wp2_with fail
      refine(C4.out _ (HT.out.later Bwe.out)).mono ?_;rintro e wf⟨rfl,hbwf⟩;have Bwf:Hid (Below w.heap.size w wf):=qh (Bwe.out.trans (hbwf.mono Bwe.out.size));have Ewf:Hid (Below (w.heap.size+1) (w.alloc (.cells #[.int .i64 k,.string s,.slice a l.length cap] 25)) wf):=qh (Ewe.out.trans (hbwf.mono (by have:=Ewe.out.size;rw[q6]at this;exact this)));clear C4 hbwf d0 d1 d2;have d0:wf.cell? ⟨w.heap.size,0,none⟩=some (.int .i64 k):=(Ewf.out.cell (p:=⟨w.heap.size,0,none⟩) (Nat.lt_succ_self _)).trans (by rw[HH.out];exact D0.out.1);have d1:wf.cell? ⟨w.heap.size,1,none⟩=some (.string s):=(Ewf.out.cell (p:=⟨w.heap.size,1,none⟩) (Nat.lt_succ_self _)).trans (by rw[HH.out];exact D0.out.2.1);have d2:wf.cell? ⟨w.heap.size,2,none⟩=some (.slice a l.length cap):=(Ewf.out.cell (p:=⟨w.heap.size,2,none⟩) (Nat.lt_succ_self _)).trans (by rw[HH.out];exact D0.out.2.2)
      cases V4 with
      |true =>
       have HR:Hid (R=0):=qh (by rw[HS.out];simp);go_wp2;go_ret;exact⟨by rw[HR.out];rfl,Bwf.out⟩
      |false =>
       go_wp2_with fail
       refine(C5.out _ (HT.out.later Bwf.out)).mono ?_;rintro e wg⟨rfl,hbwg⟩;have Bwg:Hid (Below w.heap.size w wg):=qh (Bwf.out.trans (hbwg.mono Bwf.out.size));have Ewg:Hid (Below (w.heap.size+1) (w.alloc (.cells #[.int .i64 k,.string s,.slice a l.length cap] 25)) wg):=qh (Ewf.out.trans (hbwg.mono (by have:=Ewf.out.size;rw[q6]at this;exact this)));clear C5 hbwg d0 d1 d2;have d0:wg.cell? ⟨w.heap.size,0,none⟩=some (.int .i64 k):=(Ewg.out.cell (p:=⟨w.heap.size,0,none⟩) (Nat.lt_succ_self _)).trans (by rw[HH.out];exact D0.out.1);have d1:wg.cell? ⟨w.heap.size,1,none⟩=some (.string s):=(Ewg.out.cell (p:=⟨w.heap.size,1,none⟩) (Nat.lt_succ_self _)).trans (by rw[HH.out];exact D0.out.2.1);have d2:wg.cell? ⟨w.heap.size,2,none⟩=some (.slice a l.length cap):=(Ewg.out.cell (p:=⟨w.heap.size,2,none⟩) (Nat.lt_succ_self _)).trans (by rw[HH.out];exact D0.out.2.2)
       cases V5 with
       |true =>
        have HR:Hid (R=0):=qh (by rw[HS.out];simp);go_wp2;go_ret;exact⟨by rw[HR.out];rfl,Bwg.out⟩
       |false =>
        have HR:Hid (R=21):=qh (by rw[HS.out];rfl);go_wp2;go_ret;exact⟨by rw[HR.out];rfl,Bwg.out⟩
end Go.Proofs.YtkckddojlignpaaGreatDoor
namespace Go.Proofs.YtkckddojlignpaaGreatDoor
open Go.RowKit Go.Shelf
attribute [local go_sem] Oper.semAt_some
theorem q3p(k:Int)(s:ByteArray)(a:Option Addr)(n cap:Nat)(w:World) :
  Calls Tryz.prog 59 #[.agg #[.int .i64 k,.string s,.slice a n cap]] w fun e w'=>e = .returned (.func (.func 120) #[] #[.pointer (some ⟨w.heap.size,0,none⟩)])/\w'=w.alloc (.cells #[.int .i64 k,.string s,.slice a n cap] 25):=by
 have hmf:∀ (fn:Fn) (first cap:Array Value) (w:World),(Instr.makeFunc fn first cap).run Tryz.prog w = .ok (.func fn first cap) w:=fun _ _ _ _=>rfl
 go_enter Tryz.func59,Tryz.ntmps59;go_wp2;go_ret;exact⟨rfl,rfl⟩
theorem q2u(O:World->Nat->Prop)(l nb:Nat)(w₀ W:World)(J Jx:List It->World->Prop)(k:Int)(s:ByteArray)(kids:List Nd)(a:Option Addr)(cap:Nat)
  (hJN:∀ pre W,J pre W->pre.length<=90000)
  (hJ:∀ pre A B,J pre A->Below W.heap.size A B->(∀ b,O A b->B.heap[b]?=A.heap[b]?)->J pre B)
  (hO:∀ A B,Below W.heap.size A B->∀ b,O B b->O A b)
  (hJO:∀ pre A,J pre A->∀ b,O A b->b < A.heap.size)
  (hY:∀ m pre it A vp vi v0 v1 v2 n₁ ps,W.heap.size<=n₁->J pre A->pre++[it] <+: zq 0 [] false (.mk k s kids)->ps.length<=pre.length->Given n₁ A it vp vi v0 v1 v2 ps->YieldAt Fence.wide m Tryz.prog l #[.agg #[vp,vi,.bool it.wd],.agg #[v0,v1,v2]] A
   (fun e W'=>(e = .returned (.bool true)/\J (pre++[it]) W'/\Kc O A W')\/(e = .returned (.bool false)/\Jx (pre++[it]) W'/\Kc O A W')))
  (ht:NdR w₀ (.mk k s kids) (.int .i64 k) (.string s) (.slice a kids.length cap)) (hn:Row3 W nb (.int .i64 k) (.string s) (.slice a kids.length cap)) (hs:Sup w₀ W) (hz:w₀.heap.size<=W.heap.size) (hx0:∀ b,O W b->w₀.heap.size<=b) (h0:J [] W) :
  Calls Tryz.prog 120 #[.func (.yield l) #[] #[],.pointer (some ⟨nb,0,none⟩)] W fun e w'=>(∃ v,e = .returned v)/\((J (zq 0 [] false (.mk k s kids)) w')\/∃ q,q <+: zq 0 [] false (.mk k s kids)/\Jx q w'):=by
 have hmf:∀ (fn:Fn) (first cap:Array Value) (w:World),(Instr.makeFunc fn first cap).run Tryz.prog w = .ok (.func fn first cap) w:=fun _ _ _ _=>rfl
 obtain⟨h,hh⟩:∃ h,W.heap.size=h:=⟨_,rfl⟩;rw[hh]at hz hJ hO hY;obtain⟨W3,hW3⟩:∃ W3,(W.alloc (.cells #[q7k l] 144)).alloc (.cells #[q7l h (h+1)] 144)=W3:=⟨_,rfl⟩;have z3:W3.heap.size=h+1+1:=by rw[<-hW3];simp[hh]
 have old:∀ b,b < h->W3.heap[b]?=W.heap[b]?:=fun b hb=>by rw[<-hW3];exact(Below.heap_alloc _ _ _ (by simp only[q6];omega)).trans (Below.heap_alloc _ _ _ (by omega))
 have B3:Below h W W3:=by rw[<-hW3];exact((Below.refl _ W).alloc (by omega) _).alloc (by simp only[q6];omega) _
 have O3:∀ b,O W3 b->O W b:=hO _ _ B3;have hx1:∀ b,O W b->b < h:=fun b hb=>by rw[<-hh];exact hJO [] W h0 b hb
 have E3:Env O (h+1+1) h (h+1) l w₀ W3:=by
  refine⟨?_,?_,by omega,by omega,fun hx=>by have:=hx1 _ (O3 _ hx);omega,fun hx=>by have:=hx1 _ (O3 _ hx);omega,fun b c t z e=>(old b (by have:=zg e;omega)).trans (hs b c t z e),by omega,fun b hx=>hx0 b (O3 b hx),by omega⟩
  ·rw[<-hW3,<-hh];exact(Below.heap_alloc _ _ _ (by simp only[q6];omega)).trans (qk _ _)
  ·rw[<-hW3];exact za (by simp[hh])
 have C:=qgu (zq 0 [] false (.mk k s kids)) O (h+1+1) h (h+1) l w₀ J Jx hJN (fun pre A B hj hb hk=>hJ pre A B hj (hb.mono (by omega)) hk) (fun A B hb=>hO A B (hb.mono (by omega))) hJO (fun m pre it A vp vi v0 v1 v2 ps hj hal hd hg=>hY m pre it A vp vi v0 v1 v2 _ ps (by omega) hj hal hd hg) _ (.mk k s kids) W3 (.slice none 0 0) (.slice none 0 0) _ _ _ [] [] false [] (q9 _) ht E3 (World.ownsRow_nil _ _ _ _) (World.ownsRow_nil _ _ _ _) (q9 _) (q9 _) (hJ [] W W3 h0 B3 (fun b hb=>old b (hx1 b hb))) (fun g e=>by cases e) (fun g e=>by cases e) (List.prefix_refl _);have HC:=qh C;have N3:=(show Row3 W3 nb _ _ _ from(old nb (by have:=hn.lt;omega)).trans hn);have n00:=hn.lt;rw[hh]at n00;clear C hJN hJ hO hJO hY ht hs hx0 hx1 h0 O3;obtain⟨⟨n0,n1,n2⟩,_⟩:=N3.cells;have v3:W3.cell? ⟨h+1,0,none⟩=some (.func (.func 121) #[] #[.pointer (some ⟨h,0,none⟩),.pointer (some ⟨h+1,0,none⟩)]):=qm _ _ _ _ _ _ E3.v;have Z3:=qh z3;clear E3 B3 old z3 hn N3;go_enter Tryz.func120,Tryz.ntmps120
 go_upto_region 3 with fail
 have hW3':(W.alloc (.cells #[.func (.yield l) #[] #[]] 144)).alloc (.cells #[.func (.func 121) #[] #[.pointer (some ⟨h,0,none⟩),.pointer (some ⟨h+1,0,none⟩)]] 144)=W3:=hW3;rw[hW3'];clear hW3 hW3'
 go_wp2_with fail
 refine HC.out.mono ?_;rintro e w7⟨B,rfl,_,_,_,h7⟩;have H7:=qh h7;clear h7 HC n0 n1 n2 v3;go_wp2;go_end0;refine⟨⟨_,rfl⟩,?_⟩;have h7:=H7.out;simp only[List.nil_append,qz]at h7
 cases B
 ·rw[qd (by simp)]at h7;exact .inr h7
 ·rw[qj rfl]at h7;exact .inl h7
attribute [local go_sem] Oper.semAt_some
structure JM(h T:Nat)(w:World)(nn lv:Nat)(rl:Loop)(W:World):Prop where
 b:Below h w W
 z:T+1+1 < W.heap.size
 d:W.heap[T+1]?=some (.deferred (some []))
 l:W.heap[T+1+1]?=some (.loop rl)
 n:W.heap[h+1]?=some (.cells #[.int .i64 nn] 3 (0,0))
 v:W.heap[h+1+1]?=some (.cells #[.int .i64 lv] 3 (0,0))
theorem JM.below{h T:Nat}{w A B:World}{nn lv:Nat}{rl:Loop}{N:Nat}(j:JM h T w nn lv rl A)(hb:Below N A B)(hN:T+1+1 < N)(hT:h+1+1 < T):JM h T w nn lv rl B :=
 ⟨j.b.trans (hb.mono (by omega)),qu j.z hb.size,(hb.block _ (by omega)).trans j.d,(hb.block _ (by omega)).trans j.l,(hb.block _ (by omega)).trans j.n,(hb.block _ (by omega)).trans j.v⟩
theorem qcw(t:Nd)(w:World)(v0 v1 v2:Value)(ht:NdR w t v0 v1 v2) :
  Calls Tryz.prog 91 #[.agg #[v0,v1,v2]] w fun e w'=>∃ lv:Nat,e = .returned (.tuple #[.int .i64 ((min t.sz 4001:Nat):Int),.int .i64 (lv:Int)])/\(t.sz<=4000->lv=t.dp)/\Below w.heap.size w w':=by
 obtain⟨k,s,kids,a,cap,rfl,rfl,rfl,rfl,hs,hl⟩:=ht.form;have eg:∀ args w,(callFunc 120 args).run Tryz.prog w = .ok (.enter 120 args) w:=enters_of Tryz.func120 (by kernel_rfl) rfl;refine(callsIn_wide (n:=6)).1 ?_;refine wk Tryz.func91 rfl ?_;simp only[Tryz.ntmps91,List.size_toArray,qr,qz,Nat.reduceAdd,Nat.reduceSub,Array.replicate_succ,Array.replicate_zero,List.push_toArray,List.append_toArray,List.nil_append,List.cons_append];refine xe (zm ?_)
 gi_wp2
 refine xe (xe (zm ?_))
 gi_wp2_with fail
 refine⟨trivial,((callsIn_wide (n:=5)).2 (q3p k s a kids.length cap _)).mono ?_⟩;rintro e w2⟨rfl,rfl⟩
 gi_wp2
 refine q0y (vh (gf:=120) (lb:=#[.pointer (some ⟨w.heap.size+1+1+1,0,none⟩)]) rfl eg ?_);intro r hr;have hr1:r.state = .ready:=by rw[hr]
 have hr2:r.pending=none:=by rw[hr]
 have hr3:r.params=#[7,8]:=by rw[hr]
 obtain⟨h,hh⟩:∃ h,w.heap.size=h:=⟨_,rfl⟩;rw[hh]at hr;obtain⟨w3,hw3⟩:∃ w3,(((w.alloc (Obj.cells #[Value.int IntKind.i64 k,Value.string s,Value.slice a kids.length cap] 25)).alloc (Obj.cells #[Value.int IntKind.i64 0] 3)).alloc (Obj.cells #[Value.int IntKind.i64 0] 3)).alloc (Obj.cells #[Value.int IntKind.i64 k,Value.string s,Value.slice a kids.length cap] 25)=w3:=⟨_,rfl⟩;have z3:w3.heap.size=h+1+1+1+1:=by rw[<-hw3];simp[hh]
 have hB3:Below h w w3:=by
  rw[<-hw3,<-hh];exact((((Below.refl _ w).alloc (q9 _) _).alloc (by simp) _).alloc (by simp only[q6];omega) _).alloc (by simp only[q6];omega) _
 have b1:w3.heap[h+1]?=some (.cells #[.int .i64 0] 3 (0,0)):=by
  rw[<-hw3];exact(Below.heap_alloc _ _ _ (by simp only[q6];omega)).trans ((Below.heap_alloc _ _ _ (by simp only[q6];omega)).trans (za (by simp[hh])))
 have b2:w3.heap[h+1+1]?=some (.cells #[.int .i64 0] 3 (0,0)):=by
  rw[<-hw3];exact(Below.heap_alloc _ _ _ (by simp only[q6];omega)).trans (za (by simp[hh]))
 obtain⟨T,hT⟩:∃ T,h+1+1+1=T:=⟨_,rfl⟩
 have b3:Row3 w3 T (.int .i64 k) (.string s) (.slice a kids.length cap):=by
  rw[<-hw3,<-hT];exact za (by simp[hh])
 rw[hw3,hh];rw[hT]at z3 ⊢;have HT:=qh hT;clear hw3;obtain⟨W1,hW1⟩:∃ W1,(w3.alloc (.deferred (some []))).alloc (.loop r)=W1:=⟨_,rfl⟩;have old:∀ b,b < w3.heap.size->W1.heap[b]?=w3.heap[b]?:=fun b hb=>by rw[<-hW1];exact(Below.heap_alloc _ _ _ (by simp only[q6];omega)).trans (Below.heap_alloc _ _ _ hb)
 have zW1:W1.heap.size=T+1+1+1:=by rw[<-hW1];simp[z3]
 have hd1:W1.heap[T+1]?=some (.deferred (some [])):=by rw[<-hW1];exact(Below.heap_alloc _ _ _ (by simp only[q6];omega)).trans (za (by omega))
 have hl1:W1.heap[T+1+1]?=some (.loop r):=by rw[<-hW1];exact za (by simp only[q6];omega)
 have hB1:Below h w W1:=by rw[<-hW1];exact(hB3.alloc (by omega) _).alloc (by simp only[q6];omega) _
 have j0:JM h T w 0 0 r W1:=⟨hB1,by omega,hd1,hl1,(old _ (by omega)).trans b1,(old _ (by omega)).trans b2⟩
 have hsup:Sup w W1:=fun b c t z e=>by
  have hb:=zg e;rw[hh]at hb;exact(hB1.block b hb).trans e
 have hcall:CallsIn Fence.wide 5 Tryz.prog 120 #[.func (.yield (T+1+1)) #[] #[],.pointer (some ⟨T,0,none⟩)] W1
   (fun e w'=>(∃ v,e = .returned v)/\((((zq 0 [] false (.mk k s kids)).length<=4000/\lvs (zq 0 [] false (.mk k s kids))<=(zq 0 [] false (.mk k s kids)).length)/\JM h T w (zq 0 [] false (.mk k s kids)).length (lvs (zq 0 [] false (.mk k s kids))) r w')\/∃ q,q <+: zq 0 [] false (.mk k s kids)/\q.length=4001/\JM h T w 4001 (lvs q) { r with state:=.done,pending:=some (.exit 0) } w')):=by
  refine(callsIn_wide (n:=5)).2 ?_
  refine q2u (fun _ b=>b=h+1\/b=h+1+1) (T+1+1) T w W1 (fun pre W=>(pre.length<=4000/\lvs pre<=pre.length)/\JM h T w pre.length (lvs pre) r W) (fun q W=>q.length=4001/\JM h T w 4001 (lvs q) { r with state:=.done,pending:=some (.exit 0) } W) k s kids a cap
   (fun pre W hj=>by have:=hj.1.1;omega) (fun pre A B hj hb _=>⟨hj.1,hj.2.below hb (by omega) (by omega)⟩) (fun _ _ _ b hb=>hb) (fun pre A hj b hb=>by have:=hj.2.z;omega) ?_ ht ((old T (by omega)).trans b3) hsup (by omega) (fun b hb=>by omega) ⟨⟨by simp,by simp[lvs]⟩,j0⟩
  intro m pre it A vp vi u0 u1 u2 n₁ ps hn1 hj _ hpd hg;obtain⟨R,hR⟩:∃ R:Ending->World->Prop,(fun e W'=>(e = .returned (.bool true)/\((((pre++[it]).length<=4000/\lvs (pre++[it])<=(pre++[it]).length)/\JM h T w (pre++[it]).length (lvs (pre++[it])) r W'))/\Kc (fun _ b=>b=h+1\/b=h+1+1) A W')\/(e = .returned (.bool false)/\((pre++[it]).length=4001/\JM h T w 4001 (lvs (pre++[it])) { r with state:=.done,pending:=some (.exit 0) } W')/\Kc (fun _ b=>b=h+1\/b=h+1+1) A W'))=R:=⟨_,rfl⟩
  show YieldAt Fence.wide m Tryz.prog (T+1+1) _ A (fun e W'=>(e = .returned (.bool true)/\((((pre++[it]).length<=4000/\lvs (pre++[it])<=(pre++[it]).length)/\JM h T w (pre++[it]).length (lvs (pre++[it])) r W'))/\Kc (fun _ b=>b=h+1\/b=h+1+1) A W')\/(e = .returned (.bool false)/\((pre++[it]).length=4001/\JM h T w 4001 (lvs (pre++[it])) { r with state:=.done,pending:=some (.exit 0) } W')/\Kc (fun _ b=>b=h+1\/b=h+1+1) A W'))
  rw[hR];have HR:=qh hR;clear hR;obtain⟨⟨hpl,hlvp⟩,hjm⟩:=hj;obtain⟨hgd,hgp,hgi,hgt⟩:=hg;obtain⟨ap,cp,rfl⟩:=zr hgp;obtain⟨ai,ci,rfl⟩:=zr hgi;obtain⟨k1,s1,l1,a1,c1,ht1,rfl,rfl,rfl,_,_⟩:=hgt.form;refine⟨_,_,_,_,run_yield (P:=Tryz.prog) hjm.l (by rw[hr3];rfl),?_⟩;have hr4:r.fn=91:=by rw[hr]
  rw[hr4];refine vj trivial Tryz.func91 ?_;have hrs:=hr1;have HJ:=qh hjm;have HRR:=qh hr;have HGD:=qh hgd;simp only[hr];clear hgp hgi hgt hjm hr hr1 hr2 hr3 hr4
  gi_wp2
  refine⟨_,run_beginRound (r:=r) ((Below.heap_alloc _ _ _ (zg HJ.out.l)).trans HJ.out.l) hrs,?_⟩;obtain⟨N,hN⟩:∃ N,A.heap.size=N:=⟨_,rfl⟩;obtain⟨W2,hW2⟩:∃ W2,(A.alloc (.cells #[.slice ap ps.length cp,.slice ai it.ins.length ci,.bool it.wd] 85)).putObj (T+1+1) (.loop { r with state:=.busy })=W2:=⟨_,rfl⟩;have hTN:T+1+1 < N:=by have:=HJ.out.z;omega
  have ko:∀ b,b < N->b≠T+1+1->W2.heap[b]?=A.heap[b]?:=fun b hb1 hb2=>by
   rw[<-hW2];exact(World.putObj_heap_other hb2).trans (Below.heap_alloc _ _ _ (by omega))
  have mz:W2.heap.size=N+1:=by rw[<-hW2,World.putObj_size,q6,hN]
  have m5:W2.heap[T+1+1]?=some (.loop { r with state:=.busy }):=by rw[<-hW2];exact World.putObj_heap_same (by rw[q6];omega)
  have mt:RowP W2 N (.slice ap ps.length cp) (.slice ai it.ins.length ci) (.bool it.wd):=by
   rw[<-hW2,<-hN];exact(World.putObj_heap_other (by omega)).trans (qk _ _)
  have mb:Below h w W2:=by rw[<-hW2];exact zw (HJ.out.b.alloc (by omega) _) _ _ (by omega)
  have mn:=(ko (h+1) (by omega) (by omega)).trans HJ.out.n;have mv:=(ko (h+1+1) (by omega) (by omega)).trans HJ.out.v;have md:=(ko (T+1) (by omega) (by omega)).trans HJ.out.d;have mk:Kc (fun _ b=>b=h+1\/b=h+1+1) A W2:=⟨by omega,fun b c t z _ e=>(ko b (by have:=zg e;omega) (by rintro rfl;rw[HJ.out.l]at e;cases e)).trans e,fun b hb=>.inl hb⟩;rw[hW2,hN];have c1:W2.cell? ⟨h+1,0,none⟩=some (.int .i64 pre.length):=qm _ _ _ _ _ _ mn;have c2:W2.cell? ⟨h+1+1,0,none⟩=some (.int .i64 (lvs pre)):=qm _ _ _ _ _ _ mv;have g1:W2.frozen? ⟨h+1,0,none⟩=false:=frozen_of_row _ _ _ _ _ mn;have g2:W2.frozen? ⟨h+1+1,0,none⟩=false:=frozen_of_row _ _ _ _ _ mv;obtain⟨⟨p0,p1,p2⟩,_⟩:=mt.cells;have HM:=qh (show(Below h w W2/\W2.heap.size=N+1/\W2.heap[T+1+1]?=some (.loop { r with state:=.busy })/\W2.heap[T+1]?=some (.deferred (some []))/\W2.heap[h+1]?=some (.cells #[.int .i64 pre.length] 3 (0,0))/\W2.heap[h+1+1]?=some (.cells #[.int .i64 (lvs pre)] 3 (0,0))) from⟨mb,mz,m5,md,mn,mv⟩);have HK:=qh mk;have HN:=qh hN;obtain⟨LV,hLV⟩:∃ LV,lvs pre=LV:=⟨_,rfl⟩;obtain⟨PL,hPL⟩:∃ PL,pre.length=PL:=⟨_,rfl⟩;obtain⟨D,hD⟩:∃ D,ps.length=D:=⟨_,rfl⟩;have hlv:LV<=PL:=by omega
  have hdd:D<=PL:=by omega
  rw[hLV]at c2 HM;rw[hPL]at c1 hpl HM;clear hlvp hpd;rw[hD]at p0;have HLV:=qh hLV;have HPL:=qh hPL;have HDD:=qh hD;clear ko mz m5 mb mn mv md mk hW2 hN hLV hPL hD mt;have eM:((max LV (D+1):Nat):Int)=max (LV:Int) ((D:Int)+1):=by omega
  have EM:=qh eM
  have fin:∀ rl:Loop,JM h T w (PL+1) (max LV (D+1)) rl (((W2.setCell ⟨h+1,0,none⟩ (.int .i64 ((PL:Int)+1))).setCell ⟨h+1+1,0,none⟩ (.int .i64 (max (LV:Int) ((D:Int)+1)))).putObj (T+1+1) (.loop rl)) /\
    Kc (fun _ b=>b=h+1\/b=h+1+1) A (((W2.setCell ⟨h+1,0,none⟩ (.int .i64 ((PL:Int)+1))).setCell ⟨h+1+1,0,none⟩ (.int .i64 (max (LV:Int) ((D:Int)+1)))).putObj (T+1+1) (.loop rl)) /\
    ((W2.setCell ⟨h+1,0,none⟩ (.int .i64 ((PL:Int)+1))).setCell ⟨h+1+1,0,none⟩ (.int .i64 (max (LV:Int) ((D:Int)+1)))).heap[T+1+1]?=some (.loop { r with state:=.busy }):=by
   intro rl;obtain⟨mb,mz,m5,md,mn,mv⟩:=HM.out;have hT0:=HT.out;obtain⟨W5,hW5⟩:∃ W5,(W2.setCell ⟨h+1,0,none⟩ (.int .i64 ((PL:Int)+1))).setCell ⟨h+1+1,0,none⟩ (.int .i64 (max (LV:Int) ((D:Int)+1)))=W5:=⟨_,rfl⟩
   have far:∀ b,b≠h+1->b≠h+1+1->W5.heap[b]?=W2.heap[b]?:=fun b h1 h2=>by
    rw[<-hW5];exact(Below.heap_setCell _ _ _ _ (by simp only;exact h2)).trans (Below.heap_setCell _ _ _ _ (by simp only;exact h1))
   have s1:W5.heap[h+1]?=some (.cells #[.int .i64 ((PL+1:Nat):Int)] 3 (0,0)):=by
    rw[<-hW5];exact(Below.heap_setCell _ _ _ _ (by simp only;omega)).trans (heap_setCell_same _ _ 0 _ _ _ mn)
   have s2:W5.heap[h+1+1]?=some (.cells #[.int .i64 ((max LV (D+1):Nat):Int)] 3 (0,0)):=by
    rw[<-hW5,EM.out];exact heap_setCell_same _ _ 0 _ _ _ ((Below.heap_setCell _ _ _ _ (by simp only;omega)).trans mv)
   have sz:W5.heap.size=W2.heap.size:=by rw[<-hW5];simp
   have sb:Below h w W5:=by
    rw[<-hW5];exact(mb.setCell (p:=⟨h+1,0,none⟩) (by simp only;omega) _).setCell (p:=⟨h+1+1,0,none⟩) (by simp only;omega) _
   have l5:W5.heap[T+1+1]?=some (.loop { r with state:=.busy }):=(far _ (by omega) (by omega)).trans m5;have po:∀ b,b≠T+1+1->(W5.putObj (T+1+1) (.loop rl)).heap[b]?=W5.heap[b]?:=fun b hb=>World.putObj_heap_other hb
   rw[hW5];refine⟨⟨zw sb _ _ (by omega),by rw[World.putObj_size];omega,(po _ (by omega)).trans ((far _ (by omega) (by omega)).trans md),World.putObj_heap_same (by omega),(po _ (by omega)).trans s1,(po _ (by omega)).trans s2⟩,⟨by rw[World.putObj_size,sz];exact HK.out.1,fun b c t z hb e=>?_,fun b hb=>.inl hb⟩,l5⟩;have hb1:b≠T+1+1:=by rintro rfl;rw[HJ.out.l]at e;cases e
   exact(po b hb1).trans ((far b (fun h1=>hb (.inl h1)) (fun h1=>hb (.inr h1))).trans (HK.out.2.1 b c t z hb e))
  have HF:=qh fin;have e0:({ ({ r with state:=.busy }:Loop)with state:=.ready,pending:=none }:Loop)=r:=by rw[HRR.out]
  have E0:=qh e0;have HLS:Hid (lvs (pre++[it])=max LV (D+1)):=qh (by rw[qk7,HLV.out,HGD.out,HDD.out]);have HPS:Hid ((pre++[it]).length=PL+1):=qh (by rw[qg,HPL.out];rfl);clear fin e0 eM
  by_cases hc:PL < 4000
  ·have hc':¬ (4000 < (PL:Int)+1):=by omega
   gi_wp2
   refine⟨_,_,run_endRound none (HF.out r).2.2,?_⟩;simp only[Option.isNone_none,if_true];rw[E0.out,<-HR.out];exact .inl ⟨rfl,⟨⟨by rw[HPS.out];omega,by rw[HPS.out,HLS.out];omega⟩,by rw[HPS.out,HLS.out];exact(HF.out r).1⟩,(HF.out r).2.1⟩
  ·have hc':(4000 < (PL:Int)+1):=by omega
   gi_wp2
   refine⟨_,_,run_endRound (some (.exit 0)) (HF.out r).2.2,?_⟩;simp only[Option.isNone_some,Bool.false_eq_true,if_false];rw[<-HR.out];have hp4:PL+1=4001:=by omega
   have hj:=(HF.out { r with state:=.done,pending:=some (.exit 0) }).1;rw[hp4]at hj;exact .inr ⟨rfl,⟨by rw[HPS.out];omega,by rw[HLS.out];exact hj⟩,(HF.out _).2.1⟩
 rw[z3,hW1];refine hcall.mono ?_;clear hcall j0 hsup hd1 hl1 old b1 b2 b3 hB3 hB1;have HSZ:=qh (q1f 0 [] false (.mk k s kids));have HDP:=qh (qbl 0 [] false (.mk k s kids));rintro e w'⟨⟨v0,rfl⟩,⟨⟨hp4,_⟩,j⟩|⟨q,hq,hql,j⟩⟩
 ·refine⟨none,w'.putObj (T+1+1) (.loop { r with state:=.exhausted }),?_,?_⟩
  ·refine(run_endLoop (P:=Tryz.prog) j.l (by rw[hr1];simp)).trans ?_
   rw[hr2]
  ·rw[HSZ.out]at hp4 j
   rw[HDP.out,Nat.zero_add]at j;obtain⟨NN,hNN⟩:∃ NN,(Nd.mk k s kids).sz=NN:=⟨_,rfl⟩;obtain⟨LL,hLL⟩:∃ LL,(Nd.mk k s kids).dp=LL:=⟨_,rfl⟩;rw[hNN]at hp4 j;rw[hLL]at j;have HNN:=qh hNN;have HLL:=qh hLL;have HP4:=qh hp4;clear hNN hLL hp4;obtain⟨W4,hW4⟩:∃ W4,w'.putObj (T+1+1) (.loop { r with state:=.exhausted })=W4:=⟨_,rfl⟩;rw[hW4];dsimp only[Exit.inBlock,Exit.then];have n4:W4.heap[h+1]?=some (.cells #[.int .i64 (NN:Nat)] 3 (0,0)):=by rw[<-hW4];exact(World.putObj_heap_other (by have:=HT.out;omega)).trans j.n
   have v4:W4.heap[h+1+1]?=some (.cells #[.int .i64 (LL:Nat)] 3 (0,0)):=by rw[<-hW4];exact(World.putObj_heap_other (by have:=HT.out;omega)).trans j.v
   have d4:W4.heap[T+1]?=some (.deferred (some [])):=by rw[<-hW4];exact(World.putObj_heap_other (by omega)).trans j.d
   have b4:Below h w W4:=by rw[<-hW4];exact zw j.b _ _ (by have:=HT.out;omega)
   have q1:W4.cell? ⟨h+1,0,none⟩=some (.int .i64 (NN:Nat)):=qm _ _ _ _ _ _ n4;have q2:W4.cell? ⟨h+1+1,0,none⟩=some (.int .i64 (LL:Nat)):=qm _ _ _ _ _ _ v4;have q3:W4.frozen? ⟨h+1,0,none⟩=false:=frozen_of_row _ _ _ _ _ n4;have q4:W4.frozen? ⟨h+1+1,0,none⟩=false:=frozen_of_row _ _ _ _ _ v4;have N4:=qh n4;have V4:=qh v4;have D4:=qh d4;have B4:=qh b4;clear n4 v4 d4 b4 hW4 j;refine zm (n:=6) ?_;refine wpIn_wide.2 ?_
   go_wp2_with fail
   go_region
   all_goals go_wp2
   obtain⟨W5,hW5⟩:∃ W5,((W4.setCell ⟨h+1,0,none⟩ (.int .i64 (NN:Nat))).setCell ⟨h+1+1,0,none⟩ (.int .i64 (LL:Nat))).drew=W5:=⟨_,rfl⟩;have hT0:=HT.out
   have far:∀ b,b≠h+1->b≠h+1+1->W5.heap[b]?=W4.heap[b]?:=fun b h1 h2=>by
    rw[<-hW5];exact(show((W4.setCell ⟨h+1,0,none⟩ (.int .i64 (NN:Nat))).setCell ⟨h+1+1,0,none⟩ (.int .i64 (LL:Nat))).heap[b]?=W4.heap[b]? from(Below.heap_setCell _ _ _ _ (by simp only;exact h2)).trans (Below.heap_setCell _ _ _ _ (by simp only;exact h1)))
   have n5:W5.heap[h+1]?=some (.cells #[.int .i64 (NN:Nat)] 3 (0,0)):=by
    rw[<-hW5];exact(show((W4.setCell ⟨h+1,0,none⟩ (.int .i64 (NN:Nat))).setCell ⟨h+1+1,0,none⟩ (.int .i64 (LL:Nat))).heap[h+1]?=_ from(Below.heap_setCell _ _ _ _ (by simp only;omega)).trans (heap_setCell_same _ _ 0 _ _ _ N4.out))
   have v5:W5.heap[h+1+1]?=some (.cells #[.int .i64 (LL:Nat)] 3 (0,0)):=by
    rw[<-hW5];exact(show((W4.setCell ⟨h+1,0,none⟩ (.int .i64 (NN:Nat))).setCell ⟨h+1+1,0,none⟩ (.int .i64 (LL:Nat))).heap[h+1+1]?=_ from heap_setCell_same _ _ 0 _ _ _ ((Below.heap_setCell _ _ _ _ (by simp only;omega)).trans V4.out))
   have d5:W5.heap[T+1]?=some (.deferred (some [])):=(far _ (by omega) (by omega)).trans D4.out
   have b5:Below h w W5:=by
    rw[<-hW5];exact((B4.out.setCell (p:=⟨h+1,0,none⟩) (by simp only;omega) _).setCell (p:=⟨h+1+1,0,none⟩) (by simp only;omega) _).drew
   rw[hW5];refine⟨by simp,.inl ⟨_,_,rfl,run_takeDeferred d5,?_⟩⟩;have r1:(W5.putObj (T+1) (.deferred none)).cell? ⟨h+1,0,none⟩=some (.int .i64 (NN:Nat)):=qm _ _ _ _ _ _ ((World.putObj_heap_other (by omega)).trans n5);have r2:(W5.putObj (T+1) (.deferred none)).cell? ⟨h+1+1,0,none⟩=some (.int .i64 (LL:Nat)):=qm _ _ _ _ _ _ ((World.putObj_heap_other (by omega)).trans v5);refine⟨.tuple #[.int .i64 (NN:Nat),.int .i64 (LL:Nat)],by simp[results,Tryz.results91,go_sem,r1,r2],LL,?_,?_,zw b5 _ _ (by omega)⟩
   ·rw[HNN.out,Nat.min_eq_left (by have:=HP4.out;omega)]
   ·intro _;exact HLL.out.symm
 ·refine⟨some (.exit 0),w'.putObj (T+1+1) (.loop { ({ r with state:=.done,pending:=some (.exit 0) }:Loop)with state:=.exhausted }),?_,?_⟩
  ·exact run_endLoop (P:=Tryz.prog) j.l (by simp)
  ·have h4001:4001<=(Nd.mk k s kids).sz:=by
    have:=hq.length_le;rw[HSZ.out,hql]at this;exact this
   obtain⟨W4,hW4⟩:∃ W4,w'.putObj (T+1+1) (.loop { ({ r with state:=.done,pending:=some (.exit 0) }:Loop)with state:=.exhausted })=W4:=⟨_,rfl⟩;rw[hW4];obtain⟨NN,hNN⟩:∃ NN,4001=NN:=⟨_,rfl⟩;obtain⟨LL,hLL⟩:∃ LL,lvs q=LL:=⟨_,rfl⟩;rw[hNN,hLL]at j;have HNN:=qh hNN;have H41:=qh h4001;clear hLL hNN h4001 hq hql;have n4:W4.heap[h+1]?=some (.cells #[.int .i64 (NN:Nat)] 3 (0,0)):=by rw[<-hW4];exact(World.putObj_heap_other (by have:=HT.out;omega)).trans j.n
   have v4:W4.heap[h+1+1]?=some (.cells #[.int .i64 (LL:Nat)] 3 (0,0)):=by rw[<-hW4];exact(World.putObj_heap_other (by have:=HT.out;omega)).trans j.v
   have d4:W4.heap[T+1]?=some (.deferred (some [])):=by rw[<-hW4];exact(World.putObj_heap_other (by omega)).trans j.d
   have b4:Below h w W4:=by rw[<-hW4];exact zw j.b _ _ (by have:=HT.out;omega)
   have q1:W4.cell? ⟨h+1,0,none⟩=some (.int .i64 (NN:Nat)):=qm _ _ _ _ _ _ n4;have q2:W4.cell? ⟨h+1+1,0,none⟩=some (.int .i64 (LL:Nat)):=qm _ _ _ _ _ _ v4;have q3:W4.frozen? ⟨h+1,0,none⟩=false:=frozen_of_row _ _ _ _ _ n4;have q4:W4.frozen? ⟨h+1+1,0,none⟩=false:=frozen_of_row _ _ _ _ _ v4;clear hr hr1 hr2 hr3;have N4:=qh n4;have V4:=qh v4;have D4:=qh d4;have B4:=qh b4;clear n4 v4 d4 b4 hW4 j
   gi_wp2
   refine zm (n:=6) ?_;refine wpIn_wide.2 ?_
   go_wp2_with fail
   go_region
   all_goals go_wp2
   obtain⟨W5,hW5⟩:∃ W5,((W4.setCell ⟨h+1,0,none⟩ (.int .i64 (NN:Nat))).setCell ⟨h+1+1,0,none⟩ (.int .i64 (LL:Nat))).drew=W5:=⟨_,rfl⟩;have hT0:=HT.out
   have far:∀ b,b≠h+1->b≠h+1+1->W5.heap[b]?=W4.heap[b]?:=fun b h1 h2=>by
    rw[<-hW5];exact(show((W4.setCell ⟨h+1,0,none⟩ (.int .i64 (NN:Nat))).setCell ⟨h+1+1,0,none⟩ (.int .i64 (LL:Nat))).heap[b]?=W4.heap[b]? from(Below.heap_setCell _ _ _ _ (by simp only;exact h2)).trans (Below.heap_setCell _ _ _ _ (by simp only;exact h1)))
   have n5:W5.heap[h+1]?=some (.cells #[.int .i64 (NN:Nat)] 3 (0,0)):=by
    rw[<-hW5];exact(show((W4.setCell ⟨h+1,0,none⟩ (.int .i64 (NN:Nat))).setCell ⟨h+1+1,0,none⟩ (.int .i64 (LL:Nat))).heap[h+1]?=_ from(Below.heap_setCell _ _ _ _ (by simp only;omega)).trans (heap_setCell_same _ _ 0 _ _ _ N4.out))
   have v5:W5.heap[h+1+1]?=some (.cells #[.int .i64 (LL:Nat)] 3 (0,0)):=by
    rw[<-hW5];exact(show((W4.setCell ⟨h+1,0,none⟩ (.int .i64 (NN:Nat))).setCell ⟨h+1+1,0,none⟩ (.int .i64 (LL:Nat))).heap[h+1+1]?=_ from heap_setCell_same _ _ 0 _ _ _ ((Below.heap_setCell _ _ _ _ (by simp only;omega)).trans V4.out))
   have d5:W5.heap[T+1]?=some (.deferred (some [])):=(far _ (by omega) (by omega)).trans D4.out
   have b5:Below h w W5:=by
    rw[<-hW5];exact((B4.out.setCell (p:=⟨h+1,0,none⟩) (by simp only;omega) _).setCell (p:=⟨h+1+1,0,none⟩) (by simp only;omega) _).drew
   rw[hW5];refine⟨by simp,.inl ⟨_,_,rfl,run_takeDeferred d5,?_⟩⟩;have r1:(W5.putObj (T+1) (.deferred none)).cell? ⟨h+1,0,none⟩=some (.int .i64 (NN:Nat)):=qm _ _ _ _ _ _ ((World.putObj_heap_other (by omega)).trans n5);have r2:(W5.putObj (T+1) (.deferred none)).cell? ⟨h+1+1,0,none⟩=some (.int .i64 (LL:Nat)):=qm _ _ _ _ _ _ ((World.putObj_heap_other (by omega)).trans v5);refine⟨.tuple #[.int .i64 (NN:Nat),.int .i64 (LL:Nat)],by simp[results,Tryz.results91,go_sem,r1,r2],LL,?_,?_,zw b5 _ _ (by omega)⟩
   ·rw[Nat.min_eq_right H41.out,HNN.out]
   ·intro hle;have:=H41.out;omega
end Go.Proofs.YtkckddojlignpaaGreatDoor
namespace Go.Proofs.YtkckddojlignpaaGreatDoor
namespace Lx
def headP(P:UInt8->Bool)(l:Bs):Bool:=(l[0]?.map P).getD false
theorem runLen_eq(l:Bs):runLen l=l.length↔l.all part=true:=by
 induction l with
 |nil=>simp[runLen]
 |cons c r ih =>
  rw[runLen_cons,List.all_cons]
  cases hc:part c
  ·simp
  ·simp only[if_true,qr,Bool.true_and]
   rw[<-ih];omega
theorem runTo_zero(l:Bs):runTo l 0=runLen l:=by unfold runTo;rw[List.drop_zero,Nat.zero_add]
theorem part64:part 64=false:=by decide
theorem runLen_halt:∀ (l:Bs) (i:Nat) (c:UInt8),l[i]?=some c->part c=false->runLen l<=i
 |[],i,c,h,_=>by simp at h
 |a :: r,0,c,h,hp=>by
  simp at h;subst h;rw[runLen_cons,hp];simp
 |a :: r,i+1,c,h,hp=>by
  have:=runLen_halt r i c (by simpa using h) hp;rw[runLen_cons];split <;> omega
theorem runLen_cut:∀ (l:Bs) (i:Nat) (c:UInt8),l[i]?=some c->part c=false->(runLen l=i↔(l.take i).all part=true)
 |[],i,c,h,_=>by simp at h
 |a :: r,0,c,h,hp=>by
  simp at h;subst h;rw[runLen_cons,hp];simp
 |a :: r,i+1,c,h,hp=>by
  have ih:=runLen_cut r i c (by simpa using h) hp;rw[runLen_cons,List.take_succ_cons,List.all_cons]
  cases hc:part a
  ·simp
  ·simp only[if_true,Bool.true_and]
   rw[<-ih];omega
theorem slice_all(l:Bs):slice l 0 l.length=l:=by unfold slice;simp
theorem tok_name(l:Bs):tokAt l 0=some (1,l.length)↔(headP small l=true/\nameTo l 0=l.length/\words.contains l=false):=by
 unfold headP tokAt
 cases hl:l[0]? with
 |none=>simp
 |some c =>
  simp only[Option.map_some,Option.getD_some]
  cases hs:small c
  ·simp only[Bool.false_eq_true,if_false,false_and,iff_false]
   split
   ·simp
   ·split
    ·simp
    ·split <;> simp
  ·simp only[if_true,true_and]
   by_cases hn:nameTo l 0=l.length
   ·rw[hn,slice_all]
    have h45:¬ (l=[111]/\l[l.length]?=some 45):=by
     rintro⟨_,h⟩;rw[List.getElem?_eq_none (q9 _)]at h;cases h
    rw[qd h45]
    cases words.contains l <;> simp
   ·constructor
    ·intro h
     split at h
     ·simp at h
     ·split at h
      ·simp at h
      ·simp at h;exact absurd h hn
    ·intro h;exact absurd h.1 hn
theorem tok_var(l:Bs):tokAt l 0=some (2,l.length)↔(headP capital l=true/\l.all part=true):=by
 unfold headP tokAt
 cases hl:l[0]? with
 |none=>simp
 |some c =>
  simp only[Option.map_some,Option.getD_some]
  cases hs:small c
  ·simp only[Bool.false_eq_true,if_false]
   cases hc:capital c
   ·simp only[Bool.false_eq_true,if_false,false_and,iff_false]
    split
    ·simp
    ·split <;> simp
   ·simp only[if_true,true_and]
    rw[runTo_zero,<-runLen_eq];simp
  ·have hc:capital c=false:=by
    have:=(show small c=true from hs);simp only[small,ql,qp]at this;simp only[capital,Bool.and_eq_false_iff,decide_eq_false_iff_not];omega
   simp only[if_true,hc,Bool.false_eq_true,false_and,iff_false]
   split
   ·simp
   ·split <;> simp
theorem name_miss{l:Bs}(h:Lib.indexByte l 64 = -1):nameTo l 0=l.length↔l.all part=true:=by
 have hn:=Lib.indexByte_none h;unfold nameTo;simp only;rw[qd (fun hc=>hn _ hc.1),runTo_zero,runLen_eq]
theorem name_hit{l:Bs}{i:Nat}(h:Lib.indexByte l 64=i):nameTo l 0=l.length↔((l.take i).all part=true/\headP small (l.drop (i+1))=true/\(l.drop (i+1)).all part=true):=by
 obtain⟨h64,hlow⟩:=Lib.indexByte_some h;have hi:i < l.length:=(List.getElem?_eq_some_iff.1 h64).1;have hst:=runLen_halt l i 64 h64 part64
 have hh:headP small (l.drop (i+1))=(l[i+1]?.map small).getD false:=by
  unfold headP;rw[List.getElem?_drop,Nat.add_zero]
 rw[hh,<-runLen_cut l i 64 h64 part64,<-runLen_eq];unfold nameTo;simp only[runTo_zero]
 by_cases hr:runLen l=i
 ·rw[hr]
  cases hq:(l[i+1]?.map small)with
  |none=>simp[h64];omega
  |some b =>
   cases b
   ·simp[h64];omega
   ·have:runTo l (i+1)=i+1+runLen (l.drop (i+1)):=rfl
    simp[h64,this,List.length_drop];omega
 ·have hlt:runLen l < i:=by omega
  rw[qd (fun hc=>hlow _ hlt hc.1)];simp[hr];omega
theorem head_take{P:UInt8->Bool}{l:Bs}{i:Nat}(h:Lib.indexByte l 64=i)(hP:P 64=false):headP P (l.take i)=headP P l:=by
 obtain⟨h64,hlow⟩:=Lib.indexByte_some h;unfold headP
 cases i with
 |zero=>rw[h64];simp[hP]
 |succ i=>simp
end Lx
end Go.Proofs.YtkckddojlignpaaGreatDoor
namespace Go.Proofs.YtkckddojlignpaaGreatDoor
open Go.RowKit
theorem q1p{P:UInt8->Bool}(h:(List.range 256).all (fun n=>P n.toUInt8)=true)(c:UInt8):P c=true:=by
 have:=List.all_eq_true.1 h c.toNat (List.mem_range.2 c.toNat_lt)
 rwa [show c.toNat.toUInt8=c from by simp]at this
theorem qg5{l:Lx.Bs}{c:UInt8}{k j:Nat}(hc:l[0]?=some c)(h:Lx.tokAt l 0=some (k,j)):Lx.blank c=false/\c.toNat≠37:=by
 have key:(Lx.small c||Lx.capital c||Lx.signB c||(c==45||c==61||c==60))=true:=by
  unfold Lx.tokAt at h;rw[hc]at h;simp only at h
  cases hs:Lx.small c
  ·cases hp:Lx.capital c
   ·cases hg:Lx.signB c
    ·rw[hs,hp,hg]at h
     simp only[Bool.false_eq_true,if_false]at h
     split at h
     ·rename_i hl
      have h0:∀ a b,Lx.pre l 0 [a,b]=true->c=a:=fun a b hab=>by
       have:=(Lx.pre_two hab).1;rw[hc]at this;exact zn this
      simp only[Lx.isLong,Bool.or_eq_true,ql]at hl;rcases hl with ((⟨h1,_⟩|h1)|h1)|h1 <;> (rw[h0 _ _ h1];decide)
     ·cases h
    ·simp
   ·simp
  ·simp
 have:=q1p (P:=fun c=>!(Lx.small c||Lx.capital c||Lx.signB c||(c==45||c==61||c==60))||(!Lx.blank c && !decide (c.toNat=37))) (by decide +kernel) c;simp only[key,Bool.not_true,Bool.false_or,ql,Bool.not_eq_true',decide_eq_false_iff_not]at this;exact this
theorem q43(k:Nat)(s:ByteArray)(p:Int):q3e ⟨k,s,p⟩=true↔Lx.tokAt (bs s) 0=some (k,(bs s).length):=by
 unfold q3e;simp only
 cases Lx.tokAt (bs s) 0 with
 |none=>simp
 |some x =>
  obtain⟨k',j⟩:=x;simp only[ql,qp,Option.some.injEq,Prod.mk.injEq,zd];omega
theorem qa7(k:Nat)(s:ByteArray)(p:Int):xt ⟨k,s,p⟩=true↔(s.size<=40/\Lx.tokAt (bs s) 0=some (k,(bs s).length)):=by
 rw[qa6,<-q43 k s p];unfold q44;simp only
 cases hc:(bs s)[0]? with
 |none =>
  constructor
  ·intro h;cases h
  ·rintro⟨_,h⟩
   rw[q43]at h;simp[Lx.tokAt,hc]at h
 |some c =>
  simp only[ql,qp]
  constructor
  ·rintro⟨⟨⟨h1,_⟩,_⟩,h2⟩;exact⟨h1,h2⟩
  ·rintro⟨h1,h2⟩
   have:=qg5 hc ((q43 k s p).1 h2);exact⟨⟨⟨h1,by rw[this.1];rfl⟩,by simpa using this.2⟩,h2⟩
theorem q8g(s:ByteArray)(p:Int):xt ⟨1,s,p⟩=(decide (s.size<=40) && (Lx.headP Lx.small (bs s) && (decide (Lx.nameTo (bs s) 0=(bs s).length) && !Lx.words.contains (bs s)))):=by
 rw[Bool.eq_iff_iff,show xt ⟨1,s,p⟩=xt ⟨((1:Nat):Int),s,p⟩ from rfl,qa7,Lx.tok_name];simp only[ql,qp,Bool.not_eq_true']
theorem qiv(s:ByteArray)(p:Int):xt ⟨2,s,p⟩=(decide (s.size<=40) && (Lx.headP Lx.capital (bs s) && (bs s).all Lx.part)):=by
 rw[Bool.eq_iff_iff,show xt ⟨2,s,p⟩=xt ⟨((2:Nat):Int),s,p⟩ from rfl,qa7,Lx.tok_var];simp only[ql,qp]
theorem qa4(s:ByteArray):Lib.indexByte s.data.toList 64 = -1\/∃ i:Nat,i < s.size/\Lib.indexByte s.data.toList 64=i:=by
 have hge:=Lib.indexByte_ge s.data.toList 64
 by_cases h:Lib.indexByte s.data.toList 64 = -1
 ·exact .inl h
 ·obtain⟨i,hi⟩:=Int.eq_ofNat_of_zero_le (show 0<=Lib.indexByte s.data.toList 64 from by omega)
  have:=(List.getElem?_eq_some_iff.1 (Lib.indexByte_some hi).1).1;exact .inr ⟨i,this,hi⟩
theorem qfi(s:ByteArray)(h:Lib.indexByte s.data.toList 64 = -1):xt ⟨1,s,0⟩=(decide (s.size<=40) && (Lx.headP Lx.small (bs s) && ((bs s).all Lx.part && !Lx.words.contains (bs s)))):=by
 rw[q8g]
 congr 3
 rw[Bool.eq_iff_iff,qp];exact Lx.name_miss h
theorem qcu(s:ByteArray)(i:Nat)(h:Lib.indexByte s.data.toList 64=i) :
  xt ⟨1,s,0⟩=(decide (s.size<=40) && (Lx.headP Lx.small (bs (s.extract 0 i)) && ((bs (s.extract 0 i)).all Lx.part && (Lx.headP Lx.small (bs (s.extract (i+1) s.size)) && ((bs (s.extract (i+1) s.size)).all Lx.part && !Lx.words.contains (bs s)))))):=by
 have e1:bs (s.extract 0 i)=(bs s).take i:=by rw[q0d];unfold Lx.slice;simp
 have e2:bs (s.extract (i+1) s.size)=(bs s).drop (i+1):=by
  rw[q0d];unfold Lx.slice;rw[qw (by rw[List.length_drop,zd];omega)]
 rw[q8g,e1,e2,Lx.head_take (l:=bs s) h (by decide)];have:=Lx.name_hit (l:=bs s) h;rw[Bool.eq_iff_iff];simp only[ql,qp,this]
 constructor
 ·rintro⟨a,b,⟨c,d,e⟩,f⟩;exact⟨a,b,c,d,e,f⟩
 ·rintro⟨a,b,c,d,e,f⟩;exact⟨a,b,⟨c,d,e⟩,f⟩
def smallS:ByteArray:=⟨#[97,98,99,100,101,102,103,104,105,106,107,108,109,110,111,112,113,114,115,116,117,118,119,120,121,122]⟩
def capS:ByteArray:=⟨#[65,66,67,68,69,70,71,72,73,74,75,76,77,78,79,80,81,82,83,84,85,86,87,88,89,90]⟩
def partS:ByteArray:=⟨#[97,98,99,100,101,102,103,104,105,106,107,108,109,110,111,112,113,114,115,116,117,118,119,120,121,122,65,66,67,68,69,70,71,72,73,74,75,76,77,78,79,80,81,82,83,84,85,86,87,88,89,90,48,49,50,51,52,53,54,55,56,57,95,39]⟩
theorem q7c(c:UInt8):decide (0<=Lib.indexByte smallS.data.toList c)=Lx.small c:=by
 have:=q1p (P:=fun c=>decide (0<=Lib.indexByte smallS.data.toList c)==Lx.small c) (by decide +kernel) c;exact beq_iff_eq.1 this
theorem qnj(c:UInt8):decide (0<=Lib.indexByte capS.data.toList c)=Lx.capital c:=by
 have:=q1p (P:=fun c=>decide (0<=Lib.indexByte capS.data.toList c)==Lx.capital c) (by decide +kernel) c;exact beq_iff_eq.1 this
theorem qlz(c:UInt8):decide (0<=Lib.indexByte partS.data.toList c)=Lx.part c:=by
 have:=q1p (P:=fun c=>decide (0<=Lib.indexByte partS.data.toList c)==Lx.part c) (by decide +kernel) c;exact beq_iff_eq.1 this
theorem qi2(w:World):Calls Tryz.prog 181 #[] w fun e w'=>e = .returned (.slice (some ⟨w.heap.size,0,none⟩) 17 17)/\w'=w.alloc (.cells (wordsB.map Value.string).toArray 9):=by
 go_enter Tryz.func181,Tryz.ntmps181;go_wp2;go_ret;exact⟨rfl,rfl⟩
theorem q4q(P:UInt8->Bool)(V:Bool)(s L:ByteArray)(w:World)(hP:∀ c,decide (0<=Lib.indexByte L.data.toList c)=P c)(hV:Lx.headP P (bs s)=V) :
  Calls Tryz.prog 118 #[.string s,.string L] w fun e w'=>e = .returned (.bool V)/\w'=w:=by
 by_cases h0:s.size=0
 ·obtain rfl:s=⟨#[]⟩:=by
   obtain⟨⟨l⟩⟩:=s;have:l=[]:=List.eq_nil_of_length_eq_zero (by simpa[ByteArray.size]using h0);rw[this]
  have hVf:V=false:=by rw[<-hV];rfl
  subst hVf;clear hV hP h0;go_enter Tryz.func118,Tryz.ntmps118;go_wp2;go_ret;exact⟨rfl,rfl⟩
 ·have hpos:0 < s.size:=by omega
  have hne2:(s.toList==[])=false:=by
   rw[ByteArray.toList_eq,qc];intro e;have h1:s.data.toList.length=s.size:=rfl;have h2:s.size=([]:List UInt8).length:=h1.symm.trans (congrArg List.length e);simp only[qz]at h2;omega
  have hne:(!(s.toList==[]))=true:=by rw[hne2];rfl
  have hg:(bs s)[0]?=some s[0]:=by rw[qq (by rw[zd];exact hpos),jg hpos]
  have hv:decide ((0:Int)<=Lib.indexByte L.data.toList s[0])=V:=by rw[<-hV,hP];unfold Lx.headP;rw[hg];rfl
  have hlt:s[0].toNat < 256:=s[0].toNat_lt;have C:=fun w=>Tryz.strings_IndexByte L (s[0].toNat:Int) w
  rw[show((s[0].toNat:Int)).toNat.toUInt8=s[0] from by simp]at C;obtain⟨I,hI⟩:∃ I,Lib.indexByte L.data.toList s[0]=I:=⟨_,rfl⟩;rw[hI]at C hv;have HC:=qh C;have HV:=qh hv;clear C hV hP hg hI h0 hv;go_enter Tryz.func118,Tryz.ntmps118
  go_wp2_with fail
  refine(HC.out _).mono ?_;rintro e w1⟨rfl,rfl⟩;go_wp2;go_ret;exact⟨by rw[<-HV.out];rfl,rfl⟩
theorem qkq{l:Lx.Bs}{k:Nat}(h:k < l.length):(l.drop k).all Lx.part=(Lx.part l[k] && (l.drop (k+1)).all Lx.part):=by
 rw[List.drop_eq_getElem_cons h,List.all_cons]
theorem q4j(V:Bool)(s:ByteArray)(w:World)(hs:s.size<=maxLen)(hV:(bs s).all Lx.part=V) :
  Calls Tryz.prog 119 #[.string s] w fun e w'=>e = .returned (.bool V)/\w'=w:=by
 unfold maxLen at hs;have HV:=qh hV;have HL:=qh (zd s);have hby:=xr;have HC:=qh (fun(c:UInt8) w=>Tryz.strings_IndexByte partS (c.toNat:Int) w);clear hV;go_enter Tryz.func119,Tryz.ntmps119;go_wp2
 go_loopw [6] (fun v wr=>∃ k:Nat,k<=s.size/\v = .int .i64 k/\Hid (((bs s).drop k).all Lx.part=V)/\wr=w) (fun v _=>s.size - (intOf v).toNat)
 case atStart=>exact⟨0,qv _,rfl,qh (by rw[List.drop_zero];exact HV.out),rfl⟩
 case round =>
  obtain⟨k,hk,rfl,hall,rfl⟩:=hrel
  by_cases hlt:k < s.size
  ·have hlt':(k:Int) < (s.size:Int):=by omega
   have hst:=qkq (l:=bs s) (k:=k) (by rw[zd];exact hlt);rw[jg hlt]at hst;have C:=fun w=>HC.out s[k] w
   rw[show((s[k].toNat:Int)).toNat.toUInt8=s[k] from by simp]at C;have hin:=qlz s[k];obtain⟨I,hI⟩:∃ I,Lib.indexByte partS.data.toList s[k]=I:=⟨_,rfl⟩;rw[hI]at C hin;have Hst:=qh hst;have CC:=qh C;have Hin:=qh hin;clear hst C hI hin;unfold partS at CC
   go_wp2_with fail
   refine(CC.out _).mono ?_;rintro e w1⟨rfl,rfl⟩
   by_cases hi:I < 0
   ·go_wp2
    go_ret;exact⟨by rw[<-hall.out,Hst.out,<-Hin.out,decide_eq_false (by omega)];rfl,rfl⟩
   ·go_wp2
    go_roundw
    case rel=>exact⟨k+1,by omega,by push_cast;rfl,qh (by rw[<-hall.out,Hst.out,<-Hin.out,decide_eq_true (by omega)];rfl),trivial⟩
    case measure=>simp[intOf];omega
  ·have hlt':¬ (k:Int) < (s.size:Int):=by omega
   have hVt:V=true:=by rw[<-hall.out,List.drop_of_length_le (by rw[zd];omega)];rfl
   subst hVt;go_wp2;go_ret;exact⟨rfl,rfl⟩
theorem qcz(s:ByteArray)(w:World)(hs:s.size<=maxLen) :
  Calls Tryz.prog 213 #[.string s,.string ⟨#[64]⟩] w fun e w'=>Below w.heap.size w w' /\
   ((Lib.indexByte s.data.toList 64 = -1/\e = .returned (.tuple #[.string s,.string ⟨#[]⟩,.bool false])) \/
    ∃ i:Nat,i < s.size/\Lib.indexByte s.data.toList 64=i/\e = .returned (.tuple #[.string (s.extract 0 i),.string (s.extract (i+1) s.size),.bool true])):=by
 have hc:=qa4 s;unfold maxLen at hs;have HC:=fun w=>Tryz.stringslite_Index_one s 64 w
 rcases hc with hm|⟨i,hi,he⟩
 ·rw[hm]at HC
  have HM:=qh hm;have C:=qh HC;clear hm HC;go_enter Tryz.func213,Tryz.ntmps213
  go_wp2_with fail
  refine(C.out _).mono ?_;rintro e w1⟨rfl,rfl⟩;go_wp2
  go_ret3
  exact⟨Below.refl _ _,.inl ⟨HM.out,rfl⟩⟩
 ·rw[he]at HC
  have HM:=qh he;have C:=qh HC;clear he HC;have c1:(0:Int)<=(i:Int):=by omega
  have c2:(i:Int)<=(s.size:Int):=by omega
  have c3:(0:Int)<=(i:Int)+1:=by omega
  have c4:(i:Int)+1<=(s.size:Int):=by omega
  go_enter Tryz.func213,Tryz.ntmps213
  go_wp2_with fail
  refine(C.out _).mono ?_;rintro e w1⟨rfl,rfl⟩
  go_wp2_with fail
  go_quiet (fail)
  go_wp2
  go_ret3
  exact⟨⟨rfl,rfl,rfl,q9 _,fun _ _=>rfl⟩,.inr ⟨i,hi,HM.out,rfl⟩⟩
theorem qeb(s:ByteArray)(w:World)(hs:s.size<=maxLen) :
  Calls Tryz.prog 180 #[.string s,.string ⟨#[64]⟩] w fun e w'=>Below w.heap.size w w' /\
   ((Lib.indexByte s.data.toList 64 = -1/\e = .returned (.tuple #[.string s,.string ⟨#[]⟩,.bool false])) \/
    ∃ i:Nat,i < s.size/\Lib.indexByte s.data.toList 64=i/\e = .returned (.tuple #[.string (s.extract 0 i),.string (s.extract (i+1) s.size),.bool true])):=by
 have C:=qh (fun w=>qcz s w hs);go_enter Tryz.func180,Tryz.ntmps180
 go_wp2_with fail
 refine(C.out _).mono ?_;rintro e w1⟨hb,⟨hm,rfl⟩|⟨i,hi,he,rfl⟩⟩
 ·have HM:=qh hm
  clear hm;go_wp2
  go_ret3
  exact⟨hb,.inl ⟨HM.out,rfl⟩⟩
 ·have HM:=qh he
  clear he;go_wp2
  go_ret3
  exact⟨hb,.inr ⟨i,hi,HM.out,rfl⟩⟩
theorem qap(x:ByteArray)(w:World)(b:Nat)(hb:∀ k,k < wordsB.length->w.cell? ⟨b,0+k,none⟩=some (.string (wordsB.getD k ByteArray.empty))) :
  Calls Tryz.prog 61 #[.slice (some ⟨b,0,none⟩) 17 17,.string x] w fun e w'=>e = .returned (.bool (Lx.words.contains (bs x)))/\w'=w:=by
 have:=Tryz.slices_Contains_string b 0 17 17 wordsB x w (by decide) (by omega) hb
 rwa [q0c]at this
theorem q9t(w:World)(L:List ByteArray)(t:TypeId)(k:Nat)(hk:k < L.length):(w.alloc (.cells (L.map Value.string).toArray t)).cell? ⟨w.heap.size,0+k,none⟩=some (.string (L.getD k ByteArray.empty)):=by
 rw[World.cell?_alloc_at _ _ _ _ rfl];simp only[Nat.zero_add,List.getElem?_toArray,List.getElem?_map,List.getD_eq_getElem?_getD];rw[qq hk];rfl
theorem qbq(V:Bool)(s:ByteArray)(w:World)(hs:s.size<=maxLen)(hm:Lib.indexByte s.data.toList 64 = -1)(hV:xt ⟨1,s,0⟩=V) :
  Calls Tryz.prog 117 #[.string s] w fun e w'=>e = .returned (.bool V)/\Below w.heap.size w w':=by
 rw[qfi s hm]at hV;have C0:=qh (fun w=>qeb s w hs);obtain⟨p,hp⟩:∃ p,s=p:=⟨_,rfl⟩;have hx1:p.size<=maxLen:=by rw[<-hp];exact hs
 have CW:Hid (∀ w,Calls Tryz.prog 181 #[] w fun e w'=>e = .returned (.slice (some ⟨w.heap.size,0,none⟩) 17 17)/\w'=w.alloc (.cells (wordsB.map Value.string).toArray 9)):=qh qi2;obtain⟨VW,hW⟩:∃ v,Lx.words.contains (bs s)=v:=⟨_,rfl⟩;have CC:=fun w b hb=>qap s w b hb
 rw[hW]at CC;rw[hp]at hV;have hV:=hV;rw[<-hp]at hV;rw[hW]at hV;obtain⟨B1,hB1⟩:∃ v,Lx.headP Lx.small (bs s)=v:=⟨_,rfl⟩;obtain⟨P1,hP1⟩:∃ v,(bs s).all Lx.part=v:=⟨_,rfl⟩;rw[hB1,hP1]at hV;have CB1:=qh (fun w=>q4q Lx.small B1 s smallS w q7c hB1);have CP1:=qh (fun w=>q4j P1 s w hs hP1);unfold smallS at CB1;have CH:=qh CC;have HM:=qh hm;have HV:=qh hV;have HPQ:=qh hp
 by_cases h40:(s.size:Int)<=40
 ·have HD:=qh (decide_eq_true (show s.size<=40 by omega))
  clear CC hW hm hV hp hB1 hP1 hx1;go_enter Tryz.func117,Tryz.ntmps117
  go_wp2_with fail
  refine(C0.out _).mono ?_;rintro e w1⟨hb,⟨_,rfl⟩|⟨i,_,he,_⟩⟩
  case inr=>rw[HM.out]at he;omega
  clear C0;have Hb:=qh hb;clear hb
  go_wp2_with fail
  refine(CB1.out _).mono ?_;rintro e w2⟨rfl,hw⟩;obtain rfl:=hw.symm;clear CB1
  cases B1
  ·go_wp2
   go_ret;exact⟨by rw[<-HV.out,HD.out];rfl,Hb.out⟩
  ·skip
   go_wp2_with fail
   refine(CP1.out _).mono ?_;rintro e w2⟨rfl,hw⟩;obtain rfl:=hw.symm;clear CP1
   cases P1
   ·go_wp2
    go_ret;exact⟨by rw[<-HV.out,HD.out];rfl,Hb.out⟩
   ·skip
    go_wp2_with fail
    refine(CW.out _).mono ?_;rintro e w2⟨rfl,rfl⟩;have CI:=qh (CH.out _ _ (fun k hk=>q9t w1 wordsB 9 k hk));clear CW CH
    go_wp2_with fail
    refine CI.out.mono ?_;rintro e w2⟨rfl,rfl⟩;clear CI
    cases VW
    ·go_wp2
     go_ret;exact⟨by rw[<-HV.out,HD.out];rfl,Hb.out.trans ((Below.refl _ _).alloc Hb.out.size _)⟩
    ·go_wp2
     go_ret;exact⟨by rw[<-HV.out,HD.out];rfl,Hb.out.trans ((Below.refl _ _).alloc Hb.out.size _)⟩
 ·have HD:=qh (decide_eq_false (show ¬ s.size<=40 by omega))
  clear CC hW hm hV hp hB1 hP1 hx1;go_enter Tryz.func117,Tryz.ntmps117
  go_wp2_with fail
  refine(C0.out _).mono ?_;rintro e w1⟨hb,⟨_,rfl⟩|⟨i,_,he,_⟩⟩
  case inr=>rw[HM.out]at he;omega
  clear C0;have Hb:=qh hb;clear hb;go_wp2;go_ret;exact⟨by rw[<-HV.out,HD.out];rfl,Hb.out⟩
theorem qag(V:Bool)(s:ByteArray)(w:World)(hs:s.size<=maxLen)(i:Nat)(hi:i < s.size)(hm:Lib.indexByte s.data.toList 64=i)(hV:xt ⟨1,s,0⟩=V) :
  Calls Tryz.prog 117 #[.string s] w fun e w'=>e = .returned (.bool V)/\Below w.heap.size w w':=by
 rw[qcu s i hm]at hV;have hx1:(s.extract 0 i).size<=maxLen:=by rw[ByteArray.size_extract];unfold maxLen at *;omega
 have hx2:(s.extract (i+1) s.size).size<=maxLen:=by rw[ByteArray.size_extract];unfold maxLen at *;omega
 have C0:=qh (fun w=>qeb s w hs);obtain⟨p,hp⟩:∃ p,s.extract 0 i=p:=⟨_,rfl⟩;obtain⟨q,hq⟩:∃ q,s.extract (i+1) s.size=q:=⟨_,rfl⟩;rw[hp]at hx1;rw[hq]at hx2;rw[hp,hq]at hV;have CW:Hid (∀ w,Calls Tryz.prog 181 #[] w fun e w'=>e = .returned (.slice (some ⟨w.heap.size,0,none⟩) 17 17)/\w'=w.alloc (.cells (wordsB.map Value.string).toArray 9)):=qh qi2;obtain⟨VW,hW⟩:∃ v,Lx.words.contains (bs s)=v:=⟨_,rfl⟩;have CC:=fun w b hb=>qap s w b hb
 rw[hW]at CC;rw[hW]at hV;obtain⟨B1,hB1⟩:∃ v,Lx.headP Lx.small (bs p)=v:=⟨_,rfl⟩;obtain⟨P1,hP1⟩:∃ v,(bs p).all Lx.part=v:=⟨_,rfl⟩;rw[hB1,hP1]at hV;obtain⟨B2,hB2⟩:∃ v,Lx.headP Lx.small (bs q)=v:=⟨_,rfl⟩;obtain⟨P2,hP2⟩:∃ v,(bs q).all Lx.part=v:=⟨_,rfl⟩;rw[hB2,hP2]at hV;have CB1:=qh (fun w=>q4q Lx.small B1 p smallS w q7c hB1);have CP1:=qh (fun w=>q4j P1 p w hx1 hP1);unfold smallS at CB1;have CB2:=qh (fun w=>q4q Lx.small B2 q smallS w q7c hB2);have CP2:=qh (fun w=>q4j P2 q w hx2 hP2);unfold smallS at CB2;have CH:=qh CC;have HM:=qh hm;have HV:=qh hV;have HPQ:=qh hp;have HQQ:=qh hq
 by_cases h40:(s.size:Int)<=40
 ·have HD:=qh (decide_eq_true (show s.size<=40 by omega))
  clear CC hW hm hV hp hq hB2 hP2 hx2 hi hB1 hP1 hx1;go_enter Tryz.func117,Tryz.ntmps117
  go_wp2_with fail
  refine(C0.out _).mono ?_;rintro e w1⟨hb,⟨hm,_⟩|⟨i',_,he,rfl⟩⟩
  ·rw[HM.out]at hm;omega
  obtain rfl:i'=i:=by rw[HM.out]at he;omega
  rw[HPQ.out,HQQ.out];clear C0;have Hb:=qh hb;clear hb
  go_wp2_with fail
  refine(CB1.out _).mono ?_;rintro e w2⟨rfl,hw⟩;obtain rfl:=hw.symm;clear CB1
  cases B1
  ·go_wp2
   go_ret;exact⟨by rw[<-HV.out,HD.out];rfl,Hb.out⟩
  ·skip
   go_wp2_with fail
   refine(CP1.out _).mono ?_;rintro e w2⟨rfl,hw⟩;obtain rfl:=hw.symm;clear CP1
   cases P1
   ·go_wp2
    go_ret;exact⟨by rw[<-HV.out,HD.out];rfl,Hb.out⟩
   ·skip
    go_wp2_with fail
    refine(CB2.out _).mono ?_;rintro e w2⟨rfl,hw⟩;obtain rfl:=hw.symm;clear CB2
    cases B2
    ·go_wp2
     go_ret;exact⟨by rw[<-HV.out,HD.out];rfl,Hb.out⟩
    ·skip
     go_wp2_with fail
     refine(CP2.out _).mono ?_;rintro e w2⟨rfl,hw⟩;obtain rfl:=hw.symm;clear CP2
     cases P2
     ·go_wp2
      go_ret;exact⟨by rw[<-HV.out,HD.out];rfl,Hb.out⟩
     ·skip
      go_wp2_with fail
      refine(CW.out _).mono ?_;rintro e w2⟨rfl,rfl⟩;have CI:=qh (CH.out _ _ (fun k hk=>q9t w1 wordsB 9 k hk));clear CW CH
      go_wp2_with fail
      refine CI.out.mono ?_;rintro e w2⟨rfl,rfl⟩;clear CI
      cases VW
      ·go_wp2
       go_ret;exact⟨by rw[<-HV.out,HD.out];rfl,Hb.out.trans ((Below.refl _ _).alloc Hb.out.size _)⟩
      ·go_wp2
       go_ret;exact⟨by rw[<-HV.out,HD.out];rfl,Hb.out.trans ((Below.refl _ _).alloc Hb.out.size _)⟩
 ·have HD:=qh (decide_eq_false (show ¬ s.size<=40 by omega))
  clear CC hW hm hV hp hq hB2 hP2 hx2 hi hB1 hP1 hx1;go_enter Tryz.func117,Tryz.ntmps117
  go_wp2_with fail
  refine(C0.out _).mono ?_;rintro e w1⟨hb,⟨hm,_⟩|⟨i',_,he,rfl⟩⟩
  ·rw[HM.out]at hm;omega
  obtain rfl:i'=i:=by rw[HM.out]at he;omega
  rw[HPQ.out,HQQ.out];clear C0;have Hb:=qh hb;clear hb;go_wp2;go_ret;exact⟨by rw[<-HV.out,HD.out];rfl,Hb.out⟩
theorem qka(V:Bool)(s:ByteArray)(w:World)(hs:s.size<=maxLen)(hV:xt ⟨1,s,0⟩=V) :
  Calls Tryz.prog 117 #[.string s] w fun e w'=>e = .returned (.bool V)/\Below w.heap.size w w':=by
 rcases qa4 s with hm|⟨i,hi,he⟩
 ·exact qbq V s w hs hm hV
 ·exact qag V s w hs i hi he hV
theorem qfx(s:ByteArray)(w:World)(hs:s.size<=maxLen) :
  Calls Tryz.prog 117 #[.string s] w fun e w'=>e = .returned (.bool (xt ⟨1,s,0⟩))/\Below w.heap.size w w':=qka _ s w hs rfl
theorem qlw(V:Bool)(s:ByteArray)(w:World)(hs:s.size<=maxLen)(hV:xt ⟨2,s,0⟩=V) :
  Calls Tryz.prog 58 #[.string s] w fun e w'=>e = .returned (.bool V)/\Below w.heap.size w w':=by
 rw[qiv]at hV;obtain⟨B1,hB1⟩:∃ v,Lx.headP Lx.capital (bs s)=v:=⟨_,rfl⟩;obtain⟨P1,hP1⟩:∃ v,(bs s).all Lx.part=v:=⟨_,rfl⟩;rw[hB1,hP1]at hV;have CB1:=qh (fun w=>q4q Lx.capital B1 s capS w qnj hB1);have CP1:=qh (fun w=>q4j P1 s w hs hP1);unfold capS at CB1;have HV:=qh hV
 by_cases h40:(s.size:Int)<=40
 ·have HD:=qh (decide_eq_true (show s.size<=40 by omega))
  clear hV hB1 hP1;go_enter Tryz.func58,Tryz.ntmps58
  go_wp2_with fail
  refine(CB1.out _).mono ?_;rintro e w1⟨rfl,rfl⟩;clear CB1
  cases B1
  ·go_wp2
   go_ret;exact⟨by rw[<-HV.out,HD.out];rfl,Below.refl _ _⟩
  ·go_wp2_with fail
   refine(CP1.out _).mono ?_;rintro e w2⟨rfl,rfl⟩;clear CP1
   cases P1
   ·go_wp2
    go_ret;exact⟨by rw[<-HV.out,HD.out];rfl,Below.refl _ _⟩
   ·go_wp2
    go_ret;exact⟨by rw[<-HV.out,HD.out];rfl,Below.refl _ _⟩
 ·have HD:=qh (decide_eq_false (show ¬ s.size<=40 by omega))
  clear hV hB1 hP1;go_enter Tryz.func58,Tryz.ntmps58;go_wp2;go_ret;exact⟨by rw[<-HV.out,HD.out];rfl,Below.refl _ _⟩
theorem q9w(s:ByteArray)(w:World)(hs:s.size<=maxLen) :
  Calls Tryz.prog 58 #[.string s] w fun e w'=>e = .returned (.bool (xt ⟨2,s,0⟩))/\Below w.heap.size w w':=qlw _ s w hs rfl
end Go.Proofs.YtkckddojlignpaaGreatDoor
namespace Go.Proofs.YtkckddojlignpaaGreatDoor
open Go.RowKit Go.Shelf
def q1k(g:Nat)(B:Nd->Bool)(t:Nd):Prop:=∀ (w:World) (v0 v1 v2:Value),NdR w t v0 v1 v2->Calls Tryz.prog g #[.agg #[v0,v1,v2]] w fun e w'=>e = .returned (.bool (B t))/\Below w.heap.size w w'
theorem qkr{B:Nd->Bool}{l:List Nd}{i:Nat}(h:i < l.length):(l.drop i).all B=(B l[i] && (l.drop (i+1)).all B):=by
 rw[List.drop_eq_getElem_cons h,List.all_cons]
theorem qga(g c:Nat)(eg:∀ args w,(callFunc g args).run Tryz.prog w = .ok (.enter g args) w)(B:Nd->Bool)(t:Nd)(hB:q1k g B t)(w:World)(v0 v1 v2:Value)(ht:NdR w t v0 v1 v2)(hc:w.cell? ⟨c,0,none⟩=some (.func (.func g) #[] #[])) :
  Calls Tryz.prog 202 #[.agg #[v0,v1,v2],.pointer (some ⟨c,0,none⟩)] w fun e w'=>e = .returned (.bool (!B t))/\Below w.heap.size w w':=by
 obtain⟨k,s,l,a,cap,rfl,rfl,rfl,rfl,hs,hl⟩:=ht.form;have hb0:=((Below.refl w.heap.size w).alloc (q9 _) (.cells #[.int .i64 k,.string s,.slice a l.length cap] 25));have C:=qh (hB _ _ _ _ (ht.later hb0));have HB:=qh hb0;have hc':=(World.cell?_alloc_past (w:=w) (.cells #[.int .i64 k,.string s,.slice a l.length cap] 25) c 0 (qi hc)).trans hc;obtain⟨V,hV⟩:∃ V,B (.mk k s l)=V:=⟨_,rfl⟩;rw[hV]at C ⊢;clear hV hB ht hb0 hc;go_enter Tryz.func202,Tryz.ntmps202
 go_wp2_with fail
 refine C.out.mono ?_;rintro e w1⟨rfl,hb⟩;have HB1:=qh (HB.out.trans (hb.mono HB.out.size));clear hb C hc';go_wp2;go_ret;exact⟨rfl,HB1.out⟩
theorem qah(g c:Nat)(eg:∀ args w,(callFunc g args).run Tryz.prog w = .ok (.enter g args) w)(B:Nd->Bool)(k:Int)(s:ByteArray)(l:List Nd)(a:Option Addr)(cap:Nat)(w:World)(hl:l.length<=maxLen)
  (hB:∀ i,(h:i < l.length)->q1k g B l[i]) (ht:NdR w (.mk k s l) (.int .i64 k) (.string s) (.slice a l.length cap)) (hc:w.cell? ⟨c,0,none⟩=some (.func (.func g) #[] #[])) :
  Calls Tryz.prog 225 #[.slice a l.length cap,.func (.func 202) #[] #[.pointer (some ⟨c,0,none⟩)]] w fun e w'=>∃ x:Int,e = .returned (.int .i64 x)/\decide (0<=x)=(!l.all B)/\Below w.heap.size w w':=by
 unfold maxLen at hl;have HB:=qh hB;have HT:=qh ht;have HC:=qh hc;have L0:=qi hc;obtain⟨A,hA⟩:∃ A,l.all B=A:=⟨_,rfl⟩;have HA:=qh hA;rw[hA];clear hB ht hc hA;go_enter Tryz.func225,Tryz.ntmps225;go_wp2
 go_loopw [8] (fun v wr=>∃ i:Nat,i<=l.length/\v = .int .i64 i/\Hid ((l.drop i).all B=A)/\Hid (Below w.heap.size w wr)) (fun v _=>l.length - (intOf v).toNat)
 case atStart=>exact⟨0,qv _,rfl,qh (by rw[List.drop_zero];exact HA.out),Below.refl _ _⟩
 case round =>
  obtain⟨i,hi,rfl,hrun,hbl⟩:=hrel
  by_cases hlt:i < l.length
  ·have hlt':(i:Int) < (l.length:Int):=by omega
   have hi0:(0:Int)<=(i:Int):=by omega
   obtain⟨b,o,k1,s1,l1,a1,c1,rfl,e1,x0,x1,x2,r1⟩:=(HT.out.later hbl.out).kid i hlt;obtain⟨V,hV⟩:∃ V,B l[i]=V:=⟨_,rfl⟩;have C:=qga g c eg B l[i] (HB.out i hlt) wr (.int .i64 k1) (.string s1) (.slice a1 l1.length c1) (by rw[e1];exact r1) ((hbl.out.cell (p:=⟨c,0,none⟩) L0).trans HC.out);have Hst:=qh (qkr (B:=B) hlt);rw[hV]at C Hst;have CC:=qh C;clear C hV e1 r1
   go_wp2_with fail
   refine CC.out.mono ?_;rintro e w5⟨rfl,hb5⟩;have hbx:Hid (Below w.heap.size w w5):=qh (hbl.out.trans (hb5.mono hbl.out.size));clear hb5 CC x0 x1 x2
   cases V with
   |false =>
    go_wp2;go_ret;exact⟨(i:Int),rfl,by rw[<-hrun.out,Hst.out,decide_eq_true (by omega)];rfl,hbx.out⟩
   |true =>
    go_wp2;go_roundw
    case rel=>exact⟨i+1,hlt,by push_cast;rfl,qh (by rw[<-hrun.out,Hst.out];rfl),hbx⟩
    case measure=>simp[intOf];omega
  ·have hlt':¬ ((i:Int) < (l.length:Int)):=by omega
   have hAt:A=true:=by rw[<-hrun.out,List.drop_of_length_le (by omega)];rfl
   subst hAt;go_wp2;go_ret;exact⟨-1,rfl,by decide,hbl.out⟩
theorem q7e(g c:Nat)(eg:∀ args w,(callFunc g args).run Tryz.prog w = .ok (.enter g args) w)(B:Nd->Bool)(k:Int)(s:ByteArray)(l:List Nd)(a:Option Addr)(cap:Nat)(w:World)(hl:l.length<=maxLen)
  (hB:∀ i,(h:i < l.length)->q1k g B l[i]) (ht:NdR w (.mk k s l) (.int .i64 k) (.string s) (.slice a l.length cap)) (hc:w.cell? ⟨c,0,none⟩=some (.func (.func g) #[] #[])) :
  Calls Tryz.prog 201 #[.slice a l.length cap,.func (.func 202) #[] #[.pointer (some ⟨c,0,none⟩)]] w fun e w'=>e = .returned (.bool (!l.all B))/\Below w.heap.size w w':=by
 have C:=qh (qah g c eg B k s l a cap w hl hB ht hc);clear hB ht hc;obtain⟨A,hA⟩:∃ A,(!l.all B)=A:=⟨_,rfl⟩;rw[hA]at C ⊢;clear hA;go_enter Tryz.func201,Tryz.ntmps201
 go_wp2_with fail
 refine C.out.mono ?_;rintro e w1⟨x,rfl,hx,hb⟩;have HX:=qh hx;have HB:=qh hb;clear hx hb C;go_wp2;go_ret;exact⟨by rw[<-HX.out];rfl,HB.out⟩
theorem q5p(g:Nat)(eg:∀ args w,(callFunc g args).run Tryz.prog w = .ok (.enter g args) w)(B:Nd->Bool)(k:Int)(s:ByteArray)(l:List Nd)(a:Option Addr)(cap:Nat)(w:World)(hl:l.length<=maxLen)
  (hB:∀ i,(h:i < l.length)->q1k g B l[i]) (ht:NdR w (.mk k s l) (.int .i64 k) (.string s) (.slice a l.length cap)) :
  Calls Tryz.prog 153 #[.slice a l.length cap,.func (.func g) #[] #[]] w fun e w'=>e = .returned (.bool (l.all B))/\Below w.heap.size w w':=by
 have hmf:∀ (fn:Fn) (first cap:Array Value) (w:World),(Instr.makeFunc fn first cap).run Tryz.prog w = .ok (.func fn first cap) w:=fun _ _ _ _=>rfl
 have hb0:=(Below.refl w.heap.size w).alloc (q9 _) (.cells #[.func (.func g) #[] #[]] 86);have C:=qh (fun w'=>(show NdR w' _ _ _ _->_ from fun h1 hc=>q7e g w.heap.size eg B k s l a cap w' hl hB h1 hc));have HT:=qh (ht.later hb0);have HB:=qh hb0;have HC:=qh (show(w.alloc (.cells #[.func (.func g) #[] #[]] 86)).cell? ⟨w.heap.size,0,none⟩=some (.func (.func g) #[] #[]) from(World.cell?_alloc_at _ _ _ _ rfl).trans rfl);obtain⟨A,hA⟩:∃ A,l.all B=A:=⟨_,rfl⟩;rw[hA]at C ⊢;clear hA hB ht hb0;go_enter Tryz.func153,Tryz.ntmps153
 go_wp2_with fail
 refine(C.out _ HT.out HC.out).mono ?_;rintro e w1⟨rfl,hb⟩;have HB1:=qh (HB.out.trans (hb.mono HB.out.size));clear hb C HT HC
 cases A
 ·go_wp2
  go_ret;exact⟨rfl,HB1.out⟩
 ·go_wp2
  go_ret;exact⟨rfl,HB1.out⟩
def q34(g:Nat)(N:ByteArray->Bool)(s:ByteArray):Prop:=∀ w:World,Calls Tryz.prog g #[.string s] w fun e w'=>e = .returned (.bool (N s))/\Below w.heap.size w w'
def xk(N:ByteArray->Bool)(lo hi:Int)(B:Nd->Bool)(s:ByteArray)(l:List Nd):Bool:=decide (lo<=(l.length:Int)) && (decide ((l.length:Int)<=hi) && (N s && l.all B))
theorem xc(gn g:Nat)(en:∀ args w,(callFunc gn args).run Tryz.prog w = .ok (.enter gn args) w)(eg:∀ args w,(callFunc g args).run Tryz.prog w = .ok (.enter g args) w)(N:ByteArray->Bool)(B:Nd->Bool)(lo hi:Int)(k:Int)(s:ByteArray)(l:List Nd)(a:Option Addr)(cap:Nat)(w:World)(hl:l.length<=maxLen)
  (hN:q34 gn N s) (hB:∀ i,(h:i < l.length)->q1k g B l[i]) (ht:NdR w (.mk k s l) (.int .i64 k) (.string s) (.slice a l.length cap)) :
  Calls Tryz.prog 150 #[.agg #[.int .i64 k,.string s,.slice a l.length cap],.func (.func gn) #[] #[],.int .i64 lo,.int .i64 hi,.func (.func g) #[] #[]] w fun e w'=>e = .returned (.bool (xk N lo hi B s l))/\Below w.heap.size w w':=by
 have hb0:=(Below.refl w.heap.size w).alloc (q9 _) (.cells #[.int .i64 k,.string s,.slice a l.length cap] 25);obtain⟨W1,hW1⟩:∃ W1,w.alloc (.cells #[.int .i64 k,.string s,.slice a l.length cap] 25)=W1:=⟨_,rfl⟩;obtain⟨h,hh⟩:∃ h,w.heap.size=h:=⟨_,rfl⟩;have R1:Row3 W1 h (.int .i64 k) (.string s) (.slice a l.length cap):=by rw[<-hW1,<-hh];exact Row3.new _ _ _ _
 have CN:=qh (hN W1);have CE:=qh (fun w' (hb:Below W1.heap.size W1 w')=>q5p g eg B k s l a cap w' hl hB (((by rw[<-hW1];exact ht.later hb0:NdR W1 _ _ _ _)).later hb));obtain⟨VN,hVN⟩:∃ V,N s=V:=⟨_,rfl⟩;obtain⟨VB,hVB⟩:∃ V,l.all B=V:=⟨_,rfl⟩;obtain⟨R,hR⟩:∃ R,xk N lo hi B s l=R:=⟨_,rfl⟩;have HR:Hid (R=(decide (lo<=(l.length:Int)) && (decide ((l.length:Int)<=hi) && (VN && VB)))):=qh (by rw[<-hR,<-hVN,<-hVB];rfl);rw[hVN]at CN;rw[hVB]at CE;rw[hR];rw[hW1]at hb0;have HB:=qh hb0;have HR1:=qh R1;obtain⟨⟨n0,n1,n2⟩,_⟩:=R1.cells;have HW:=qh hW1;rw[hh]at HB;clear hVN hVB hR hb0 hN hB ht R1 hW1
 by_cases h1:lo<=(l.length:Int)
 ·have hD1:=qh (decide_eq_true h1)
  by_cases h2:(l.length:Int)<=hi
  ·have hD2:=qh (decide_eq_true h2)
   rw[hD1.out,hD2.out,Bool.true_and,Bool.true_and]at HR;go_enter Tryz.func150,Tryz.ntmps150
   go_upto_region 1 with fail
   rw[HW.out]
   go_wp2_with fail
   refine CN.out.mono ?_;rintro e w2⟨rfl,hb2⟩;have R2:=qh (HR1.out.below hb2 HR1.out.lt);have HB2:=qh hb2;clear hb2 CN n0 n1 n2;obtain⟨⟨n0,n1,n2⟩,_⟩:=R2.out.cells
   cases VN with
   |false =>
    go_wp2;go_ret;exact⟨by rw[HR.out];rfl,by first|exact HB.out.trans (HB2.out.mono (by have:=HB.out.size;have:=HR1.out.lt;omega))|(rw[hh];exact HB.out.trans (HB2.out.mono (by have:=HB.out.size;have:=HR1.out.lt;omega)))⟩
   |true =>
    go_wp2_with fail
    refine(CE.out _ HB2.out).mono ?_;rintro e w3⟨rfl,hb3⟩;have HB3:=qh hb3;clear hb3 CE n0 n1 n2
    cases VB
    ·go_wp2
     go_ret;exact⟨by rw[HR.out];rfl,by first|exact HB.out.trans ((HB2.out.trans (HB3.out.mono HB2.out.size)).mono (by have:=HR1.out.lt;omega))|(rw[hh];exact HB.out.trans ((HB2.out.trans (HB3.out.mono HB2.out.size)).mono (by have:=HR1.out.lt;omega)))⟩
    ·go_wp2
     go_ret;exact⟨by rw[HR.out];rfl,by first|exact HB.out.trans ((HB2.out.trans (HB3.out.mono HB2.out.size)).mono (by have:=HR1.out.lt;omega))|(rw[hh];exact HB.out.trans ((HB2.out.trans (HB3.out.mono HB2.out.size)).mono (by have:=HR1.out.lt;omega)))⟩
  ·have hD2:=qh (decide_eq_false h2)
   rw[hD1.out,hD2.out,Bool.true_and,Bool.false_and]at HR;go_enter Tryz.func150,Tryz.ntmps150
   go_upto_region 1 with fail
   rw[HW.out];go_wp2;go_ret;exact⟨by rw[HR.out];rfl,by first|exact HB.out|(rw[hh];exact HB.out)⟩
 ·have hD1:=qh (decide_eq_false h1)
  rw[hD1.out,Bool.false_and]at HR;go_enter Tryz.func150,Tryz.ntmps150
  go_upto_region 1 with fail
  rw[HW.out];go_wp2;go_ret;exact⟨by rw[HR.out];rfl,by first|exact HB.out|(rw[hh];exact HB.out)⟩
theorem xp:∀ args w,(callFunc 151 args).run Tryz.prog w = .ok (.enter 151 args) w:=enters_of Tryz.func151 (by kernel_rfl) rfl
theorem jh:∀ args w,(callFunc 117 args).run Tryz.prog w = .ok (.enter 117 args) w:=enters_of Tryz.func117 (by kernel_rfl) rfl
theorem qim:∀ args w,(callFunc 58 args).run Tryz.prog w = .ok (.enter 58 args) w:=enters_of Tryz.func58 (by kernel_rfl) rfl
theorem q0b:∀ args w,(callFunc 152 args).run Tryz.prog w = .ok (.enter 152 args) w:=enters_of Tryz.func152 (by kernel_rfl) rfl
theorem qgb:∀ args w,(callFunc 154 args).run Tryz.prog w = .ok (.enter 154 args) w:=enters_of Tryz.func154 (by kernel_rfl) rfl
theorem q18:∀ args w,(callFunc 96 args).run Tryz.prog w = .ok (.enter 96 args) w:=enters_of Tryz.func96 (by kernel_rfl) rfl
theorem q4l:∀ args w,(callFunc 95 args).run Tryz.prog w = .ok (.enter 95 args) w:=enters_of Tryz.func95 (by kernel_rfl) rfl
theorem xh:∀ args w,(callFunc 94 args).run Tryz.prog w = .ok (.enter 94 args) w:=enters_of Tryz.func94 (by kernel_rfl) rfl
theorem qgc:∀ args w,(callFunc 93 args).run Tryz.prog w = .ok (.enter 93 args) w:=enters_of Tryz.func93 (by kernel_rfl) rfl
theorem xj(s:ByteArray):q34 151 zb s:=by
 intro w;have e:(s.toList==[])=zb s:=by unfold zb;cases s.toList <;> rfl
 obtain⟨V,hV⟩:∃ V,zb s=V:=⟨_,rfl⟩;rw[hV]at e ⊢;have HE:=qh e;clear hV;go_enter Tryz.func151,Tryz.ntmps151;go_wp2;go_ret
 first|exact⟨rfl,Below.refl _ _⟩|exact⟨by rw[<-HE.out];rfl,Below.refl _ _⟩
theorem jm(s:ByteArray)(hs:s.size<=maxLen):q34 117 zf s:=fun w=>qfx s w hs
theorem qaq(s:ByteArray)(hs:s.size<=maxLen):q34 58 xy s:=fun w=>q9w s w hs
theorem q1y(s:ByteArray)(hs:s.size<=maxLen):q34 57 (fun s=>zf s||xy s) s:=by
 intro w;have C1:=jm s hs;have C2:=qaq s hs;unfold q34 at C1 C2;obtain⟨V1,h1⟩:∃ V,zf s=V:=⟨_,rfl⟩;obtain⟨V2,h2⟩:∃ V,xy s=V:=⟨_,rfl⟩;simp only[h1,h2]at C1 C2 ⊢;have D1:=qh C1;have D2:=qh C2;clear C1 C2 h1 h2;go_enter Tryz.func57,Tryz.ntmps57
 go_wp2_with fail
 refine(D1.out _).mono ?_;rintro e w1⟨rfl,hb1⟩;have HB1:=qh hb1;clear hb1 D1
 cases V1 with
 |true =>
  go_wp2;go_ret;exact⟨rfl,HB1.out⟩
 |false =>
  go_wp2_with fail
  refine(D2.out _).mono ?_;rintro e w2⟨rfl,hb2⟩;have HB2:=qh (HB1.out.trans (hb2.mono HB1.out.size));clear hb2 D2
  cases V2
  ·go_wp2
   go_ret;exact⟨rfl,HB2.out⟩
  ·go_wp2
   go_ret;exact⟨rfl,HB2.out⟩
theorem q3m{B:Nd->Bool}{l:List Nd}:l.all B=true↔∀ i,(h:i < l.length)->B l[i]=true:=by
 rw[List.all_eq_true]
 constructor
 ·intro h i hi;exact h _ (List.getElem_mem hi)
 ·intro h x hx
  obtain⟨i,hi,rfl⟩:=List.getElem_of_mem hx;exact h i hi
theorem q3s(l:List Nd):yn l=l.all x5:=by rw[Bool.eq_iff_iff,q3r,q3m]
theorem q98(l:List Nd):q01 l=l.all zv:=by rw[Bool.eq_iff_iff,q2x,q3m]
theorem q5m(l:List Nd):yh l=l.all xl:=by rw[Bool.eq_iff_iff,q0t,q3m]
theorem qi3(l:List Nd):q14 l=l.all yi:=by rw[Bool.eq_iff_iff,q0u,q3m]
theorem qi7(l:List Nd):q1n l=l.all itemB:=by rw[Bool.eq_iff_iff,wu,q3m]
theorem ja:∀ l:List Nd,jb l=l.all qt
 |[]=>by simp[jb]
 |a :: l=>by simp only[jb,List.all_cons];rw[ja l]
theorem qbu(N:ByteArray->Bool)(lo hi:Nat)(B:Nd->Bool)(s:ByteArray)(l:List Nd):xk N lo hi B s l=(decide (lo<=l.length) && (decide (l.length<=hi) && (N s && l.all B))):=by
 unfold xk
 congr 1
 ·by_cases h:lo<=l.length
  ·rw[decide_eq_true h,decide_eq_true (by omega)]
  ·rw[decide_eq_false h,decide_eq_false (by omega)]
 ·congr 1
  by_cases h:l.length<=hi
  ·rw[decide_eq_true h,decide_eq_true (by omega)]
  ·rw[decide_eq_false h,decide_eq_false (by omega)]
theorem q2q(N:ByteArray->Bool)(B:Nd->Bool)(s:ByteArray)(l:List Nd):xk N 0 0 B s l=(decide (l.length=0) && N s):=by
 rw[show xk N 0 0 B s l=xk N ((0:Nat):Int) ((0:Nat):Int) B s l from rfl,qbu]
 cases l with
 |nil=>simp
 |cons a l=>simp
theorem yq(n:Nat):∀ t:Nd,t.sz<=n->q1k 152 xl t:=by
 induction n with
 |zero=>intro t h;cases t;simp only[Nd.sz]at h;omega
 |succ n ih =>
  intro t hsz w v0 v1 v2 ht;obtain⟨k,s,l,a,cap,rfl,rfl,rfl,rfl,hs,hl⟩:=ht.form;have hb0:=(Below.refl w.heap.size w).alloc (q9 _) (.cells #[.int .i64 k,.string s,.slice a l.length cap] 25);obtain⟨h,hh⟩:∃ h,w.heap.size=h:=⟨_,rfl⟩;obtain⟨W1,hW1⟩:∃ W1,w.alloc (.cells #[.int .i64 k,.string s,.slice a l.length cap] 25)=W1:=⟨_,rfl⟩;have R1:Row3 W1 h (.int .i64 k) (.string s) (.slice a l.length cap):=by rw[<-hW1,<-hh];exact Row3.new _ _ _ _
  have T1:=ht.later hb0;rw[hW1]at hb0 T1;rw[hh]at hb0;have HB:=qh hb0;have HT1:=qh T1;have HR1:=qh R1;have HW:=qh hW1;obtain⟨⟨n0,n1,n2⟩,_⟩:=R1.cells;have CH_x:=fun w' (hb:Below W1.heap.size W1 w')=>xc 117 152 jh q0b zf xl 0 0 k s l a cap w' hl (jm s hs) (fun i hi=>ih l[i] (zl (qu (Nd.kid_lt _ s l i hi) hsz))) (HT1.out.later hb)
  obtain⟨V,hV⟩:∃ V,xk zf 0 0 xl s l=V:=⟨_,rfl⟩;rw[hV]at CH_x;have CC:=qh CH_x;have HS:Hid (xl (.mk k s l)=(decide (k=15) && V)):=qh (by rw[xl,<-hV,q2q]);clear CH_x hV ih ht hb0 T1 R1 hW1 hsz
  by_cases hk:k=15
  ·subst hk
   go_enter Tryz.func152,Tryz.ntmps152
   go_upto_region 1 with fail
   rw[HW.out]
   go_wp2_with fail
   refine(CC.out _ (Below.refl _ _)).mono ?_;rintro e w2⟨rfl,hb2⟩;have HB2:=qh hb2;clear hb2 CC n0 n1 n2
   cases V
   ·skip
    go_wp2;go_ret;exact⟨by rw[HS.out];rfl,by first|exact HB.out.trans (HB2.out.mono (by have:=HR1.out.lt;omega))|(rw[hh];exact HB.out.trans (HB2.out.mono (by have:=HR1.out.lt;omega)))⟩
   ·skip
    go_wp2;go_ret;exact⟨by rw[HS.out];rfl,by first|exact HB.out.trans (HB2.out.mono (by have:=HR1.out.lt;omega))|(rw[hh];exact HB.out.trans (HB2.out.mono (by have:=HR1.out.lt;omega)))⟩
  ·have e1:(k==15)=false:=by rw[qc];exact hk
   have HS2:Hid (xl (.mk k s l)=false):=qh (by rw[HS.out,decide_eq_false hk];rfl);clear hk;go_enter Tryz.func152,Tryz.ntmps152
   go_upto_region 1 with fail
   rw[HW.out];go_wp2;go_ret;exact⟨by rw[HS2.out];rfl,by first|exact HB.out|(rw[hh];exact HB.out)⟩
theorem qfy(t:Nd):q1k 154 yi t:=by
 intro w v0 v1 v2 ht;obtain⟨k,s,l,a,cap,rfl,rfl,rfl,rfl,hs,hl⟩:=ht.form;have hb0:=(Below.refl w.heap.size w).alloc (q9 _) (.cells #[.int .i64 k,.string s,.slice a l.length cap] 25);obtain⟨h,hh⟩:∃ h,w.heap.size=h:=⟨_,rfl⟩;obtain⟨W1,hW1⟩:∃ W1,w.alloc (.cells #[.int .i64 k,.string s,.slice a l.length cap] 25)=W1:=⟨_,rfl⟩;have R1:Row3 W1 h (.int .i64 k) (.string s) (.slice a l.length cap):=by rw[<-hW1,<-hh];exact Row3.new _ _ _ _
 have T1:=ht.later hb0;rw[hW1]at hb0 T1;rw[hh]at hb0;have HB:=qh hb0;have HT1:=qh T1;have HR1:=qh R1;have HW:=qh hW1;obtain⟨⟨n0,n1,n2⟩,_⟩:=R1.cells;have CL:=yq _ (.mk k s l) (q9 _) W1 _ _ _ HT1.out;obtain⟨V,hV⟩:∃ V,xl (.mk k s l)=V:=⟨_,rfl⟩;rw[hV]at CL;have CC:=qh CL
 have key:yi (.mk k s l)=(V && (s.toList==[105,110]||(s.toList==[111,117,116]||s.toList==[97,110,121]))):=by
  have e:∀ x:List UInt8,decide (s=⟨x.toArray⟩)=(s.toList==x):=fun x=>by
   rw[ByteArray.toList_eq,Bool.eq_iff_iff,qp,beq_iff_eq]
   constructor
   ·intro h;rw[h]
   ·intro h;obtain⟨⟨d⟩⟩:=s;simp only at h;rw[h]
  have m1:zf ⟨#[105,110]⟩=true:=by decide +kernel
  have m2:zf ⟨#[111,117,116]⟩=true:=by decide +kernel
  have m3:zf ⟨#[97,110,121]⟩=true:=by decide +kernel
  rw[yi,<-hV,xl];rw[show(s.toList==[105,110])=decide (s=⟨#[105,110]⟩) from(e _).symm,show(s.toList==[111,117,116])=decide (s=⟨#[111,117,116]⟩) from(e _).symm,show(s.toList==[97,110,121])=decide (s=⟨#[97,110,121]⟩) from(e _).symm]
  by_cases h1:s=⟨#[105,110]⟩
  ·subst h1;rw[m1];simp
  ·by_cases h2:s=⟨#[111,117,116]⟩
   ·subst h2;rw[m2];simp
   ·by_cases h3:s=⟨#[97,110,121]⟩
    ·subst h3;rw[m3];simp
    ·simp[h1,h2,h3]
 obtain⟨B1,hB1⟩:∃ B,(s.toList==[105,110])=B:=⟨_,rfl⟩;obtain⟨B2,hB2⟩:∃ B,(s.toList==[111,117,116])=B:=⟨_,rfl⟩;obtain⟨B3,hB3⟩:∃ B,(s.toList==[97,110,121])=B:=⟨_,rfl⟩;rw[hB1,hB2,hB3]at key;have HS:=qh key;clear CL hV ht hb0 T1 R1 hW1 key;go_enter Tryz.func154,Tryz.ntmps154
 go_upto_region 1 with fail
 rw[HW.out]
 go_wp2_with fail
 refine CC.out.mono ?_;rintro e w2⟨rfl,hb2⟩;have R2:=qh (HR1.out.below hb2 HR1.out.lt);have HB2:=qh hb2;clear hb2 n0 n1 n2;obtain⟨⟨n0,n1,n2⟩,_⟩:=R2.out.cells;clear CC
 cases V with
 |false =>
  go_wp2;go_ret;exact⟨by rw[HS.out];rfl,by first|exact HB.out.trans (HB2.out.mono (by have:=HR1.out.lt;omega))|(rw[hh];exact HB.out.trans (HB2.out.mono (by have:=HR1.out.lt;omega)))⟩
 |true =>
  cases B1 with
  |true =>
   go_wp2;go_ret;exact⟨by rw[HS.out];rfl,by first|exact HB.out.trans (HB2.out.mono (by have:=HR1.out.lt;omega))|(rw[hh];exact HB.out.trans (HB2.out.mono (by have:=HR1.out.lt;omega)))⟩
  |false =>
   cases B2 with
   |true =>
    go_wp2;go_ret;exact⟨by rw[HS.out];rfl,by first|exact HB.out.trans (HB2.out.mono (by have:=HR1.out.lt;omega))|(rw[hh];exact HB.out.trans (HB2.out.mono (by have:=HR1.out.lt;omega)))⟩
   |false =>
    cases B3 with
    |true =>
     go_wp2;go_ret;exact⟨by rw[HS.out];rfl,by first|exact HB.out.trans (HB2.out.mono (by have:=HR1.out.lt;omega))|(rw[hh];exact HB.out.trans (HB2.out.mono (by have:=HR1.out.lt;omega)))⟩
    |false =>
     go_wp2;go_ret;exact⟨by rw[HS.out];rfl,by first|exact HB.out.trans (HB2.out.mono (by have:=HR1.out.lt;omega))|(rw[hh];exact HB.out.trans (HB2.out.mono (by have:=HR1.out.lt;omega)))⟩
theorem q08(n:Nat):∀ t:Nd,t.sz<=n->q1k 96 x5 t:=by
 induction n with
 |zero=>intro t h;cases t;simp only[Nd.sz]at h;omega
 |succ n ih =>
  intro t hsz w v0 v1 v2 ht;obtain⟨k,s,l,a,cap,rfl,rfl,rfl,rfl,hs,hl⟩:=ht.form;have hb0:=(Below.refl w.heap.size w).alloc (q9 _) (.cells #[.int .i64 k,.string s,.slice a l.length cap] 25);obtain⟨h,hh⟩:∃ h,w.heap.size=h:=⟨_,rfl⟩;obtain⟨W1,hW1⟩:∃ W1,w.alloc (.cells #[.int .i64 k,.string s,.slice a l.length cap] 25)=W1:=⟨_,rfl⟩;have R1:Row3 W1 h (.int .i64 k) (.string s) (.slice a l.length cap):=by rw[<-hW1,<-hh];exact Row3.new _ _ _ _
  have T1:=ht.later hb0;rw[hW1]at hb0 T1;rw[hh]at hb0;have HB:=qh hb0;have HT1:=qh T1;have HR1:=qh R1;have HW:=qh hW1;obtain⟨⟨n0,n1,n2⟩,_⟩:=R1.cells;have CL:=qh (yq _ (.mk k s l) (q9 _) W1 _ _ _ HT1.out);have CH_x:=fun w' (hb:Below W1.heap.size W1 w')=>xc 151 96 xp q18 zb x5 2 2 k s l a cap w' hl (xj s) (fun i hi=>ih l[i] (zl (qu (Nd.kid_lt _ s l i hi) hsz))) (HT1.out.later hb)
  obtain⟨V,hV⟩:∃ V,xk zb 2 2 x5 s l=V:=⟨_,rfl⟩;rw[hV]at CH_x;have CC:=qh CH_x
  by_cases hk:k=31
  ·subst hk
   have HS:Hid (x5 (.mk 31 s l)=V):=qh (by
    rw[x5,qj rfl,<-hV,show xk zb 2 2 x5 s l=xk zb ((2:Nat):Int) ((2:Nat):Int) x5 s l from rfl,qbu,q3s]
    by_cases h2:l.length=2
    ·rw[decide_eq_true h2,decide_eq_true (by omega:2<=l.length),decide_eq_true (by omega:l.length<=2)];rfl
    ·rw[decide_eq_false h2]
     by_cases h3:2<=l.length
     ·rw[decide_eq_false (by omega:¬ l.length<=2)];simp
     ·rw[decide_eq_false h3];simp)
   have HL:Hid (xl (.mk 31 s l)=false):=qh (by rw[xl];rfl);rw[HL.out]at CL;clear CH_x hV ih ht hb0 T1 R1 hW1 hsz;go_enter Tryz.func96,Tryz.ntmps96
   go_upto_region 1 with fail
   rw[HW.out]
   go_wp2_with fail
   refine CL.out.mono ?_;rintro e w2⟨rfl,hb2⟩;have R2:=qh (HR1.out.below hb2 HR1.out.lt);have HB2:=qh hb2;clear hb2 n0 n1 n2;obtain⟨⟨n0,n1,n2⟩,_⟩:=R2.out.cells;clear CL
   go_wp2_with fail
   refine(CC.out _ HB2.out).mono ?_;rintro e w3⟨rfl,hb3⟩;have HB3:=qh (HB2.out.trans (hb3.mono HB2.out.size));clear hb3 CC n0 n1 n2
   cases V
   ·go_wp2
    go_ret;exact⟨by rw[HS.out];rfl,by first|exact HB.out.trans (HB3.out.mono (by have:=HR1.out.lt;omega))|(rw[hh];exact HB.out.trans (HB3.out.mono (by have:=HR1.out.lt;omega)))⟩
   ·go_wp2
    go_ret;exact⟨by rw[HS.out];rfl,by first|exact HB.out.trans (HB3.out.mono (by have:=HR1.out.lt;omega))|(rw[hh];exact HB.out.trans (HB3.out.mono (by have:=HR1.out.lt;omega)))⟩
  ·obtain⟨V2,hV2⟩:∃ V,xl (.mk k s l)=V:=⟨_,rfl⟩
   rw[hV2]at CL;have HS:Hid (x5 (.mk k s l)=V2):=qh (by rw[x5,qd hk,<-hV2,xl]);have e1:(k==31)=false:=by rw[qc];exact hk
   clear CH_x CC hV hV2 ih ht hb0 T1 R1 hW1 hsz hk;go_enter Tryz.func96,Tryz.ntmps96
   go_upto_region 1 with fail
   rw[HW.out]
   go_wp2_with fail
   refine CL.out.mono ?_;rintro e w2⟨rfl,hb2⟩;have R2:=qh (HR1.out.below hb2 HR1.out.lt);have HB2:=qh hb2;clear hb2 n0 n1 n2;obtain⟨⟨n0,n1,n2⟩,_⟩:=R2.out.cells;clear CL
   cases V2
   ·go_wp2
    go_ret;exact⟨by rw[HS.out];rfl,by first|exact HB.out.trans (HB2.out.mono (by have:=HR1.out.lt;omega))|(rw[hh];exact HB.out.trans (HB2.out.mono (by have:=HR1.out.lt;omega)))⟩
   ·go_wp2
    go_ret;exact⟨by rw[HS.out];rfl,by first|exact HB.out.trans (HB2.out.mono (by have:=HR1.out.lt;omega))|(rw[hh];exact HB.out.trans (HB2.out.mono (by have:=HR1.out.lt;omega)))⟩
theorem qdy{w:World}{k k':Int}{s:ByteArray}{l:List Nd}{v0 v1 v2:Value}(h:NdR w (.mk k s l) v0 v1 v2):NdR w (.mk k' ⟨#[]⟩ l) (.int .i64 k') (.string ⟨#[]⟩) v2:=by
 cases h with
 |mk _ _ _ a cap b o f0 f1 f2 hs hl hc ha h0 h1 h2 hr=>exact .mk k' ⟨#[]⟩ l a cap b o f0 f1 f2 (by decide) hl hc ha h0 h1 h2 hr
theorem q5v(g:Nat)(eg:∀ args w,(callFunc g args).run Tryz.prog w = .ok (.enter g args) w)(B:Nd->Bool)(k:Int)(s:ByteArray)(l:List Nd)(a:Option Addr)(cap:Nat)(w:World)(hs:s.size<=maxLen)(hl:l.length<=maxLen)
  (hB:∀ i,(h:i < l.length)->q1k g B l[i]) (ht:NdR w (.mk k s l) (.int .i64 k) (.string s) (.slice a l.length cap)) (R:Bool)
  (hR:∀ h:0 < l.length,((decide (l.length=1)||decide (l.length=2)) && ((zf s||xy s) && ((l.take (l.length - 1)).all x5 && B (l[l.length - 1]'(by omega)))))=R) (hR0:l.length=0->R=false) :
  Calls Tryz.prog 155 #[.agg #[.int .i64 k,.string s,.slice a l.length cap],.func (.func g) #[] #[]] w fun e w'=>e = .returned (.bool R)/\Below w.heap.size w w':=by
 have hb0:=(Below.refl w.heap.size w).alloc (q9 _) (.cells #[.int .i64 k,.string s,.slice a l.length cap] 25);obtain⟨h,hh⟩:∃ h,w.heap.size=h:=⟨_,rfl⟩;obtain⟨W1,hW1⟩:∃ W1,w.alloc (.cells #[.int .i64 k,.string s,.slice a l.length cap] 25)=W1:=⟨_,rfl⟩;have R1:Row3 W1 h (.int .i64 k) (.string s) (.slice a l.length cap):=by rw[<-hW1,<-hh];exact Row3.new _ _ _ _
 have T1:=ht.later hb0;rw[hW1]at hb0 T1;rw[hh]at hb0;have HB:=qh hb0;have HT1:=qh T1;have HR1:=qh R1;have HW:=qh hW1;obtain⟨⟨n0,n1,n2⟩,_⟩:=R1.cells;have hcap:=ht.cap;have HL0:Hid (NdL W1 l (.slice a l.length cap)):=qh ⟨_,_,_,_,HT1.out⟩;unfold maxLen at hl
 by_cases h0:l.length=0
 ·have hRf:=hR0 h0
  subst hRf;have e1:((l.length:Int) - 1==0)=false:=by rw[qc];omega
  have e2:((l.length:Int) - 1==1)=false:=by rw[qc];omega
  clear h0 hR hR0 hB ht hb0 T1 R1 hW1;go_enter Tryz.func155,Tryz.ntmps155
  go_upto_region 1 with fail
  rw[HW.out];go_wp2;go_ret;exact⟨rfl,by first|exact HB.out|(rw[hh];exact HB.out)⟩
 ·have hpos:0 < l.length:=by omega
  have hRp:=hR hpos
  by_cases h12:l.length=1\/l.length=2
  ·rw[show(decide (l.length=1)||decide (l.length=2))=true from by rcases h12 with h|h <;> simp[h],Bool.true_and]at hRp
   obtain⟨b,o,k1,s1,l1,a1,c1,rfl,e1,x0,x1,x2,r1⟩:=HT1.out.kid (l.length - 1) (by omega);have CN0:=q1y s hs W1
   have CE0:=fun w' (hb:Below W1.heap.size W1 w')=>q5p 96 q18 x5 0 ⟨#[]⟩ (l.take (l.length - 1)) (some ⟨b,o,none⟩) cap w' (by rw[List.length_take];unfold maxLen;omega) (fun i hi=>q08 _ _ (q9 _)) (by
    obtain⟨k9,s9,u0,u1,h9⟩:=(HL0.out.later hb).take (l.length - 1) (by omega) cap (by omega);rw[show(l.take (l.length - 1)).length=l.length - 1 from by rw[List.length_take];omega]
    exact qdy h9)
   rw[show(l.take (l.length - 1)).length=l.length - 1 from by rw[List.length_take];omega]at CE0;have CG0:=fun w' (hb:Below W1.heap.size W1 w')=>hB (l.length - 1) (by omega) w' (.int .i64 k1) (.string s1) (.slice a1 l1.length c1) (by rw[e1];exact r1.later hb)
   obtain⟨VN,hVN⟩:∃ V,(zf s||xy s)=V:=⟨_,rfl⟩;obtain⟨VE,hVE⟩:∃ V,(l.take (l.length - 1)).all x5=V:=⟨_,rfl⟩;obtain⟨VG,hVG⟩:∃ V,B (l[l.length - 1]'(by omega))=V:=⟨_,rfl⟩;rw[hVN,hVE,hVG]at hRp;simp only[hVN]at CN0;rw[hVE]at CE0;rw[hVG]at CG0;obtain⟨M,hM⟩:∃ M,l.length - 1=M:=⟨_,rfl⟩;obtain⟨L,hL⟩:∃ L,l.length=L:=⟨_,rfl⟩;have hML:((L:Nat):Int) - 1=(M:Int):=by omega
   rw[hM]at CE0 x0 x1 x2;rw[hL]at n2 hcap hl h12 hpos;have CN:=qh CN0;have CE:=qh CE0;have CG:=qh CG0;have HRp:=qh hRp;have HR2:Hid (Row3 W1 h (.int .i64 k) (.string s) (.slice (some ⟨b,o,none⟩) L cap)):=by rw[<-hL];exact HR1
   have HW2:Hid (w.alloc (.cells #[.int .i64 k,.string s,.slice (some ⟨b,o,none⟩) L cap] 25)=W1):=by rw[<-hL];exact HW
   have L2:=qh (qi x0);have HX:=qh (show W1.cell? ⟨b,o+M*3,none⟩=some (.int .i64 k1)/\W1.cell? ⟨b,o+M*3+1,none⟩=some (.string s1)/\W1.cell? ⟨b,o+M*3+2,none⟩=some (.slice a1 l1.length c1) from⟨x0,x1,x2⟩);have hM2:M=0\/M=1:=by omega
   have hMc:M<=cap:=by omega
   rw[hL];clear hR hR0 hB ht hb0 T1 R1 hW1 hRp hVN hVE hVG CN0 CE0 CG0 e1 r1 x0 x1 x2 HT1 HL0 HR1 HW hL;rcases hM2 with rfl|rfl
   ·have hL1:L=1:=by omega
    subst hL1;obtain⟨⟨n0,n1,n2⟩,_⟩:=HR2.out.cells;go_enter Tryz.func155,Tryz.ntmps155
    go_upto_region 1 with fail
    rw[HW2.out]
    go_wp2_with fail
    refine CN.out.mono ?_;rintro e w2⟨rfl,hb2⟩;have R2:=qh (HR2.out.below hb2 HR2.out.lt);have HB2:=qh hb2;clear hb2 n0 n1 n2 CN;obtain⟨⟨n0,n1,n2⟩,_⟩:=R2.out.cells
    cases VN with
    |false =>
     go_wp2;go_ret;exact⟨by rw[<-HRp.out];rfl,by first|exact HB.out.trans (HB2.out.mono (by have:=HR2.out.lt;omega))|(rw[hh];exact HB.out.trans (HB2.out.mono (by have:=HR2.out.lt;omega)))⟩
    |true =>
     go_wp2_with fail
     refine(CE.out _ HB2.out).mono ?_;rintro e w3⟨rfl,hb3⟩;have HB3:=qh (HB2.out.trans (hb3.mono HB2.out.size));clear hb3 n0 n1 n2 CE;obtain⟨⟨n0,n1,n2⟩,_⟩:=(HR2.out.below HB3.out HR2.out.lt).cells;have x0:=(HB3.out.cell (p:=⟨b,o+0*3,none⟩) L2.out).trans HX.out.1;have x1:=(HB3.out.cell (p:=⟨b,o+0*3+1,none⟩) L2.out).trans HX.out.2.1;have x2:=(HB3.out.cell (p:=⟨b,o+0*3+2,none⟩) L2.out).trans HX.out.2.2;simp only[Nat.zero_mul,Nat.add_zero]at x0 x1 x2
     cases VE with
     |false =>
      go_wp2;go_ret;exact⟨by rw[<-HRp.out];rfl,by first|exact HB.out.trans (HB3.out.mono (by have:=HR2.out.lt;omega))|(rw[hh];exact HB.out.trans (HB3.out.mono (by have:=HR2.out.lt;omega)))⟩
     |true =>
      go_wp2_with fail
      refine(CG.out _ HB3.out).mono ?_;rintro e w4⟨rfl,hb4⟩;have HB4:=qh (HB3.out.trans (hb4.mono HB3.out.size));clear hb4 n0 n1 n2 x0 x1 x2 CG
      cases VG
      ·skip
       go_wp2;go_ret;exact⟨by rw[<-HRp.out];rfl,by first|exact HB.out.trans (HB4.out.mono (by have:=HR2.out.lt;omega))|(rw[hh];exact HB.out.trans (HB4.out.mono (by have:=HR2.out.lt;omega)))⟩
      ·skip
       go_wp2;go_ret;exact⟨by rw[<-HRp.out];rfl,by first|exact HB.out.trans (HB4.out.mono (by have:=HR2.out.lt;omega))|(rw[hh];exact HB.out.trans (HB4.out.mono (by have:=HR2.out.lt;omega)))⟩
   ·have hL1:L=2:=by omega
    subst hL1;obtain⟨⟨n0,n1,n2⟩,_⟩:=HR2.out.cells;go_enter Tryz.func155,Tryz.ntmps155
    go_upto_region 1 with fail
    rw[HW2.out]
    go_wp2_with fail
    refine CN.out.mono ?_;rintro e w2⟨rfl,hb2⟩;have R2:=qh (HR2.out.below hb2 HR2.out.lt);have HB2:=qh hb2;clear hb2 n0 n1 n2 CN;obtain⟨⟨n0,n1,n2⟩,_⟩:=R2.out.cells
    cases VN with
    |false =>
     go_wp2;go_ret;exact⟨by rw[<-HRp.out];rfl,by first|exact HB.out.trans (HB2.out.mono (by have:=HR2.out.lt;omega))|(rw[hh];exact HB.out.trans (HB2.out.mono (by have:=HR2.out.lt;omega)))⟩
    |true =>
     go_wp2_with fail
     refine(CE.out _ HB2.out).mono ?_;rintro e w3⟨rfl,hb3⟩;have HB3:=qh (HB2.out.trans (hb3.mono HB2.out.size));clear hb3 n0 n1 n2 CE;obtain⟨⟨n0,n1,n2⟩,_⟩:=(HR2.out.below HB3.out HR2.out.lt).cells;have x0:=(HB3.out.cell (p:=⟨b,o+1*3,none⟩) L2.out).trans HX.out.1;have x1:=(HB3.out.cell (p:=⟨b,o+1*3+1,none⟩) L2.out).trans HX.out.2.1;have x2:=(HB3.out.cell (p:=⟨b,o+1*3+2,none⟩) L2.out).trans HX.out.2.2;simp only[Nat.one_mul]at x0 x1 x2
     cases VE with
     |false =>
      go_wp2;go_ret;exact⟨by rw[<-HRp.out];rfl,by first|exact HB.out.trans (HB3.out.mono (by have:=HR2.out.lt;omega))|(rw[hh];exact HB.out.trans (HB3.out.mono (by have:=HR2.out.lt;omega)))⟩
     |true =>
      go_wp2_with fail
      refine(CG.out _ HB3.out).mono ?_;rintro e w4⟨rfl,hb4⟩;have HB4:=qh (HB3.out.trans (hb4.mono HB3.out.size));clear hb4 n0 n1 n2 x0 x1 x2 CG
      cases VG
      ·skip
       go_wp2;go_ret;exact⟨by rw[<-HRp.out];rfl,by first|exact HB.out.trans (HB4.out.mono (by have:=HR2.out.lt;omega))|(rw[hh];exact HB.out.trans (HB4.out.mono (by have:=HR2.out.lt;omega)))⟩
      ·skip
       go_wp2;go_ret;exact⟨by rw[<-HRp.out];rfl,by first|exact HB.out.trans (HB4.out.mono (by have:=HR2.out.lt;omega))|(rw[hh];exact HB.out.trans (HB4.out.mono (by have:=HR2.out.lt;omega)))⟩
  ·have e1:((l.length:Int) - 1==0)=false:=by rw[qc];omega
   have e2:((l.length:Int) - 1==1)=false:=by rw[qc];omega
   have hRf:R=false:=by rw[<-hRp,decide_eq_false (fun h=>h12 (.inl h)),decide_eq_false (fun h=>h12 (.inr h))];rfl
   subst hRf;clear hR hR0 hB ht hb0 T1 R1 hW1 hRp;go_enter Tryz.func155,Tryz.ntmps155
   go_upto_region 1 with fail
   rw[HW.out];go_wp2;go_ret;exact⟨rfl,by first|exact HB.out|(rw[hh];exact HB.out)⟩
theorem q7i(s:ByteArray)(l:List Nd)(h:0 < l.length)(X:Bool):((decide (l.length=1)||decide (l.length=2)) && ((zf s||xy s) && ((l.take (l.length - 1)).all x5 && X)))=(jy s l && X):=by
 unfold jy
 match l,h with
 |[a],_=>simp
 |[a,b],_=>cases (zf s||xy s) <;> cases h:x5 a <;> cases X <;> simp[q1j,h]
 |a :: b :: c :: l,_=>simp
theorem qg1(N:ByteArray->Bool)(lo hi:Nat)(a b:Int)(ha:a=(lo:Int))(hb:b=(hi:Int))(B:Nd->Bool)(s:ByteArray)(l:List Nd):xk N a b B s l=(decide (lo<=l.length) && (decide (l.length<=hi) && (N s && l.all B))):=by
 subst ha;subst hb;exact qbu N lo hi B s l
theorem qfd{k:Int}(h1:k≠22)(h2:k≠23)(h3:k≠24)(h4:k≠25)(h5:k≠26)(h6:k≠27)(h7:k≠28):wv k=false:=by
 unfold wv;rw[Bool.and_eq_false_iff,decide_eq_false_iff_not,decide_eq_false_iff_not];omega
theorem ql6(n m:Nat):(decide (n<=m) && decide (m<=n))=decide (m=n):=by
 by_cases h:m=n
 ·rw[decide_eq_true h,decide_eq_true (by omega),decide_eq_true (by omega)];rfl
 ·rw[decide_eq_false h]
  by_cases h2:n<=m
  ·rw[decide_eq_false (by omega:¬ m<=n),Bool.and_false]
  ·rw[decide_eq_false h2,Bool.false_and]
theorem vq(N:ByteArray->Bool)(n:Nat)(a:Int)(ha:a=(n:Int))(B:Nd->Bool)(s:ByteArray)(l:List Nd):xk N a a B s l=(N s && (decide (l.length=n) && l.all B)):=by
 rw[qg1 N n n a a ha ha,<-Bool.and_assoc,ql6]
 cases N s <;> cases decide (l.length=n) <;> cases l.all B <;> rfl
theorem q38(N:ByteArray->Bool)(B:Nd->Bool)(s:ByteArray)(l:List Nd):xk N 0 8 B s l=(N s && (l.all B && decide (l.length<=8))):=by
 rw[qg1 N 0 8 0 8 rfl rfl,decide_eq_true (qv _)]
 cases N s <;> cases decide (l.length<=8) <;> cases l.all B <;> rfl
theorem qbv(N:ByteArray->Bool)(lo:Nat)(a:Int)(ha:a=(lo:Int))(B:Nd->Bool)(s:ByteArray)(l:List Nd):xk N a (l.length:Int) B s l=(N s && (decide (lo<=l.length) && l.all B)):=by
 rw[qg1 N lo l.length a _ ha rfl,decide_eq_true (q9 _)]
 cases N s <;> cases decide (lo<=l.length) <;> cases l.all B <;> rfl
theorem q8a(n:Nat):∀ t:Nd,t.sz<=n->q1k 95 zv t:=by
 induction n with
 |zero=>intro t h;cases t;simp only[Nd.sz]at h;omega
 |succ n ih =>
  intro t hsz w v0 v1 v2 ht;obtain⟨k,s,l,a,cap,rfl,rfl,rfl,rfl,hs,hl⟩:=ht.form;have hb0:=(Below.refl w.heap.size w).alloc (q9 _) (.cells #[.int .i64 k,.string s,.slice a l.length cap] 25);obtain⟨h,hh⟩:∃ h,w.heap.size=h:=⟨_,rfl⟩;obtain⟨W1,hW1⟩:∃ W1,w.alloc (.cells #[.int .i64 k,.string s,.slice a l.length cap] 25)=W1:=⟨_,rfl⟩;have R1:Row3 W1 h (.int .i64 k) (.string s) (.slice a l.length cap):=by rw[<-hW1,<-hh];exact Row3.new _ _ _ _
  have T1:=ht.later hb0;rw[hW1]at hb0 T1;rw[hh]at hb0;have HB:=qh hb0;have HT1:=qh T1;have HR1:=qh R1;have HW:=qh hW1;obtain⟨⟨n0,n1,n2⟩,_⟩:=R1.cells
  by_cases hk15:k=15
  ·subst hk15
   have CH:=fun w' (hb:Below W1.heap.size W1 w')=>xc 117 95 jh q4l zf zv 0 8 15 s l a cap w' hl (jm s hs) (fun i hi=>ih l[i] (zl (qu (Nd.kid_lt _ s l i hi) hsz))) (HT1.out.later hb)
   obtain⟨V,hV⟩:∃ V,xk zf 0 8 zv s l=V:=⟨_,rfl⟩;rw[hV]at CH;have CC:=qh CH;have HS:Hid (zv (.mk 15 s l)=V):=qh (by rw[<-hV];rw[zv,qj rfl,q98,q38]);clear CH hV;clear ht hb0 T1 R1 hW1 ih hsz;go_enter Tryz.func95,Tryz.ntmps95
   go_upto_region 1 with fail
   rw[HW.out]
   go_wp2_with fail
   refine(CC.out _ (Below.refl _ _)).mono ?_;rintro e w2⟨rfl,hb2⟩;have HB2:=qh hb2;clear hb2 CC n0 n1 n2
   cases V
   ·skip
    go_wp2;go_ret;exact⟨by rw[HS.out];rfl,by first|exact HB.out.trans (HB2.out.mono (by have:=HR1.out.lt;omega))|(rw[hh];exact HB.out.trans (HB2.out.mono (by have:=HR1.out.lt;omega)))⟩
   ·skip
    go_wp2;go_ret;exact⟨by rw[HS.out];rfl,by first|exact HB.out.trans (HB2.out.mono (by have:=HR1.out.lt;omega))|(rw[hh];exact HB.out.trans (HB2.out.mono (by have:=HR1.out.lt;omega)))⟩
  ·skip
   by_cases hk16:k=16
   ·subst hk16
    have CH:=fun w' (hb:Below W1.heap.size W1 w')=>xc 58 95 qim q4l xy zv 0 8 16 s l a cap w' hl (qaq s hs) (fun i hi=>ih l[i] (zl (qu (Nd.kid_lt _ s l i hi) hsz))) (HT1.out.later hb)
    obtain⟨V,hV⟩:∃ V,xk xy 0 8 zv s l=V:=⟨_,rfl⟩;rw[hV]at CH;have CC:=qh CH;have HS:Hid (zv (.mk 16 s l)=V):=qh (by rw[<-hV];rw[zv,qd (by decide),qj rfl,q98,q38]);clear CH hV;clear ht hb0 T1 R1 hW1 ih hsz;go_enter Tryz.func95,Tryz.ntmps95
    go_upto_region 1 with fail
    rw[HW.out]
    go_wp2_with fail
    refine(CC.out _ (Below.refl _ _)).mono ?_;rintro e w2⟨rfl,hb2⟩;have HB2:=qh hb2;clear hb2 CC n0 n1 n2
    cases V
    ·skip
     go_wp2;go_ret;exact⟨by rw[HS.out];rfl,by first|exact HB.out.trans (HB2.out.mono (by have:=HR1.out.lt;omega))|(rw[hh];exact HB.out.trans (HB2.out.mono (by have:=HR1.out.lt;omega)))⟩
    ·skip
     go_wp2;go_ret;exact⟨by rw[HS.out];rfl,by first|exact HB.out.trans (HB2.out.mono (by have:=HR1.out.lt;omega))|(rw[hh];exact HB.out.trans (HB2.out.mono (by have:=HR1.out.lt;omega)))⟩
   ·skip
    by_cases hk17:k=17
    ·subst hk17
     obtain⟨V,hV⟩:∃ V,zv (.mk 17 s l)=V:=⟨_,rfl⟩;have hV2:(jy s l && q0g l)=V:=by rw[<-hV];rw[zv,qd (by decide),qd (by decide),decide_eq_true rfl,Bool.true_and]
     have CC:=qh (fun w' (hb:Below W1.heap.size W1 w')=>q5v 95 q4l zv 17 s l a cap w' hs hl (fun i hi=>ih l[i] (zl (qu (Nd.kid_lt _ s l i hi) hsz))) (HT1.out.later hb) V (fun h=>by rw[q7i s l h,<-q52 h];exact hV2) (fun h=>by rw[<-hV2,List.eq_nil_of_length_eq_zero h,q0g,Bool.and_false]));have HS:Hid (zv (.mk 17 s l)=V):=qh hV;clear hV hV2;clear ht hb0 T1 R1 hW1 ih hsz;go_enter Tryz.func95,Tryz.ntmps95
     go_upto_region 1 with fail
     rw[HW.out]
     go_wp2_with fail
     refine(CC.out _ (Below.refl _ _)).mono ?_;rintro e w2⟨rfl,hb2⟩;have HB2:=qh hb2;clear hb2 CC n0 n1 n2
     cases V
     ·skip
      go_wp2;go_ret;exact⟨by rw[HS.out];rfl,by first|exact HB.out.trans (HB2.out.mono (by have:=HR1.out.lt;omega))|(rw[hh];exact HB.out.trans (HB2.out.mono (by have:=HR1.out.lt;omega)))⟩
     ·skip
      go_wp2;go_ret;exact⟨by rw[HS.out];rfl,by first|exact HB.out.trans (HB2.out.mono (by have:=HR1.out.lt;omega))|(rw[hh];exact HB.out.trans (HB2.out.mono (by have:=HR1.out.lt;omega)))⟩
    ·skip
     have HS:Hid (zv (.mk k s l)=false):=qh (by rw[zv,qd hk15,qd hk16,decide_eq_false hk17];rfl);have e15:(k==15)=false:=by rw[qc];exact hk15
     have e16:(k==16)=false:=by rw[qc];exact hk16
     have e17:(k==17)=false:=by rw[qc];exact hk17
     clear ht hb0 T1 R1 hW1 hk15 hk16 hk17 ih hsz;go_enter Tryz.func95,Tryz.ntmps95
     go_upto_region 1 with fail
     rw[HW.out];go_wp2;go_ret;exact⟨by rw[HS.out];rfl,by first|exact HB.out|(rw[hh];exact HB.out)⟩
theorem q17(n:Nat):∀ t:Nd,t.sz<=n->q1k 94 qt t:=by
 induction n with
 |zero=>intro t h;cases t;simp only[Nd.sz]at h;omega
 |succ n ih =>
  intro t hsz w v0 v1 v2 ht;obtain⟨k,s,l,a,cap,rfl,rfl,rfl,rfl,hs,hl⟩:=ht.form;have hb0:=(Below.refl w.heap.size w).alloc (q9 _) (.cells #[.int .i64 k,.string s,.slice a l.length cap] 25);obtain⟨h,hh⟩:∃ h,w.heap.size=h:=⟨_,rfl⟩;obtain⟨W1,hW1⟩:∃ W1,w.alloc (.cells #[.int .i64 k,.string s,.slice a l.length cap] 25)=W1:=⟨_,rfl⟩;have R1:Row3 W1 h (.int .i64 k) (.string s) (.slice a l.length cap):=by rw[<-hW1,<-hh];exact Row3.new _ _ _ _
  have T1:=ht.later hb0;rw[hW1]at hb0 T1;rw[hh]at hb0;have HB:=qh hb0;have HT1:=qh T1;have HR1:=qh R1;have HW:=qh hW1;obtain⟨⟨n0,n1,n2⟩,_⟩:=R1.cells
  by_cases hk15:k=15
  ·subst hk15
   obtain⟨V,hV⟩:∃ V,zv (.mk 15 s l)=V:=⟨_,rfl⟩;have CH:=fun w' (hb:Below W1.heap.size W1 w')=>q8a _ (.mk 15 s l) (q9 _) w' _ _ _ (HT1.out.later hb)
   rw[hV]at CH;have CC:=qh CH;have HS:Hid (qt (.mk 15 s l)=V):=qh (by rw[<-hV];rw[qt,qj rfl]);clear CH hV;clear ht hb0 T1 R1 hW1 ih hsz;go_enter Tryz.func94,Tryz.ntmps94
   go_upto_region 1 with fail
   rw[HW.out]
   go_wp2_with fail
   refine(CC.out _ (Below.refl _ _)).mono ?_;rintro e w2⟨rfl,hb2⟩;have HB2:=qh hb2;clear hb2 CC n0 n1 n2
   cases V
   ·skip
    go_wp2;go_ret;exact⟨by rw[HS.out];rfl,by first|exact HB.out.trans (HB2.out.mono (by have:=HR1.out.lt;omega))|(rw[hh];exact HB.out.trans (HB2.out.mono (by have:=HR1.out.lt;omega)))⟩
   ·skip
    go_wp2;go_ret;exact⟨by rw[HS.out];rfl,by first|exact HB.out.trans (HB2.out.mono (by have:=HR1.out.lt;omega))|(rw[hh];exact HB.out.trans (HB2.out.mono (by have:=HR1.out.lt;omega)))⟩
  ·skip
   by_cases hk18:k=18
   ·subst hk18
    obtain⟨V,hV⟩:∃ V,qt (.mk 18 s l)=V:=⟨_,rfl⟩;have hV2:(jy s l && yj l)=V:=by rw[<-hV];rw[qt,qd (by decide),qj (by decide)]
    have CC:=qh (fun w' (hb:Below W1.heap.size W1 w')=>q5v 94 xh qt 18 s l a cap w' hs hl (fun i hi=>ih l[i] (zl (qu (Nd.kid_lt _ s l i hi) hsz))) (HT1.out.later hb) V (fun h=>by rw[q7i s l h,<-q1z h];exact hV2) (fun h=>by rw[<-hV2,List.eq_nil_of_length_eq_zero h,yj,Bool.and_false]));have HS:Hid (qt (.mk 18 s l)=V):=qh hV;clear hV hV2;clear ht hb0 T1 R1 hW1 ih hsz;go_enter Tryz.func94,Tryz.ntmps94
    go_upto_region 1 with fail
    rw[HW.out]
    go_wp2_with fail
    refine(CC.out _ (Below.refl _ _)).mono ?_;rintro e w2⟨rfl,hb2⟩;have HB2:=qh hb2;clear hb2 CC n0 n1 n2
    cases V
    ·skip
     go_wp2;go_ret;exact⟨by rw[HS.out];rfl,by first|exact HB.out.trans (HB2.out.mono (by have:=HR1.out.lt;omega))|(rw[hh];exact HB.out.trans (HB2.out.mono (by have:=HR1.out.lt;omega)))⟩
    ·skip
     go_wp2;go_ret;exact⟨by rw[HS.out];rfl,by first|exact HB.out.trans (HB2.out.mono (by have:=HR1.out.lt;omega))|(rw[hh];exact HB.out.trans (HB2.out.mono (by have:=HR1.out.lt;omega)))⟩
   ·skip
    by_cases hk19:k=19
    ·subst hk19
     obtain⟨V,hV⟩:∃ V,qt (.mk 19 s l)=V:=⟨_,rfl⟩;have hV2:(jy s l && yj l)=V:=by rw[<-hV];rw[qt,qd (by decide),qj (by decide)]
     have CC:=qh (fun w' (hb:Below W1.heap.size W1 w')=>q5v 94 xh qt 19 s l a cap w' hs hl (fun i hi=>ih l[i] (zl (qu (Nd.kid_lt _ s l i hi) hsz))) (HT1.out.later hb) V (fun h=>by rw[q7i s l h,<-q1z h];exact hV2) (fun h=>by rw[<-hV2,List.eq_nil_of_length_eq_zero h,yj,Bool.and_false]));have HS:Hid (qt (.mk 19 s l)=V):=qh hV;clear hV hV2;clear ht hb0 T1 R1 hW1 ih hsz;go_enter Tryz.func94,Tryz.ntmps94
     go_upto_region 1 with fail
     rw[HW.out]
     go_wp2_with fail
     refine(CC.out _ (Below.refl _ _)).mono ?_;rintro e w2⟨rfl,hb2⟩;have HB2:=qh hb2;clear hb2 CC n0 n1 n2
     cases V
     ·skip
      go_wp2;go_ret;exact⟨by rw[HS.out];rfl,by first|exact HB.out.trans (HB2.out.mono (by have:=HR1.out.lt;omega))|(rw[hh];exact HB.out.trans (HB2.out.mono (by have:=HR1.out.lt;omega)))⟩
     ·skip
      go_wp2;go_ret;exact⟨by rw[HS.out];rfl,by first|exact HB.out.trans (HB2.out.mono (by have:=HR1.out.lt;omega))|(rw[hh];exact HB.out.trans (HB2.out.mono (by have:=HR1.out.lt;omega)))⟩
    ·skip
     by_cases hk20:k=20
     ·subst hk20
      have CH:=fun w' (hb:Below W1.heap.size W1 w')=>xc 151 94 xp xh zb qt 0 0 20 s l a cap w' hl (xj s) (fun i hi=>ih l[i] (zl (qu (Nd.kid_lt _ s l i hi) hsz))) (HT1.out.later hb)
      obtain⟨V,hV⟩:∃ V,xk zb 0 0 qt s l=V:=⟨_,rfl⟩;rw[hV]at CH;have CC:=qh CH;have HS:Hid (qt (.mk 20 s l)=V):=qh (by rw[<-hV];rw[qt,qd (by decide),qd (by decide),qj (by decide),q2q,Bool.and_comm]);clear CH hV;clear ht hb0 T1 R1 hW1 ih hsz;go_enter Tryz.func94,Tryz.ntmps94
      go_upto_region 1 with fail
      rw[HW.out]
      go_wp2_with fail
      refine(CC.out _ (Below.refl _ _)).mono ?_;rintro e w2⟨rfl,hb2⟩;have HB2:=qh hb2;clear hb2 CC n0 n1 n2
      cases V
      ·skip
       go_wp2;go_ret;exact⟨by rw[HS.out];rfl,by first|exact HB.out.trans (HB2.out.mono (by have:=HR1.out.lt;omega))|(rw[hh];exact HB.out.trans (HB2.out.mono (by have:=HR1.out.lt;omega)))⟩
      ·skip
       go_wp2;go_ret;exact⟨by rw[HS.out];rfl,by first|exact HB.out.trans (HB2.out.mono (by have:=HR1.out.lt;omega))|(rw[hh];exact HB.out.trans (HB2.out.mono (by have:=HR1.out.lt;omega)))⟩
     ·skip
      by_cases hk21:k=21
      ·subst hk21
       have CH:=fun w' (hb:Below W1.heap.size W1 w')=>xc 151 94 xp xh zb qt 0 0 21 s l a cap w' hl (xj s) (fun i hi=>ih l[i] (zl (qu (Nd.kid_lt _ s l i hi) hsz))) (HT1.out.later hb)
       obtain⟨V,hV⟩:∃ V,xk zb 0 0 qt s l=V:=⟨_,rfl⟩;rw[hV]at CH;have CC:=qh CH;have HS:Hid (qt (.mk 21 s l)=V):=qh (by rw[<-hV];rw[qt,qd (by decide),qd (by decide),qj (by decide),q2q,Bool.and_comm]);clear CH hV;clear ht hb0 T1 R1 hW1 ih hsz;go_enter Tryz.func94,Tryz.ntmps94
       go_upto_region 1 with fail
       rw[HW.out]
       go_wp2_with fail
       refine(CC.out _ (Below.refl _ _)).mono ?_;rintro e w2⟨rfl,hb2⟩;have HB2:=qh hb2;clear hb2 CC n0 n1 n2
       cases V
       ·skip
        go_wp2;go_ret;exact⟨by rw[HS.out];rfl,by first|exact HB.out.trans (HB2.out.mono (by have:=HR1.out.lt;omega))|(rw[hh];exact HB.out.trans (HB2.out.mono (by have:=HR1.out.lt;omega)))⟩
       ·skip
        go_wp2;go_ret;exact⟨by rw[HS.out];rfl,by first|exact HB.out.trans (HB2.out.mono (by have:=HR1.out.lt;omega))|(rw[hh];exact HB.out.trans (HB2.out.mono (by have:=HR1.out.lt;omega)))⟩
      ·skip
       by_cases hk29:k=29
       ·subst hk29
        have CH:=fun w' (hb:Below W1.heap.size W1 w')=>xc 151 94 xp xh zb qt 1 1 29 s l a cap w' hl (xj s) (fun i hi=>ih l[i] (zl (qu (Nd.kid_lt _ s l i hi) hsz))) (HT1.out.later hb)
        obtain⟨V,hV⟩:∃ V,xk zb 1 1 qt s l=V:=⟨_,rfl⟩;rw[hV]at CH;have CC:=qh CH;have HS:Hid (qt (.mk 29 s l)=V):=qh (by rw[<-hV];rw[qt,qd (by decide),qd (by decide),qd (by decide),qj (by decide),vq zb 1 1 rfl,ja]);clear CH hV;clear ht hb0 T1 R1 hW1 ih hsz;go_enter Tryz.func94,Tryz.ntmps94
        go_upto_region 1 with fail
        rw[HW.out]
        go_wp2_with fail
        refine(CC.out _ (Below.refl _ _)).mono ?_;rintro e w2⟨rfl,hb2⟩;have HB2:=qh hb2;clear hb2 CC n0 n1 n2
        cases V
        ·skip
         go_wp2;go_ret;exact⟨by rw[HS.out];rfl,by first|exact HB.out.trans (HB2.out.mono (by have:=HR1.out.lt;omega))|(rw[hh];exact HB.out.trans (HB2.out.mono (by have:=HR1.out.lt;omega)))⟩
        ·skip
         go_wp2;go_ret;exact⟨by rw[HS.out];rfl,by first|exact HB.out.trans (HB2.out.mono (by have:=HR1.out.lt;omega))|(rw[hh];exact HB.out.trans (HB2.out.mono (by have:=HR1.out.lt;omega)))⟩
       ·skip
        by_cases hk30:k=30
        ·subst hk30
         have CH:=fun w' (hb:Below W1.heap.size W1 w')=>xc 151 94 xp xh zb qt 1 1 30 s l a cap w' hl (xj s) (fun i hi=>ih l[i] (zl (qu (Nd.kid_lt _ s l i hi) hsz))) (HT1.out.later hb)
         obtain⟨V,hV⟩:∃ V,xk zb 1 1 qt s l=V:=⟨_,rfl⟩;rw[hV]at CH;have CC:=qh CH;have HS:Hid (qt (.mk 30 s l)=V):=qh (by rw[<-hV];rw[qt,qd (by decide),qd (by decide),qd (by decide),qj (by decide),vq zb 1 1 rfl,ja]);clear CH hV;clear ht hb0 T1 R1 hW1 ih hsz;go_enter Tryz.func94,Tryz.ntmps94
         go_upto_region 1 with fail
         rw[HW.out]
         go_wp2_with fail
         refine(CC.out _ (Below.refl _ _)).mono ?_;rintro e w2⟨rfl,hb2⟩;have HB2:=qh hb2;clear hb2 CC n0 n1 n2
         cases V
         ·skip
          go_wp2;go_ret;exact⟨by rw[HS.out];rfl,by first|exact HB.out.trans (HB2.out.mono (by have:=HR1.out.lt;omega))|(rw[hh];exact HB.out.trans (HB2.out.mono (by have:=HR1.out.lt;omega)))⟩
         ·skip
          go_wp2;go_ret;exact⟨by rw[HS.out];rfl,by first|exact HB.out.trans (HB2.out.mono (by have:=HR1.out.lt;omega))|(rw[hh];exact HB.out.trans (HB2.out.mono (by have:=HR1.out.lt;omega)))⟩
        ·skip
         by_cases hk22:k=22
         ·subst hk22
          have CH:=fun w' (hb:Below W1.heap.size W1 w')=>xc 151 94 xp xh zb qt 2 2 22 s l a cap w' hl (xj s) (fun i hi=>ih l[i] (zl (qu (Nd.kid_lt _ s l i hi) hsz))) (HT1.out.later hb)
          obtain⟨V,hV⟩:∃ V,xk zb 2 2 qt s l=V:=⟨_,rfl⟩;rw[hV]at CH;have CC:=qh CH;have HS:Hid (qt (.mk 22 s l)=V):=qh (by rw[<-hV];rw[qt,qd (by decide),qd (by decide),qd (by decide),qd (by decide),vq zb 2 2 rfl,ja];rfl);clear CH hV;clear ht hb0 T1 R1 hW1 ih hsz;go_enter Tryz.func94,Tryz.ntmps94
          go_upto_region 1 with fail
          rw[HW.out]
          go_wp2_with fail
          refine(CC.out _ (Below.refl _ _)).mono ?_;rintro e w2⟨rfl,hb2⟩;have HB2:=qh hb2;clear hb2 CC n0 n1 n2
          cases V
          ·skip
           go_wp2;go_ret;exact⟨by rw[HS.out];rfl,by first|exact HB.out.trans (HB2.out.mono (by have:=HR1.out.lt;omega))|(rw[hh];exact HB.out.trans (HB2.out.mono (by have:=HR1.out.lt;omega)))⟩
          ·skip
           go_wp2;go_ret;exact⟨by rw[HS.out];rfl,by first|exact HB.out.trans (HB2.out.mono (by have:=HR1.out.lt;omega))|(rw[hh];exact HB.out.trans (HB2.out.mono (by have:=HR1.out.lt;omega)))⟩
         ·skip
          by_cases hk23:k=23
          ·subst hk23
           have CH:=fun w' (hb:Below W1.heap.size W1 w')=>xc 151 94 xp xh zb qt 2 2 23 s l a cap w' hl (xj s) (fun i hi=>ih l[i] (zl (qu (Nd.kid_lt _ s l i hi) hsz))) (HT1.out.later hb)
           obtain⟨V,hV⟩:∃ V,xk zb 2 2 qt s l=V:=⟨_,rfl⟩;rw[hV]at CH;have CC:=qh CH;have HS:Hid (qt (.mk 23 s l)=V):=qh (by rw[<-hV];rw[qt,qd (by decide),qd (by decide),qd (by decide),qd (by decide),vq zb 2 2 rfl,ja];rfl);clear CH hV;clear ht hb0 T1 R1 hW1 ih hsz;go_enter Tryz.func94,Tryz.ntmps94
           go_upto_region 1 with fail
           rw[HW.out]
           go_wp2_with fail
           refine(CC.out _ (Below.refl _ _)).mono ?_;rintro e w2⟨rfl,hb2⟩;have HB2:=qh hb2;clear hb2 CC n0 n1 n2
           cases V
           ·skip
            go_wp2;go_ret;exact⟨by rw[HS.out];rfl,by first|exact HB.out.trans (HB2.out.mono (by have:=HR1.out.lt;omega))|(rw[hh];exact HB.out.trans (HB2.out.mono (by have:=HR1.out.lt;omega)))⟩
           ·skip
            go_wp2;go_ret;exact⟨by rw[HS.out];rfl,by first|exact HB.out.trans (HB2.out.mono (by have:=HR1.out.lt;omega))|(rw[hh];exact HB.out.trans (HB2.out.mono (by have:=HR1.out.lt;omega)))⟩
          ·skip
           by_cases hk24:k=24
           ·subst hk24
            have CH:=fun w' (hb:Below W1.heap.size W1 w')=>xc 151 94 xp xh zb qt 2 2 24 s l a cap w' hl (xj s) (fun i hi=>ih l[i] (zl (qu (Nd.kid_lt _ s l i hi) hsz))) (HT1.out.later hb)
            obtain⟨V,hV⟩:∃ V,xk zb 2 2 qt s l=V:=⟨_,rfl⟩;rw[hV]at CH;have CC:=qh CH;have HS:Hid (qt (.mk 24 s l)=V):=qh (by rw[<-hV];rw[qt,qd (by decide),qd (by decide),qd (by decide),qd (by decide),vq zb 2 2 rfl,ja];rfl);clear CH hV;clear ht hb0 T1 R1 hW1 ih hsz;go_enter Tryz.func94,Tryz.ntmps94
            go_upto_region 1 with fail
            rw[HW.out]
            go_wp2_with fail
            refine(CC.out _ (Below.refl _ _)).mono ?_;rintro e w2⟨rfl,hb2⟩;have HB2:=qh hb2;clear hb2 CC n0 n1 n2
            cases V
            ·skip
             go_wp2;go_ret;exact⟨by rw[HS.out];rfl,by first|exact HB.out.trans (HB2.out.mono (by have:=HR1.out.lt;omega))|(rw[hh];exact HB.out.trans (HB2.out.mono (by have:=HR1.out.lt;omega)))⟩
            ·skip
             go_wp2;go_ret;exact⟨by rw[HS.out];rfl,by first|exact HB.out.trans (HB2.out.mono (by have:=HR1.out.lt;omega))|(rw[hh];exact HB.out.trans (HB2.out.mono (by have:=HR1.out.lt;omega)))⟩
           ·skip
            by_cases hk25:k=25
            ·subst hk25
             have CH:=fun w' (hb:Below W1.heap.size W1 w')=>xc 151 94 xp xh zb qt 2 2 25 s l a cap w' hl (xj s) (fun i hi=>ih l[i] (zl (qu (Nd.kid_lt _ s l i hi) hsz))) (HT1.out.later hb)
             obtain⟨V,hV⟩:∃ V,xk zb 2 2 qt s l=V:=⟨_,rfl⟩;rw[hV]at CH;have CC:=qh CH;have HS:Hid (qt (.mk 25 s l)=V):=qh (by rw[<-hV];rw[qt,qd (by decide),qd (by decide),qd (by decide),qd (by decide),vq zb 2 2 rfl,ja];rfl);clear CH hV;clear ht hb0 T1 R1 hW1 ih hsz;go_enter Tryz.func94,Tryz.ntmps94
             go_upto_region 1 with fail
             rw[HW.out]
             go_wp2_with fail
             refine(CC.out _ (Below.refl _ _)).mono ?_;rintro e w2⟨rfl,hb2⟩;have HB2:=qh hb2;clear hb2 CC n0 n1 n2
             cases V
             ·skip
              go_wp2;go_ret;exact⟨by rw[HS.out];rfl,by first|exact HB.out.trans (HB2.out.mono (by have:=HR1.out.lt;omega))|(rw[hh];exact HB.out.trans (HB2.out.mono (by have:=HR1.out.lt;omega)))⟩
             ·skip
              go_wp2;go_ret;exact⟨by rw[HS.out];rfl,by first|exact HB.out.trans (HB2.out.mono (by have:=HR1.out.lt;omega))|(rw[hh];exact HB.out.trans (HB2.out.mono (by have:=HR1.out.lt;omega)))⟩
            ·skip
             by_cases hk26:k=26
             ·subst hk26
              have CH:=fun w' (hb:Below W1.heap.size W1 w')=>xc 151 94 xp xh zb qt 2 2 26 s l a cap w' hl (xj s) (fun i hi=>ih l[i] (zl (qu (Nd.kid_lt _ s l i hi) hsz))) (HT1.out.later hb)
              obtain⟨V,hV⟩:∃ V,xk zb 2 2 qt s l=V:=⟨_,rfl⟩;rw[hV]at CH;have CC:=qh CH;have HS:Hid (qt (.mk 26 s l)=V):=qh (by rw[<-hV];rw[qt,qd (by decide),qd (by decide),qd (by decide),qd (by decide),vq zb 2 2 rfl,ja];rfl);clear CH hV;clear ht hb0 T1 R1 hW1 ih hsz;go_enter Tryz.func94,Tryz.ntmps94
              go_upto_region 1 with fail
              rw[HW.out]
              go_wp2_with fail
              refine(CC.out _ (Below.refl _ _)).mono ?_;rintro e w2⟨rfl,hb2⟩;have HB2:=qh hb2;clear hb2 CC n0 n1 n2
              cases V
              ·skip
               go_wp2;go_ret;exact⟨by rw[HS.out];rfl,by first|exact HB.out.trans (HB2.out.mono (by have:=HR1.out.lt;omega))|(rw[hh];exact HB.out.trans (HB2.out.mono (by have:=HR1.out.lt;omega)))⟩
              ·skip
               go_wp2;go_ret;exact⟨by rw[HS.out];rfl,by first|exact HB.out.trans (HB2.out.mono (by have:=HR1.out.lt;omega))|(rw[hh];exact HB.out.trans (HB2.out.mono (by have:=HR1.out.lt;omega)))⟩
             ·skip
              by_cases hk27:k=27
              ·subst hk27
               have CH:=fun w' (hb:Below W1.heap.size W1 w')=>xc 151 94 xp xh zb qt 2 2 27 s l a cap w' hl (xj s) (fun i hi=>ih l[i] (zl (qu (Nd.kid_lt _ s l i hi) hsz))) (HT1.out.later hb)
               obtain⟨V,hV⟩:∃ V,xk zb 2 2 qt s l=V:=⟨_,rfl⟩;rw[hV]at CH;have CC:=qh CH;have HS:Hid (qt (.mk 27 s l)=V):=qh (by rw[<-hV];rw[qt,qd (by decide),qd (by decide),qd (by decide),qd (by decide),vq zb 2 2 rfl,ja];rfl);clear CH hV;clear ht hb0 T1 R1 hW1 ih hsz;go_enter Tryz.func94,Tryz.ntmps94
               go_upto_region 1 with fail
               rw[HW.out]
               go_wp2_with fail
               refine(CC.out _ (Below.refl _ _)).mono ?_;rintro e w2⟨rfl,hb2⟩;have HB2:=qh hb2;clear hb2 CC n0 n1 n2
               cases V
               ·skip
                go_wp2;go_ret;exact⟨by rw[HS.out];rfl,by first|exact HB.out.trans (HB2.out.mono (by have:=HR1.out.lt;omega))|(rw[hh];exact HB.out.trans (HB2.out.mono (by have:=HR1.out.lt;omega)))⟩
               ·skip
                go_wp2;go_ret;exact⟨by rw[HS.out];rfl,by first|exact HB.out.trans (HB2.out.mono (by have:=HR1.out.lt;omega))|(rw[hh];exact HB.out.trans (HB2.out.mono (by have:=HR1.out.lt;omega)))⟩
              ·skip
               by_cases hk28:k=28
               ·subst hk28
                have CH:=fun w' (hb:Below W1.heap.size W1 w')=>xc 151 94 xp xh zb qt 2 2 28 s l a cap w' hl (xj s) (fun i hi=>ih l[i] (zl (qu (Nd.kid_lt _ s l i hi) hsz))) (HT1.out.later hb)
                obtain⟨V,hV⟩:∃ V,xk zb 2 2 qt s l=V:=⟨_,rfl⟩;rw[hV]at CH;have CC:=qh CH;have HS:Hid (qt (.mk 28 s l)=V):=qh (by rw[<-hV];rw[qt,qd (by decide),qd (by decide),qd (by decide),qd (by decide),vq zb 2 2 rfl,ja];rfl);clear CH hV;clear ht hb0 T1 R1 hW1 ih hsz;go_enter Tryz.func94,Tryz.ntmps94
                go_upto_region 1 with fail
                rw[HW.out]
                go_wp2_with fail
                refine(CC.out _ (Below.refl _ _)).mono ?_;rintro e w2⟨rfl,hb2⟩;have HB2:=qh hb2;clear hb2 CC n0 n1 n2
                cases V
                ·skip
                 go_wp2;go_ret;exact⟨by rw[HS.out];rfl,by first|exact HB.out.trans (HB2.out.mono (by have:=HR1.out.lt;omega))|(rw[hh];exact HB.out.trans (HB2.out.mono (by have:=HR1.out.lt;omega)))⟩
                ·skip
                 go_wp2;go_ret;exact⟨by rw[HS.out];rfl,by first|exact HB.out.trans (HB2.out.mono (by have:=HR1.out.lt;omega))|(rw[hh];exact HB.out.trans (HB2.out.mono (by have:=HR1.out.lt;omega)))⟩
               ·skip
                have HS:Hid (qt (.mk k s l)=false):=qh (by rw[qt,qd hk15,qd (by rintro(h|h) <;> contradiction),qd (by rintro(h|h) <;> contradiction),qd (by rintro(h|h) <;> contradiction),qfd hk22 hk23 hk24 hk25 hk26 hk27 hk28];rfl);have e15:(k==15)=false:=by rw[qc];exact hk15
                have e18:(k==18)=false:=by rw[qc];exact hk18
                have e19:(k==19)=false:=by rw[qc];exact hk19
                have e20:(k==20)=false:=by rw[qc];exact hk20
                have e21:(k==21)=false:=by rw[qc];exact hk21
                have e29:(k==29)=false:=by rw[qc];exact hk29
                have e30:(k==30)=false:=by rw[qc];exact hk30
                have e22:(k==22)=false:=by rw[qc];exact hk22
                have e23:(k==23)=false:=by rw[qc];exact hk23
                have e24:(k==24)=false:=by rw[qc];exact hk24
                have e25:(k==25)=false:=by rw[qc];exact hk25
                have e26:(k==26)=false:=by rw[qc];exact hk26
                have e27:(k==27)=false:=by rw[qc];exact hk27
                have e28:(k==28)=false:=by rw[qc];exact hk28
                clear ht hb0 T1 R1 hW1 hk15 hk18 hk19 hk20 hk21 hk29 hk30 hk22 hk23 hk24 hk25 hk26 hk27 hk28 ih hsz;go_enter Tryz.func94,Tryz.ntmps94
                go_upto_region 1 with fail
                rw[HW.out];go_wp2;go_ret;exact⟨by rw[HS.out];rfl,by first|exact HB.out|(rw[hh];exact HB.out)⟩
theorem qkc(s:ByteArray)(l:List Nd)(w:World)(a:Option Addr)(cap:Nat)(_hs:s.size<=maxLen)(hl:l.length<=maxLen)(ht:NdR w (.mk 3 s l) (.int .i64 3) (.string s) (.slice a l.length cap)) :
  Calls Tryz.prog 93 #[.agg #[.int .i64 3,.string s,.slice a l.length cap]] w fun e w'=>e = .returned (.bool (itemB (.mk 3 s l)))/\Below w.heap.size w w':=by
 have hb0:=(Below.refl w.heap.size w).alloc (q9 _) (.cells #[.int .i64 3,.string s,.slice a l.length cap] 25);obtain⟨h,hh⟩:∃ h,w.heap.size=h:=⟨_,rfl⟩;obtain⟨W1,hW1⟩:∃ W1,w.alloc (.cells #[.int .i64 3,.string s,.slice a l.length cap] 25)=W1:=⟨_,rfl⟩;have R1:Row3 W1 h (.int .i64 3) (.string s) (.slice a l.length cap):=by rw[<-hW1,<-hh];exact Row3.new _ _ _ _
 have T1:=ht.later hb0;rw[hW1]at hb0 T1;rw[hh]at hb0;have HB:=qh hb0;have HT1:=qh T1;have HR1:=qh R1;have HW:=qh hW1;obtain⟨⟨n0,n1,n2⟩,_⟩:=R1.cells;have hcap:=ht.cap;have HL0:Hid (NdL W1 l (.slice a l.length cap)):=qh ⟨_,_,_,_,HT1.out⟩
 have hItem:itemB (.mk 3 s l)=(zb s && (decide (2<=l.length) && ((l.take (l.length - 1)).all xl && q35 l))):=by
  rw[itemB,qd (by decide),qj rfl,q5m]
 unfold maxLen at hl
 by_cases h2:2<=l.length
 ·rw[decide_eq_true h2,Bool.true_and,q3t (show 0 < l.length by omega)]at hItem
  obtain⟨b,o,k1,s1,l1,a1,c1,rfl,e1,x0,x1,x2,r1⟩:=HT1.out.kid (l.length - 1) (by omega);have CN0:=xj s W1
  have CE0:=fun w' (hb:Below W1.heap.size W1 w')=>q5p 152 q0b xl 0 ⟨#[]⟩ (l.take (l.length - 1)) (some ⟨b,o,none⟩) cap w' (by rw[List.length_take];unfold maxLen;omega) (fun i hi=>yq _ _ (q9 _)) (by
   obtain⟨k9,s9,u0,u1,h9⟩:=(HL0.out.later hb).take (l.length - 1) (by omega) cap (by omega);rw[show(l.take (l.length - 1)).length=l.length - 1 from by rw[List.length_take];omega]
   exact qdy h9)
  rw[show(l.take (l.length - 1)).length=l.length - 1 from by rw[List.length_take];omega]at CE0;have CG0:=fun w' (hb:Below W1.heap.size W1 w')=>q08 _ (l[l.length - 1]'(by omega)) (q9 _) w' (.int .i64 k1) (.string s1) (.slice a1 l1.length c1) (by rw[e1];exact r1.later hb)
  obtain⟨VN,hVN⟩:∃ V,zb s=V:=⟨_,rfl⟩;obtain⟨VE,hVE⟩:∃ V,(l.take (l.length - 1)).all xl=V:=⟨_,rfl⟩;obtain⟨VG,hVG⟩:∃ V,x5 (l[l.length - 1]'(by omega))=V:=⟨_,rfl⟩;rw[hVN,hVE,hVG]at hItem;rw[hVN]at CN0;rw[hVE]at CE0;rw[hVG]at CG0;obtain⟨R,hR⟩:∃ R,itemB (.mk 3 s l)=R:=⟨_,rfl⟩;rw[hR]at hItem ⊢;obtain⟨M,hM⟩:∃ M,l.length - 1=M:=⟨_,rfl⟩;obtain⟨L,hL⟩:∃ L,l.length=L:=⟨_,rfl⟩;have hML:((L:Nat):Int) - 1=(M:Int):=by omega
  rw[hM]at CE0 x0 x1 x2;rw[hL]at n2 hcap hl h2;have CN:=qh CN0;have CE:=qh CE0;have CG:=qh CG0;have HRp:=qh hItem;have HR2:Hid (Row3 W1 h (.int .i64 3) (.string s) (.slice (some ⟨b,o,none⟩) L cap)):=by rw[<-hL];exact HR1
  have HW2:Hid (w.alloc (.cells #[.int .i64 3,.string s,.slice (some ⟨b,o,none⟩) L cap] 25)=W1):=by rw[<-hL];exact HW
  have L2:=qh (qi x0);have HX:=qh (show W1.cell? ⟨b,o+M*3,none⟩=some (.int .i64 k1)/\W1.cell? ⟨b,o+M*3+1,none⟩=some (.string s1)/\W1.cell? ⟨b,o+M*3+2,none⟩=some (.slice a1 l1.length c1) from⟨x0,x1,x2⟩);have hM1:0 < (M:Int):=by omega
  have hM0:(0:Int)<=(M:Int):=by omega
  have hMc:(M:Int)<=(cap:Int):=by omega
  have hMl:(M:Int) < (L:Int):=by omega
  have hMn:M<=cap:=by omega
  have hMm:M < L:=by omega
  have h63:(L:Int)<=9223372036854775807:=by omega
  rw[hL];have HLL:=qh hL;clear ht hb0 T1 R1 hW1 hItem hR hVN hVE hVG CN0 CE0 CG0 e1 r1 x0 x1 x2 HT1 HL0 HR1 HW hL hM;go_enter Tryz.func93,Tryz.ntmps93
  go_upto_region 1 with fail
  rw[HW2.out]
  go_wp2_with fail
  refine CN.out.mono ?_;rintro e w2⟨rfl,hb2⟩;have R2:=qh (HR2.out.below hb2 HR2.out.lt);have HB2:=qh hb2;clear hb2 n0 n1 n2 CN;obtain⟨⟨n0,n1,n2⟩,_⟩:=R2.out.cells
  cases VN with
  |false =>
   go_wp2;go_ret;exact⟨by rw[HRp.out];rfl,by first|exact HB.out.trans (HB2.out.mono (by have:=HR2.out.lt;omega))|(rw[hh];exact HB.out.trans (HB2.out.mono (by have:=HR2.out.lt;omega)))⟩
  |true =>
   go_wp2_with fail
   refine(CE.out _ HB2.out).mono ?_;rintro e w3⟨rfl,hb3⟩;have HB3:=qh (HB2.out.trans (hb3.mono HB2.out.size));clear hb3 n0 n1 n2 CE;obtain⟨⟨n0,n1,n2⟩,_⟩:=(HR2.out.below HB3.out HR2.out.lt).cells;have x0:=(HB3.out.cell (p:=⟨b,o+M*3,none⟩) L2.out).trans HX.out.1;have x1:=(HB3.out.cell (p:=⟨b,o+M*3+1,none⟩) L2.out).trans HX.out.2.1;have x2:=(HB3.out.cell (p:=⟨b,o+M*3+2,none⟩) L2.out).trans HX.out.2.2
   cases VE with
   |false =>
    go_wp2;go_ret;exact⟨by rw[HRp.out];rfl,by first|exact HB.out.trans (HB3.out.mono (by have:=HR2.out.lt;omega))|(rw[hh];exact HB.out.trans (HB3.out.mono (by have:=HR2.out.lt;omega)))⟩
   |true =>
    go_wp2_with fail
    refine(CG.out _ HB3.out).mono ?_;rintro e w4⟨rfl,hb4⟩;have HB4:=qh (HB3.out.trans (hb4.mono HB3.out.size));clear hb4 n0 n1 n2 x0 x1 x2 CG
    cases VG
    ·skip
     go_wp2;go_ret;exact⟨by rw[HRp.out];rfl,by first|exact HB.out.trans (HB4.out.mono (by have:=HR2.out.lt;omega))|(rw[hh];exact HB.out.trans (HB4.out.mono (by have:=HR2.out.lt;omega)))⟩
    ·skip
     go_wp2;go_ret;exact⟨by rw[HRp.out];rfl,by first|exact HB.out.trans (HB4.out.mono (by have:=HR2.out.lt;omega))|(rw[hh];exact HB.out.trans (HB4.out.mono (by have:=HR2.out.lt;omega)))⟩
 ·have hRf:itemB (.mk 3 s l)=false:=by rw[hItem,decide_eq_false h2];simp
  have e1:¬ (0:Int) < (l.length:Int) - 1:=by omega
  have hl0:(l.length:Int)<=9223372036854775807:=by omega
  rw[hRf];clear ht hb0 T1 R1 hW1 hItem hRf h2;go_enter Tryz.func93,Tryz.ntmps93
  go_upto_region 1 with fail
  rw[HW.out];go_wp2;go_ret;exact⟨rfl,by first|exact HB.out|(rw[hh];exact HB.out)⟩
theorem q4i:∀ t:Nd,q1k 93 itemB t:=by
 intro t w v0 v1 v2 ht;obtain⟨k,s,l,a,cap,rfl,rfl,rfl,rfl,hs,hl⟩:=ht.form
 by_cases hk3:k=3
 ·subst hk3;exact qkc s l w a cap hs hl ht
 have e3:(k==3)=false:=by rw[qc];exact hk3
 have hb0:=(Below.refl w.heap.size w).alloc (q9 _) (.cells #[.int .i64 k,.string s,.slice a l.length cap] 25);obtain⟨h,hh⟩:∃ h,w.heap.size=h:=⟨_,rfl⟩;obtain⟨W1,hW1⟩:∃ W1,w.alloc (.cells #[.int .i64 k,.string s,.slice a l.length cap] 25)=W1:=⟨_,rfl⟩;have R1:Row3 W1 h (.int .i64 k) (.string s) (.slice a l.length cap):=by rw[<-hW1,<-hh];exact Row3.new _ _ _ _
 have T1:=ht.later hb0;rw[hW1]at hb0 T1;rw[hh]at hb0;have HB:=qh hb0;have HT1:=qh T1;have HR1:=qh R1;have HW:=qh hW1;obtain⟨⟨n0,n1,n2⟩,_⟩:=R1.cells
 by_cases hk2:k=2
 ·subst hk2
  clear e3 hk3;have CH:=fun w' (hb:Below W1.heap.size W1 w')=>xc 151 152 xp q0b zb xl 1 l.length 2 s l a cap w' hl (xj s) (fun i hi=>yq _ l[i] (q9 _)) (HT1.out.later hb)
  obtain⟨V,hV⟩:∃ V,xk zb 1 l.length xl s l=V:=⟨_,rfl⟩;rw[hV]at CH;have CC:=qh CH;have HS:Hid (itemB (.mk 2 s l)=V):=qh (by rw[<-hV];rw[itemB,qj (by decide),q5m,qbv zb 1 1 rfl]);clear CH hV;clear ht hb0 T1 R1 hW1;go_enter Tryz.func93,Tryz.ntmps93
  go_upto_region 1 with fail
  rw[HW.out]
  go_wp2_with fail
  refine(CC.out _ (Below.refl _ _)).mono ?_;rintro e w2⟨rfl,hb2⟩;have HB2:=qh hb2;clear hb2 CC n0 n1 n2
  cases V
  ·skip
   go_wp2;go_ret;exact⟨by rw[HS.out];rfl,by first|exact HB.out.trans (HB2.out.mono (by have:=HR1.out.lt;omega))|(rw[hh];exact HB.out.trans (HB2.out.mono (by have:=HR1.out.lt;omega)))⟩
  ·skip
   go_wp2;go_ret;exact⟨by rw[HS.out];rfl,by first|exact HB.out.trans (HB2.out.mono (by have:=HR1.out.lt;omega))|(rw[hh];exact HB.out.trans (HB2.out.mono (by have:=HR1.out.lt;omega)))⟩
 ·skip
  by_cases hk14:k=14
  ·subst hk14
   clear e3 hk3;have CH:=fun w' (hb:Below W1.heap.size W1 w')=>xc 151 152 xp q0b zb xl 1 l.length 14 s l a cap w' hl (xj s) (fun i hi=>yq _ l[i] (q9 _)) (HT1.out.later hb)
   obtain⟨V,hV⟩:∃ V,xk zb 1 l.length xl s l=V:=⟨_,rfl⟩;rw[hV]at CH;have CC:=qh CH;have HS:Hid (itemB (.mk 14 s l)=V):=qh (by rw[<-hV];rw[itemB,qj (by decide),q5m,qbv zb 1 1 rfl]);clear CH hV;clear ht hb0 T1 R1 hW1;go_enter Tryz.func93,Tryz.ntmps93
   go_upto_region 1 with fail
   rw[HW.out]
   go_wp2_with fail
   refine(CC.out _ (Below.refl _ _)).mono ?_;rintro e w2⟨rfl,hb2⟩;have HB2:=qh hb2;clear hb2 CC n0 n1 n2
   cases V
   ·skip
    go_wp2;go_ret;exact⟨by rw[HS.out];rfl,by first|exact HB.out.trans (HB2.out.mono (by have:=HR1.out.lt;omega))|(rw[hh];exact HB.out.trans (HB2.out.mono (by have:=HR1.out.lt;omega)))⟩
   ·skip
    go_wp2;go_ret;exact⟨by rw[HS.out];rfl,by first|exact HB.out.trans (HB2.out.mono (by have:=HR1.out.lt;omega))|(rw[hh];exact HB.out.trans (HB2.out.mono (by have:=HR1.out.lt;omega)))⟩
  ·skip
   by_cases hk4:k=4
   ·subst hk4
    clear e3 hk3;have CH:=fun w' (hb:Below W1.heap.size W1 w')=>xc 117 96 jh q18 zf x5 0 8 4 s l a cap w' hl (jm s hs) (fun i hi=>q08 _ l[i] (q9 _)) (HT1.out.later hb)
    obtain⟨V,hV⟩:∃ V,xk zf 0 8 x5 s l=V:=⟨_,rfl⟩;rw[hV]at CH;have CC:=qh CH;have HS:Hid (itemB (.mk 4 s l)=V):=qh (by rw[<-hV];rw[itemB,qd (by decide),qd (by decide),qj (by decide),q3s,q38]);clear CH hV;clear ht hb0 T1 R1 hW1;go_enter Tryz.func93,Tryz.ntmps93
    go_upto_region 1 with fail
    rw[HW.out]
    go_wp2_with fail
    refine(CC.out _ (Below.refl _ _)).mono ?_;rintro e w2⟨rfl,hb2⟩;have HB2:=qh hb2;clear hb2 CC n0 n1 n2
    cases V
    ·skip
     go_wp2;go_ret;exact⟨by rw[HS.out];rfl,by first|exact HB.out.trans (HB2.out.mono (by have:=HR1.out.lt;omega))|(rw[hh];exact HB.out.trans (HB2.out.mono (by have:=HR1.out.lt;omega)))⟩
    ·skip
     go_wp2;go_ret;exact⟨by rw[HS.out];rfl,by first|exact HB.out.trans (HB2.out.mono (by have:=HR1.out.lt;omega))|(rw[hh];exact HB.out.trans (HB2.out.mono (by have:=HR1.out.lt;omega)))⟩
   ·skip
    by_cases hk5:k=5
    ·subst hk5
     clear e3 hk3;have CH:=fun w' (hb:Below W1.heap.size W1 w')=>xc 117 96 jh q18 zf x5 0 8 5 s l a cap w' hl (jm s hs) (fun i hi=>q08 _ l[i] (q9 _)) (HT1.out.later hb)
     obtain⟨V,hV⟩:∃ V,xk zf 0 8 x5 s l=V:=⟨_,rfl⟩;rw[hV]at CH;have CC:=qh CH;have HS:Hid (itemB (.mk 5 s l)=V):=qh (by rw[<-hV];rw[itemB,qd (by decide),qd (by decide),qj (by decide),q3s,q38]);clear CH hV;clear ht hb0 T1 R1 hW1;go_enter Tryz.func93,Tryz.ntmps93
     go_upto_region 1 with fail
     rw[HW.out]
     go_wp2_with fail
     refine(CC.out _ (Below.refl _ _)).mono ?_;rintro e w2⟨rfl,hb2⟩;have HB2:=qh hb2;clear hb2 CC n0 n1 n2
     cases V
     ·skip
      go_wp2;go_ret;exact⟨by rw[HS.out];rfl,by first|exact HB.out.trans (HB2.out.mono (by have:=HR1.out.lt;omega))|(rw[hh];exact HB.out.trans (HB2.out.mono (by have:=HR1.out.lt;omega)))⟩
     ·skip
      go_wp2;go_ret;exact⟨by rw[HS.out];rfl,by first|exact HB.out.trans (HB2.out.mono (by have:=HR1.out.lt;omega))|(rw[hh];exact HB.out.trans (HB2.out.mono (by have:=HR1.out.lt;omega)))⟩
    ·skip
     by_cases hk6:k=6
     ·subst hk6
      clear e3 hk3;have CH:=fun w' (hb:Below W1.heap.size W1 w')=>xc 117 96 jh q18 zf x5 0 8 6 s l a cap w' hl (jm s hs) (fun i hi=>q08 _ l[i] (q9 _)) (HT1.out.later hb)
      obtain⟨V,hV⟩:∃ V,xk zf 0 8 x5 s l=V:=⟨_,rfl⟩;rw[hV]at CH;have CC:=qh CH;have HS:Hid (itemB (.mk 6 s l)=V):=qh (by rw[<-hV];rw[itemB,qd (by decide),qd (by decide),qj (by decide),q3s,q38]);clear CH hV;clear ht hb0 T1 R1 hW1;go_enter Tryz.func93,Tryz.ntmps93
      go_upto_region 1 with fail
      rw[HW.out]
      go_wp2_with fail
      refine(CC.out _ (Below.refl _ _)).mono ?_;rintro e w2⟨rfl,hb2⟩;have HB2:=qh hb2;clear hb2 CC n0 n1 n2
      cases V
      ·skip
       go_wp2;go_ret;exact⟨by rw[HS.out];rfl,by first|exact HB.out.trans (HB2.out.mono (by have:=HR1.out.lt;omega))|(rw[hh];exact HB.out.trans (HB2.out.mono (by have:=HR1.out.lt;omega)))⟩
      ·skip
       go_wp2;go_ret;exact⟨by rw[HS.out];rfl,by first|exact HB.out.trans (HB2.out.mono (by have:=HR1.out.lt;omega))|(rw[hh];exact HB.out.trans (HB2.out.mono (by have:=HR1.out.lt;omega)))⟩
     ·skip
      by_cases hk7:k=7
      ·subst hk7
       clear e3 hk3;have CH:=fun w' (hb:Below W1.heap.size W1 w')=>xc 117 154 jh qgb zf yi 0 8 7 s l a cap w' hl (jm s hs) (fun i hi=>qfy l[i]) (HT1.out.later hb)
       obtain⟨V,hV⟩:∃ V,xk zf 0 8 yi s l=V:=⟨_,rfl⟩;rw[hV]at CH;have CC:=qh CH;have HS:Hid (itemB (.mk 7 s l)=V):=qh (by rw[<-hV];rw[itemB,qd (by decide),qd (by decide),qd (by decide),qj rfl,qi3,q38]);clear CH hV;clear ht hb0 T1 R1 hW1;go_enter Tryz.func93,Tryz.ntmps93
       go_upto_region 1 with fail
       rw[HW.out]
       go_wp2_with fail
       refine(CC.out _ (Below.refl _ _)).mono ?_;rintro e w2⟨rfl,hb2⟩;have HB2:=qh hb2;clear hb2 CC n0 n1 n2
       cases V
       ·skip
        go_wp2;go_ret;exact⟨by rw[HS.out];rfl,by first|exact HB.out.trans (HB2.out.mono (by have:=HR1.out.lt;omega))|(rw[hh];exact HB.out.trans (HB2.out.mono (by have:=HR1.out.lt;omega)))⟩
       ·skip
        go_wp2;go_ret;exact⟨by rw[HS.out];rfl,by first|exact HB.out.trans (HB2.out.mono (by have:=HR1.out.lt;omega))|(rw[hh];exact HB.out.trans (HB2.out.mono (by have:=HR1.out.lt;omega)))⟩
      ·skip
       by_cases hk8:k=8
       ·subst hk8
        clear e3 hk3;have CH:=fun w' (hb:Below W1.heap.size W1 w')=>xc 117 94 jh xh zf qt 1 1 8 s l a cap w' hl (jm s hs) (fun i hi=>q17 _ l[i] (q9 _)) (HT1.out.later hb)
        obtain⟨V,hV⟩:∃ V,xk zf 1 1 qt s l=V:=⟨_,rfl⟩;rw[hV]at CH;have CC:=qh CH;have HS:Hid (itemB (.mk 8 s l)=V):=qh (by rw[<-hV];rw[itemB,qd (by decide),qd (by decide),qd (by decide),qd (by decide),qj (by decide),ja,vq zf 1 1 rfl]);clear CH hV;clear ht hb0 T1 R1 hW1;go_enter Tryz.func93,Tryz.ntmps93
        go_upto_region 1 with fail
        rw[HW.out]
        go_wp2_with fail
        refine(CC.out _ (Below.refl _ _)).mono ?_;rintro e w2⟨rfl,hb2⟩;have HB2:=qh hb2;clear hb2 CC n0 n1 n2
        cases V
        ·skip
         go_wp2;go_ret;exact⟨by rw[HS.out];rfl,by first|exact HB.out.trans (HB2.out.mono (by have:=HR1.out.lt;omega))|(rw[hh];exact HB.out.trans (HB2.out.mono (by have:=HR1.out.lt;omega)))⟩
        ·skip
         go_wp2;go_ret;exact⟨by rw[HS.out];rfl,by first|exact HB.out.trans (HB2.out.mono (by have:=HR1.out.lt;omega))|(rw[hh];exact HB.out.trans (HB2.out.mono (by have:=HR1.out.lt;omega)))⟩
       ·skip
        by_cases hk9:k=9
        ·subst hk9
         clear e3 hk3;have CH:=fun w' (hb:Below W1.heap.size W1 w')=>xc 117 94 jh xh zf qt 1 1 9 s l a cap w' hl (jm s hs) (fun i hi=>q17 _ l[i] (q9 _)) (HT1.out.later hb)
         obtain⟨V,hV⟩:∃ V,xk zf 1 1 qt s l=V:=⟨_,rfl⟩;rw[hV]at CH;have CC:=qh CH;have HS:Hid (itemB (.mk 9 s l)=V):=qh (by rw[<-hV];rw[itemB,qd (by decide),qd (by decide),qd (by decide),qd (by decide),qj (by decide),ja,vq zf 1 1 rfl]);clear CH hV;clear ht hb0 T1 R1 hW1;go_enter Tryz.func93,Tryz.ntmps93
         go_upto_region 1 with fail
         rw[HW.out]
         go_wp2_with fail
         refine(CC.out _ (Below.refl _ _)).mono ?_;rintro e w2⟨rfl,hb2⟩;have HB2:=qh hb2;clear hb2 CC n0 n1 n2
         cases V
         ·skip
          go_wp2;go_ret;exact⟨by rw[HS.out];rfl,by first|exact HB.out.trans (HB2.out.mono (by have:=HR1.out.lt;omega))|(rw[hh];exact HB.out.trans (HB2.out.mono (by have:=HR1.out.lt;omega)))⟩
         ·skip
          go_wp2;go_ret;exact⟨by rw[HS.out];rfl,by first|exact HB.out.trans (HB2.out.mono (by have:=HR1.out.lt;omega))|(rw[hh];exact HB.out.trans (HB2.out.mono (by have:=HR1.out.lt;omega)))⟩
        ·skip
         by_cases hk10:k=10
         ·subst hk10
          clear e3 hk3;have CH:=fun w' (hb:Below W1.heap.size W1 w')=>xc 117 94 jh xh zf qt 1 1 10 s l a cap w' hl (jm s hs) (fun i hi=>q17 _ l[i] (q9 _)) (HT1.out.later hb)
          obtain⟨V,hV⟩:∃ V,xk zf 1 1 qt s l=V:=⟨_,rfl⟩;rw[hV]at CH;have CC:=qh CH;have HS:Hid (itemB (.mk 10 s l)=V):=qh (by rw[<-hV];rw[itemB,qd (by decide),qd (by decide),qd (by decide),qd (by decide),qj (by decide),ja,vq zf 1 1 rfl]);clear CH hV;clear ht hb0 T1 R1 hW1;go_enter Tryz.func93,Tryz.ntmps93
          go_upto_region 1 with fail
          rw[HW.out]
          go_wp2_with fail
          refine(CC.out _ (Below.refl _ _)).mono ?_;rintro e w2⟨rfl,hb2⟩;have HB2:=qh hb2;clear hb2 CC n0 n1 n2
          cases V
          ·skip
           go_wp2;go_ret;exact⟨by rw[HS.out];rfl,by first|exact HB.out.trans (HB2.out.mono (by have:=HR1.out.lt;omega))|(rw[hh];exact HB.out.trans (HB2.out.mono (by have:=HR1.out.lt;omega)))⟩
          ·skip
           go_wp2;go_ret;exact⟨by rw[HS.out];rfl,by first|exact HB.out.trans (HB2.out.mono (by have:=HR1.out.lt;omega))|(rw[hh];exact HB.out.trans (HB2.out.mono (by have:=HR1.out.lt;omega)))⟩
         ·skip
          by_cases hk11:k=11
          ·subst hk11
           clear e3 hk3;have CH:=fun w' (hb:Below W1.heap.size W1 w')=>xc 117 94 jh xh zf qt 1 1 11 s l a cap w' hl (jm s hs) (fun i hi=>q17 _ l[i] (q9 _)) (HT1.out.later hb)
           obtain⟨V,hV⟩:∃ V,xk zf 1 1 qt s l=V:=⟨_,rfl⟩;rw[hV]at CH;have CC:=qh CH;have HS:Hid (itemB (.mk 11 s l)=V):=qh (by rw[<-hV];rw[itemB,qd (by decide),qd (by decide),qd (by decide),qd (by decide),qj (by decide),ja,vq zf 1 1 rfl]);clear CH hV;clear ht hb0 T1 R1 hW1;go_enter Tryz.func93,Tryz.ntmps93
           go_upto_region 1 with fail
           rw[HW.out]
           go_wp2_with fail
           refine(CC.out _ (Below.refl _ _)).mono ?_;rintro e w2⟨rfl,hb2⟩;have HB2:=qh hb2;clear hb2 CC n0 n1 n2
           cases V
           ·skip
            go_wp2;go_ret;exact⟨by rw[HS.out];rfl,by first|exact HB.out.trans (HB2.out.mono (by have:=HR1.out.lt;omega))|(rw[hh];exact HB.out.trans (HB2.out.mono (by have:=HR1.out.lt;omega)))⟩
           ·skip
            go_wp2;go_ret;exact⟨by rw[HS.out];rfl,by first|exact HB.out.trans (HB2.out.mono (by have:=HR1.out.lt;omega))|(rw[hh];exact HB.out.trans (HB2.out.mono (by have:=HR1.out.lt;omega)))⟩
          ·skip
           by_cases hk12:k=12
           ·subst hk12
            clear e3 hk3;have CH:=fun w' (hb:Below W1.heap.size W1 w')=>xc 117 152 jh q0b zf xl 0 0 12 s l a cap w' hl (jm s hs) (fun i hi=>yq _ l[i] (q9 _)) (HT1.out.later hb)
            obtain⟨V,hV⟩:∃ V,xk zf 0 0 xl s l=V:=⟨_,rfl⟩;rw[hV]at CH;have CC:=qh CH;have HS:Hid (itemB (.mk 12 s l)=V):=qh (by rw[<-hV];rw[itemB,qd (by decide),qd (by decide),qd (by decide),qd (by decide),qd (by decide),qj (by decide),q2q,Bool.and_comm]);clear CH hV;clear ht hb0 T1 R1 hW1;go_enter Tryz.func93,Tryz.ntmps93
            go_upto_region 1 with fail
            rw[HW.out]
            go_wp2_with fail
            refine(CC.out _ (Below.refl _ _)).mono ?_;rintro e w2⟨rfl,hb2⟩;have HB2:=qh hb2;clear hb2 CC n0 n1 n2
            cases V
            ·skip
             go_wp2;go_ret;exact⟨by rw[HS.out];rfl,by first|exact HB.out.trans (HB2.out.mono (by have:=HR1.out.lt;omega))|(rw[hh];exact HB.out.trans (HB2.out.mono (by have:=HR1.out.lt;omega)))⟩
            ·skip
             go_wp2;go_ret;exact⟨by rw[HS.out];rfl,by first|exact HB.out.trans (HB2.out.mono (by have:=HR1.out.lt;omega))|(rw[hh];exact HB.out.trans (HB2.out.mono (by have:=HR1.out.lt;omega)))⟩
           ·skip
            by_cases hk13:k=13
            ·subst hk13
             clear e3 hk3;have CH:=fun w' (hb:Below W1.heap.size W1 w')=>xc 117 152 jh q0b zf xl 0 0 13 s l a cap w' hl (jm s hs) (fun i hi=>yq _ l[i] (q9 _)) (HT1.out.later hb)
             obtain⟨V,hV⟩:∃ V,xk zf 0 0 xl s l=V:=⟨_,rfl⟩;rw[hV]at CH;have CC:=qh CH;have HS:Hid (itemB (.mk 13 s l)=V):=qh (by rw[<-hV];rw[itemB,qd (by decide),qd (by decide),qd (by decide),qd (by decide),qd (by decide),qj (by decide),q2q,Bool.and_comm]);clear CH hV;clear ht hb0 T1 R1 hW1;go_enter Tryz.func93,Tryz.ntmps93
             go_upto_region 1 with fail
             rw[HW.out]
             go_wp2_with fail
             refine(CC.out _ (Below.refl _ _)).mono ?_;rintro e w2⟨rfl,hb2⟩;have HB2:=qh hb2;clear hb2 CC n0 n1 n2
             cases V
             ·skip
              go_wp2;go_ret;exact⟨by rw[HS.out];rfl,by first|exact HB.out.trans (HB2.out.mono (by have:=HR1.out.lt;omega))|(rw[hh];exact HB.out.trans (HB2.out.mono (by have:=HR1.out.lt;omega)))⟩
             ·skip
              go_wp2;go_ret;exact⟨by rw[HS.out];rfl,by first|exact HB.out.trans (HB2.out.mono (by have:=HR1.out.lt;omega))|(rw[hh];exact HB.out.trans (HB2.out.mono (by have:=HR1.out.lt;omega)))⟩
            ·skip
             have HS:Hid (itemB (.mk k s l)=false):=qh (by rw[itemB,qd (by rintro(h|h) <;> contradiction),qd hk3,qd (by rintro(h|h|h) <;> contradiction),qd hk7,qd (by rintro(h|h|h|h) <;> contradiction),qd (by rintro(h|h) <;> contradiction),Bool.and_false]);have e2:(k==2)=false:=by rw[qc];exact hk2
             have e14:(k==14)=false:=by rw[qc];exact hk14
             have e4:(k==4)=false:=by rw[qc];exact hk4
             have e5:(k==5)=false:=by rw[qc];exact hk5
             have e6:(k==6)=false:=by rw[qc];exact hk6
             have e7:(k==7)=false:=by rw[qc];exact hk7
             have e8:(k==8)=false:=by rw[qc];exact hk8
             have e9:(k==9)=false:=by rw[qc];exact hk9
             have e10:(k==10)=false:=by rw[qc];exact hk10
             have e11:(k==11)=false:=by rw[qc];exact hk11
             have e12:(k==12)=false:=by rw[qc];exact hk12
             have e13:(k==13)=false:=by rw[qc];exact hk13
             clear ht hb0 T1 R1 hW1 hk2 hk14 hk4 hk5 hk6 hk7 hk8 hk9 hk10 hk11 hk12 hk13;go_enter Tryz.func93,Tryz.ntmps93
             go_upto_region 1 with fail
             rw[HW.out];go_wp2;go_ret;exact⟨by rw[HS.out];rfl,by first|exact HB.out|(rw[hh];exact HB.out)⟩
theorem qfw(t:Nd):q1k 92 kj t:=by
 intro w v0 v1 v2 ht;obtain⟨k,s,l,a,cap,rfl,rfl,rfl,rfl,hs,hl⟩:=ht.form;have hb0:=(Below.refl w.heap.size w).alloc (q9 _) (.cells #[.int .i64 k,.string s,.slice a l.length cap] 25);obtain⟨h,hh⟩:∃ h,w.heap.size=h:=⟨_,rfl⟩;obtain⟨W1,hW1⟩:∃ W1,w.alloc (.cells #[.int .i64 k,.string s,.slice a l.length cap] 25)=W1:=⟨_,rfl⟩;have R1:Row3 W1 h (.int .i64 k) (.string s) (.slice a l.length cap):=by rw[<-hW1,<-hh];exact Row3.new _ _ _ _
 have T1:=ht.later hb0;rw[hW1]at hb0 T1;rw[hh]at hb0;have HB:=qh hb0;have HT1:=qh T1;have HR1:=qh R1;have HW:=qh hW1;obtain⟨⟨n0,n1,n2⟩,_⟩:=R1.cells;have CH:=fun w' (hb:Below W1.heap.size W1 w')=>xc 151 93 xp qgc zb itemB 0 l.length k s l a cap w' hl (xj s) (fun i hi=>q4i l[i]) (HT1.out.later hb)
 obtain⟨V,hV⟩:∃ V,xk zb 0 l.length itemB s l=V:=⟨_,rfl⟩;rw[hV]at CH;have CC:=qh CH;have hv2:(zb s && q1n l)=V:=by rw[<-hV,qbv zb 0 0 rfl,qi7,decide_eq_true (qv _),Bool.true_and]
 have HS0:=qh hv2;clear CH hV hv2 ht hb0 T1 R1 hW1
 by_cases hk:k=1
 ·subst hk
  have HS:Hid (kj (.mk 1 s l)=V):=qh (by rw[kj,decide_eq_true rfl,Bool.true_and];exact HS0.out);clear HS0;go_enter Tryz.func92,Tryz.ntmps92
  go_upto_region 1 with fail
  rw[HW.out]
  go_wp2_with fail
  refine(CC.out _ (Below.refl _ _)).mono ?_;rintro e w2⟨rfl,hb2⟩;have HB2:=qh hb2;clear hb2 CC n0 n1 n2
  cases V
  ·skip
   go_wp2;go_ret;exact⟨by rw[HS.out];rfl,by first|exact HB.out.trans (HB2.out.mono (by have:=HR1.out.lt;omega))|(rw[hh];exact HB.out.trans (HB2.out.mono (by have:=HR1.out.lt;omega)))⟩
  ·skip
   go_wp2;go_ret;exact⟨by rw[HS.out];rfl,by first|exact HB.out.trans (HB2.out.mono (by have:=HR1.out.lt;omega))|(rw[hh];exact HB.out.trans (HB2.out.mono (by have:=HR1.out.lt;omega)))⟩
 ·have e1:(k==1)=false:=by rw[qc];exact hk
  have HS:Hid (kj (.mk k s l)=false):=qh (by rw[kj,decide_eq_false hk];rfl);clear hk HS0;go_enter Tryz.func92,Tryz.ntmps92
  go_upto_region 1 with fail
  rw[HW.out];go_wp2;go_ret;exact⟨by rw[HS.out];rfl,by first|exact HB.out|(rw[hh];exact HB.out)⟩
theorem vk(t:Nd)(w:World)(v0 v1 v2:Value)(ht:NdR w t v0 v1 v2) :
  Calls Tryz.prog 45 #[.agg #[v0,v1,v2]] w fun e w'=>e = .returned (.int .i64 (zx t))/\Below w.heap.size w w':=by
 obtain⟨k,s,l,a,cap,rfl,rfl,rfl,rfl,hs,hl⟩:=ht.form;have hb0:=(Below.refl w.heap.size w).alloc (q9 _) (.cells #[.int .i64 k,.string s,.slice a l.length cap] 25);obtain⟨h,hh⟩:∃ h,w.heap.size=h:=⟨_,rfl⟩;obtain⟨W1,hW1⟩:∃ W1,w.alloc (.cells #[.int .i64 k,.string s,.slice a l.length cap] 25)=W1:=⟨_,rfl⟩;have R1:Row3 W1 h (.int .i64 k) (.string s) (.slice a l.length cap):=by rw[<-hW1,<-hh];exact Row3.new _ _ _ _
 have T1:=ht.later hb0;rw[hW1]at hb0 T1;rw[hh]at hb0;have HB:=qh hb0;have HT1:=qh T1;have HR1:=qh R1;have HW:=qh hW1;obtain⟨⟨n0,n1,n2⟩,_⟩:=R1.cells;have CM:=qh (qcw _ W1 _ _ _ HT1.out);have C1:=qh (fun w' (hb:Below W1.heap.size W1 w')=>qfw (.mk k s l) w' _ _ _ (HT1.out.later hb));have C2:=qh (fun w' (hb:Below W1.heap.size W1 w')=>q4i (.mk k s l) w' _ _ _ (HT1.out.later hb));have C3:=qh (fun w' (hb:Below W1.heap.size W1 w')=>q17 _ (.mk k s l) (q9 _) w' _ _ _ (HT1.out.later hb));have C4:=qh (fun w' (hb:Below W1.heap.size W1 w')=>q8a _ (.mk k s l) (q9 _) w' _ _ _ (HT1.out.later hb));have C5:=qh (fun w' (hb:Below W1.heap.size W1 w')=>q08 _ (.mk k s l) (q9 _) w' _ _ _ (HT1.out.later hb));obtain⟨R,hR⟩:∃ R,zx (.mk k s l)=R:=⟨_,rfl⟩;rw[hR];have HR:Hid ((if 4000 < (Nd.mk k s l).sz then 2 else if 100 < (Nd.mk k s l).dp then 5 else if x5 (.mk k s l)||(zv (.mk k s l)||(qt (.mk k s l)||(itemB (.mk k s l)||kj (.mk k s l)))) then 0 else 21)=R):=qh hR;obtain⟨S,hS⟩:∃ S,(Nd.mk k s l).sz=S:=⟨_,rfl⟩;obtain⟨D,hD⟩:∃ D,(Nd.mk k s l).dp=D:=⟨_,rfl⟩;obtain⟨B1,h1⟩:∃ B,kj (.mk k s l)=B:=⟨_,rfl⟩;obtain⟨B2,h2⟩:∃ B,itemB (.mk k s l)=B:=⟨_,rfl⟩;obtain⟨B3,h3⟩:∃ B,qt (.mk k s l)=B:=⟨_,rfl⟩;obtain⟨B4,h4⟩:∃ B,zv (.mk k s l)=B:=⟨_,rfl⟩;obtain⟨B5,h5⟩:∃ B,x5 (.mk k s l)=B:=⟨_,rfl⟩;rw[hS,hD,h1,h2,h3,h4,h5]at HR;rw[hS,hD]at CM;rw[h1]at C1;rw[h2]at C2;rw[h3]at C3;rw[h4]at C4;rw[h5]at C5;clear hR hS hD h1 h2 h3 h4 h5 ht hb0 T1 R1 hW1
 by_cases hS:4000 < S
 ·have e0:(min S 4001:Nat)=4001:=by omega
  rw[e0]at CM;have HRv:Hid (R=2):=qh (by rw[<-HR.out,qj hS]);clear e0 hS C1 C2 C3 C4 C5 HR;go_enter Tryz.func45,Tryz.ntmps45
  go_upto_region 1 with fail
  rw[HW.out]
  go_wp2_with fail
  refine CM.out.mono ?_;rintro e w2⟨lv,rfl,_,hb2⟩;have HB2:=qh hb2;clear hb2 n0 n1 n2 CM;go_wp2;go_ret;exact⟨by rw[HRv.out];rfl,by first|exact HB.out.trans (HB2.out.mono (by have:=HR1.out.lt;omega))|(rw[hh];exact HB.out.trans (HB2.out.mono (by have:=HR1.out.lt;omega)))⟩
 ·have e0:(min S 4001:Nat)=S:=by omega
  rw[e0]at CM;rw[qd hS]at HR;go_enter Tryz.func45,Tryz.ntmps45
  go_upto_region 1 with fail
  rw[HW.out]
  go_wp2_with fail
  refine CM.out.mono ?_;rintro e w2⟨lv,rfl,hlv,hb2⟩;obtain rfl:=hlv (by omega);have R2:=qh (HR1.out.below hb2 HR1.out.lt);have HB2:=qh hb2;have hS':¬ (4000:Int) < (S:Int):=by omega
  clear hlv hb2 n0 n1 n2 CM e0 hS;obtain⟨⟨n0,n1,n2⟩,_⟩:=R2.out.cells
  by_cases hD:100 < lv
  ·have hD':(100:Int) < (lv:Int):=by omega
   have HRv:Hid (R=5):=qh (by rw[<-HR.out,qj hD]);clear hD C1 C2 C3 C4 C5 HR;go_wp2;go_ret;exact⟨by rw[HRv.out];rfl,by first|exact HB.out.trans (HB2.out.mono (by have:=HR1.out.lt;omega))|(rw[hh];exact HB.out.trans (HB2.out.mono (by have:=HR1.out.lt;omega)))⟩
  ·have hD':¬ (100:Int) < (lv:Int):=by omega
   rw[qd hD]at HR;clear hD
   go_wp2_with fail
   refine(C1.out _ HB2.out).mono ?_;rintro e w3⟨rfl,hbn⟩;have HB3:=qh (HB2.out.trans (hbn.mono HB2.out.size));clear hbn n0 n1 n2 C1;obtain⟨⟨n0,n1,n2⟩,_⟩:=(HR1.out.below HB3.out HR1.out.lt).cells
   cases B1 with
   |true =>
    have HRv:Hid (R=0):=qh (by rw[<-HR.out];simp);go_wp2;go_ret;exact⟨by rw[HRv.out];rfl,by first|exact HB.out.trans (HB3.out.mono (by have:=HR1.out.lt;omega))|(rw[hh];exact HB.out.trans (HB3.out.mono (by have:=HR1.out.lt;omega)))⟩
   |false =>
    go_wp2_with fail
    refine(C2.out _ HB3.out).mono ?_;rintro e w4⟨rfl,hbn⟩;have HB4:=qh (HB3.out.trans (hbn.mono HB3.out.size));clear hbn n0 n1 n2 C2;obtain⟨⟨n0,n1,n2⟩,_⟩:=(HR1.out.below HB4.out HR1.out.lt).cells
    cases B2 with
    |true =>
     have HRv:Hid (R=0):=qh (by rw[<-HR.out];simp);go_wp2;go_ret;exact⟨by rw[HRv.out];rfl,by first|exact HB.out.trans (HB4.out.mono (by have:=HR1.out.lt;omega))|(rw[hh];exact HB.out.trans (HB4.out.mono (by have:=HR1.out.lt;omega)))⟩
    |false =>
     go_wp2_with fail
     refine(C3.out _ HB4.out).mono ?_;rintro e w5⟨rfl,hbn⟩;have HB5:=qh (HB4.out.trans (hbn.mono HB4.out.size));clear hbn n0 n1 n2 C3;obtain⟨⟨n0,n1,n2⟩,_⟩:=(HR1.out.below HB5.out HR1.out.lt).cells
     cases B3 with
     |true =>
      have HRv:Hid (R=0):=qh (by rw[<-HR.out];simp);go_wp2;go_ret;exact⟨by rw[HRv.out];rfl,by first|exact HB.out.trans (HB5.out.mono (by have:=HR1.out.lt;omega))|(rw[hh];exact HB.out.trans (HB5.out.mono (by have:=HR1.out.lt;omega)))⟩
     |false =>
      go_wp2_with fail
      refine(C4.out _ HB5.out).mono ?_;rintro e w6⟨rfl,hbn⟩;have HB6:=qh (HB5.out.trans (hbn.mono HB5.out.size));clear hbn n0 n1 n2 C4;obtain⟨⟨n0,n1,n2⟩,_⟩:=(HR1.out.below HB6.out HR1.out.lt).cells
      cases B4 with
      |true =>
       have HRv:Hid (R=0):=qh (by rw[<-HR.out];simp);go_wp2;go_ret;exact⟨by rw[HRv.out];rfl,by first|exact HB.out.trans (HB6.out.mono (by have:=HR1.out.lt;omega))|(rw[hh];exact HB.out.trans (HB6.out.mono (by have:=HR1.out.lt;omega)))⟩
      |false =>
       go_wp2_with fail
       refine(C5.out _ HB6.out).mono ?_;rintro e w7⟨rfl,hbn⟩;have HB7:=qh (HB6.out.trans (hbn.mono HB6.out.size));clear hbn n0 n1 n2 C5;obtain⟨⟨n0,n1,n2⟩,_⟩:=(HR1.out.below HB7.out HR1.out.lt).cells
       cases B5 with
       |true =>
        have HRv:Hid (R=0):=qh (by rw[<-HR.out];simp);go_wp2;go_ret;exact⟨by rw[HRv.out];rfl,by first|exact HB.out.trans (HB7.out.mono (by have:=HR1.out.lt;omega))|(rw[hh];exact HB.out.trans (HB7.out.mono (by have:=HR1.out.lt;omega)))⟩
       |false =>
        have HRv:Hid (R=21):=qh (by rw[<-HR.out];rfl);go_wp2;go_ret;exact⟨by rw[HRv.out];rfl,by first|exact HB.out.trans (HB7.out.mono (by have:=HR1.out.lt;omega))|(rw[hh];exact HB.out.trans (HB7.out.mono (by have:=HR1.out.lt;omega)))⟩
end Go.Proofs.YtkckddojlignpaaGreatDoor
namespace Go.Proofs.YtkckddojlignpaaGreatDoor
open Go.RowKit
section
variable {P:Program} {w w0:World} {ops:Array Oper} {rest:List Oper} {o:Oper} {a:Act} {Q:Exit->Act->World->Prop}
theorem x3(hg:o.guard=none)(m x v:Operand)(t:TypeId)(ho:o.op=Op.insert t m x v){k e:TypeId}(ht:P.underlying t=some (.map k e))(hk:P.underlying k=some .string)
  {b:Nat} {L:List (List UInt8×Value)} (hM:a.eval m = .map (some b)) (hm:StrMap w b L) {B:Nat} (hB:B<=b) (hb:Below B w0 w) (s:List UInt8) (hx:a.eval x=S_ s) {u:Value} (hv:a.eval v=u) (hs:jv L s=none) (hd:o.dst=none)
  (hK:∀ w',StrMap w' b (L++[(s,u)])->Below B w0 w'->wpList P ops Q rest a w'):wpList P ops Q (o :: rest) a w :=
 q6f hg m x v t ho ht hk hM hm s hx hv hs (fun w' h1 h2 h3 h4 h5 h6=>hK w' h1 (hb.trans ⟨h3,h4,h5,Nat.le_of_eq h2.symm,fun j hj=>h6 j (by have:=hb.size;omega)⟩)) hd
theorem q6k(w:World):StrMap (w.alloc (.map #[] 0)) w.heap.size []:=⟨#[],0,by show(w.heap.push _)[w.heap.size]?=_;simp,by simp⟩
end
theorem q2b(w:World):Calls Tryz.prog 79 #[] w fun e w'=>e = .returned (.map (some w.heap.size))/\StrMap w' w.heap.size jn/\Below w.heap.size w w':=by
 have hmm:=@run_makeMap Tryz.prog;have m0:=qh (q6k w);have b0:=qh ((Below.refl w.heap.size w).alloc (q9 _) (.map #[] 0));go_enter Tryz.func79,Tryz.ntmps79
 go_wp2_with (first
  |(refine x3 (by rfl) _ _ _ _ (by rfl) Tryz.underlying100 Tryz.underlying9 (by rfl) m0.out (q9 _) b0.out [116,121,112,101] (by rfl) (u:=F_ 131) (by rfl) (by rfl) (by rfl) ?_;intro w1 m b;have m1:=qh m;have b1:=qh b;clear m b m0 b0)
  |(refine x3 (by rfl) _ _ _ _ (by rfl) Tryz.underlying100 Tryz.underlying9 (by rfl) m1.out (q9 _) b1.out [101,120,112,111,114,116] (by rfl) (u:=F_ 131) (by rfl) (by rfl) (by rfl) ?_;intro w2 m b;have m2:=qh m;have b2:=qh b;clear m b m1 b1)
  |(refine x3 (by rfl) _ _ _ _ (by rfl) Tryz.underlying100 Tryz.underlying9 (by rfl) m2.out (q9 _) b2.out [99,111,110,115,116] (by rfl) (u:=F_ 132) (by rfl) (by rfl) (by rfl) ?_;intro w3 m b;have m3:=qh m;have b3:=qh b;clear m b m2 b2)
  |(refine x3 (by rfl) _ _ _ _ (by rfl) Tryz.underlying100 Tryz.underlying9 (by rfl) m3.out (q9 _) b3.out [112,114,101,100] (by rfl) (u:=F_ 133) (by rfl) (by rfl) (by rfl) ?_;intro w4 m b;have m4:=qh m;have b4:=qh b;clear m b m3 b3)
  |(refine x3 (by rfl) _ _ _ _ (by rfl) Tryz.underlying100 Tryz.underlying9 (by rfl) m4.out (q9 _) b4.out [102,97,99,116] (by rfl) (u:=F_ 133) (by rfl) (by rfl) (by rfl) ?_;intro w5 m b;have m5:=qh m;have b5:=qh b;clear m b m4 b4)
  |(refine x3 (by rfl) _ _ _ _ (by rfl) Tryz.underlying100 Tryz.underlying9 (by rfl) m5.out (q9 _) b5.out [108,97,115,116,105,110,103] (by rfl) (u:=F_ 133) (by rfl) (by rfl) (by rfl) ?_;intro w6 m b;have m6:=qh m;have b6:=qh b;clear m b m5 b5)
  |(refine x3 (by rfl) _ _ _ _ (by rfl) Tryz.underlying100 Tryz.underlying9 (by rfl) m6.out (q9 _) b6.out [109,111,100,101] (by rfl) (u:=F_ 134) (by rfl) (by rfl) (by rfl) ?_;intro w7 m b;have m7:=qh m;have b7:=qh b;clear m b m6 b6)
  |(refine x3 (by rfl) _ _ _ _ (by rfl) Tryz.underlying100 Tryz.underlying9 (by rfl) m7.out (q9 _) b7.out [114,117,108,101] (by rfl) (u:=F_ 135) (by rfl) (by rfl) (by rfl) ?_;intro w8 m b;have m8:=qh m;have b8:=qh b;clear m b m7 b7)
  |(refine x3 (by rfl) _ _ _ _ (by rfl) Tryz.underlying100 Tryz.underlying9 (by rfl) m8.out (q9 _) b8.out [111,110,99,101] (by rfl) (u:=F_ 135) (by rfl) (by rfl) (by rfl) ?_;intro w9 m b;have m9:=qh m;have b9:=qh b;clear m b m8 b8)
  |(refine x3 (by rfl) _ _ _ _ (by rfl) Tryz.underlying100 Tryz.underlying9 (by rfl) m9.out (q9 _) b9.out [109,111,115,116] (by rfl) (u:=F_ 135) (by rfl) (by rfl) (by rfl) ?_;intro w10 m b;have m10:=qh m;have b10:=qh b;clear m b m9 b9)
  |(refine x3 (by rfl) _ _ _ _ (by rfl) Tryz.underlying100 Tryz.underlying9 (by rfl) m10.out (q9 _) b10.out [113,117,101,114,121] (by rfl) (u:=F_ 135) (by rfl) (by rfl) (by rfl) ?_;intro w11 m b;have m11:=qh m;have b11:=qh b;clear m b m10 b10)
  |(refine x3 (by rfl) _ _ _ _ (by rfl) Tryz.underlying100 Tryz.underlying9 (by rfl) m11.out (q9 _) b11.out [109,111,100,117,108,101] (by rfl) (u:=F_ 136) (by rfl) (by rfl) (by rfl) ?_;intro w12 m b;have m12:=qh m;have b12:=qh b;clear m b m11 b11)
  |(refine x3 (by rfl) _ _ _ _ (by rfl) Tryz.underlying100 Tryz.underlying9 (by rfl) m12.out (q9 _) b12.out [117,115,101] (by rfl) (u:=F_ 136) (by rfl) (by rfl) (by rfl) ?_;intro w13 m b;have m13:=qh m;have b13:=qh b;clear m b m12 b12))
 go_ret;exact⟨rfl,m13.out,b13.out⟩
theorem q28(w:World):Calls Tryz.prog 80 #[] w fun e w'=>e = .returned (.map (some w.heap.size))/\StrMap w' w.heap.size y9/\Below w.heap.size w w':=by
 have hmm:=@run_makeMap Tryz.prog;have m0:=qh (q6k w);have b0:=qh ((Below.refl w.heap.size w).alloc (q9 _) (.map #[] 0));go_enter Tryz.func80,Tryz.ntmps80
 go_wp2_with (first
  |(refine x3 (by rfl) _ _ _ _ (by rfl) Tryz.underlying100 Tryz.underlying9 (by rfl) m0.out (q9 _) b0.out [33] (by rfl) (u:=F_ 137) (by rfl) (by rfl) (by rfl) ?_;intro w1 m b;have m1:=qh m;have b1:=qh b;clear m b m0 b0)
  |(refine x3 (by rfl) _ _ _ _ (by rfl) Tryz.underlying100 Tryz.underlying9 (by rfl) m1.out (q9 _) b1.out [97,108,108] (by rfl) (u:=F_ 138) (by rfl) (by rfl) (by rfl) ?_;intro w2 m b;have m2:=qh m;have b2:=qh b;clear m b m1 b1)
  |(refine x3 (by rfl) _ _ _ _ (by rfl) Tryz.underlying100 Tryz.underlying9 (by rfl) m2.out (q9 _) b2.out [101,120] (by rfl) (u:=F_ 138) (by rfl) (by rfl) (by rfl) ?_;intro w3 m b;have m3:=qh m;have b3:=qh b;clear m b m2 b2)
  |(refine x3 (by rfl) _ _ _ _ (by rfl) Tryz.underlying100 Tryz.underlying9 (by rfl) m3.out (q9 _) b3.out [111,110,101] (by rfl) (u:=F_ 139) (by rfl) (by rfl) (by rfl) ?_;intro w4 m b;have m4:=qh m;have b4:=qh b;clear m b m3 b3)
  |(refine x3 (by rfl) _ _ _ _ (by rfl) Tryz.underlying100 Tryz.underlying9 (by rfl) m4.out (q9 _) b4.out [116,111,112] (by rfl) (u:=F_ 139) (by rfl) (by rfl) (by rfl) ?_;intro w5 m b;have m5:=qh m;have b5:=qh b;clear m b m4 b4)
  |(refine x3 (by rfl) _ _ _ _ (by rfl) Tryz.underlying100 Tryz.underlying9 (by rfl) m5.out (q9 _) b5.out [123] (by rfl) (u:=F_ 140) (by rfl) (by rfl) (by rfl) ?_;intro w6 m b;have m6:=qh m;have b6:=qh b;clear m b m5 b5)
  |(refine x3 (by rfl) _ _ _ _ (by rfl) Tryz.underlying100 Tryz.underlying9 (by rfl) m6.out (q9 _) b6.out [40] (by rfl) (u:=F_ 141) (by rfl) (by rfl) (by rfl) ?_;intro w7 m b;have m7:=qh m;have b7:=qh b;clear m b m6 b6))
 go_ret;exact⟨rfl,m7.out,b7.out⟩
theorem qcy(w:World):(Instr.typeAssert Value.nilIface 20 98 true).run Tryz.prog w = .ok (.tuple #[.agg #[.int .i64 0],.bool false]) w:=by kernel_rfl
theorem qcx(v:Value)(w:World):(Instr.typeAssert (.iface 98 v) 20 98 true).run Tryz.prog w = .ok (.tuple #[v,.bool true]) w:=by kernel_rfl
theorem q6r(h:Nat)(w:World) :
  CallsD Tryz.prog 78 #[.pointer (some ⟨h,0,none⟩),.pointer (some ⟨h+1,0,none⟩),.pointer (some ⟨h+1+1,0,none⟩)] .returning w fun e u' w' =>
   e = .returned (.tuple #[])/\u' = .returning/\w'=w.alloc (.cells #[.int .i64 0] 98):=by
 have hta:=qcy;have hwd:∀ x,Fence.wide.fn x:=fun _=>trivial
 refine callsD_of_wpS Tryz.func78 rfl fun c₀ cs hu=>?_
 apply wpS_seq;apply wpS_region;simp[wpOpsS,go_sem,recoverD,hu,Tryz.ntmps78,Exit.thenS,hta];refine wpS_of_wp ?_;simp only[Array.replicate_succ,Array.replicate_zero,List.push_toArray,List.nil_append,List.cons_append,List.append_toArray,qa,qf,qe];go_wp2;refine⟨rfl,.returning,by cases c₀;simp_all,.tuple #[],by simp[results,Tryz.results78],rfl,rfl,rfl⟩
theorem q5f(h i:Nat)(older:List PanicEntry)(u0 u1 u2:Value)(x y:Int)(w:World)(hR:Row3 w h u0 u1 u2)
  (c1:w.cell? ⟨h+1,0,none⟩=some (.int .i64 x)) (c2:w.cell? ⟨h+1+1,0,none⟩=some (.int .i64 y))
  (f1:w.frozen? ⟨h+1,0,none⟩=false) (f2:w.frozen? ⟨h+1+1,0,none⟩=false) :
  CallsD Tryz.prog 78 #[.pointer (some ⟨h,0,none⟩),.pointer (some ⟨h+1,0,none⟩),.pointer (some ⟨h+1+1,0,none⟩)] (.panicking ({ v:=.iface 98 (.agg #[.int .i64 i]),recovered:=false } :: older)) w fun e u' w' =>
   e = .returned (.tuple #[])/\u' = .panicking ({ v:=.iface 98 (.agg #[.int .i64 i]),recovered:=true } :: older)/\Below h w w'/\Row3 w' h (.int .i64 0) (.string ⟨#[]⟩) (.slice none 0 0)/\w'.cell? ⟨h+1,0,none⟩=some (.int .i64 i)/\w'.cell? ⟨h+1+1,0,none⟩=some (.int .i64 20):=by
 obtain⟨⟨r0,r1,r2⟩,g0,g1,g2⟩:=hR.cells;have b0:=hR.lt;have b1:=block_lt_of_cell c1;have b2:=block_lt_of_cell c2;simp only at b1 b2;have hta:=qcx;have hwd:∀ x,Fence.wide.fn x:=fun _=>trivial
 have HR:=qh hR;clear hR;refine callsD_of_wpS Tryz.func78 rfl fun c₀ cs hu=>?_
 apply wpS_seq;apply wpS_region;simp[wpOpsS,go_sem,recoverD,hu,Tryz.ntmps78,Exit.thenS,hta];refine wpS_of_wp ?_;simp only[Array.replicate_succ,Array.replicate_zero,List.push_toArray,List.nil_append,List.cons_append,List.append_toArray,qa,qf,qe];clear hwd hta;go_wp2
 go_region
 refine⟨rfl,.panicking ({ v:=.iface 98 (.agg #[.int .i64 i]),recovered:=true } :: older),rfl,.tuple #[],by simp[results,Tryz.results78],rfl,rfl,?_,?_,?_,?_⟩
 ·exact((((ya (Below.refl h w) (q9 _) _ _ _).setCell (p:=⟨h+1,0,none⟩) (by simp) _).setCell (p:=⟨h+1+1,0,none⟩) (by simp only;omega) _).alloc (by simp[World.setCell];omega) _).drew
 ·exact((((HR.out.put _ _ _).other (p:=⟨h+1,0,none⟩) _ (by simp)).other (p:=⟨h+1+1,0,none⟩) _ (by simp only;omega)).alloc _).drewN 1
 ·simp[go_sem,b1,c1]
 ·simp[go_sem,b2,c2]
theorem zt{W:World}{B:Nat}{t:TypeId}{v u:Value}(h:Boxed W B t v)(p:Addr)(hne:B≠p.block):Boxed (W.setCell p u) B t v:=(Below.heap_setCell _ _ _ _ hne).trans h
theorem q0e{W:World}{B h:Nat}{t:TypeId}{v u0 u1 u2:Value}(hb:Boxed W B t v)(hne:B≠h):Boxed (((W.setCell ⟨h,0,none⟩ u0).setCell ⟨h,1,none⟩ u1).setCell ⟨h,2,none⟩ u2) B t v :=
 zt (zt (zt hb ⟨h,0,none⟩ hne) ⟨h,1,none⟩ hne) ⟨h,2,none⟩ hne
theorem q8i{W:World}{B:Nat}{t:TypeId}{v:Value}(hb:Boxed W B t v):Boxed W.drew B t v:=hb
theorem qha{W:World}{b:Nat}{u0 u1 u2:Value}(h:Row3 W b u0 u1 u2):Row3 W.drew b u0 u1 u2:=h
theorem q24(s:ByteArray)(l:List Lx.Tok)(hl:Lx.scan (bs s) = .toks l)(w:World)(hs:s.size<=maxLen) :
  Calls Tryz.prog 77 #[.string s] w fun e w'=>∃ v,e = .returned (.tuple #[v,.int .i64 0,.int .i64 0])/\Toks w.heap.size v l w'/\Below w.heap.size w w':=by
 refine(q73 s w hs).mono ?_;rintro e w'⟨hb,h⟩;rw[hl]at h;obtain⟨v,h1,h2⟩:=h;exact⟨v,h1,h2,hb⟩
theorem q7r(s:ByteArray)(i er:Nat)(hl:Lx.scan (bs s) = .bad i er)(w:World)(hs:s.size<=maxLen) :
  Calls Tryz.prog 77 #[.string s] w fun e w'=>e = .returned (.tuple #[.slice none 0 0,.int .i64 i,.int .i64 er])/\Below w.heap.size w w':=by
 refine(q73 s w hs).mono ?_;rintro e w'⟨hb,h⟩;rw[hl]at h;exact⟨h,hb⟩
theorem qhs(s:ByteArray)(i er:Nat)(hl:Lx.scan (bs s) = .bad i er)(her:er≠0)(w:World)(hs:s.size<=maxLen)(fn:Value) :
  Calls Tryz.prog 39 #[.string s,fn] w fun e w'=>e = .returned (.tuple #[.agg #[.int .i64 0,.string ⟨#[]⟩,.slice none 0 0],.int .i64 i,.int .i64 er])/\Below w.heap.size w w':=by
 have C:=qh (fun w=>q7r s i er hl w hs);have he:((er:Int)==0)=false:=by rw[qc];omega
 clear hl her hs;have c0:=xu w (.int .i64 0) (.string ⟨#[]⟩) (.slice none 0 0) 25 _ rfl;have hb0:=qh (((Below.refl w.heap.size w).alloc (q9 _) (.cells #[.int .i64 0,.string ⟨#[]⟩,.slice none 0 0] 25)).alloc (by simp) (.cells #[.int .i64 0] 3)|>.alloc (by simp;omega) (.cells #[.int .i64 0] 26));clear c0
 go_enter_defers Tryz.func39,Tryz.ntmps39
 go_wp2_with fail
 refine(C.out _).mono ?_;rintro e w1⟨rfl,hb⟩;have z1:=hb.size;simp only[q6]at z1;have bx0:Row3 w1 w.heap.size (.int .i64 0) (.string ⟨#[]⟩) (.slice none 0 0):=(hb.block w.heap.size (by simp only[q6];omega)).trans (q0x w _ _ _);have bx1:Boxed w1 (w.heap.size+1) 3 (.int .i64 0):=(hb.block (w.heap.size+1) (by simp only[q6];omega)).trans (q0a w _ _ _);have bx2:Boxed w1 (w.heap.size+1+1) 26 (.int .i64 0):=(hb.block (w.heap.size+1+1) (by simp only[q6];omega)).trans (q09 w _ _ _);have B1:=qh (hb0.out.trans (hb.mono (by simp only[q6];omega)));obtain⟨⟨r0,r1,r2⟩,g0,g1,g2⟩:=bx0.cells;have d1:=bx1.cell;have d2:=bx2.cell;have f1:=bx1.frozen;have f2:=bx2.frozen;have l0:=bx0.lt;have l1:=bx1.lt;have l2:=bx2.lt;have R0:=qh bx0;have X1:=qh bx1;have X2:=qh bx2;clear hb bx0 bx1 bx2 z1 hb0
 go_wp2_with fail
 go_region
 generalize hV:World.drew _=V
 have RV:=qh (show Row3 V w.heap.size (.int .i64 0) (.string ⟨#[]⟩) (.slice none 0 0)by
  rw[<-hV]
  exact qha (((((R0.out.other (p:=⟨w.heap.size+1,0,none⟩) _ (by simp)).other (p:=⟨w.heap.size+1+1,0,none⟩) _ (by simp only;omega)).put _ _ _).other (p:=⟨w.heap.size+1,0,none⟩) _ (by simp)).other (p:=⟨w.heap.size+1+1,0,none⟩) _ (by simp only;omega)))
 have V1:=qh (show Boxed V (w.heap.size+1) 3 (.int .i64 i)by
  rw[<-hV]
  exact q8i (zt (Boxed.set _ (q0e (zt (Boxed.set _ X1.out) ⟨w.heap.size+1+1,0,none⟩ (by simp only;omega)) (by omega))) ⟨w.heap.size+1+1,0,none⟩ (by simp only;omega)))
 have V2:=qh (show Boxed V (w.heap.size+1+1) 26 (.int .i64 er)by
  rw[<-hV]
  exact q8i (Boxed.set _ (zt (q0e (Boxed.set _ (zt X2.out ⟨w.heap.size+1,0,none⟩ (by simp only;omega))) (by omega)) ⟨w.heap.size+1,0,none⟩ (by simp only;omega))))
 have BV:=qh (show Below w.heap.size w V by
  rw[<-hV]
  exact(((ya ((B1.out.setCell (p:=⟨w.heap.size+1,0,none⟩) (by simp) _).setCell (p:=⟨w.heap.size+1+1,0,none⟩) (by simp only;omega) _) (q9 _) _ _ _).setCell (p:=⟨w.heap.size+1,0,none⟩) (by simp) _).setCell (p:=⟨w.heap.size+1+1,0,none⟩) (by simp only;omega) _).drew)
 clear hV r0 r1 r2 g0 g1 g2 d1 d2 f1 f2 R0 X1 X2 B1 C;go_wp2;obtain⟨⟨r0,r1,r2⟩,_⟩:=RV.out.cells;have d1:=V1.out.cell;have d2:=V2.out.cell;refine⟨.tuple #[.agg #[.int .i64 0,.string ⟨#[]⟩,.slice none 0 0],.int .i64 i,.int .i64 er],by simp[results,Tryz.results39,go_sem,r0,r1,r2,d1,d2],rfl,BV.out⟩
theorem q6p(l:Lx.Bs)(Q:Lx.Tok->Prop)(hQ:∀ i k j,i < l.length->Lx.tokAt l i=some (k,j)->j - i<=40->Q ⟨k,Lx.slice l i j,i⟩) :
  ∀ (f:Nat) (pre:List Lx.Tok) (i:Nat) (ts:List Lx.Tok),(∀ t∈pre,Q t)->Lx.scanT l f pre i = .toks ts->∀ t∈ts,Q t
 |0,_,_,_,hp,h=>by simp[Lx.scanT]at h;subst h;exact hp
 |f+1,pre,i,ts,hp,h=>by
  unfold Lx.scanT at h
  split at h
  ·simp at h;subst h;exact hp
  ·rename_i hi
   split at h
   ·simp at h
   ·rename_i k j ht
    split at h
    ·simp at h
    ·split at h
     ·simp at h
     ·rename_i h40
      refine q6p l Q hQ f _ _ _ (fun t hm=>?_) h;rcases List.mem_append.1 hm with hm|hm
      ·exact hp t hm
      ·obtain rfl:=List.mem_singleton.1 hm
       exact hQ i k j (by omega) ht (by omega)
theorem q3y{l:Lx.Bs}{ts:List Lx.Tok}(h:Lx.scan l = .toks ts)(Q:Lx.Tok->Prop)(hQ:∀ i k j,i < l.length->l.length<=20000->Lx.tokAt l i=some (k,j)->j - i<=40->Q ⟨k,Lx.slice l i j,i⟩):l.length<=20000/\∀ t∈ts,Q t:=by
 unfold Lx.scan at h
 split at h
 ·simp at h
 ·rename_i hl
  exact⟨by omega,q6p l Q (fun i k j hi=>hQ i k j hi (by omega)) _ _ _ _ (by simp) h⟩
theorem q9b(l:Lx.Bs)(i j:Nat):(Lx.slice l i j).length<=j - i:=by
 unfold Lx.slice;rw[List.length_take];omega
theorem qen{l:Lx.Bs}{i j:Nat}(hi:i < l.length)(hj:i < j):∃ r,Lx.slice l i j=l[i] :: r:=by
 unfold Lx.slice;rw[List.drop_eq_getElem_cons hi];obtain⟨m,hm⟩:∃ m,j - i=m+1:=⟨j - i - 1,by omega⟩;rw[hm,List.take_succ_cons];exact⟨_,rfl⟩
theorem q6o{l:Lx.Bs}{ts:List Lx.Tok}(h:Lx.scan l = .toks ts):∀ t∈ts,t.text.length<=40/\t.pos<=20000/\t.kind<=4 :=
 (q3y h (fun t=>t.text.length<=40/\t.pos<=20000/\t.kind<=4) fun _i _k _j hi hl ht h40=>⟨qo (q9b _ _ _) h40,qo (Nat.le_of_lt hi) hl,(qar ht).2⟩).2
theorem qjb{l:Lx.Bs}{i k j:Nat}(hi:i < l.length)(h:Lx.tokAt l i=some (k,j))(hk:k=1\/k=2):∀ s∈q2g,Lx.slice l i j≠s:=by
 have hlt:=(Lx.tokAt_lt h).1;obtain⟨r,hr⟩:=qen hi hlt;unfold Lx.tokAt at h;rw[qq hi]at h;simp only at h;intro s hs e;rw[hr]at e
 split at h
 ·rename_i hsm
  split at h
  ·simp at h;omega
  ·rename_i ho
   split at h
   ·simp at h;omega
   ·rename_i hw
    simp only[Option.some.injEq,Prod.mk.injEq]at h;obtain⟨_,rfl⟩:=h;rw[hr,e]at hw;have hc:∀ c r',s=c :: r'->Lx.small c=true:=fun c r' hc=>by rw[hc]at e;rw[<-(List.cons.inj e).1];exact hsm
    simp only[q2g,List.mem_cons,List.not_mem_nil,or_false]at hs;rcases hs with rfl|rfl|rfl|rfl|rfl|rfl|rfl|rfl|rfl|rfl|rfl|rfl|rfl|rfl|rfl|rfl|rfl|rfl|rfl|rfl|rfl
    all_goals first
     |exact absurd (hc _ _ rfl) (by decide)
     |exact hw (by decide)
     |skip
    have e0:l[i]=111:=(List.cons.inj e).1;have hs2:Lx.slice l i (Lx.nameTo l i)=[111,45]:=by rw[hr,e]
    have h1:l[i+1]?=some 45:=by
     have:=congrArg (fun x:Lx.Bs=>x[1]?) hs2;simp only[Lx.slice]at this;rw[List.getElem?_take]at this
     split at this
     ·rw[List.getElem?_drop]at this;exact this
     ·cases this
    have hi1:i+1 < l.length:=by
     rcases Nat.lt_or_ge (i+1) l.length with h'|h'
     ·exact h'
     ·rw[List.getElem?_eq_none h']at h1;cases h1
    have h1':l[i+1]=45:=by rw[qq hi1]at h1;exact zn h1
    have hrun:Lx.runTo l i=i+1:=by
     rw[Lx.runTo_step hi,e0,qj (by decide),Lx.runTo_step hi1,h1',qd (by decide)]
    have hn:Lx.nameTo l i=i+1:=by
     unfold Lx.nameTo;simp only[hrun];rw[qd];rintro⟨h2,_⟩;rw[h1]at h2
     cases h2
    have:=congrArg List.length hs2;have h3:=q9b l i (Lx.nameTo l i);rw[this,hn]at h3;simp at h3
 ·rename_i hsm
  split at h
  ·rename_i hcap
   have hc:∀ c r',s=c :: r'->Lx.capital c=true:=fun c r' hc=>by rw[hc]at e;rw[<-(List.cons.inj e).1];exact hcap
   simp only[q2g,List.mem_cons,List.not_mem_nil,or_false]at hs;rcases hs with rfl|rfl|rfl|rfl|rfl|rfl|rfl|rfl|rfl|rfl|rfl|rfl|rfl|rfl|rfl|rfl|rfl|rfl|rfl|rfl|rfl
   all_goals exact absurd (hc _ _ rfl) (by decide)
  ·split at h
   ·simp at h;omega
   ·split at h
    ·simp at h;omega
    ·simp at h
theorem qes{l:Lx.Bs}{ts:List Lx.Tok}(h:Lx.scan l = .toks ts):yc ts:=by
 have H:=(q3y h (fun t=>t.kind=1\/t.kind=2->∀ s∈q2g,t.text≠s) fun i k j hi hl ht h40 hk=>qjb hi ht hk).2;intro q hk s hs;unfold Sx.knd at hk;unfold Sx.txt
 cases ht:ts[q]? with
 |none=>rw[ht]at hk;simp at hk
 |some t =>
  rw[ht]at hk;exact H t (List.mem_of_getElem? ht) hk s hs
end Go.Proofs.YtkckddojlignpaaGreatDoor
