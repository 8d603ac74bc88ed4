/- A part of the proof, packed: see the last text of this claim. -/
import Derived.Test.YtkckddojlignpaaGreatDoorPkBa
import Derived.Test.YtkckddojlignpaaGreatDoorPkBb
import Derived.Deep.RegionWith
import Derived.BigQuiet
import Derived.Lib.IndexLaws
import Derived.Deep.AppendLies
import Derived.Deep.DeepAppendRoom
import Derived.ArgAppend
import Derived.Deep.RegionLaw
set_option maxHeartbeats 20000000
set_option maxRecDepth 100000
namespace Go.Proofs.YtkckddojlignpaaGreatDoor
open Go.RowKit
theorem qmu(s:ByteArray)(i:Nat)(w:World)(hs:s.size < maxLen)(hi:i<=s.size) :
  Calls Tryz.prog 168 #[.string s,.int .i64 i] w fun e w'=>e = .returned (.int .i64 (Lx.runTo (bs s) i))/\w=w':=by
 unfold maxLen at hs;have Hstart:=qh (rfl:Lx.runTo (bs s) i=Lx.runTo (bs s) i);obtain⟨R,hR⟩:∃ R,Lx.runTo (bs s) i=R:=⟨_,rfl⟩;have HR:=qh hR;rw[hR];clear hR Hstart;go_enter Tryz.func168,Tryz.ntmps168;go_wp2
 go_loopw [1] (fun v wr=>∃ k:Nat,k<=s.size/\v = .int .i64 k/\Hid (Lx.runTo (bs s) k=R)/\wr=w) (fun v _=>s.size - (intOf v).toNat)
 case atStart=>exact⟨i,hi,rfl,HR,rfl⟩
 case round =>
  obtain⟨k,hk,rfl,hrun,rfl⟩:=hrel
  by_cases hlt:k < s.size
  ·have hlt':(k:Int) < (s.size:Int):=by omega
   have hby:=xh s[k];have hst:=Lx.runTo_step (l:=bs s) (k:=k) (by rw[qr];exact hlt);rw[xu hlt]at hst;have C:=qh (fun w=>qo5 s[k] w);obtain⟨V,hV⟩:∃ V,Lx.part s[k]=V:=⟨_,rfl⟩;rw[hV]at C hst;have HS:=qh hst;clear hst hV
   go_wp2_with fail
   refine(C.out _).mono ?_;rintro e w1⟨rfl,rfl⟩;clear C
   cases V
   ·go_wp2
    go_ret;exact⟨q16 (by rw[<-hrun.out,HS.out];rfl),rfl⟩
   ·go_wp2
    go_roundw
    case rel=>exact⟨k+1,hlt,by push_cast;rfl,by rw[<-hrun.out,HS.out];exact qh rfl,by trivial⟩
    case measure=>simp[intOf];omega
  ·have hlt':¬ ((k:Int) < (s.size:Int)):=by omega
   have he:Lx.runTo (bs s) k=k:=Lx.runTo_end (by rw[qr];omega);have HE:=qh he;clear he;go_wp2;go_ret;exact⟨q16 (by rw[<-hrun.out,HE.out]),rfl⟩
theorem qqh(c:UInt8)(w:World):Calls Tryz.prog 106 #[.int .u8 c.toNat] w fun e w'=>e = .returned (.bool (Lx.blank c))/\w=w':=by
 have hby:=xh c;have HV:Hid (Lx.blank c=(decide (c.toNat=32)||decide (c.toNat=9)||decide (c.toNat=10))):=qh rfl;obtain⟨V,hV⟩:∃ V,Lx.blank c=V:=⟨_,rfl⟩;rw[hV]at HV ⊢;clear hV
 by_cases h1:c.toNat=32
 ·have HN:=qh h1
  have h1':((c.toNat:Int)==32)=true:=by rw[h1];rfl
  clear h1;go_enter Tryz.func106,Tryz.ntmps106;go_wp2;go_ret;exact⟨xj (by rw[HV.out,HN.out];rfl),rfl⟩
 ·have h1':((c.toNat:Int)==32)=false:=by rw[q9];omega
  by_cases h2:c.toNat=9
  ·have HN:=qh h2
   have h2':((c.toNat:Int)==9)=true:=by rw[h2];rfl
   clear h1 h2;go_enter Tryz.func106,Tryz.ntmps106;go_wp2;go_ret;exact⟨xj (by rw[HV.out,HN.out];rfl),rfl⟩
  ·have h2':((c.toNat:Int)==9)=false:=by rw[q9];omega
   by_cases h3:c.toNat=10
   ·have HN:=qh h3
    have h3':((c.toNat:Int)==10)=true:=by rw[h3];rfl
    clear h1 h2 h3;go_enter Tryz.func106,Tryz.ntmps106;go_wp2;go_ret;exact⟨xj (by rw[HV.out,HN.out];rfl),rfl⟩
   ·have h3':((c.toNat:Int)==10)=false:=by rw[q9];omega
    have HN:=qh (And.intro h1 (And.intro h2 h3));clear h1 h2 h3;go_enter Tryz.func106,Tryz.ntmps106;go_wp2;go_ret;exact⟨xj (by rw[HV.out,decide_eq_false HN.out.1,decide_eq_false HN.out.2.1,decide_eq_false HN.out.2.2];rfl),rfl⟩
theorem qnk(s p:ByteArray)(i:Nat)(_h:i+p.size<=s.size):((s.extract i (i+p.size)).toList==p.toList)=Lx.pre (bs s) i (bs p):=by
 rw[ByteArray.toList_eq,ByteArray.toList_eq,show(s.extract i (i+p.size)).data.toList=Lx.slice (bs s) i (i+p.size) from yv s i _]
 show(Lx.slice (bs s) i (i+p.size)==bs p)=_
 unfold Lx.pre Lx.slice;rw[Nat.add_sub_cancel_left,<-qr p,Bool.eq_iff_iff,List.isPrefixOf_iff_prefix,List.prefix_iff_eq_take,beq_iff_eq];exact⟨fun h=>h.symm,fun h=>h.symm⟩
theorem qnl(s p:ByteArray)(i:Nat)(hi:i<=s.size)(h:¬ i+p.size<=s.size):Lx.pre (bs s) i (bs p)=false:=by
 unfold Lx.pre;rw[Bool.eq_false_iff];intro e;rw[List.isPrefixOf_iff_prefix]at e;have:=e.length_le;rw[List.length_drop,qr,qr]at this;omega
theorem qhi(s p:ByteArray)(i:Nat)(w:World)(hs:s.size<=100000)(hp:p.size<=100000)(hi:i<=s.size) :
  Calls Tryz.prog 170 #[.string s,.int .i64 i,.string p] w fun e w'=>e = .returned (.bool (Lx.pre (bs s) i (bs p)))/\w=w':=by
 by_cases h:i+p.size<=s.size
 ·have h':(i:Int)+(p.size:Int)<=(s.size:Int):=by omega
  have HS:=qh (qnk s p i h);obtain⟨V,hV⟩:∃ V,Lx.pre (bs s) i (bs p)=V:=⟨_,rfl⟩;rw[hV]at HS ⊢;clear hV;go_enter Tryz.func170,Tryz.ntmps170;go_wp2;go_ret;exact⟨xj HS.out,rfl⟩
 ·have h':¬ ((i:Int)+(p.size:Int)<=(s.size:Int)):=by omega
  have HS:=qh (qnl s p i hi h);obtain⟨V,hV⟩:∃ V,Lx.pre (bs s) i (bs p)=V:=⟨_,rfl⟩;rw[hV]at HS ⊢;clear hV;go_enter Tryz.func170,Tryz.ntmps170;go_wp2;go_ret;exact⟨xj HS.out.symm,rfl⟩
def qa6(w:World)(v:Value)(L:List ByteArray):Prop :=
 ∃ a cap,v = .slice a L.length cap/\(L≠[]->∃ b o,a=some ⟨b,o,none⟩/\∀ i,(h:i < L.length)->w.cell? ⟨b,o+i,none⟩=some (.string L[i]))
def q3q(L:List ByteArray)(s:ByteArray):Bool:=L.any fun x=>x.toList==s.toList
theorem qm5{L:List ByteArray}{s:ByteArray}{k:Nat}(h:L.length<=k):q3q (L.drop k) s=false:=by
 rw[List.drop_of_length_le h];rfl
theorem qj9{L:List ByteArray}{s:ByteArray}{k:Nat}(h:k < L.length):q3q (L.drop k) s=((L[k].toList==s.toList)||q3q (L.drop (k+1)) s):=by
 rw[List.drop_eq_getElem_cons h];rfl
theorem qqg(v:Value)(L:List ByteArray)(s:ByteArray)(w:World)(hv:qa6 w v L)(hm:L.length<=1000000) :
  Calls Tryz.prog 115 #[v,.string s] w fun e w'=>(∃ n:Int,e = .returned (.int .i64 n)/\decide (0<=n)=q3q L s)/\w=w':=by
 obtain⟨a,cap,rfl,hca⟩:=hv;go_enter Tryz.func115,Tryz.ntmps115;go_wp2
 go_loopw [5] (fun v wr=>∃ k:Nat,k<=L.length/\v = .int .i64 k/\Hid (q3q L s=q3q (L.drop k) s)/\w=wr) (fun v _=>L.length - (intOf v).toNat)
 case atStart=>exact⟨0,qp _,rfl,qh rfl,rfl⟩
 case round =>
  obtain⟨k,hk,rfl,hrun,rfl⟩:=hrel
  by_cases hlt:k < L.length
  ·have hlt':(k:Int) < (L.length:Int):=by omega
   obtain⟨b,o,rfl,hc⟩:=hca (by rintro rfl;simp at hlt);have x0:=hc k hlt;have HS:=qh (qj9 (s:=s) hlt);clear hca hc;generalize L[k]=X at x0 HS
   cases hE:(X.toList==s.toList)
   ·rw[hE]at HS
    go_wp2;go_roundw
    case rel=>exact⟨k+1,hlt,by push_cast;rfl,by rw[hrun.out,HS.out];exact qh rfl,by trivial⟩
    case measure=>simp[intOf];omega
   ·rw[hE]at HS
    go_wp2;go_ret;exact⟨⟨_,rfl,by rw[hrun.out,HS.out];simp⟩,rfl⟩
  ·have hlt':¬ ((k:Int) < (L.length:Int)):=by omega
   have HE:=qh (qm5 (s:=s) (show L.length<=k by omega));clear hca;go_wp2;go_ret;exact⟨⟨_,rfl,by rw[hrun.out,HE.out];rfl⟩,rfl⟩
def signsB:List ByteArray:=[⟨#[45,111]⟩,⟨#[111,45]⟩,⟨#[61,62]⟩,⟨#[60,61]⟩,⟨#[45,62]⟩,⟨#[42]⟩,⟨#[38]⟩,⟨#[43]⟩,⟨#[33]⟩,⟨#[123]⟩,⟨#[125]⟩,⟨#[40]⟩,⟨#[41]⟩,⟨#[46]⟩,⟨#[44]⟩,⟨#[58]⟩,⟨#[92]⟩]
theorem qb4(w:World)(L:List ByteArray)(t:TypeId):qa6 (w.alloc (.cells (L.map Value.string).toArray t)) (.slice (some ⟨w.heap.size,0,none⟩) L.length L.length) L:=by
 refine⟨_,L.length,rfl,fun _=>⟨_,0,rfl,fun i hi=>?_⟩⟩;rw[World.cell?_alloc_at _ _ _ _ rfl];simp[hi]
theorem qqb(w:World):Calls Tryz.prog 171 #[] w fun e w'=>e = .returned (.slice (some ⟨w.heap.size,0,none⟩) 17 17)/\w'=w.alloc (.cells (wordsB.map Value.string).toArray 9):=by
 go_enter Tryz.func171,Tryz.ntmps171;go_wp2;go_ret;exact⟨rfl,rfl⟩
theorem qqd(w:World):Calls Tryz.prog 173 #[] w fun e w'=>e = .returned (.slice (some ⟨w.heap.size,0,none⟩) 17 17)/\w'=w.alloc (.cells (signsB.map Value.string).toArray 9):=by
 go_enter Tryz.func173,Tryz.ntmps173;go_wp2;go_ret;exact⟨rfl,rfl⟩
def q7b:Option (Nat×Nat)->Value
 |some (k,j)=>.tuple #[.int .i64 k,.int .i64 j]
 |none=>.tuple #[.int .i64 0,.int .i64 0]
theorem qag(s:ByteArray)(i:Nat)(w:World)(hs:s.size<=100000)(hi:i < s.size)(hc:Lx.capital s[i]=true) :
  Calls Tryz.prog 108 #[.string s,.int .i64 i] w fun e w'=>e = .returned (q7b (Lx.tokAt (bs s) i))/\Below w.heap.size w w':=by
 have hsm:Lx.small s[i]=false:=by
  simp only[Lx.capital,qd,qf]at hc;simp only[Lx.small,Bool.and_eq_false_iff,decide_eq_false_iff_not];omega
 have h0:(bs s)[i]?=some s[i]:=by rw[qj (by rw[qr];exact hi),xu hi]
 have ht:Lx.tokAt (bs s) i=some (2,Lx.runTo (bs s) i):=by simp only[Lx.tokAt,h0,hsm,hc];rfl
 rw[ht];have hby:=xh s[i];have CC:=qh (fun w=>q4r s[i] w);rw[hc]at CC;have CR:=qh (fun w=>qmu s i w (by unfold maxLen;omega) (by omega));have hi':(i:Int) < (s.size:Int):=by omega
 clear ht h0 hsm hc;go_enter Tryz.func108,Tryz.ntmps108
 go_wp2_with fail
 refine(CC.out _).mono ?_;rintro e w1⟨rfl,rfl⟩
 go_wp2_with fail
 refine(CR.out _).mono ?_;rintro e w1⟨rfl,rfl⟩;go_wp2;go_ret2;exact⟨rfl,Below.refl _ _⟩
theorem qjd(x:ByteArray):q3q wordsB x=Lx.words.contains (bs x):=by
 unfold q3q wordsB;rw[List.any_map,Bool.eq_iff_iff,List.any_eq_true,List.contains_iff_mem]
 constructor
 ·rintro⟨l,hl,h⟩
  simp only[Function.comp_apply,ByteArray.toList_eq,beq_iff_eq]at h;rw[show bs x=l from h.symm];exact hl
 ·intro h
  exact⟨_,h,by simp only[Function.comp_apply,ByteArray.toList_eq,beq_iff_eq];rfl⟩
theorem qnw(x:ByteArray)(l:Lx.Bs):(x.toList==l)=decide (bs x=l):=by
 rw[ByteArray.toList_eq,Bool.eq_iff_iff,beq_iff_eq,qf];rfl
theorem qmw(l:Lx.Bs)(j:Nat):Lx.pre l j [45]=decide (l[j]?=some 45):=by
 unfold Lx.pre
 cases h:l.drop j with
 |nil =>
  have:l[j]?=none:=by rw[List.getElem?_eq_none_iff];exact List.drop_eq_nil_iff.1 h
  rw[this];rfl
 |cons c r =>
  have:l[j]?=some c:=by have:=congrArg (fun x=>x[0]?) h;simpa using this
  rw[this]
  by_cases h45:c=45
  ·subst h45;simp[List.isPrefixOf]
  ·have:(45==c)=false:=by rw[q9];exact fun e=>h45 e.symm
   simp[List.isPrefixOf,this,h45]
theorem qd4(s:ByteArray)(i:Nat)(w:World)(hs:s.size<=100000)(hi:i < s.size)(hsm:Lx.small s[i]=true) :
  Calls Tryz.prog 108 #[.string s,.int .i64 i] w fun e w'=>e = .returned (q7b (Lx.tokAt (bs s) i))/\Below w.heap.size w w':=by
 have hc:Lx.capital s[i]=false:=by
  simp only[Lx.small,qd,qf]at hsm;simp only[Lx.capital,Bool.and_eq_false_iff,decide_eq_false_iff_not];omega
 have HT:=qh (qb1 (e:=Lx.nameTo (bs s) i) hi hsm rfl);have hnl:=Lx.nameTo_le (l:=bs s) (i:=i) (by rw[qr];omega);have hrl:=Lx.runTo_le (l:=bs s) (i:=i) (by rw[qr];omega);rw[qr]at hnl hrl;have HD:Hid (Lx.nameTo (bs s) i=if(bs s)[Lx.runTo (bs s) i]?=some 64/\((bs s)[Lx.runTo (bs s) i+1]?.map Lx.small)=some true then Lx.runTo (bs s) (Lx.runTo (bs s) i+1) else Lx.runTo (bs s) i):=qh rfl;obtain⟨e,he⟩:∃ e,Lx.nameTo (bs s) i=e:=⟨_,rfl⟩;obtain⟨T,hT⟩:∃ T,Lx.tokAt (bs s) i=T:=⟨_,rfl⟩;have CR:=qh (fun w=>qmu s i w (by unfold maxLen;omega) (by omega));obtain⟨j,hj⟩:∃ j,Lx.runTo (bs s) i=j:=⟨_,rfl⟩;have hby:=xh s[i];have CC:=qh (fun w=>q4r s[i] w);have CM:=qh (fun w=>q98 s[i] w);rw[hc]at CC;rw[hsm]at CM;rw[he]at HT hnl HD;rw[hT]at HT ⊢;rw[hj]at hrl HD CR;have hi':(i:Int) < (s.size:Int):=by omega
 clear hc hsm he hT hj;go_enter Tryz.func108,Tryz.ntmps108
 go_wp2_with fail
 refine(CC.out _).mono ?_;rintro e1 w1⟨rfl,rfl⟩
 go_wp2_with fail
 refine(CM.out _).mono ?_;rintro e1 w1⟨rfl,rfl⟩
 go_wp2_with fail
 refine(CR.out _).mono ?_;rintro e1 w1⟨rfl,rfl⟩;clear CC CM CR;obtain⟨X,hX⟩:∃ X,decide ((bs s)[j]?=some 64/\((bs s)[j+1]?.map Lx.small)=some true)=X:=⟨_,rfl⟩;have HX:=qh hX;clear hX
 go_upto_region 5 with fail
 go_cut [40] (fun v wx=>v = .bool X/\wx=w)
 case first =>
  by_cases h1:j+1 < s.size
  ·have h1':(j:Int)+1 < (s.size:Int):=by omega
   have hj':(j:Int) < (s.size:Int):=by omega
   have g0:(bs s)[j]?=some (s[j]'(by omega)):=by rw[qj (by rw[qr];omega),xu (by omega)]
   have g1:(bs s)[j+1]?=some s[j+1]:=by rw[qj (by rw[qr];omega),xu (by omega)]
   rw[g0,g1]at HX;have hb0:=xh (s[j]'(by omega));have hb1:=xh s[j+1];clear g0 g1
   by_cases h2:(s[j]'(by omega))=64
   ·have h2':(((s[j]'(by omega)).toNat:Int)==64)=true:=by rw[h2];rfl
    have HX2:Hid (X=Lx.small s[j+1]):=qh (by rw[<-HX.out,h2];simp);have CM:=qh (fun w=>q98 s[j+1] w);obtain⟨V,hV⟩:∃ V,Lx.small s[j+1]=V:=⟨_,rfl⟩;rw[hV]at CM HX2;clear h2 hV HX
    go_wp2_with fail
    refine(CM.out _).mono ?_;rintro e1 w1⟨rfl,rfl⟩;go_wp2
    go_meet
    exact⟨by rw[HX2.out],rfl⟩
   ·have h2':(((s[j]'(by omega)).toNat:Int)==64)=false:=by
     rw[q9];intro e;exact h2 (by rw[<-UInt8.toNat_inj];exact Int.ofNat_inj.1 e)
    have HX2:Hid (X=false):=qh (by rw[<-HX.out];simp[h2]);clear h2 HX;go_wp2
    go_meet
    exact⟨by rw[HX2.out],rfl⟩
  ·have h1':¬ ((j:Int)+1 < (s.size:Int)):=by omega
   have HX2:Hid (X=false):=qh (by
    have g1:(bs s)[j+1]?=none:=by rw[List.getElem?_eq_none_iff,qr];omega
    rw[<-HX.out,g1];simp)
   clear HX;go_wp2
   go_meet
   exact⟨by rw[HX2.out],rfl⟩
 case rest =>
  obtain⟨rfl,rfl⟩:=hcut
  go_upto_if 40 with fail
  go_cut [6] (fun v wx=>v = .int .i64 e/\wx=wc)
  case first =>
   cases X
   ·have HE:Hid (e=j):=qh (by rw[HD.out,q7 (of_decide_eq_false HX.out)])
    go_wp2
    go_meet
    exact⟨by rw[HE.out],rfl⟩
   ·have hx:=of_decide_eq_true HX.out
    have hj1:j+1 < s.size:=by
     rcases Nat.lt_or_ge (j+1) s.size with h|h
     ·exact h
     ·have g1:(bs s)[j+1]?=none:=by rw[List.getElem?_eq_none_iff,qr];exact h
      rw[g1]at hx;simp at hx
    have HE:Hid (e=Lx.runTo (bs s) (j+1)):=qh (by rw[HD.out,qa hx]);have CR:=qh (fun w=>qmu s (j+1) w (by unfold maxLen;omega) (by omega));rw[<-HE.out]at CR;clear hx;have ej:(((j+1:Nat)):Int)=(j:Int)+1:=by omega
    rw[ej]at CR;clear ej
    go_wp2_with fail
    refine(CR.out _).mono ?_;rintro e1 w1⟨rfl,rfl⟩;go_wp2
    go_meet
    exact⟨rfl,rfl⟩
  case rest =>
   obtain⟨rfl,rfl⟩:=hcut;clear HD HX;have CI:=qh (fun w=>qhi s ⟨#[45]⟩ e w hs (by decide) hnl.2);rw[show bs ⟨#[45]⟩=[45] from rfl,qmw]at CI;obtain⟨O,hO⟩:∃ O,decide (bs (s.extract i e)=[111])=O:=⟨_,rfl⟩;obtain⟨M,hM⟩:∃ M,decide ((bs s)[e]?=some 45)=M:=⟨_,rfl⟩;have hO2:((s.extract i e).toList==[111])=O:=by rw[qnw];exact hO
   rw[hM]at CI;have HO:=qh hO;have HM:=qh hM;clear hO hM;have hie:(i:Int)<=(e:Int):=by omega
   have hes:(e:Int)<=(s.size:Int):=by omega
   go_upto_region 7 with fail
   go_cut [54] (fun v wx=>v = .bool (O && M)/\wx=wc)
   case first =>
    cases O
    ·go_wp2
     go_meet
     exact⟨rfl,rfl⟩
    ·go_wp2_with fail
     refine(CI.out _).mono ?_;rintro e1 w1⟨rfl,rfl⟩;go_wp2
     go_meet
     exact⟨by simp,rfl⟩
   case rest =>
    obtain⟨rfl,rfl⟩:=hcut;clear CI hO2
    cases hOM:(O && M)
    ·have HT2:Hid (T=if Lx.words.contains (bs (s.extract i e))=true then some (4,e) else some (1,e)):=qh (by
      rw[HT.out,q7];rintro⟨h1,h2⟩;rw[<-HO.out,<-HM.out,decide_eq_true h1,decide_eq_true h2]at hOM
      cases hOM)
     clear HT hOM
     go_upto_region 9 with fail
     obtain⟨Y,hY⟩:∃ Y,Lx.words.contains (bs (s.extract i e))=Y:=⟨_,rfl⟩;have HY:=qh (qjd (s.extract i e));rw[hY]at HT2 HY;clear hY
     go_cut [63] (fun v wx=>v = .bool Y/\Hid (Below wc.heap.size wc wx))
     case first =>
      have CX:=qh (qqg (.slice (some ⟨wc.heap.size,0,none⟩) 17 17) wordsB (s.extract i e) (wc.alloc (.cells (wordsB.map Value.string).toArray 9)).drew (qb4 wc wordsB 9) (by decide));have hbw:Hid (Below wc.heap.size wc (wc.alloc (.cells (wordsB.map Value.string).toArray 9)).drew):=(((Below.refl _ wc).alloc (q5 _) _).drew);have CW:=qh (fun w=>qqb w);generalize wordsB.map Value.string=WV at CX hbw CW
      go_region_with (first
       |(go_at_call 171;refine(CW.out _).mono ?_;rintro e1 w1 ⟨rfl,rfl⟩)
       |(go_at_call 115;refine CX.out.mono ?_;rintro e1 w1 ⟨⟨m,rfl,hm⟩,rfl⟩))
      all_goals go_wp2
      all_goals go_meet
      all_goals exact⟨by rw[HY.out],hbw⟩
     case rest =>
      obtain⟨rfl,hbx⟩:=hcut
      cases Y
      ·go_wp2
       go_ret2;exact⟨by rw[HT2.out];rfl,hbx.out⟩
      ·go_wp2
       go_ret2;exact⟨by rw[HT2.out];rfl,hbx.out⟩
    ·have HT2:Hid (T=some (3,e+1)):=qh (by
      rw[HT.out,qa];rw[qd]at hOM
      exact⟨of_decide_eq_true (HO.out.trans hOM.1),of_decide_eq_true (HM.out.trans hOM.2)⟩)
     clear HT hOM;go_wp2;go_ret2;exact⟨by rw[HT2.out];rfl,Below.refl _ _⟩
theorem qot(l:Lx.Bs)(j:Nat)(x:UInt8):Lx.pre l j [x]=decide (l[j]?=some x):=by
 unfold Lx.pre
 cases h:l.drop j with
 |nil =>
  have:l[j]?=none:=by rw[List.getElem?_eq_none_iff];exact List.drop_eq_nil_iff.1 h
  rw[this];rfl
 |cons c r =>
  have:l[j]?=some c:=by have:=congrArg (fun x=>x[0]?) h;simpa using this
  rw[this]
  by_cases h45:c=x
  ·subst h45;simp[List.isPrefixOf]
  ·have:(x==c)=false:=by rw[q9];exact fun e=>h45 e.symm
   simp[List.isPrefixOf,this,h45]
def q84(l:Lx.Bs)(i:Nat):List ByteArray->Option (Nat×Nat)
 |[]=>none
 |p :: r=>if Lx.pre l i (bs p) then some (3,i+p.size) else q84 l i r
theorem qmb{l:Lx.Bs}{i:Nat}{c:UInt8}(h0:l[i]?=some c)(hs:Lx.small c=false)(hc:Lx.capital c=false)(hd:Lx.pre l i [45,111]=false) :
  Lx.tokAt l i=q84 l i (signsB.drop 2):=by
 have e1:Lx.tokAt l i=if Lx.signB c then some (3,i+1) else if Lx.isLong l i then some (3,i+2) else none:=by
  simp only[Lx.tokAt,h0,hs,hc];rfl
 have e2:Lx.isLong l i=(Lx.pre l i [45,62]||Lx.pre l i [61,62]||Lx.pre l i [60,61]):=by
  unfold Lx.isLong;rw[hd];simp
 rw[e1,e2];have hb:∀ x:UInt8,bs ⟨#[x]⟩=[x]:=fun _=>rfl
 have hb2:∀ x y:UInt8,bs ⟨#[x,y]⟩=[x,y]:=fun _ _=>rfl
 have hz:∀ x:UInt8,(⟨#[x]⟩:ByteArray).size=1:=fun _=>rfl
 have hz2:∀ x y:UInt8,(⟨#[x,y]⟩:ByteArray).size=2:=fun _ _=>rfl
 simp only[signsB,List.drop_succ_cons,List.drop_zero,q84,hb,hb2,hz,hz2,qot,h0,Option.some.injEq]
 have hf:∀ a b:UInt8,Lx.pre l i [a,b]=true->c=a:=fun a b h=>by
  have:=(Lx.pre_two h).1;rw[h0]at this;exact zc this
 by_cases h1:Lx.pre l i [61,62]=true
 ·have:=hf _ _ h1;subst this;rw[h1];simp[Lx.signB]
 ·by_cases h2:Lx.pre l i [60,61]=true
  ·have:=hf _ _ h2;subst this;rw[h2];simp[Lx.signB,h1]
  ·by_cases h3:Lx.pre l i [45,62]=true
   ·have:=hf _ _ h3;subst this;rw[h3];simp[Lx.signB,h1,h2]
   ·simp only[Bool.not_eq_true]at h1 h2 h3
    rw[h1,h2,h3];simp only[Lx.signB,Bool.or_false,Bool.false_eq_true,if_false,qf]
    by_cases hm:([42,38,43,33,123,125,40,41,46,44,58,92]:List UInt8).contains c=true
    ·rw[qa hm]
     rw[List.contains_iff_mem]at hm;simp only[List.mem_cons,List.not_mem_nil,or_false]at hm;rcases hm with h|h|h|h|h|h|h|h|h|h|h|h <;> subst h <;> rfl
    ·rw[q7 hm]
     rw[List.contains_iff_mem]at hm;simp only[List.mem_cons,List.not_mem_nil,or_false,not_or]at hm;simp[hm]
theorem qmd{l:Lx.Bs}{i:Nat}(hd:Lx.pre l i [45,111]=true):Lx.tokAt l i=if(l[i+2]?.map Lx.part)=some true then none else some (3,i+2):=by
 obtain⟨h0,h1⟩:=Lx.pre_two hd;have hl1:i+1 < l.length:=(List.getElem?_eq_some_iff.1 h1).1
 have e1:Lx.tokAt l i=if Lx.isLong l i then some (3,i+2) else none:=by
  simp only[Lx.tokAt,h0];rfl
 have hn:∀ a b:UInt8,(a≠45\/b≠111)->Lx.pre l i [a,b]=false:=fun a b h=>by
  rw[Bool.eq_false_iff];intro e;obtain⟨g0,g1⟩:=Lx.pre_two e;rw[h0]at g0;rw[h1]at g1;rcases h with h|h
  ·exact h (zc g0).symm
  ·exact h (zc g1).symm
 have e2:Lx.isLong l i=(Lx.runTo l (i+1)==i+2):=by
  unfold Lx.isLong;rw[hd,hn 45 62 (.inr (by decide)),hn 61 62 (.inl (by decide)),hn 60 61 (.inl (by decide))];simp
 have e3:Lx.runTo l (i+1)=Lx.runTo l (i+2):=by
  rw[Lx.runTo_step hl1,qa];rw[show l[i+1]=111 from(List.getElem?_eq_some_iff.1 h1).2];decide
 rw[e1,e2,e3]
 by_cases h2:i+2 < l.length
 ·rw[Lx.runTo_step h2,qj h2]
  by_cases hp:Lx.part l[i+2]=true
  ·have hle:=(Lx.runTo_le (l:=l) (i:=i+2+1) (by omega)).1
   rw[qa hp,q7 (by rw[beq_iff_eq];omega),qa (by simp[hp])]
  ·rw[q7 hp,qa (by simp),q7 (by simpa using hp)]
 ·rw[Lx.runTo_end (by omega),List.getElem?_eq_none (by omega)]
  simp
theorem qh5:∀ j:Fin signsB.length,signsB[j].size<=2:=by decide +kernel
theorem qex(s:ByteArray)(i:Nat)(w:World)(hs:s.size<=100000)(hi:i < s.size)(hsm:Lx.small s[i]=false)(hc:Lx.capital s[i]=false) :
  Calls Tryz.prog 108 #[.string s,.int .i64 i] w fun e w'=>e = .returned (q7b (Lx.tokAt (bs s) i))/\Below w.heap.size w w':=by
 have h0:(bs s)[i]?=some s[i]:=by rw[qj (by rw[qr];exact hi),xu hi]
 have hby:=xh s[i];have CC:=qh (fun w=>q4r s[i] w);have CM:=qh (fun w=>q98 s[i] w);have CI:=qh (fun w=>qhi s ⟨#[45,111]⟩ i w hs (by decide) (by omega));have HD:=qh (qmd (l:=bs s) (i:=i));have HN:=qh (qmb h0 hsm hc);rw[hc]at CC;rw[hsm]at CM;rw[show bs ⟨#[45,111]⟩=[45,111] from rfl]at CI;obtain⟨T,hT⟩:∃ T,Lx.tokAt (bs s) i=T:=⟨_,rfl⟩;rw[hT]at HD HN ⊢;obtain⟨D,hD⟩:∃ D,Lx.pre (bs s) i [45,111]=D:=⟨_,rfl⟩;rw[hD]at HD HN CI;have hi':(i:Int) < (s.size:Int):=by omega
 clear hc hsm hT hD h0;go_enter Tryz.func108,Tryz.ntmps108
 go_wp2_with fail
 refine(CC.out _).mono ?_;rintro e1 w1⟨rfl,rfl⟩
 go_wp2_with fail
 refine(CM.out _).mono ?_;rintro e1 w1⟨rfl,rfl⟩
 go_wp2_with fail
 refine(CI.out _).mono ?_;rintro e1 w1⟨rfl,rfl⟩;clear CC CM CI
 cases D
 ·have HT:=qh (HN.out rfl)
  clear HN HD
  go_wp2_with fail
  refine(qqd _).mono ?_;rintro e1 w1⟨rfl,rfl⟩;have HS:=qh (qb4 w signsB 9);have HB:Hid (Below w.heap.size w (w.alloc (.cells (signsB.map Value.string).toArray 9))):=(Below.refl _ w).alloc (q5 _) _;generalize w.alloc (.cells (signsB.map Value.string).toArray 9)=W1 at HS HB ⊢;obtain⟨N,hN⟩:∃ N,w.heap.size=N:=⟨_,rfl⟩;rw[hN]at HS ⊢;clear hN
  have HC:Hid (∀ k,(h:k < signsB.length)->W1.cell? ⟨N,k,none⟩=some (.string signsB[k])):=qh fun k h=>by
   obtain⟨a,cap,he,hl⟩:=HS.out;simp only[Value.slice.injEq]at he;obtain⟨b,o,h1,h2⟩:=hl (by decide);rw[<-he.1,Option.some.injEq,Addr.mk.injEq]at h1;obtain⟨rfl,rfl,_⟩:=h1;have:=h2 k h
   rwa [Nat.zero_add]at this
  clear HS
  go_wp2_with fail
  go_loopw [8] (fun v wr=>∃ k:Nat,k<=17/\v = .int .i64 k/\Hid (T=q84 (bs s) i (signsB.drop k))/\W1=wr) (fun v _=>17 - (intOf v).toNat)
  case atStart=>exact⟨2,by omega,rfl,HT,rfl⟩
  case round =>
   obtain⟨k,hk,rfl,hrun,rfl⟩:=hrel
   by_cases hlt:k < 17
   ·have hlt':(k:Int) < 17:=by omega
    have hkl:k < signsB.length:=hlt;have x0:=HC.out k hkl
    have hst:q84 (bs s) i (signsB.drop k)=if Lx.pre (bs s) i (bs signsB[k]) then some (3,i+signsB[k].size) else q84 (bs s) i (signsB.drop (k+1)):=by
     rw[List.drop_eq_getElem_cons hkl];rfl
    have hsz:signsB[k].size<=2:=qh5 ⟨k,hkl⟩;generalize signsB[k]=X at x0 hst hsz;have CI:=qh (fun w=>qhi s X i w hs (by omega) (by omega));obtain⟨V,hV⟩:∃ V,Lx.pre (bs s) i (bs X)=V:=⟨_,rfl⟩;rw[hV]at CI hst;have HST:=qh hst;have nb:=block_lt_of_cell x0;clear hst hV
    go_wp2_with fail
    refine(CI.out _).mono ?_;rintro e1 w1⟨rfl,rfl⟩;clear CI
    cases V
    ·go_wp2
     go_roundw
     case rel=>exact⟨k+1,by omega,by push_cast;rfl,by rw[hrun.out,HST.out];exact qh rfl,by trivial⟩
     case measure=>simp[intOf];omega
    ·go_upto_region 21 with fail
     go_region
     all_goals go_wp2
     all_goals go_ret2
     all_goals exact⟨by rw[hrun.out,HST.out];rfl,HB.out.drew⟩
   ·have hlt':¬ ((k:Int) < 17):=by omega
    have hz:q84 (bs s) i (signsB.drop k)=none:=by rw[List.drop_of_length_le (show signsB.length<=k from by show 17<=k;omega)];rfl
    have HZ:=qh hz;clear hz;go_wp2;go_ret2;exact⟨by rw[hrun.out,HZ.out];rfl,HB.out⟩
 ·have HT:=qh (HD.out rfl)
  clear HN HD
  by_cases h2:i+2 < s.size
  ·have h2':(i:Int)+2 < (s.size:Int):=by omega
   have hb2:=xh s[i+2];have g2:(bs s)[i+2]?=some s[i+2]:=by rw[qj (by rw[qr];omega),xu (by omega)]
   rw[g2]at HT;have CP:=qh (fun w=>qo5 s[i+2] w);obtain⟨V,hV⟩:∃ V,Lx.part s[i+2]=V:=⟨_,rfl⟩;rw[hV]at CP;simp only[Option.map_some,hV]at HT;clear g2 hV
   go_wp2_with fail
   refine(CP.out _).mono ?_;rintro e1 w1⟨rfl,rfl⟩;clear CP
   cases V
   ·go_wp2
    go_ret2;exact⟨by rw[HT.out];rfl,Below.refl _ _⟩
   ·go_wp2
    go_ret2;exact⟨by rw[HT.out];rfl,Below.refl _ _⟩
  ·have h2':¬ ((i:Int)+2 < (s.size:Int)):=by omega
   have g2:(bs s)[i+2]?=none:=by rw[List.getElem?_eq_none_iff,qr];omega
   rw[g2]at HT;clear g2;go_wp2;go_ret2;exact⟨by rw[HT.out];rfl,Below.refl _ _⟩
theorem qqc(s:ByteArray)(i:Nat)(w:World)(hs:s.size<=100000)(hi:i < s.size) :
  Calls Tryz.prog 108 #[.string s,.int .i64 i] w fun e w'=>e = .returned (q7b (Lx.tokAt (bs s) i))/\Below w.heap.size w w':=by
 cases hc:Lx.capital s[i] with
 |true=>exact qag s i w hs hi hc
 |false =>
  cases hsm:Lx.small s[i] with
  |true=>exact qd4 s i w hs hi hsm
  |false=>exact qex s i w hs hi hsm hc
theorem qd5(va vb:Value)(L:List ByteArray)(w:World)(ha:qa6 w va L)(hb:qa6 w vb L)(hm:L.length<=1000000) :
  Calls Tryz.prog 30 #[va,vb] w fun e w'=>e = .returned (.bool true)/\Below w.heap.size w w':=by
 obtain⟨a,ca,rfl,hca⟩:=ha;obtain⟨b,cb,rfl,hcb⟩:=hb;go_enter Tryz.func30,Tryz.ntmps30;go_wp2
 go_loopw [5] (fun v wr=>∃ k:Nat,k<=L.length/\v = .int .i64 k/\Hid (Below w.heap.size w wr)) (fun v _=>L.length - (intOf v).toNat)
 case atStart=>exact⟨0,qp _,rfl,Below.refl _ _⟩
 case round =>
  obtain⟨k,hk,rfl,hbl⟩:=hrel
  by_cases hlt:k < L.length
  ·have hlt':(k:Int) < (L.length:Int):=by omega
   obtain⟨ba,oa,rfl,hA⟩:=hca (by rintro rfl;simp at hlt);obtain⟨bb,ob,rfl,hB⟩:=hcb (by rintro rfl;simp at hlt);have x0:=(hbl.out.cell (p:=⟨ba,oa+k,none⟩) (block_lt_of_cell (hA k hlt))).trans (hA k hlt);have y0:=(hbl.out.cell (p:=⟨bb,ob+k,none⟩) (block_lt_of_cell (hB k hlt))).trans (hB k hlt);clear hca hcb hA hB;generalize L[k]=X at x0 y0
   go_upto_region 6 with fail
   go_cut [25] (fun v wx=>v = .bool false/\Hid (Below w.heap.size w wx))
   case first =>
    go_region
    all_goals go_wp2
    all_goals go_meet
    all_goals exact⟨by simp,hbl.out.drew⟩
   case rest =>
    obtain⟨rfl,hbx⟩:=hcut;go_wp2;go_roundw
    case rel=>exact⟨k+1,hlt,by push_cast;rfl,hbx⟩
    case measure=>simp[intOf];omega
  ·have hlt':¬ ((k:Int) < (L.length:Int)):=by omega
   clear hca hcb;go_wp2;go_ret;exact⟨rfl,hbl.out⟩
def q40(a:AT):Bool:=match Lx.tokAt (bs a.t) 0 with
 |some (k,j)=>decide ((k:Int)=a.k) && decide (j=a.t.size)
 |none=>false
def q4p(a:AT):Bool:=match (bs a.t)[0]? with
 |none=>false
 |some c=>decide (a.t.size<=40) && !Lx.blank c && !decide (c.toNat=37) && q40 a
theorem qd9(a:AT)(w:World)(hz:a.t.size=0) :
  Calls Tryz.prog 125 #[.agg #[.int .i64 a.k,.string a.t,.int .i64 a.p]] w fun e w'=>e = .returned (.int .i64 12)/\Below w.heap.size w w':=by
 have hz':(a.t.size:Int)=0:=by omega
 have hz'':((a.t.size:Int)==0)=true:=by rw[hz'];rfl
 clear hz hz';go_enter Tryz.func125,Tryz.ntmps125;go_wp2;go_ret;exact⟨rfl,(Below.refl _ w).alloc (q5 _) _⟩
theorem qey(a:AT)(w:World)(hz:40 < a.t.size) :
  Calls Tryz.prog 125 #[.agg #[.int .i64 a.k,.string a.t,.int .i64 a.p]] w fun e w'=>e = .returned (.int .i64 12)/\Below w.heap.size w w':=by
 have hz':(40:Int) < (a.t.size:Int):=by omega
 have hz'':((a.t.size:Int)==0)=false:=by rw[q9];omega
 go_enter Tryz.func125,Tryz.ntmps125;go_wp2;go_ret;exact⟨rfl,(Below.refl _ w).alloc (q5 _) _⟩
theorem qcn{l:Lx.Bs}{i k j:Nat}(h:Lx.tokAt l i=some (k,j)):k≠0/\k<=4:=by
 unfold Lx.tokAt at h
 split at h
 ·cases h
 ·split at h
  ·simp only at h
   split at h
   ·simp at h;omega
   ·split at h <;> (simp at h;omega)
  ·split at h
   ·simp at h;omega
   ·split at h
    ·simp at h;omega
    ·split at h
     ·simp at h;omega
     ·cases h
theorem qhj(V:Bool)(a:AT)(w:World)(h0:0 < a.t.size)(h40:a.t.size<=40)(hV:q4p a=V) :
  Calls Tryz.prog 125 #[.agg #[.int .i64 a.k,.string a.t,.int .i64 a.p]] w fun e w'=>e = .returned (.int .i64 (if V then 0 else 12))/\Below w.heap.size w w':=by
 have g0:(bs a.t)[0]?=some a.t[0]:=by rw[qj (by rw[qr];exact h0),xu h0]
 have hV2:(!Lx.blank a.t[0] && !decide (a.t[0].toNat=37) && q40 a)=V:=by
  rw[<-hV];unfold q4p;rw[g0];simp only[decide_eq_true h40,Bool.true_and]
 have HV:=qh hV2;have CB:=qh (fun w=>qqh a.t[0] w);have CT:=qh (fun w=>qqc a.t 0 w (by omega) h0);obtain⟨B,hB⟩:∃ B,Lx.blank a.t[0]=B:=⟨_,rfl⟩;rw[hB]at HV CB;have hby:=xh a.t[0];have hz:((a.t.size:Int)==0)=false:=by rw[q9];omega
 have hz2:¬ ((40:Int) < (a.t.size:Int)):=by omega
 have hz3:(0:Int) < (a.t.size:Int):=by omega
 have HK:Hid (∀ k j,Lx.tokAt (bs a.t) 0=some (k,j)->k≠0/\k<=4):=qh fun k j h=>qcn h
 have HR:Hid (q40 a=match Lx.tokAt (bs a.t) 0 with|some (k,j)=>decide ((k:Int)=a.k) && decide (j=a.t.size)|none=>false):=qh rfl;have HJ:Hid (∀ k j,Lx.tokAt (bs a.t) 0=some (k,j)->j<=a.t.size):=qh fun k j h=>by have:=(Lx.tokAt_lt h).2;rwa [qr]at this
 obtain⟨T,hT⟩:∃ T,Lx.tokAt (bs a.t) 0=T:=⟨_,rfl⟩;rw[hT]at CT HR HK HJ;clear hV hV2 g0 hB hT
 by_cases h37:a.t[0].toNat=37
 ·have H37:=qh h37
  have h37':((a.t[0].toNat:Int)==37)=true:=by rw[h37];rfl
  obtain rfl:V=false:=by rw[<-HV.out];simp[h37]
  clear h37;go_enter Tryz.func125,Tryz.ntmps125
  go_wp2_with fail
  refine(CB.out _).mono ?_;rintro e w1⟨rfl,rfl⟩
  cases B
  ·go_wp2
   go_ret;exact⟨rfl,(Below.refl _ w).alloc (q5 _) _⟩
  ·go_wp2
   go_ret;exact⟨rfl,(Below.refl _ w).alloc (q5 _) _⟩
 ·have h37':((a.t[0].toNat:Int)==37)=false:=by rw[q9];omega
  rw[decide_eq_false h37]at HV;clear h37
  cases B
  ·simp only[Bool.not_false,Bool.true_and]at HV
   go_enter Tryz.func125,Tryz.ntmps125
   go_wp2_with fail
   refine(CB.out _).mono ?_;rintro e w1⟨rfl,rfl⟩
   go_wp2_with fail
   refine(CT.out _).mono ?_;rintro e w1⟨rfl,hb1⟩;have Hb:Hid (Below w.heap.size w w1):=((Below.refl _ w).alloc (q5 _) _).trans (hb1.mono (by simp));have x0:w1.cell? ⟨w.heap.size,0,none⟩=some (.int .i64 a.k):=(hb1.cell (p:=⟨w.heap.size,0,none⟩) (by simp)).trans (by rw[World.cell?_alloc_at _ _ _ _ rfl];rfl);have x1:w1.cell? ⟨w.heap.size,1,none⟩=some (.string a.t):=(hb1.cell (p:=⟨w.heap.size,1,none⟩) (by simp)).trans (by rw[World.cell?_alloc_at _ _ _ _ rfl];rfl);have nb:=block_lt_of_cell x0;simp only at nb;clear hb1 CT CB
   cases T with
   |none =>
    obtain rfl:V=false:=by rw[<-HV.out,HR.out]
    unfold q7b
    by_cases hk:a.k=0
    ·have hk':((0:Int) != a.k)=false:=by rw[hk];rfl
     have hz4:((0:Int) != (a.t.size:Int))=true:=by rw[bne_iff_ne];omega
     clear hk;go_wp2;go_ret;exact⟨rfl,Hb.out⟩
    ·have hk':((0:Int) != a.k)=true:=by rw[bne_iff_ne];omega
     clear hk;go_wp2;go_ret;exact⟨rfl,Hb.out⟩
   |some p =>
    obtain⟨k,j⟩:=p;unfold q7b;have hk0:=(HK.out k j rfl);have hj0:=HJ.out k j rfl;have hne:((k:Int)==0)=false:=by rw[q9];omega
    by_cases hk:(k:Int)=a.k
    ·have hk':((k:Int) != a.k)=false:=by rw[hk];simp
     by_cases hj:j=a.t.size
     ·have hj':((j:Int) != (a.t.size:Int))=false:=by rw[hj];simp
      obtain rfl:V=true:=by rw[<-HV.out,HR.out];simp[hk,hj]
      clear hk hj;go_wp2;go_ret;exact⟨rfl,Hb.out⟩
     ·have hj':((j:Int) != (a.t.size:Int))=true:=by rw[bne_iff_ne];omega
      obtain rfl:V=false:=by rw[<-HV.out,HR.out];simp[hj]
      clear hk hj;go_wp2;go_ret;exact⟨rfl,Hb.out⟩
    ·have hk':((k:Int) != a.k)=true:=by rw[bne_iff_ne];exact hk
     obtain rfl:V=false:=by rw[<-HV.out,HR.out];simp[hk]
     clear hk;go_wp2;go_ret;exact⟨rfl,Hb.out⟩
  ·obtain rfl:V=false:=by rw[<-HV.out];rfl
   go_enter Tryz.func125,Tryz.ntmps125
   go_wp2_with fail
   refine(CB.out _).mono ?_;rintro e w1⟨rfl,rfl⟩;go_wp2;go_ret;exact⟨rfl,(Below.refl _ w).alloc (q5 _) _⟩
theorem q7r(l:Lx.Bs)(Q:Lx.Tok->Prop)(hQ:∀ i k j,i < l.length->Lx.tokAt l i=some (k,j)->j - i<=40->Q ⟨k,Lx.slice l i j,i⟩) :
  ∀ (f:Nat) (pre:List Lx.Tok) (i:Nat) (ts:List Lx.Tok),(∀ t∈pre,Q t)->Lx.scanT l f pre i = .toks ts->∀ t∈ts,Q t
 |0,_,_,_,hp,h=>by simp[Lx.scanT]at h;subst h;exact hp
 |f+1,pre,i,ts,hp,h=>by
  unfold Lx.scanT at h
  split at h
  ·simp at h;subst h;exact hp
  ·rename_i hi
   split at h
   ·simp at h
   ·rename_i k j ht
    split at h
    ·simp at h
    ·split at h
     ·simp at h
     ·rename_i h40
      refine q7r l Q hQ f _ _ _ (fun t hm=>?_) h;rcases List.mem_append.1 hm with hm|hm
      ·exact hp t hm
      ·obtain rfl:=List.mem_singleton.1 hm
       exact hQ i k j (by omega) ht (by omega)
theorem q4m{l:Lx.Bs}{ts:List Lx.Tok}(h:Lx.scan l = .toks ts)(Q:Lx.Tok->Prop)(hQ:∀ i k j,i < l.length->l.length<=20000->Lx.tokAt l i=some (k,j)->j - i<=40->Q ⟨k,Lx.slice l i j,i⟩):l.length<=20000/\∀ t∈ts,Q t:=by
 unfold Lx.scan at h
 split at h
 ·simp at h
 ·rename_i hl
  exact⟨by omega,q7r l Q (fun i k j hi=>hQ i k j hi (by omega)) _ _ _ _ (by simp) h⟩
theorem qb6(l:Lx.Bs)(i j:Nat):(Lx.slice l i j).length<=j - i:=by
 unfold Lx.slice;rw[List.length_take];omega
theorem qh4{l:Lx.Bs}{i j:Nat}(hi:i < l.length)(hj:i < j):∃ r,Lx.slice l i j=l[i] :: r:=by
 unfold Lx.slice;rw[List.drop_eq_getElem_cons hi];obtain⟨m,hm⟩:∃ m,j - i=m+1:=⟨j - i - 1,by omega⟩;rw[hm,List.take_succ_cons];exact⟨_,rfl⟩
theorem q7q{l:Lx.Bs}{ts:List Lx.Tok}(h:Lx.scan l = .toks ts):∀ t∈ts,t.text.length<=40/\t.pos<=20000/\t.kind<=4 :=
 (q4m h (fun t=>t.text.length<=40/\t.pos<=20000/\t.kind<=4) fun _i _k _j hi hl ht h40=>⟨ql (qb6 _ _ _) h40,ql (vn hi) hl,(qcn ht).2⟩).2
theorem qmc{l:Lx.Bs}{i k j:Nat}(hi:i < l.length)(h:Lx.tokAt l i=some (k,j))(hk:k=1\/k=2):∀ s∈q34,Lx.slice l i j≠s:=by
 have hlt:=(Lx.tokAt_lt h).1;obtain⟨r,hr⟩:=qh4 hi hlt;unfold Lx.tokAt at h;rw[qj hi]at h;simp only at h;intro s hs e;rw[hr]at e
 split at h
 ·rename_i hsm
  split at h
  ·simp at h;omega
  ·rename_i ho
   split at h
   ·simp at h;omega
   ·rename_i hw
    simp only[Option.some.injEq,Prod.mk.injEq]at h;obtain⟨_,rfl⟩:=h;rw[hr,e]at hw;have hc:∀ c r',s=c :: r'->Lx.small c=true:=fun c r' hc=>by rw[hc]at e;rw[<-(List.cons.inj e).1];exact hsm
    simp only[q34,List.mem_cons,List.not_mem_nil,or_false]at hs;rcases hs with rfl|rfl|rfl|rfl|rfl|rfl|rfl|rfl|rfl|rfl|rfl|rfl|rfl|rfl|rfl|rfl|rfl|rfl|rfl|rfl|rfl
    all_goals first
     |exact absurd (hc _ _ rfl) (by decide)
     |exact hw (by decide)
     |skip
    have e0:l[i]=111:=(List.cons.inj e).1;have hs2:Lx.slice l i (Lx.nameTo l i)=[111,45]:=by rw[hr,e]
    have h1:l[i+1]?=some 45:=by
     have:=congrArg (fun x:Lx.Bs=>x[1]?) hs2;simp only[Lx.slice]at this;rw[List.getElem?_take]at this
     split at this
     ·rw[List.getElem?_drop]at this;exact this
     ·cases this
    have hi1:i+1 < l.length:=by
     rcases Nat.lt_or_ge (i+1) l.length with h'|h'
     ·exact h'
     ·rw[List.getElem?_eq_none h']at h1;cases h1
    have h1':l[i+1]=45:=by rw[qj hi1]at h1;exact zc h1
    have hrun:Lx.runTo l i=i+1:=by
     rw[Lx.runTo_step hi,e0,qa (by decide),Lx.runTo_step hi1,h1',q7 (by decide)]
    have hn:Lx.nameTo l i=i+1:=by
     unfold Lx.nameTo;simp only[hrun];rw[q7];rintro⟨h2,_⟩;rw[h1]at h2
     cases h2
    have:=congrArg List.length hs2;have h3:=qb6 l i (Lx.nameTo l i);rw[this,hn]at h3;simp at h3
 ·rename_i hsm
  split at h
  ·rename_i hcap
   have hc:∀ c r',s=c :: r'->Lx.capital c=true:=fun c r' hc=>by rw[hc]at e;rw[<-(List.cons.inj e).1];exact hcap
   simp only[q34,List.mem_cons,List.not_mem_nil,or_false]at hs;rcases hs with rfl|rfl|rfl|rfl|rfl|rfl|rfl|rfl|rfl|rfl|rfl|rfl|rfl|rfl|rfl|rfl|rfl|rfl|rfl|rfl|rfl
   all_goals exact absurd (hc _ _ rfl) (by decide)
  ·split at h
   ·simp at h;omega
   ·split at h
    ·simp at h;omega
    ·simp at h
theorem qhb{l:Lx.Bs}{ts:List Lx.Tok}(h:Lx.scan l = .toks ts):vt ts:=by
 have H:=(q4m h (fun t=>t.kind=1\/t.kind=2->∀ s∈q34,t.text≠s) fun i k j hi hl ht h40 hk=>qmc hi ht hk).2;intro q hk s hs;unfold Sx.knd at hk;unfold Sx.txt
 cases ht:ts[q]? with
 |none=>rw[ht]at hk;simp at hk
 |some t =>
  rw[ht]at hk;exact H t (List.mem_of_getElem? ht) hk s hs
theorem q4s{B:Nat}{s:ByteArray}{l:List Lx.Tok}{v:Value}{w:World}{pb mi mp:Nat}(hl:Lx.scan (bs s) = .toks l)(ht:Toks B v l w)(gl:GLw w)
  (hrow:w.heap[pb]?=some (.cells #[v,.int .i64 0,.int .i64 (s.size:Nat),.map (some mi),.map (some mp)] 103 (0,0))) (hmi:StrMap w mi ji) (hmp:StrMap w mp vw) (hni:mi≠pb) (hnp:mp≠pb) (hp:2<=pb) :
  ∃ E:PE,E.pb=pb/\E.ts=l/\E.en=s.size/\PS E 0 w:=by
 have h6:=qcx hl
 have hsz:s.size<=20000:=by
  have:=(q4m hl (fun _=>True) fun _ _ _ _ _ _ _=>trivial).1
  rwa [qr]at this
 have hsm:=q7q hl;have hsl:=ht.sl;rcases ht.2 with ⟨rfl,hn⟩|⟨g,cap,cur,rfl,hg,hh,hnc,_,_,_⟩
 ·obtain rfl:l=[]:=List.length_eq_zero_iff.1 hn
  exact⟨⟨pb,[],none,0,0,0,s.size,mi,mp⟩,rfl,rfl,rfl,⟨hrow,qp _,⟨by simp,by simp,hsz,fun h=>absurd rfl h,fun h=>absurd rfl h,q5 _,fun i hi=>absurd hi (Nat.not_lt_zero _),fun i hi=>absurd hi (Nat.not_lt_zero _),fun i hi=>absurd hi (Nat.not_lt_zero _),hp,gl,hni,hnp,hmi,hmp⟩⟩⟩
 ·obtain⟨a,cap',he,hcs⟩:=hsl
  have hts:∀ i (hi:i < l.length),qof w g (0+i*3) (wu l[i]):=by
   intro i hi;have hne:l.map wu≠[]:=by intro e;rw[List.map_eq_nil_iff]at e;subst e;simp at hi
   obtain⟨b,o,ha,hc⟩:=hcs hne;rw[ha]at he
   injection he with he1 he2 he3
   injection he1 with he1
   injection he1 with hb ho
   subst hb;subst ho;have:=hc i (by rw[qv];exact hi)
   rwa [List.getElem_map]at this
  refine⟨⟨pb,l,some ⟨g,0,none⟩,g,0,cap,s.size,mi,mp⟩,rfl,rfl,rfl,⟨hrow,qp _,⟨h6,hsm,hsz,fun _=>rfl,fun hne hgp=>?_,hnc,fun i hi=>(hts i hi).1,fun i hi=>(hts i hi).2.1,fun i hi=>(hts i hi).2.2,hp,gl,hni,hnp,hmi,hmp⟩⟩⟩;simp only at hgp;have h0:0 < l.length:=List.length_pos_iff.2 hne;have c:=(hts 0 h0).2.1;rw[hgp,qk _ _ _ _ _ _ hrow]at c;simp at c
theorem qmy(s:ByteArray)(l:List Lx.Tok)(hl:Lx.scan (bs s) = .toks l)(w:World)(hw:2<=w.heap.size)(gl:GLw w)(hs:s.size<=maxLen)(g:Nat)(eg:∀ args w,(callFunc g args).run Tryz.prog w = .ok (.enter g args) w)(q:Nat)
  (CW:∀ (E:PE) w,E.ts=l->E.en=s.size->PS E 0 w->Calls Tryz.prog g #[.pointer (some ⟨E.pb,0,none⟩)] w (Gr E w (.bad q))) :
  Calls Tryz.prog 39 #[.string s,F_ g] w fun e w'=>(∀ E:PE,E.ts=l->E.en=s.size->e = .returned (.tuple #[.agg #[.int .i64 0,.string ⟨#[]⟩,.slice none 0 0],.int .i64 (E.pos q:Nat),.int .i64 20]))/\Below w.heap.size w w':=by
 have C:=qh (fun w=>q2v s l hl w hs);have CI:=qh q2y;have CP:=qh q2x;have CW':=qh CW;have Hl:=qh hl;have GL:=qh gl;have hmf:∀ (fn:Fn) (first cap:Array Value) (w:World),(Instr.makeFunc fn first cap).run Tryz.prog w = .ok (.func fn first cap) w:=fun _ _ _ _=>rfl
 have eg2:∀ args w,(callFunc 78 args).run Tryz.prog w = .ok (.enter 78 args) w:=enters_of Tryz.func78 (by kernel_rfl) rfl;have hb0:=qh (((Below.refl w.heap.size w).alloc (q5 _) (.cells #[.int .i64 0,.string ⟨#[]⟩,.slice none 0 0] 25)).alloc (by simp) (.cells #[.int .i64 0] 3)|>.alloc (by simp;omega) (.cells #[.int .i64 0] 26));clear hl gl CW;unfold F_
 go_enter_defers Tryz.func39,Tryz.ntmps39
 go_wp2_with fail
 refine(C.out _).mono ?_;rintro e w1⟨v,rfl,ht,hb⟩;obtain⟨va,vcap,rfl⟩:=ku ht;have z1:=hb.size;simp only[q6]at z1 ht;have bx0:Row3 w1 w.heap.size (.int .i64 0) (.string ⟨#[]⟩) (.slice none 0 0):=(hb.block w.heap.size (by simp only[q6];omega)).trans (q1f w _ _ _);have bx1:Boxed w1 (w.heap.size+1) 3 (.int .i64 0):=(hb.block (w.heap.size+1) (by simp only[q6];omega)).trans (q0m w _ _ _);have bx2:Boxed w1 (w.heap.size+1+1) 26 (.int .i64 0):=(hb.block (w.heap.size+1+1) (by simp only[q6];omega)).trans (q0l w _ _ _);have B1:=qh (hb0.out.trans (hb.mono (by simp only[q6];omega)));have d1:=bx1.cell;have d2:=bx2.cell;have f1:=bx1.frozen;have f2:=bx2.frozen;have l0:=bx0.lt;have l1:=bx1.lt;have l2:=bx2.lt;have R0:=qh bx0;have X1:=qh bx1;have X2:=qh bx2;have HT:=qh ht;clear hb bx0 bx1 bx2 z1 hb0 ht
 go_wp2_with fail
 generalize hW2:World.setCell (World.setCell w1 _ _) _ _=W2;have S2:W2.heap.size=w1.heap.size:=by rw[<-hW2,qq,qq]
 have R2:=qh (show Row3 W2 w.heap.size (.int .i64 0) (.string ⟨#[]⟩) (.slice none 0 0)by
  rw[<-hW2]
  exact(R0.out.other (p:=⟨w.heap.size+1,0,none⟩) _ (by simp)).other (p:=⟨w.heap.size+1+1,0,none⟩) _ (by simp only;omega))
 have Y1:=qh (show Boxed W2 (w.heap.size+1) 3 (.int .i64 0)by
  rw[<-hW2]
  exact zk (Boxed.set _ X1.out) ⟨w.heap.size+1+1,0,none⟩ (by simp only;omega))
 have Y2:=qh (show Boxed W2 (w.heap.size+1+1) 26 (.int .i64 0)by
  rw[<-hW2]
  exact Boxed.set _ (zk X2.out ⟨w.heap.size+1,0,none⟩ (by simp only;omega)))
 have B2:=qh (show Below w.heap.size w W2 by
  rw[<-hW2]
  exact(B1.out.setCell (p:=⟨w.heap.size+1,0,none⟩) (by simp) _).setCell (p:=⟨w.heap.size+1+1,0,none⟩) (by simp only;omega) _)
 have T2:=qh (show Toks (w.heap.size+1+1+1) (.slice va l.length vcap) l W2 by
  rw[<-hW2]
  exact zi HT.out fun k hk _ _=>(Below.heap_setCell _ _ _ _ (by simp only;omega)).trans (Below.heap_setCell _ _ _ _ (by simp only;omega)))
 clear hW2 d1 d2 f1 f2 R0 X1 X2 B1 HT C;refine(CI.out _).mono ?_;rintro e w3⟨rfl,m3,b3⟩;simp only[S2]at m3 b3;have M3:=qh m3;have b3':=qh b3;have z3:=m3.lt;clear m3 b3 CI
 go_wp2_with fail
 refine(CP.out _).mono ?_;rintro e w4⟨rfl,m4,b4⟩;have M4:=qh m4;have b4':=qh b4;have z4:=m4.lt;clear m4 b4 CP
 go_wp2_with fail
 generalize hW5:w4.alloc (.cells #[.slice va l.length vcap,.int .i64 0,.int .i64 (s.size:Nat),.map (some w1.heap.size),.map (some w3.heap.size)] 103)=W5;have z5:W5.heap.size=w4.heap.size+1:=by rw[<-hW5,q6]
 have row5:W5.heap[w4.heap.size]?=some (.cells #[.slice va l.length vcap,.int .i64 0,.int .i64 (s.size:Nat),.map (some w1.heap.size),.map (some w3.heap.size)] 103 (0,0)):=by
  rw[<-hW5];exact qm w4 _
 have b5:Below w4.heap.size w4 W5:=by rw[<-hW5];exact(Below.refl _ _).alloc (q5 _) _
 have HK:∀ k,k < w1.heap.size->W5.heap[k]?=W2.heap[k]?:=fun k hk=>(b5.block k (by omega)).trans ((b4'.out.block k (by omega)).trans (b3'.out.block k hk))
 have BB:=qh (B2.out.trans ((b3'.out.trans ((b4'.out.trans (b5.mono (by omega))).mono (by omega))).mono (by omega)));have GL5:=GL.out.keep fun b hb _=>BB.out.block b (by omega)
 have T5:=zt (zt (zt T2.out (by rw[S2];exact b3'.out)) b4'.out) b5;obtain⟨E,e1,e2,e3,hPS⟩:=q4s Hl.out T5 GL5 row5 ((M3.out.keep (b4'.out.block _ (by omega))).keep (b5.block _ (by omega))) (M4.out.keep (b5.block _ (by omega))) (by omega) (by omega) (by omega);have K:=CW'.out E _ e2 e3 hPS;rw[e1]at K;clear hW5 row5 b5 GL5 T5 M3 M4 CW' GL hPS;refine K.mono ?_;rintro e w6⟨rfl,hm,hq⟩;have HK6:∀ k,k < w1.heap.size->w6.heap[k]?=W2.heap[k]?:=fun k hk=>(hm.blk k (by omega) (by omega)).trans (HK k hk)
 have B6:=qh ((BB.out.setCell (p:=⟨E.pb,1,none⟩) (by simp only;omega) (.int .i64 (q:Nat))).trans (Below.mono hm (by omega)));have R6:=qh (show Row3 w6 w.heap.size (.int .i64 0) (.string ⟨#[]⟩) (.slice none 0 0) from(HK6 _ (by omega)).trans R2.out);have U1:=qh (show Boxed w6 (w.heap.size+1) 3 (.int .i64 0) from(HK6 _ (by omega)).trans Y1.out);have U2:=qh (show Boxed w6 (w.heap.size+1+1) 26 (.int .i64 0) from(HK6 _ (by omega)).trans Y2.out);clear K hm hq HK HK6 BB R2 Y1 Y2 T2 b3' b4' B2
 go_wp2_with fail
 refine leaves_cons (f:=78) (args:=#[.pointer (some ⟨w.heap.size,0,none⟩),.pointer (some ⟨w.heap.size+1,0,none⟩),.pointer (some ⟨w.heap.size+1+1,0,none⟩)]) (by simp) (by simp[invoke,go_sem,eg2]) ?_;unfold xz;refine(q6i w.heap.size (E.pos q) [] _ _ _ 0 0 w6 R6.out U1.out.cell U2.out.cell U1.out.frozen U2.out.frozen).mono ?_;rintro e u' w7⟨rfl,rfl,b7,r7,x7,y7⟩;obtain⟨⟨c0,c1,c2⟩,_⟩:=r7.cells;refine⟨.tuple #[.agg #[.int .i64 0,.string ⟨#[]⟩,.slice none 0 0],.int .i64 (E.pos q:Nat),.int .i64 20],by simp[results,Tryz.results39,go_sem,c0,c1,c2,x7,y7],fun E' h1 h2=>?_,B6.out.trans b7⟩;have hE:E'.pos q=E.pos q:=by unfold PE.pos;rw[h1,h2,e2,e3]
 rw[hE]
theorem PS.aside{E:PE}{q:Nat}{w w':World}{b:Nat}{v0 v1:Value}{a:Option Addr}{n c:Nat}(h:PS E q w)(hR:Row3 w b v0 v1 (.slice a n c))(h2:2<=b)(he:∀ j,j≠b->w'.heap[j]?=w.heap[j]?):PS E q w':=by
 have hpb:E.pb≠b:=by
  intro e;have h1:=h.row;rw[e]at h1;have:=h1.symm.trans hR;simp[PE.row]at this
 have hmi:E.mi≠b:=by
  intro e;obtain⟨es,k,h1,_⟩:=h.g.mi;rw[e]at h1;have:=h1.symm.trans hR;simp at this
 have hmp:E.mp≠b:=by
  intro e;obtain⟨es,k,h1,_⟩:=h.g.mp;rw[e]at h1;have:=h1.symm.trans hR;simp at this
 have htb:∀ i,i < E.ts.length->E.tb≠b:=by
  intro i hi e;have c2:=h.g.c2 i hi;rw[e,qk _ _ _ _ _ _ hR]at c2;rcases Nat.lt_or_ge (E.off+i*3+2) 3 with hl|hl
  ·have h0:E.off+i*3+2=2:=by omega
   rw[h0]at c2;simp at c2
  ·rw[Array.getElem?_eq_none (by simpa using hl)]at c2
   cases c2
 have hc:∀ i,i < E.ts.length->∀ p,w'.cell? ⟨E.tb,p,none⟩=w.cell? ⟨E.tb,p,none⟩:=fun i hi p=>World.cell?_of_block (w:=w) (he E.tb (htb i hi))
 exact⟨(he _ hpb).trans h.row,h.le,⟨h.g.few,h.g.small,h.g.endS,h.g.ha,h.g.hb,h.g.hc,fun i hi=>(hc i hi _).trans (h.g.c0 i hi),fun i hi=>(hc i hi _).trans (h.g.c1 i hi),fun i hi=>(hc i hi _).trans (h.g.c2 i hi),h.g.hp,h.g.gl.keep (fun j hj _=>he j (by omega)),h.g.hmi,h.g.hmp,h.g.mi.keep (he _ hmi),h.g.mp.keep (he _ hmp)⟩⟩
theorem qhn(s:ByteArray)(l:List Lx.Tok)(hl:Lx.scan (bs s) = .toks l)(w:World)(hw:2<=w.heap.size)(gl:GLw w)(hs:s.size<=maxLen)(g:Nat)(eg:∀ args w,(callFunc g args).run Tryz.prog w = .ok (.enter g args) w)(q:Nat)(k:Int)(sx:ByteArray)(kids:List Nd)(hql:q < l.length)
  (CW:∀ (E:PE) w,E.ts=l->E.en=s.size->PS E 0 w->Calls Tryz.prog g #[.pointer (some ⟨E.pb,0,none⟩)] w (Gr E w (.ok (.mk k sx kids) q))) :
  Calls Tryz.prog 39 #[.string s,F_ g] w fun e w'=>(∀ E:PE,E.ts=l->E.en=s.size->e = .returned (.tuple #[.agg #[.int .i64 0,.string ⟨#[]⟩,.slice none 0 0],.int .i64 (E.pos q:Nat),.int .i64 20]))/\Below w.heap.size w w':=by
 have C:=qh (fun w=>q2v s l hl w hs);have CI:=qh q2y;have CP:=qh q2x;have CW':=qh CW;have Hl:=qh hl;have GL:=qh gl;have hmf:∀ (fn:Fn) (first cap:Array Value) (w:World),(Instr.makeFunc fn first cap).run Tryz.prog w = .ok (.func fn first cap) w:=fun _ _ _ _=>rfl
 have eg2:∀ args w,(callFunc 78 args).run Tryz.prog w = .ok (.enter 78 args) w:=enters_of Tryz.func78 (by kernel_rfl) rfl;have hb0:=qh (((Below.refl w.heap.size w).alloc (q5 _) (.cells #[.int .i64 0,.string ⟨#[]⟩,.slice none 0 0] 25)).alloc (by simp) (.cells #[.int .i64 0] 3)|>.alloc (by simp;omega) (.cells #[.int .i64 0] 26));clear hl gl CW;unfold F_
 go_enter_defers Tryz.func39,Tryz.ntmps39
 go_wp2_with fail
 refine(C.out _).mono ?_;rintro e w1⟨v,rfl,ht,hb⟩;obtain⟨va,vcap,rfl⟩:=ku ht;have z1:=hb.size;simp only[q6]at z1 ht;have bx0:Row3 w1 w.heap.size (.int .i64 0) (.string ⟨#[]⟩) (.slice none 0 0):=(hb.block w.heap.size (by simp only[q6];omega)).trans (q1f w _ _ _);have bx1:Boxed w1 (w.heap.size+1) 3 (.int .i64 0):=(hb.block (w.heap.size+1) (by simp only[q6];omega)).trans (q0m w _ _ _);have bx2:Boxed w1 (w.heap.size+1+1) 26 (.int .i64 0):=(hb.block (w.heap.size+1+1) (by simp only[q6];omega)).trans (q0l w _ _ _);have B1:=qh (hb0.out.trans (hb.mono (by simp only[q6];omega)));have d1:=bx1.cell;have d2:=bx2.cell;have f1:=bx1.frozen;have f2:=bx2.frozen;have l0:=bx0.lt;have l1:=bx1.lt;have l2:=bx2.lt;have R0:=qh bx0;have X1:=qh bx1;have X2:=qh bx2;have HT:=qh ht;clear hb bx0 bx1 bx2 z1 hb0 ht
 go_wp2_with fail
 generalize hW2:World.setCell (World.setCell w1 _ _) _ _=W2;have S2:W2.heap.size=w1.heap.size:=by rw[<-hW2,qq,qq]
 have R2:=qh (show Row3 W2 w.heap.size (.int .i64 0) (.string ⟨#[]⟩) (.slice none 0 0)by
  rw[<-hW2]
  exact(R0.out.other (p:=⟨w.heap.size+1,0,none⟩) _ (by simp)).other (p:=⟨w.heap.size+1+1,0,none⟩) _ (by simp only;omega))
 have Y1:=qh (show Boxed W2 (w.heap.size+1) 3 (.int .i64 0)by
  rw[<-hW2]
  exact zk (Boxed.set _ X1.out) ⟨w.heap.size+1+1,0,none⟩ (by simp only;omega))
 have Y2:=qh (show Boxed W2 (w.heap.size+1+1) 26 (.int .i64 0)by
  rw[<-hW2]
  exact Boxed.set _ (zk X2.out ⟨w.heap.size+1,0,none⟩ (by simp only;omega)))
 have B2:=qh (show Below w.heap.size w W2 by
  rw[<-hW2]
  exact(B1.out.setCell (p:=⟨w.heap.size+1,0,none⟩) (by simp) _).setCell (p:=⟨w.heap.size+1+1,0,none⟩) (by simp only;omega) _)
 have T2:=qh (show Toks (w.heap.size+1+1+1) (.slice va l.length vcap) l W2 by
  rw[<-hW2]
  exact zi HT.out fun k hk _ _=>(Below.heap_setCell _ _ _ _ (by simp only;omega)).trans (Below.heap_setCell _ _ _ _ (by simp only;omega)))
 clear hW2 d1 d2 f1 f2 R0 X1 X2 B1 HT C;refine(CI.out _).mono ?_;rintro e w3⟨rfl,m3,b3⟩;simp only[S2]at m3 b3;have M3:=qh m3;have b3':=qh b3;have z3:=m3.lt;clear m3 b3 CI
 go_wp2_with fail
 refine(CP.out _).mono ?_;rintro e w4⟨rfl,m4,b4⟩;have M4:=qh m4;have b4':=qh b4;have z4:=m4.lt;clear m4 b4 CP
 go_wp2_with fail
 generalize hW5:w4.alloc (.cells #[.slice va l.length vcap,.int .i64 0,.int .i64 (s.size:Nat),.map (some w1.heap.size),.map (some w3.heap.size)] 103)=W5;have z5:W5.heap.size=w4.heap.size+1:=by rw[<-hW5,q6]
 have row5:W5.heap[w4.heap.size]?=some (.cells #[.slice va l.length vcap,.int .i64 0,.int .i64 (s.size:Nat),.map (some w1.heap.size),.map (some w3.heap.size)] 103 (0,0)):=by
  rw[<-hW5];exact qm w4 _
 have b5:Below w4.heap.size w4 W5:=by rw[<-hW5];exact(Below.refl _ _).alloc (q5 _) _
 have HK:∀ k,k < w1.heap.size->W5.heap[k]?=W2.heap[k]?:=fun k hk=>(b5.block k (by omega)).trans ((b4'.out.block k (by omega)).trans (b3'.out.block k hk))
 have BB:=qh (B2.out.trans ((b3'.out.trans ((b4'.out.trans (b5.mono (by omega))).mono (by omega))).mono (by omega)));have GL5:=GL.out.keep fun b hb _=>BB.out.block b (by omega)
 have T5:=zt (zt (zt T2.out (by rw[S2];exact b3'.out)) b4'.out) b5;obtain⟨E,e1,e2,e3,hPS⟩:=q4s Hl.out T5 GL5 row5 ((M3.out.keep (b4'.out.block _ (by omega))).keep (b5.block _ (by omega))) (M4.out.keep (b5.block _ (by omega))) (by omega) (by omega) (by omega);have K:=CW'.out E _ e2 e3 hPS;rw[e1]at K;clear hW5 row5 b5 GL5 T5 M3 M4 CW' GL;refine K.mono ?_;rintro e w6⟨⟨va6,vc6,rfl,_⟩,hm,hq⟩;have HK6:∀ k,k < w1.heap.size->w6.heap[k]?=W2.heap[k]?:=fun k hk=>(hm.blk k (by omega) (by omega)).trans (HK k hk)
 have B6:=qh ((BB.out.setCell (p:=⟨E.pb,1,none⟩) (by simp only;omega) (.int .i64 (q:Nat))).trans (Below.mono hm (by omega)));have R6:=qh (show Row3 w6 w.heap.size (.int .i64 0) (.string ⟨#[]⟩) (.slice none 0 0) from(HK6 _ (by omega)).trans R2.out);have U1:=qh (show Boxed w6 (w.heap.size+1) 3 (.int .i64 0) from(HK6 _ (by omega)).trans Y1.out);have U2:=qh (show Boxed w6 (w.heap.size+1+1) 26 (.int .i64 0) from(HK6 _ (by omega)).trans Y2.out);have P6:=qh (hm.ps hPS hq);have hpz:w.heap.size < E.pb:=by omega
 have l6:=hm.size;obtain⟨⟨c0,c1,c2⟩,g0,g1,g2⟩:=R6.out.cells;clear K hm hq HK HK6 BB R2 Y1 Y2 T2 b3' b4' B2 hPS;have h6a:=R6.out.lt;have D:=qh (fun w h=>q0a E q w h)
 go_wp2_with fail
 generalize hW7:World.setCell (World.setCell (World.setCell w6 _ _) _ _) _ _=W7
 have HE:∀ j,j≠w.heap.size->W7.heap[j]?=w6.heap[j]?:=fun j hj=>by
  rw[<-hW7];exact(Below.heap_setCell _ _ _ _ hj).trans ((Below.heap_setCell _ _ _ _ hj).trans (Below.heap_setCell _ _ _ _ hj))
 have R7:=qh (show Row3 W7 w.heap.size (.int .i64 k) (.string sx) (.slice va6 kids.length vc6)by rw[<-hW7];exact R6.out.put _ _ _);have P7:=qh (P6.out.aside R6.out hw HE);have N1:=qh (show Boxed W7 (w.heap.size+1) 3 (.int .i64 0) from(HE _ (by omega)).trans U1.out);have N2:=qh (show Boxed W7 (w.heap.size+1+1) 26 (.int .i64 0) from(HE _ (by omega)).trans U2.out);have B7:=qh (show Below w.heap.size w W7 by rw[<-hW7];exact y4 B6.out (q5 _) _ _ _);obtain⟨p0,p1,p2,p3,p4⟩:=P7.out.cells;have pz:=P7.out.lt;rw[e1]at p0 p1;rw[e2]at p0;have hlt:(q:Int) < (l.length:Int):=by omega
 clear hW7 HE R6 P6 U1 U2 B6 c0 c1 c2 g0 g1 g2 p2 p3 p4
 go_quiet (fail)
 generalize hW8:W7.drewN _=W8;have b8:Below W7.heap.size W7 W8:=by rw[<-hW8];exact below_drewN (Below.refl _ _) _
 have K8:=D.out _ (P7.out.later b8);rw[e1]at K8;have h7:=R7.out.lt;have h71:=N1.out.lt;have h72:=N2.out.lt;have z8:=b8.size;have HB8:=qh b8;clear hW8 b8 p0 p1 D
 go_wp2_with fail
 refine K8.mono ?_;rintro e w9⟨rfl,b9⟩;have b89:=HB8.out.trans (b9.mono z8);have R6:=qh (show Row3 w9 w.heap.size (.int .i64 k) (.string sx) (.slice va6 kids.length vc6) from(b89.block _ h7).trans R7.out);have U1:=qh (show Boxed w9 (w.heap.size+1) 3 (.int .i64 0) from(b89.block _ h71).trans N1.out);have U2:=qh (show Boxed w9 (w.heap.size+1+1) 26 (.int .i64 0) from(b89.block _ h72).trans N2.out);have B6:=qh (B7.out.trans (b89.mono (by omega)));clear b89 b9 HB8 K8 P7 N1 N2 B7 R7
 go_wp2_with fail
 refine leaves_cons (f:=78) (args:=#[.pointer (some ⟨w.heap.size,0,none⟩),.pointer (some ⟨w.heap.size+1,0,none⟩),.pointer (some ⟨w.heap.size+1+1,0,none⟩)]) (by simp) (by simp[invoke,go_sem,eg2]) ?_;unfold xz;refine(q6i w.heap.size (E.pos q) [] _ _ _ 0 0 w9 R6.out U1.out.cell U2.out.cell U1.out.frozen U2.out.frozen).mono ?_;rintro e u' w10⟨rfl,rfl,b7,r7,x7,y7⟩;obtain⟨⟨c0,c1,c2⟩,_⟩:=r7.cells;refine⟨.tuple #[.agg #[.int .i64 0,.string ⟨#[]⟩,.slice none 0 0],.int .i64 (E.pos q:Nat),.int .i64 20],by simp[results,Tryz.results39,go_sem,c0,c1,c2,x7,y7],fun E' h1 h2=>?_,B6.out.trans b7⟩;have hE:E'.pos q=E.pos q:=by unfold PE.pos;rw[h1,h2,e2,e3]
 rw[hE]
theorem qkh(s:ByteArray)(l:List Lx.Tok)(hl:Lx.scan (bs s) = .toks l)(w:World)(hw:2<=w.heap.size)(gl:GLw w)(hs:s.size<=maxLen)(g:Nat)(eg:∀ args w,(callFunc g args).run Tryz.prog w = .ok (.enter g args) w)(q:Nat)(k:Int)(sx:ByteArray)(kids:List Nd)(hql:q=l.length)(er:Nat)(he:((er:Int)==0)=true)
  (CK:∀ va vc w,NdR w (.mk k sx kids) (.int .i64 k) (.string sx) (.slice va kids.length vc)->Calls Tryz.prog 45 #[.agg #[.int .i64 k,.string sx,.slice va kids.length vc]] w fun e w'=>e = .returned (.int .i64 er)/\Below w.heap.size w w')
  (CW:∀ (E:PE) w,E.ts=l->E.en=s.size->PS E 0 w->Calls Tryz.prog g #[.pointer (some ⟨E.pb,0,none⟩)] w (Gr E w (.ok (.mk k sx kids) q))) :
  Calls Tryz.prog 39 #[.string s,F_ g] w fun e w'=>(∃ va vc,e = .returned (.tuple #[.agg #[.int .i64 k,.string sx,.slice va kids.length vc],.int .i64 0,.int .i64 0])/\NdS (fun b=>w.heap.size<=b) w' (.mk k sx kids) (.int .i64 k) (.string sx) (.slice va kids.length vc))/\Below w.heap.size w w':=by
 have C:=qh (fun w=>q2v s l hl w hs);have CI:=qh q2y;have CP:=qh q2x;have CW':=qh CW;have Hl:=qh hl;have GL:=qh gl;have hmf:∀ (fn:Fn) (first cap:Array Value) (w:World),(Instr.makeFunc fn first cap).run Tryz.prog w = .ok (.func fn first cap) w:=fun _ _ _ _=>rfl
 have eg2:∀ args w,(callFunc 78 args).run Tryz.prog w = .ok (.enter 78 args) w:=enters_of Tryz.func78 (by kernel_rfl) rfl;have hb0:=qh (((Below.refl w.heap.size w).alloc (q5 _) (.cells #[.int .i64 0,.string ⟨#[]⟩,.slice none 0 0] 25)).alloc (by simp) (.cells #[.int .i64 0] 3)|>.alloc (by simp;omega) (.cells #[.int .i64 0] 26));clear hl gl CW;unfold F_
 go_enter_defers Tryz.func39,Tryz.ntmps39
 go_wp2_with fail
 refine(C.out _).mono ?_;rintro e w1⟨v,rfl,ht,hb⟩;obtain⟨va,vcap,rfl⟩:=ku ht;have z1:=hb.size;simp only[q6]at z1 ht;have bx0:Row3 w1 w.heap.size (.int .i64 0) (.string ⟨#[]⟩) (.slice none 0 0):=(hb.block w.heap.size (by simp only[q6];omega)).trans (q1f w _ _ _);have bx1:Boxed w1 (w.heap.size+1) 3 (.int .i64 0):=(hb.block (w.heap.size+1) (by simp only[q6];omega)).trans (q0m w _ _ _);have bx2:Boxed w1 (w.heap.size+1+1) 26 (.int .i64 0):=(hb.block (w.heap.size+1+1) (by simp only[q6];omega)).trans (q0l w _ _ _);have B1:=qh (hb0.out.trans (hb.mono (by simp only[q6];omega)));have d1:=bx1.cell;have d2:=bx2.cell;have f1:=bx1.frozen;have f2:=bx2.frozen;have l0:=bx0.lt;have l1:=bx1.lt;have l2:=bx2.lt;have R0:=qh bx0;have X1:=qh bx1;have X2:=qh bx2;have HT:=qh ht;clear hb bx0 bx1 bx2 z1 hb0 ht
 go_wp2_with fail
 generalize hW2:World.setCell (World.setCell w1 _ _) _ _=W2;have S2:W2.heap.size=w1.heap.size:=by rw[<-hW2,qq,qq]
 have R2:=qh (show Row3 W2 w.heap.size (.int .i64 0) (.string ⟨#[]⟩) (.slice none 0 0)by
  rw[<-hW2]
  exact(R0.out.other (p:=⟨w.heap.size+1,0,none⟩) _ (by simp)).other (p:=⟨w.heap.size+1+1,0,none⟩) _ (by simp only;omega))
 have Y1:=qh (show Boxed W2 (w.heap.size+1) 3 (.int .i64 0)by
  rw[<-hW2]
  exact zk (Boxed.set _ X1.out) ⟨w.heap.size+1+1,0,none⟩ (by simp only;omega))
 have Y2:=qh (show Boxed W2 (w.heap.size+1+1) 26 (.int .i64 0)by
  rw[<-hW2]
  exact Boxed.set _ (zk X2.out ⟨w.heap.size+1,0,none⟩ (by simp only;omega)))
 have B2:=qh (show Below w.heap.size w W2 by
  rw[<-hW2]
  exact(B1.out.setCell (p:=⟨w.heap.size+1,0,none⟩) (by simp) _).setCell (p:=⟨w.heap.size+1+1,0,none⟩) (by simp only;omega) _)
 have T2:=qh (show Toks (w.heap.size+1+1+1) (.slice va l.length vcap) l W2 by
  rw[<-hW2]
  exact zi HT.out fun k hk _ _=>(Below.heap_setCell _ _ _ _ (by simp only;omega)).trans (Below.heap_setCell _ _ _ _ (by simp only;omega)))
 clear hW2 d1 d2 f1 f2 R0 X1 X2 B1 HT C;refine(CI.out _).mono ?_;rintro e w3⟨rfl,m3,b3⟩;simp only[S2]at m3 b3;have M3:=qh m3;have b3':=qh b3;have z3:=m3.lt;clear m3 b3 CI
 go_wp2_with fail
 refine(CP.out _).mono ?_;rintro e w4⟨rfl,m4,b4⟩;have M4:=qh m4;have b4':=qh b4;have z4:=m4.lt;clear m4 b4 CP
 go_wp2_with fail
 generalize hW5:w4.alloc (.cells #[.slice va l.length vcap,.int .i64 0,.int .i64 (s.size:Nat),.map (some w1.heap.size),.map (some w3.heap.size)] 103)=W5;have z5:W5.heap.size=w4.heap.size+1:=by rw[<-hW5,q6]
 have row5:W5.heap[w4.heap.size]?=some (.cells #[.slice va l.length vcap,.int .i64 0,.int .i64 (s.size:Nat),.map (some w1.heap.size),.map (some w3.heap.size)] 103 (0,0)):=by
  rw[<-hW5];exact qm w4 _
 have b5:Below w4.heap.size w4 W5:=by rw[<-hW5];exact(Below.refl _ _).alloc (q5 _) _
 have HK:∀ k,k < w1.heap.size->W5.heap[k]?=W2.heap[k]?:=fun k hk=>(b5.block k (by omega)).trans ((b4'.out.block k (by omega)).trans (b3'.out.block k hk))
 have BB:=qh (B2.out.trans ((b3'.out.trans ((b4'.out.trans (b5.mono (by omega))).mono (by omega))).mono (by omega)));have GL5:=GL.out.keep fun b hb _=>BB.out.block b (by omega)
 have T5:=zt (zt (zt T2.out (by rw[S2];exact b3'.out)) b4'.out) b5;obtain⟨E,e1,e2,e3,hPS⟩:=q4s Hl.out T5 GL5 row5 ((M3.out.keep (b4'.out.block _ (by omega))).keep (b5.block _ (by omega))) (M4.out.keep (b5.block _ (by omega))) (by omega) (by omega) (by omega);have K:=CW'.out E _ e2 e3 hPS;rw[e1]at K;clear hW5 row5 b5 GL5 T5 M3 M4 CW' GL;refine K.mono ?_;rintro e w6⟨⟨va6,vc6,rfl,hn⟩,hm,hq⟩;have HK6:∀ k,k < w1.heap.size->w6.heap[k]?=W2.heap[k]?:=fun k hk=>(hm.blk k (by omega) (by omega)).trans (HK k hk)
 have B6:=qh ((BB.out.setCell (p:=⟨E.pb,1,none⟩) (by simp only;omega) (.int .i64 (q:Nat))).trans (Below.mono hm (by omega)));have R6:=qh (show Row3 w6 w.heap.size (.int .i64 0) (.string ⟨#[]⟩) (.slice none 0 0) from(HK6 _ (by omega)).trans R2.out);have U1:=qh (show Boxed w6 (w.heap.size+1) 3 (.int .i64 0) from(HK6 _ (by omega)).trans Y1.out);have U2:=qh (show Boxed w6 (w.heap.size+1+1) 26 (.int .i64 0) from(HK6 _ (by omega)).trans Y2.out);have P6:=qh (hm.ps hPS hq);have S6:=qh hn;have CK':=qh CK;clear hn CK;have hpz:w.heap.size < E.pb:=by omega
 have l6:=hm.size;obtain⟨⟨c0,c1,c2⟩,g0,g1,g2⟩:=R6.out.cells;clear K hm hq HK HK6 BB R2 Y1 Y2 T2 b3' b4' B2 hPS;have h6a:=R6.out.lt
 go_wp2_with fail
 generalize hW7:World.setCell (World.setCell (World.setCell w6 _ _) _ _) _ _=W7
 have HE:∀ j,j≠w.heap.size->W7.heap[j]?=w6.heap[j]?:=fun j hj=>by
  rw[<-hW7];exact(Below.heap_setCell _ _ _ _ hj).trans ((Below.heap_setCell _ _ _ _ hj).trans (Below.heap_setCell _ _ _ _ hj))
 have R7:=qh (show Row3 W7 w.heap.size (.int .i64 k) (.string sx) (.slice va6 kids.length vc6)by rw[<-hW7];exact R6.out.put _ _ _);have S7:=qh (S6.out.keep (w':=W7) (S':=fun b=>w.heap.size+1+1 < b) fun b h1 h2=>⟨HE b (by omega),by omega⟩);have P7:=qh (P6.out.aside R6.out hw HE);have N1:=qh (show Boxed W7 (w.heap.size+1) 3 (.int .i64 0) from(HE _ (by omega)).trans U1.out);have N2:=qh (show Boxed W7 (w.heap.size+1+1) 26 (.int .i64 0) from(HE _ (by omega)).trans U2.out);have B7:=qh (show Below w.heap.size w W7 by rw[<-hW7];exact y4 B6.out (q5 _) _ _ _);obtain⟨p0,p1,p2,p3,p4⟩:=P7.out.cells;have pz:=P7.out.lt;rw[e1]at p0 p1;rw[e2]at p0;have hlt:decide ((q:Int) < (l.length:Int))=false:=decide_eq_false (by omega);clear hW7 HE R6 S6 P6 U1 U2 B6 c0 c1 c2 g0 g1 g2 p2 p3 p4
 go_quiet (fail)
 generalize hW8:W7.drewN _=W8;have b8:Below W7.heap.size W7 W8:=by rw[<-hW8];exact below_drewN (Below.refl _ _) _
 have h7:=R7.out.lt;have h71:=N1.out.lt;have h72:=N2.out.lt;have z8:=b8.size;have R8:=qh (show Row3 W8 w.heap.size (.int .i64 k) (.string sx) (.slice va6 kids.length vc6) from(b8.block _ h7).trans R7.out);have S8:=qh (S7.out.keep (w':=W8) (S':=fun b=>w.heap.size+1+1 < b) fun b h1 h2=>⟨b8.block b h2,h1⟩);have K8:=CK'.out va6 vc6 W8 S8.out.toR;have HB8:=qh b8;obtain⟨⟨c0,c1,c2⟩,g0,g1,g2⟩:=R8.out.cells;have h8:=R8.out.lt;clear hW8 b8 p0 p1 CK'
 go_wp2_with fail
 refine K8.mono ?_;rintro e w9⟨rfl,b9⟩;have b89:=HB8.out.trans (b9.mono z8);have R9:=qh (show Row3 w9 w.heap.size (.int .i64 k) (.string sx) (.slice va6 kids.length vc6) from(b9.block _ h8).trans R8.out);have U1:=qh (show Boxed w9 (w.heap.size+1) 3 (.int .i64 0) from(b89.block _ h71).trans N1.out);have U2:=qh (show Boxed w9 (w.heap.size+1+1) 26 (.int .i64 0) from(b89.block _ h72).trans N2.out);have S9:=qh (S8.out.keep (w':=w9) (S':=fun b=>w.heap.size+1+1 < b) fun b h1 h2=>⟨b9.block b h2,h1⟩);have B9:=qh (B7.out.trans (b89.mono (by omega)));clear b89 b9 HB8 K8 P7 N1 N2 B7 R7 c0 c1 c2 g0 g1 g2 S7 S8 R8;obtain⟨⟨c0,c1,c2⟩,g0,g1,g2⟩:=R9.out.cells;have u1:=U1.out.cell;have u2:=U2.out.cell;have v1:=U1.out.frozen;have v2:=U2.out.frozen;have h9:=R9.out.lt;have h91:=U1.out.lt;have h92:=U2.out.lt
 go_wp2_with fail
 generalize hWA:World.setCell (World.setCell (World.setCell (World.setCell (World.setCell w9 _ _) _ _) _ _) _ _) _ _=WA
 have RA:=qh (show Row3 WA w.heap.size (.int .i64 k) (.string sx) (.slice va6 kids.length vc6)by
  rw[<-hWA]
  exact((R9.out.put _ _ _).other (p:=⟨w.heap.size+1,0,none⟩) _ (by simp)).other (p:=⟨w.heap.size+1+1,0,none⟩) _ (by simp only;omega))
 have A1:=qh (show Boxed WA (w.heap.size+1) 3 (.int .i64 0)by
  rw[<-hWA]
  exact zk (Boxed.set _ (q0p U1.out (by omega))) ⟨w.heap.size+1+1,0,none⟩ (by simp only;omega))
 have A2:=qh (show Boxed WA (w.heap.size+1+1) 26 (.int .i64 0)by
  rw[<-hWA]
  exact Boxed.set _ (zk (q0p U2.out (by omega)) ⟨w.heap.size+1,0,none⟩ (by simp only;omega)))
 have BA:=qh (show Below w.heap.size w WA by
  rw[<-hWA]
  exact((y4 B9.out (q5 _) _ _ _).setCell (p:=⟨w.heap.size+1,0,none⟩) (by simp) _).setCell (p:=⟨w.heap.size+1+1,0,none⟩) (by simp only;omega) _)
 have HA:∀ b,w.heap.size+1+1 < b->WA.heap[b]?=w9.heap[b]?:=fun b hb=>by
  rw[<-hWA];exact(Below.heap_setCell _ _ _ _ (by simp only;omega)).trans ((Below.heap_setCell _ _ _ _ (by simp only;omega)).trans ((Below.heap_setCell _ _ _ _ (by simp only;omega)).trans ((Below.heap_setCell _ _ _ _ (by simp only;omega)).trans (Below.heap_setCell _ _ _ _ (by simp only;omega)))))
 have zA:w9.heap.size=WA.heap.size:=by rw[<-hWA];simp only[qq]
 clear hWA c0 c1 c2 g0 g1 g2 u1 u2 v1 v2;refine leaves_cons (f:=78) (args:=#[.pointer (some ⟨w.heap.size,0,none⟩),.pointer (some ⟨w.heap.size+1,0,none⟩),.pointer (some ⟨w.heap.size+1+1,0,none⟩)]) (by simp) (by simp[invoke,go_sem,eg2]) ?_;refine(q7t w.heap.size WA).mono ?_;rintro e u' wz⟨rfl,rfl,rfl⟩;obtain⟨⟨c0,c1,c2⟩,_⟩:=(RA.out.alloc (.cells #[.int .i64 0] 98)).cells;have x1:=(vd A1.out (.cells #[.int .i64 0] 98)).cell;have x2:=(vd A2.out (.cells #[.int .i64 0] 98)).cell;refine⟨.tuple #[.agg #[.int .i64 k,.string sx,.slice va6 kids.length vc6],.int .i64 0,.int .i64 0],by simp[results,Tryz.results39,go_sem,c0,c1,c2,x1,x2],⟨va6,vc6,rfl,S9.out.keep fun b h1 h2=>⟨(Below.heap_alloc _ _ _ (by rw[<-zA];exact h2)).trans (HA b h1),by omega⟩⟩,BA.out.alloc (by rw[<-zA];omega) _⟩
theorem qez(s:ByteArray)(l:List Lx.Tok)(hl:Lx.scan (bs s) = .toks l)(w:World)(hw:2<=w.heap.size)(gl:GLw w)(hs:s.size<=maxLen)(g:Nat)(eg:∀ args w,(callFunc g args).run Tryz.prog w = .ok (.enter g args) w)(q:Nat)(k:Int)(sx:ByteArray)(kids:List Nd)(hql:q=l.length)(er:Nat)(he:((er:Int)==0)=false)
  (CK:∀ va vc w,NdR w (.mk k sx kids) (.int .i64 k) (.string sx) (.slice va kids.length vc)->Calls Tryz.prog 45 #[.agg #[.int .i64 k,.string sx,.slice va kids.length vc]] w fun e w'=>e = .returned (.int .i64 er)/\Below w.heap.size w w')
  (CW:∀ (E:PE) w,E.ts=l->E.en=s.size->PS E 0 w->Calls Tryz.prog g #[.pointer (some ⟨E.pb,0,none⟩)] w (Gr E w (.ok (.mk k sx kids) q))) :
  Calls Tryz.prog 39 #[.string s,F_ g] w fun e w'=>(e = .returned (.tuple #[.agg #[.int .i64 0,.string ⟨#[]⟩,.slice none 0 0],.int .i64 0,.int .i64 er]))/\Below w.heap.size w w':=by
 have C:=qh (fun w=>q2v s l hl w hs);have CI:=qh q2y;have CP:=qh q2x;have CW':=qh CW;have Hl:=qh hl;have GL:=qh gl;have hmf:∀ (fn:Fn) (first cap:Array Value) (w:World),(Instr.makeFunc fn first cap).run Tryz.prog w = .ok (.func fn first cap) w:=fun _ _ _ _=>rfl
 have eg2:∀ args w,(callFunc 78 args).run Tryz.prog w = .ok (.enter 78 args) w:=enters_of Tryz.func78 (by kernel_rfl) rfl;have hb0:=qh (((Below.refl w.heap.size w).alloc (q5 _) (.cells #[.int .i64 0,.string ⟨#[]⟩,.slice none 0 0] 25)).alloc (by simp) (.cells #[.int .i64 0] 3)|>.alloc (by simp;omega) (.cells #[.int .i64 0] 26));clear hl gl CW;unfold F_
 go_enter_defers Tryz.func39,Tryz.ntmps39
 go_wp2_with fail
 refine(C.out _).mono ?_;rintro e w1⟨v,rfl,ht,hb⟩;obtain⟨va,vcap,rfl⟩:=ku ht;have z1:=hb.size;simp only[q6]at z1 ht;have bx0:Row3 w1 w.heap.size (.int .i64 0) (.string ⟨#[]⟩) (.slice none 0 0):=(hb.block w.heap.size (by simp only[q6];omega)).trans (q1f w _ _ _);have bx1:Boxed w1 (w.heap.size+1) 3 (.int .i64 0):=(hb.block (w.heap.size+1) (by simp only[q6];omega)).trans (q0m w _ _ _);have bx2:Boxed w1 (w.heap.size+1+1) 26 (.int .i64 0):=(hb.block (w.heap.size+1+1) (by simp only[q6];omega)).trans (q0l w _ _ _);have B1:=qh (hb0.out.trans (hb.mono (by simp only[q6];omega)));have d1:=bx1.cell;have d2:=bx2.cell;have f1:=bx1.frozen;have f2:=bx2.frozen;have l0:=bx0.lt;have l1:=bx1.lt;have l2:=bx2.lt;have R0:=qh bx0;have X1:=qh bx1;have X2:=qh bx2;have HT:=qh ht;clear hb bx0 bx1 bx2 z1 hb0 ht
 go_wp2_with fail
 generalize hW2:World.setCell (World.setCell w1 _ _) _ _=W2;have S2:W2.heap.size=w1.heap.size:=by rw[<-hW2,qq,qq]
 have R2:=qh (show Row3 W2 w.heap.size (.int .i64 0) (.string ⟨#[]⟩) (.slice none 0 0)by
  rw[<-hW2]
  exact(R0.out.other (p:=⟨w.heap.size+1,0,none⟩) _ (by simp)).other (p:=⟨w.heap.size+1+1,0,none⟩) _ (by simp only;omega))
 have Y1:=qh (show Boxed W2 (w.heap.size+1) 3 (.int .i64 0)by
  rw[<-hW2]
  exact zk (Boxed.set _ X1.out) ⟨w.heap.size+1+1,0,none⟩ (by simp only;omega))
 have Y2:=qh (show Boxed W2 (w.heap.size+1+1) 26 (.int .i64 0)by
  rw[<-hW2]
  exact Boxed.set _ (zk X2.out ⟨w.heap.size+1,0,none⟩ (by simp only;omega)))
 have B2:=qh (show Below w.heap.size w W2 by
  rw[<-hW2]
  exact(B1.out.setCell (p:=⟨w.heap.size+1,0,none⟩) (by simp) _).setCell (p:=⟨w.heap.size+1+1,0,none⟩) (by simp only;omega) _)
 have T2:=qh (show Toks (w.heap.size+1+1+1) (.slice va l.length vcap) l W2 by
  rw[<-hW2]
  exact zi HT.out fun k hk _ _=>(Below.heap_setCell _ _ _ _ (by simp only;omega)).trans (Below.heap_setCell _ _ _ _ (by simp only;omega)))
 clear hW2 d1 d2 f1 f2 R0 X1 X2 B1 HT C;refine(CI.out _).mono ?_;rintro e w3⟨rfl,m3,b3⟩;simp only[S2]at m3 b3;have M3:=qh m3;have b3':=qh b3;have z3:=m3.lt;clear m3 b3 CI
 go_wp2_with fail
 refine(CP.out _).mono ?_;rintro e w4⟨rfl,m4,b4⟩;have M4:=qh m4;have b4':=qh b4;have z4:=m4.lt;clear m4 b4 CP
 go_wp2_with fail
 generalize hW5:w4.alloc (.cells #[.slice va l.length vcap,.int .i64 0,.int .i64 (s.size:Nat),.map (some w1.heap.size),.map (some w3.heap.size)] 103)=W5;have z5:W5.heap.size=w4.heap.size+1:=by rw[<-hW5,q6]
 have row5:W5.heap[w4.heap.size]?=some (.cells #[.slice va l.length vcap,.int .i64 0,.int .i64 (s.size:Nat),.map (some w1.heap.size),.map (some w3.heap.size)] 103 (0,0)):=by
  rw[<-hW5];exact qm w4 _
 have b5:Below w4.heap.size w4 W5:=by rw[<-hW5];exact(Below.refl _ _).alloc (q5 _) _
 have HK:∀ k,k < w1.heap.size->W5.heap[k]?=W2.heap[k]?:=fun k hk=>(b5.block k (by omega)).trans ((b4'.out.block k (by omega)).trans (b3'.out.block k hk))
 have BB:=qh (B2.out.trans ((b3'.out.trans ((b4'.out.trans (b5.mono (by omega))).mono (by omega))).mono (by omega)));have GL5:=GL.out.keep fun b hb _=>BB.out.block b (by omega)
 have T5:=zt (zt (zt T2.out (by rw[S2];exact b3'.out)) b4'.out) b5;obtain⟨E,e1,e2,e3,hPS⟩:=q4s Hl.out T5 GL5 row5 ((M3.out.keep (b4'.out.block _ (by omega))).keep (b5.block _ (by omega))) (M4.out.keep (b5.block _ (by omega))) (by omega) (by omega) (by omega);have K:=CW'.out E _ e2 e3 hPS;rw[e1]at K;clear hW5 row5 b5 GL5 T5 M3 M4 CW' GL;refine K.mono ?_;rintro e w6⟨⟨va6,vc6,rfl,hn⟩,hm,hq⟩;have HK6:∀ k,k < w1.heap.size->w6.heap[k]?=W2.heap[k]?:=fun k hk=>(hm.blk k (by omega) (by omega)).trans (HK k hk)
 have B6:=qh ((BB.out.setCell (p:=⟨E.pb,1,none⟩) (by simp only;omega) (.int .i64 (q:Nat))).trans (Below.mono hm (by omega)));have R6:=qh (show Row3 w6 w.heap.size (.int .i64 0) (.string ⟨#[]⟩) (.slice none 0 0) from(HK6 _ (by omega)).trans R2.out);have U1:=qh (show Boxed w6 (w.heap.size+1) 3 (.int .i64 0) from(HK6 _ (by omega)).trans Y1.out);have U2:=qh (show Boxed w6 (w.heap.size+1+1) 26 (.int .i64 0) from(HK6 _ (by omega)).trans Y2.out);have P6:=qh (hm.ps hPS hq);have S6:=qh hn;have CK':=qh CK;clear hn CK;have hpz:w.heap.size < E.pb:=by omega
 have l6:=hm.size;obtain⟨⟨c0,c1,c2⟩,g0,g1,g2⟩:=R6.out.cells;clear K hm hq HK HK6 BB R2 Y1 Y2 T2 b3' b4' B2 hPS;have h6a:=R6.out.lt
 go_wp2_with fail
 generalize hW7:World.setCell (World.setCell (World.setCell w6 _ _) _ _) _ _=W7
 have HE:∀ j,j≠w.heap.size->W7.heap[j]?=w6.heap[j]?:=fun j hj=>by
  rw[<-hW7];exact(Below.heap_setCell _ _ _ _ hj).trans ((Below.heap_setCell _ _ _ _ hj).trans (Below.heap_setCell _ _ _ _ hj))
 have R7:=qh (show Row3 W7 w.heap.size (.int .i64 k) (.string sx) (.slice va6 kids.length vc6)by rw[<-hW7];exact R6.out.put _ _ _);have S7:=qh (S6.out.keep (w':=W7) (S':=fun b=>w.heap.size+1+1 < b) fun b h1 h2=>⟨HE b (by omega),by omega⟩);have P7:=qh (P6.out.aside R6.out hw HE);have N1:=qh (show Boxed W7 (w.heap.size+1) 3 (.int .i64 0) from(HE _ (by omega)).trans U1.out);have N2:=qh (show Boxed W7 (w.heap.size+1+1) 26 (.int .i64 0) from(HE _ (by omega)).trans U2.out);have B7:=qh (show Below w.heap.size w W7 by rw[<-hW7];exact y4 B6.out (q5 _) _ _ _);obtain⟨p0,p1,p2,p3,p4⟩:=P7.out.cells;have pz:=P7.out.lt;rw[e1]at p0 p1;rw[e2]at p0;have hlt:decide ((q:Int) < (l.length:Int))=false:=decide_eq_false (by omega);clear hW7 HE R6 S6 P6 U1 U2 B6 c0 c1 c2 g0 g1 g2 p2 p3 p4
 go_quiet (fail)
 generalize hW8:W7.drewN _=W8;have b8:Below W7.heap.size W7 W8:=by rw[<-hW8];exact below_drewN (Below.refl _ _) _
 have h7:=R7.out.lt;have h71:=N1.out.lt;have h72:=N2.out.lt;have z8:=b8.size;have R8:=qh (show Row3 W8 w.heap.size (.int .i64 k) (.string sx) (.slice va6 kids.length vc6) from(b8.block _ h7).trans R7.out);have S8:=qh (S7.out.keep (w':=W8) (S':=fun b=>w.heap.size+1+1 < b) fun b h1 h2=>⟨b8.block b h2,h1⟩);have K8:=CK'.out va6 vc6 W8 S8.out.toR;have HB8:=qh b8;obtain⟨⟨c0,c1,c2⟩,g0,g1,g2⟩:=R8.out.cells;have h8:=R8.out.lt;clear hW8 b8 p0 p1 CK'
 go_wp2_with fail
 refine K8.mono ?_;rintro e w9⟨rfl,b9⟩;have b89:=HB8.out.trans (b9.mono z8);have R9:=qh (show Row3 w9 w.heap.size (.int .i64 k) (.string sx) (.slice va6 kids.length vc6) from(b9.block _ h8).trans R8.out);have U1:=qh (show Boxed w9 (w.heap.size+1) 3 (.int .i64 0) from(b89.block _ h71).trans N1.out);have U2:=qh (show Boxed w9 (w.heap.size+1+1) 26 (.int .i64 0) from(b89.block _ h72).trans N2.out);have S9:=qh (S8.out.keep (w':=w9) (S':=fun b=>w.heap.size+1+1 < b) fun b h1 h2=>⟨b9.block b h2,h1⟩);have B9:=qh (B7.out.trans (b89.mono (by omega)));clear b89 b9 HB8 K8 P7 N1 N2 B7 R7 c0 c1 c2 g0 g1 g2 S7 S8 R8;obtain⟨⟨c0,c1,c2⟩,g0,g1,g2⟩:=R9.out.cells;have u1:=U1.out.cell;have u2:=U2.out.cell;have v1:=U1.out.frozen;have v2:=U2.out.frozen;have h9:=R9.out.lt;have h91:=U1.out.lt;have h92:=U2.out.lt
 go_wp2_with fail
 generalize hWA:World.setCell (World.setCell (World.setCell (World.setCell (World.setCell w9 _ _) _ _) _ _) _ _) _ _=WA
 have RA:=qh (show Row3 WA w.heap.size (.int .i64 0) (.string ⟨#[]⟩) (.slice none 0 0)by
  rw[<-hWA]
  exact((R9.out.put _ _ _).other (p:=⟨w.heap.size+1,0,none⟩) _ (by simp)).other (p:=⟨w.heap.size+1+1,0,none⟩) _ (by simp only;omega))
 have A1:=qh (show Boxed WA (w.heap.size+1) 3 (.int .i64 0)by
  rw[<-hWA]
  exact zk (Boxed.set _ (q0p U1.out (by omega))) ⟨w.heap.size+1+1,0,none⟩ (by simp only;omega))
 have A2:=qh (show Boxed WA (w.heap.size+1+1) 26 (.int .i64 er)by
  rw[<-hWA]
  exact Boxed.set _ (zk (q0p U2.out (by omega)) ⟨w.heap.size+1,0,none⟩ (by simp only;omega)))
 have BA:=qh (show Below w.heap.size w WA by
  rw[<-hWA]
  exact((y4 B9.out (q5 _) _ _ _).setCell (p:=⟨w.heap.size+1,0,none⟩) (by simp) _).setCell (p:=⟨w.heap.size+1+1,0,none⟩) (by simp only;omega) _)
 have HA:∀ b,w.heap.size+1+1 < b->WA.heap[b]?=w9.heap[b]?:=fun b hb=>by
  rw[<-hWA];exact(Below.heap_setCell _ _ _ _ (by simp only;omega)).trans ((Below.heap_setCell _ _ _ _ (by simp only;omega)).trans ((Below.heap_setCell _ _ _ _ (by simp only;omega)).trans ((Below.heap_setCell _ _ _ _ (by simp only;omega)).trans (Below.heap_setCell _ _ _ _ (by simp only;omega)))))
 have zA:w9.heap.size=WA.heap.size:=by rw[<-hWA];simp only[qq]
 clear hWA c0 c1 c2 g0 g1 g2 u1 u2 v1 v2;refine leaves_cons (f:=78) (args:=#[.pointer (some ⟨w.heap.size,0,none⟩),.pointer (some ⟨w.heap.size+1,0,none⟩),.pointer (some ⟨w.heap.size+1+1,0,none⟩)]) (by simp) (by simp[invoke,go_sem,eg2]) ?_;refine(q7t w.heap.size WA).mono ?_;rintro e u' wz⟨rfl,rfl,rfl⟩;obtain⟨⟨c0,c1,c2⟩,_⟩:=(RA.out.alloc (.cells #[.int .i64 0] 98)).cells;have x1:=(vd A1.out (.cells #[.int .i64 0] 98)).cell;have x2:=(vd A2.out (.cells #[.int .i64 0] 98)).cell;refine⟨.tuple #[.agg #[.int .i64 0,.string ⟨#[]⟩,.slice none 0 0],.int .i64 0,.int .i64 er],by simp[results,Tryz.results39,go_sem,c0,c1,c2,x1,x2],rfl,BA.out.alloc (by rw[<-zA];omega) _⟩
def q88(l:List Lx.Tok)(en q:Nat):Nat:=match l[q]? with|some t=>t.pos|none=>en
def qhs:Value:=.agg #[.int .i64 0,.string ⟨#[]⟩,.slice none 0 0]
def qo3(l:List Lx.Tok)(en:Nat)(chk:Nd->Nat)(r:Sx.PR Nd)(w:World)(e:Ending)(w':World):Prop :=
 Below w.heap.size w w' /\
 match r with
 | .bad q=>e = .returned (.tuple #[qhs,.int .i64 (q88 l en q:Nat),.int .i64 20])
 | .ok (.mk k s kids) q =>
  if q < l.length then e = .returned (.tuple #[qhs,.int .i64 (q88 l en q:Nat),.int .i64 20])
  else if chk (.mk k s kids)=0 then ∃ va vc,e = .returned (.tuple #[.agg #[.int .i64 k,.string s,.slice va kids.length vc],.int .i64 0,.int .i64 0])/\NdS (fun b=>w.heap.size<=b) w' (.mk k s kids) (.int .i64 k) (.string s) (.slice va kids.length vc)
  else e = .returned (.tuple #[qhs,.int .i64 0,.int .i64 (chk (.mk k s kids):Nat)])
theorem qg3(l:List Lx.Tok)(en q:Nat):∃ E:PE,E.ts=l/\E.en=en/\E.pos q=q88 l en q:=⟨⟨0,l,none,0,0,0,en,0,0⟩,rfl,rfl,rfl⟩
theorem qkj(s:ByteArray)(l:List Lx.Tok)(hl:Lx.scan (bs s) = .toks l)(w:World)(hw:2<=w.heap.size)(gl:GLw w)(hs:s.size<=maxLen)(g:Nat)(eg:∀ args w,(callFunc g args).run Tryz.prog w = .ok (.enter g args) w)(r:Sx.PR Nd)(hr:∀ n q,r = .ok n q->q<=l.length)(chk:Nd->Nat)
  (CW:∀ (E:PE) w,E.ts=l->E.en=s.size->PS E 0 w->Calls Tryz.prog g #[.pointer (some ⟨E.pb,0,none⟩)] w (Gr E w r))
  (CK:∀ k sx kids va vc w,NdR w (.mk k sx kids) (.int .i64 k) (.string sx) (.slice va kids.length vc)->Calls Tryz.prog 45 #[.agg #[.int .i64 k,.string sx,.slice va kids.length vc]] w fun e w'=>e = .returned (.int .i64 (chk (.mk k sx kids):Nat))/\Below w.heap.size w w') :
  Calls Tryz.prog 39 #[.string s,F_ g] w (qo3 l s.size chk r w):=by
 cases r with
 |bad q =>
  refine(qmy s l hl w hw gl hs g eg q CW).mono ?_;rintro e w'⟨h,hb⟩;obtain⟨E,h1,h2,h3⟩:=qg3 l s.size q;exact⟨hb,by rw[h E h1 h2,h3];rfl⟩
 |ok n q =>
  obtain⟨k,sx,kids⟩:=n
  by_cases hq:q < l.length
  ·refine(qhn s l hl w hw gl hs g eg q k sx kids hq CW).mono ?_
   rintro e w'⟨h,hb⟩;obtain⟨E,h1,h2,h3⟩:=qg3 l s.size q;refine⟨hb,?_⟩;simp only[qa hq];rw[h E h1 h2,h3];rfl
  ·have hql:q=l.length:=by have:=hr _ _ rfl;omega
   by_cases h0:chk (.mk k sx kids)=0
   ·refine(qkh s l hl w hw gl hs g eg q k sx kids hql (chk (.mk k sx kids)) (by rw[h0];rfl) (fun va vc w h=>CK k sx kids va vc w h) CW).mono ?_
    rintro e w'⟨h,hb⟩;refine⟨hb,?_⟩;simp only[q7 hq,qa h0];exact h
   ·refine(qez s l hl w hw gl hs g eg q k sx kids hql (chk (.mk k sx kids)) (by rw[q9];omega) (fun va vc w h=>CK k sx kids va vc w h) CW).mono ?_
    rintro e w'⟨h,hb⟩;refine⟨hb,?_⟩;simp only[q7 hq,q7 h0];exact h
end Go.Proofs.YtkckddojlignpaaGreatDoor
namespace Go.Proofs.YtkckddojlignpaaGreatDoor
def qy(s:ByteArray):Bool:=xg ⟨1,s,0⟩
def ww(s:ByteArray):Bool:=xg ⟨2,s,0⟩
def qu(s:ByteArray):Bool:=s.toList.isEmpty
mutual
def zj:Nd->Bool
 | .mk k s l=>if k=31 then qu s && (decide (l.length=2) && yo l) else decide (k=15) && (decide (l.length=0) && qy s)
def yo:List Nd->Bool
 |[]=>true
 |a :: l=>zj a && yo l
end
def wk:List Nd->Bool
 |[]=>false
 |a :: _=>zj a
def je(s:ByteArray)(l:List Nd):Bool:=(qy s||ww s) && (decide (l.length=1)||(decide (l.length=2) && wk l))
mutual
def zh:Nd->Bool
 | .mk k s l=>if k=15 then qy s && (q07 l && decide (l.length<=8)) else if k=16 then ww s && (q07 l && decide (l.length<=8)) else decide (k=17) && (je s l && wq l)
def q07:List Nd->Bool
 |[]=>true
 |a :: l=>zh a && q07 l
def wq:List Nd->Bool
 |[]=>false
 |a :: l=>if l.isEmpty then zh a else wq l
end
def yu(k:Int):Bool:=decide (22<=k) && decide (k<=28)
mutual
def qn:Nd->Bool
 | .mk k s l =>
  if k=15 then zh (.mk k s l)
  else if k=18\/k=19 then je s l && vr l
  else if k=20\/k=21 then qu s && decide (l.length=0)
  else if k=29\/k=30 then qu s && (decide (l.length=1) && xy l)
  else yu k && (qu s && (decide (l.length=2) && xy l))
def xy:List Nd->Bool
 |[]=>true
 |a :: l=>qn a && xy l
def vr:List Nd->Bool
 |[]=>false
 |a :: l=>if l.isEmpty then qn a else vr l
end
def xa:Nd->Bool
 | .mk k s l=>decide (k=15) && (decide (l.length=0) && qy s)
namespace Lx
def nameLen(r:Bs):Nat :=
 let j:=runLen r
 if r[j]?=some 64/\(r[j+1]?.map small)=some true then j+1+runLen (r.drop (j+1)) else j
def longR(r:Bs):Bool :=
 ([45,111].isPrefixOf r && runLen (r.drop 1)==1)||[45,62].isPrefixOf r||[61,62].isPrefixOf r||[60,61].isPrefixOf r
def tokR(r:Bs):Option (Nat×Nat) :=
 match r[0]? with
 |none=>none
 |some c =>
  if small c then
   let j:=nameLen r
   if r.take j=[111]/\r[j]?=some 45 then some (3,j+1)
   else if words.contains (r.take j) then some (4,j) else some (1,j)
  else if capital c then some (2,runLen r)
  else if signB c then some (3,1)
  else if longR r then some (3,2) else none
theorem nameTo_rel(l:Bs)(i:Nat):nameTo l i=i+nameLen (l.drop i):=by
 have h1:(l.drop i)[runLen (l.drop i)]?=l[runTo l i]?:=List.getElem?_drop;have h2:(l.drop i)[runLen (l.drop i)+1]?=l[runTo l i+1]?:=by rw[List.getElem?_drop];rfl
 unfold nameTo nameLen;simp only[h1,h2]
 by_cases h:l[runTo l i]?=some 64/\(l[runTo l i+1]?.map small)=some true
 ·simp only[qa h]
  show runTo l i+1+runLen (l.drop (runTo l i+1))=_
  rw[List.drop_drop,show i+(runLen (l.drop i)+1)=runTo l i+1 from rfl];unfold runTo;omega
 ·simp only[q7 h];rfl
theorem isLong_rel(l:Bs)(i:Nat):isLong l i=longR (l.drop i):=by
 simp only[isLong,longR,pre,runTo,List.drop_drop]
 congr 4
 by_cases h:runLen (l.drop (i+1))=1
 ·rw[h];simp
 ·rw[show(runLen (l.drop (i+1))==1)=false from by simpa using h,show(i+1+runLen (l.drop (i+1))==i+2)=false from by rw[q9];omega]
theorem tokAt_rel(l:Bs)(i:Nat):tokAt l i=(tokR (l.drop i)).map fun p=>(p.1,i+p.2):=by
 unfold tokAt tokR;rw[List.getElem?_drop,Nat.add_zero]
 cases l[i]? with
 |none=>rfl
 |some c =>
  simp only[slice,nameTo_rel,isLong_rel,runTo,List.getElem?_drop,Nat.add_sub_cancel_left]
  split
  ·split
   ·rfl
   ·split <;> rfl
  ·split
   ·rfl
   ·split
    ·rfl
    ·split <;> rfl
def scanS:Nat->List Tok->Nat->Bs->Res
 |0,pre,_,_=>.toks pre
 |f+1,pre,o,r =>
  if r=[] then .toks pre
  else match tokR r with
   |none=>.bad o 10
   |some (k,n) =>
    if pre.length=6000 then .bad o 2
    else if 40 < n then .bad o 11
    else scanS f (pre++[⟨k,r.take n,o⟩]) (o+n+skipC false (r.drop n)) ((r.drop n).drop (skipC false (r.drop n)))
theorem scanT_rel(l:Bs):∀ (f:Nat) (pre:List Tok) (i:Nat),scanT l f pre i=scanS f pre i (l.drop i)
 |0,_,_=>rfl
 |f+1,pre,i=>by
  simp only[scanT,scanS]
  by_cases h:l.length<=i
  ·rw[qa h,qa (List.drop_of_length_le h)]
  ·rw[q7 h,q7 (by intro e;have:=congrArg List.length e;simp at this;omega),tokAt_rel]
   cases tokR (l.drop i)with
   |none=>rfl
   |some p =>
    obtain⟨k,n⟩:=p;simp only[Option.map_some]
    split
    ·rfl
    ·rw[Nat.add_sub_cancel_left]
     split
     ·rfl
     ·rw[scanT_rel l f,slice,Nat.add_sub_cancel_left,skipTo,List.drop_drop,List.drop_drop]
def scanP(f:Nat)(pre:List Tok)(o:Nat)(r:Bs):Res:=scanS f pre (o+skipC false r) (r.drop (skipC false r))
theorem scanS_step{f:Nat}{pre:List Tok}{o k n:Nat}{r:Bs}(h0:r≠[])(h:tokR r=some (k,n))(h6:pre.length≠6000)(h4:¬ 40 < n) :
  scanS (f+1) pre o r=scanP f (pre++[⟨k,r.take n,o⟩]) (o+n) (r.drop n):=by
 simp only[scanS,scanP];rw[q7 h0,h];simp only;rw[q7 h6,q7 h4]
theorem scan_rel(l:Bs):scan l=if 20000 < l.length then .bad 0 2 else scanP (l.length+1) [] 0 l:=by
 unfold scan;rw[scanT_rel];unfold skipTo scanP;simp only[List.drop_zero,Nat.zero_add]
theorem tokR_lt{r:Bs}{k n:Nat}(h:tokR r=some (k,n)):0 < n/\n<=r.length:=by
 have e:=tokAt_rel r 0;rw[List.drop_zero,h]at e;have:=tokAt_lt (l:=r) (i:=0) (k:=k) (j:=0+n) (by rw[e];rfl);omega
theorem scanS_inv{f:Nat}{pre l:List Tok}{o:Nat}{r:Bs}(h:scanS (f+1) pre o r = .toks l) :
  (r=[]/\l=pre)\/∃ k n,r≠[]/\tokR r=some (k,n)/\pre.length≠6000/\¬ 40 < n/\scanP f (pre++[⟨k,r.take n,o⟩]) (o+n) (r.drop n) = .toks l:=by
 simp only[scanS]at h
 by_cases h0:r=[]
 ·rw[qa h0]at h;exact .inl ⟨h0,by simpa using h.symm⟩
 ·rw[q7 h0]at h
  cases ht:tokR r with
  |none=>rw[ht]at h;simp at h
  |some p =>
   obtain⟨k,n⟩:=p;rw[ht]at h;simp only at h
   by_cases h6:pre.length=6000
   ·rw[qa h6]at h;simp at h
   ·rw[q7 h6]at h
    by_cases h4:40 < n
    ·rw[qa h4]at h;simp at h
    ·rw[q7 h4]at h;exact .inr ⟨k,n,h0,rfl,h6,h4,h⟩
def sh(d:Nat)(t:Tok):Tok:=⟨t.kind,t.text,t.pos+d⟩
theorem scanS_shift(d:Nat):∀ (f:Nat) (pre P l:List Tok) (o:Nat) (r:Bs),P.length<=6000->scanS f pre o r = .toks l ->
  ∃ rest,l=pre++rest/\((P.length+rest.length<=6000/\scanS f P (o+d) r = .toks (P++rest.map (sh d)))\/(6000 < P.length+rest.length/\∃ p,scanS f P (o+d) r = .bad p 2))
 |0,pre,P,l,o,r,hP,h=>by
  simp only[scanS,Res.toks.injEq]at h;subst h;exact⟨[],by simp,.inl ⟨by simpa using hP,by simp[scanS]⟩⟩
 |f+1,pre,P,l,o,r,hP,h=>by
  rcases scanS_inv h with ⟨rfl,rfl⟩|⟨k,n,h0,ht,h6,h4,hs⟩
  ·exact⟨[],by simp,.inl ⟨by simpa using hP,by simp[scanS]⟩⟩
  ·by_cases hP6:P.length=6000
   ·obtain⟨rest,hl,_⟩:=scanS_shift d f _ [] l _ _ (by simp) hs
    refine⟨⟨k,r.take n,o⟩ :: rest,by rw[hl,qe];rfl,.inr ⟨by simp;omega,o+d,?_⟩⟩;simp only[scanS];rw[q7 h0,ht];simp only;rw[qa hP6]
   ·obtain⟨rest,hl,hc⟩:=scanS_shift d f _ (P++[⟨k,r.take n,o+d⟩]) l _ _ (by rw[qc,List.length_singleton];omega) hs
    refine⟨⟨k,r.take n,o⟩ :: rest,by rw[hl,qe];rfl,?_⟩;rw[scanS_step h0 ht hP6 h4];unfold scanP;rw[show o+d+n+skipC false (r.drop n)=o+n+skipC false (r.drop n)+d from by omega];rcases hc with ⟨h1,h2⟩|⟨h1,p,h2⟩
    ·refine .inl ⟨by simp only[qc,qi,qo]at h1 ⊢;omega,?_⟩
     rw[h2,qe];rfl
    ·exact .inr ⟨by simp only[qc,qi,qo]at h1 ⊢;omega,p,h2⟩
end Lx
end Go.Proofs.YtkckddojlignpaaGreatDoor
namespace Go.Proofs.YtkckddojlignpaaGreatDoor
open Go.RowKit
theorem qmm{l:Lx.Bs}{k:Nat}(h4:l.length<=40)(h0:l≠[])(hsk:Lx.skipC false l=0)(ht:Lx.tokR l=some (k,l.length)):Lx.scan l = .toks [⟨k,l,0⟩]:=by
 rw[Lx.scan_rel,q7 (by omega)];unfold Lx.scanP;rw[hsk,List.drop_zero,Lx.scanS_step h0 ht (by simp) (by omega)];unfold Lx.scanP;rw[List.drop_of_length_le (q5 _),qt (q5 _)];have hpos:0 < l.length:=List.length_pos_iff.2 h0;obtain⟨f,hf⟩:∃ f,l.length=f+1:=⟨l.length - 1,by omega⟩;rw[hf];simp[Lx.scanS,Lx.skipC]
theorem qcw{l:Lx.Bs}{t:Lx.Tok}(h:Lx.scan l = .toks [t])(ht:t.text=l)(h0:l≠[]) :
  l.length<=40/\Lx.skipC false l=0/\Lx.tokR l=some (t.kind,l.length):=by
 rw[Lx.scan_rel]at h
 split at h
 ·cases h
 ·unfold Lx.scanP at h
  rcases Lx.scanS_inv h with ⟨_,e⟩|⟨k,n,hne,htk,_,h40,hs⟩
  ·cases e
  ·have hn:=Lx.tokR_lt htk
   obtain⟨rest,hl,_⟩:=Lx.scanS_shift 0 _ _ [] _ _ _ (by simp) hs;rw[List.nil_append,List.cons_append,List.nil_append,List.cons.injEq]at hl;have e1:=hl.1;subst e1;simp only at ht;have hlen:=congrArg List.length ht;rw[List.length_take,List.length_drop]at hlen;rw[List.length_drop]at hn;have hpos:0 < l.length:=List.length_pos_iff.2 h0;have hk0:Lx.skipC false l=0:=by omega
   rw[hk0,List.drop_zero]at htk;have hnl:n=l.length:=by omega
   subst hnl;exact⟨by omega,hk0,htk⟩
theorem qb7(c:UInt8)(r:Lx.Bs):Lx.skipC false (c :: r)=0↔(Lx.blank c=false/\c.toNat≠37):=by
 simp only[Lx.skipC]
 by_cases hb:Lx.blank c=true
 ·rw[qa hb,hb];simp
 ·rw[q7 hb]
  by_cases h37:c.toNat=37
  ·rw[qa h37];simp[h37]
  ·rw[q7 h37];simp[h37,hb]
theorem qbx(a:AT):xg a=q4p a:=by
 have hrel:=Lx.tokAt_rel (bs a.t) 0;rw[List.drop_zero]at hrel;have hsz:(bs a.t).length=a.t.size:=qr a.t
 have htext:∀ l:Lx.Bs,(((⟨l.toArray⟩:ByteArray).toList==a.t.toList)=true)↔l=bs a.t:=fun l=>by
  rw[ByteArray.toList_eq,ByteArray.toList_eq,beq_iff_eq];rfl
 rw[Bool.eq_iff_iff];unfold xg q3x q4p q40;rw[hrel]
 constructor
 ·intro h
  cases hs:Lx.scan (bs a.t)with
  |bad p er=>rw[hs]at h;cases h
  |toks ts =>
   rw[hs]at h
   match ts,h with
   |[],h=>simp[yc]at h
   |[t],h =>
    simp only[List.map_cons,List.map_nil,yc,wu,Bool.and_true,qd,beq_iff_eq]at h;have ht:t.text=bs a.t:=(htext _).1 (by rw[beq_iff_eq];exact h.2)
    have h0:bs a.t≠[]:=by
     intro e;rw[e]at hs;simp[Lx.scan,Lx.scanT,Lx.skipTo,Lx.skipC]at hs
    obtain⟨h40,hk,htk⟩:=qcw hs ht h0
    cases hl:bs a.t with
    |nil=>exact absurd hl h0
    |cons c r =>
     rw[hl]at hk;obtain⟨hb,h37⟩:=(qb7 c r).1 hk;rw[<-hl,htk];simp only[hl,List.getElem?_cons_zero,Option.map_some,hb,decide_eq_false h37,Bool.not_false,Bool.and_true,qd,qf];exact⟨by omega,h.1,by rw[<-hl];omega⟩
   |t :: u :: ts,h=>simp[yc]at h
 ·intro h
  cases hl:bs a.t with
  |nil=>rw[hl]at h;simp at h
  |cons c r =>
   rw[hl]at h;simp only[List.getElem?_cons_zero,qd,qf,Bool.not_eq_true']at h;obtain⟨⟨⟨h40,hb⟩,h37⟩,hT⟩:=h
   cases htk:Lx.tokR (c :: r)with
   |none=>rw[htk]at hT;simp at hT
   |some p =>
    obtain⟨k,n⟩:=p;rw[htk]at hT;simp only[Option.map_some,qd,qf]at hT;have hn:n=(c :: r).length:=by rw[<-hl,hsz];omega
    subst hn;rw[qmm (by rw[<-hl,hsz];omega) (by simp) ((qb7 c r).2 ⟨hb,by simpa using h37⟩) htk];simp only[List.map_cons,List.map_nil,yc,wu,Bool.and_true,qd,beq_iff_eq];exact⟨hT.1,by have:=(htext (c :: r)).2 hl.symm;rwa [beq_iff_eq]at this⟩
theorem qd8(V:Bool)(a:AT)(w:World)(hV:xg a=V) :
  Calls Tryz.prog 125 #[.agg #[.int .i64 a.k,.string a.t,.int .i64 a.p]] w fun e w'=>e = .returned (.int .i64 (if V then 0 else 12))/\Below w.heap.size w w':=by
 rw[qbx]at hV
 by_cases h0:a.t.size=0
 ·have:q4p a=false:=by
   unfold q4p;rw[List.getElem?_eq_none (by rw[qr];omega)]
  rw[this]at hV;subst hV;exact qd9 a w h0
 ·by_cases h40:40 < a.t.size
  ·have:q4p a=false:=by
    unfold q4p;rw[qj (by rw[qr];omega)];simp only[decide_eq_false (show ¬ a.t.size<=40 by omega),Bool.false_and]
   rw[this]at hV;subst hV;exact qey a w h40
  ·exact qhj V a w (by omega) (by omega) hV
theorem xc(V:Bool)(s:ByteArray)(w:World)(hV:xg ⟨1,s,0⟩=V) :
  Calls Tryz.prog 65 #[.string s] w fun e w'=>e = .returned (.bool V)/\Below w.heap.size w w':=by
 have C:=qh (qd8 V ⟨1,s,0⟩ w hV);clear hV;go_enter Tryz.func65,Tryz.ntmps65
 go_wp2_with fail
 refine C.out.mono ?_;clear C;rintro e w1⟨rfl,hb⟩
 cases V
 ·go_wp2
  go_ret;exact⟨rfl,hb⟩
 ·go_wp2
  go_ret;exact⟨rfl,hb⟩
theorem qd6(V:Bool)(s:ByteArray)(w:World)(hV:xg ⟨2,s,0⟩=V) :
  Calls Tryz.prog 66 #[.string s] w fun e w'=>e = .returned (.bool V)/\Below w.heap.size w w':=by
 have C:=qh (qd8 V ⟨2,s,0⟩ w hV);clear hV;go_enter Tryz.func66,Tryz.ntmps66
 go_wp2_with fail
 refine C.out.mono ?_;clear C;rintro e w1⟨rfl,hb⟩
 cases V
 ·go_wp2
  go_ret;exact⟨rfl,hb⟩
 ·go_wp2
  go_ret;exact⟨rfl,hb⟩
theorem nd3{w:World}{k:Int}{s:ByteArray}{v2:Value}{t:TypeId}{h:Nat}(hh:w.heap.size=h) :
  (w.alloc (.cells #[.int .i64 k,.string s,v2] t)).cell? ⟨h,0,none⟩=some (.int .i64 k)/\(w.alloc (.cells #[.int .i64 k,.string s,v2] t)).cell? ⟨h,1,none⟩=some (.string s)/\(w.alloc (.cells #[.int .i64 k,.string s,v2] t)).cell? ⟨h,2,none⟩=some v2:=by
 rw[<-hh];exact⟨(World.cell?_alloc_at _ _ _ _ rfl).trans rfl,(World.cell?_alloc_at _ _ _ _ rfl).trans rfl,(World.cell?_alloc_at _ _ _ _ rfl).trans rfl⟩
theorem q41(n:Nat):∀ (t:Nd) (w:World) (v0 v1 v2:Value),t.sz<=n->NdR w t v0 v1 v2 ->
  Calls Tryz.prog 75 #[.agg #[v0,v1,v2]] w fun e w'=>e = .returned (.bool (zj t))/\Below w.heap.size w w':=by
 induction n with
 |zero=>intro t w v0 v1 v2 h;cases t;simp only[Nd.sz]at h;omega
 |succ n ih =>
  intro t w v0 v1 v2 hsz ht;obtain⟨k,s,l,a,cap,rfl,rfl,rfl,rfl,hs,hl⟩:=ht.form;have IH:=qh ih;clear ih;unfold maxLen at hl
  by_cases hk:k=31
  ·subst hk
   cases hse:s.toList.isEmpty with
   |false =>
    have HS:Hid (zj (.mk 31 s l)=false):=qh (by simp only[zj];rw[qa trivial];unfold qu;rw[hse];rfl);clear ht;go_enter Tryz.func75,Tryz.ntmps75;go_wp2;go_ret;exact⟨by rw[HS.out];rfl,(Below.refl _ w).alloc (q5 _) _⟩
   |true =>
    by_cases hll:l.length=2
    ·have hl2:((l.length:Int)==2)=true:=by rw[hll];rfl
     obtain⟨h,hh⟩:∃ h,w.heap.size=h:=⟨_,rfl⟩;obtain⟨b,o,k1,s1,l1,a1,c1,rfl,e1,x0,x1,x2,r1⟩:=ht.kid 0 (by omega);obtain⟨b',o',k2,s2,l2,a2,c2,hbo,e2,y0,y1,y2,r2⟩:=ht.kid 1 (by omega);obtain⟨rfl,rfl⟩:b=b'/\o=o':=by simpa using hbo
     have hsz1:=Nd.kid_lt 31 s l 0 (by omega);have hsz2:=Nd.kid_lt 31 s l 1 (by omega);rw[e1]at hsz1;rw[e2]at hsz2
     have HS:Hid (zj (.mk 31 s l)=(zj (.mk k1 s1 l1) && zj (.mk k2 s2 l2))):=qh (by
      match l,hll,e1,e2 with
      |[p,q],_,e1,e2 =>
       simp only[zo,zy]at e1 e2;subst e1 e2;rw[zj];rw[qa rfl];simp only[yo,Bool.and_true];unfold qu;rw[hse]
       simp)
     obtain⟨V1,hV1⟩:∃ V,zj (.mk k1 s1 l1)=V:=⟨_,rfl⟩;obtain⟨V2,hV2⟩:∃ V,zj (.mk k2 s2 l2)=V:=⟨_,rfl⟩;rw[hV1,hV2]at HS;have C1:=qh (fun w h=>IH.out (.mk k1 s1 l1) w _ _ _ (by omega) (h:NdR w _ (.int .i64 k1) (.string s1) (.slice a1 l1.length c1)));have C2:=qh (fun w h=>IH.out (.mk k2 s2 l2) w _ _ _ (by omega) (h:NdR w _ (.int .i64 k2) (.string s2) (.slice a2 l2.length c2)));rw[hV1]at C1;rw[hV2]at C2;simp only[Nat.zero_mul,Nat.add_zero]at x0 x1 x2;have nb:=qg x0;have R1:=qh r1;have R2:=qh r2;have X0:=qh x0;have Y0:=qh (And.intro y0 (And.intro y1 y2));have hb0:=qh ((Below.refl w.heap.size w).alloc (q5 _) (.cells #[.int .i64 31,.string s,.slice (some ⟨b,o,none⟩) l.length cap] 25));have D0:=qh (nd3 (w:=w) (k:=31) (s:=s) (v2:=.slice (some ⟨b,o,none⟩) l.length cap) (t:=25) hh);have HH:=qh hh;have i0:(0:Int) < (l.length:Int):=by omega
     have i1:(1:Int) < (l.length:Int):=by omega
     have j0:0 < l.length:=by omega
     have j1:1 < l.length:=by omega
     clear ht e1 e2 hV1 hV2 hsz hsz1 hsz2 r1 r2 y0 y1 y2 hbo hh hll;go_enter Tryz.func75,Tryz.ntmps75
     go_wp2_with fail
     refine(C1.out _ (R1.out.later hb0.out)).mono ?_;rintro e w1⟨rfl,hb1⟩;have B1:Hid (Below w.heap.size w w1):=qh (hb0.out.trans (hb1.mono hb0.out.size));have hz1:=hb1.size;have hh:=HH.out;rw[q6]at hz1;rw[hh];rw[hh]at hz1 nb;have d2:w1.cell? ⟨h,2,none⟩=some (.slice (some ⟨b,o,none⟩) l.length cap):=(hb1.cell (p:=⟨h,2,none⟩) (by rw[q6,hh];exact Nat.lt_succ_self h)).trans D0.out.2.2;obtain⟨y0,y1,y2⟩:=Y0.out;have z0:=(B1.out.cell (p:=⟨b,o+1*3,none⟩) (by rw[hh];exact nb)).trans y0;have z1:=(B1.out.cell (p:=⟨b,o+1*3+1,none⟩) (by rw[hh];exact nb)).trans y1;have z2:=(B1.out.cell (p:=⟨b,o+1*3+2,none⟩) (by rw[hh];exact nb)).trans y2;simp only[Nat.one_mul]at z0 z1 z2;have l1:=qg z0;clear C1 hb1 x0 x1 x2 y0 y1 y2 hh
     cases V1 with
     |false =>
      go_wp2;go_ret;exact⟨by rw[HS.out];rfl,by rw[HH.out]at *;exact B1.out⟩
     |true =>
      go_wp2_with fail
      refine(C2.out _ (R2.out.later B1.out)).mono ?_;rintro e w2⟨rfl,hb2⟩;have B2:Hid (Below w.heap.size w w2):=qh (B1.out.trans (hb2.mono B1.out.size));clear C2 hb2 z0 z1 z2 d2;go_wp2;go_ret;exact⟨by rw[HS.out];rfl,B2.out⟩
    ·have hl2:((l.length:Int)==2)=false:=by rw[q9];omega
     have HS:Hid (zj (.mk 31 s l)=false):=qh (by rw[zj,qa rfl,decide_eq_false hll,Bool.false_and,Bool.and_false]);clear ht hll;go_enter Tryz.func75,Tryz.ntmps75;go_wp2;go_ret;exact⟨by rw[HS.out];rfl,(Below.refl _ w).alloc (q5 _) _⟩
  ·have hk2:((k:Int)==31)=false:=by rw[q9];exact hk
   have HS:Hid (zj (.mk k s l)=(decide (k=15) && (decide (l.length=0) && qy s))):=qh (by rw[zj,q7 hk]);obtain⟨V,hV⟩:∃ V,qy s=V:=⟨_,rfl⟩;have C:=qh (fun w=>xc V s w hV);rw[hV]at HS;clear hk ht hsz hV
   by_cases h15:k=15
   ·subst h15
    by_cases hll:l.length=0
    ·have hl2:((l.length:Int)==0)=true:=by rw[hll];rfl
     rw[decide_eq_true rfl,decide_eq_true hll,Bool.true_and,Bool.true_and]at HS;clear hll;go_enter Tryz.func75,Tryz.ntmps75
     go_wp2_with fail
     refine(C.out _).mono ?_;rintro e w1⟨rfl,hb1⟩;have Hb1:=qh hb1;clear C hb1;go_wp2;go_ret;exact⟨by rw[HS.out];rfl,((Below.refl _ w).alloc (q5 _) _).trans (Hb1.out.mono (by simp))⟩
    ·have hl2:((l.length:Int)==0)=false:=by rw[q9];omega
     rw[decide_eq_false hll,Bool.false_and,Bool.and_false]at HS;clear hll;go_enter Tryz.func75,Tryz.ntmps75;go_wp2;go_ret;exact⟨by rw[HS.out];rfl,(Below.refl _ w).alloc (q5 _) _⟩
   ·have hk3:((k:Int)==15)=false:=by rw[q9];exact h15
    rw[decide_eq_false h15,Bool.false_and]at HS;clear h15;go_enter Tryz.func75,Tryz.ntmps75;go_wp2;go_ret;exact⟨by rw[HS.out];rfl,(Below.refl _ w).alloc (q5 _) _⟩
mutual
def Nd.dp:Nd->Nat
 | .mk _ _ l=>1+Nd.dpL l
def Nd.dpL:List Nd->Nat
 |[]=>0
 |a :: l=>max (Nd.dp a) (Nd.dpL l)
end
def NdL(w:World)(l:List Nd)(v:Value):Prop:=∃ k s v0 v1,NdR w (.mk k s l) v0 v1 v
theorem NdL.later{w w':World}(hb:Below w.heap.size w w'){l:List Nd}{v:Value}(h:NdL w l v):NdL w' l v:=by
 obtain⟨k,s,v0,v1,h⟩:=h;exact⟨k,s,v0,v1,h.later hb⟩
theorem NdL.form{w:World}{l:List Nd}{v:Value}(h:NdL w l v):∃ a cap,v = .slice a l.length cap/\l.length<=maxLen:=by
 obtain⟨k,s,v0,v1,h⟩:=h;obtain⟨k',s',l',a,cap,e,_,_,rfl,_,hl⟩:=h.form
 cases e;exact⟨a,cap,rfl,hl⟩
theorem q3g:∀ (l:List Nd),q07 l=true↔∀ i,(h:i < l.length)->zh l[i]=true
 |[]=>by simp[q07]
 |a :: l=>by
  simp only[q07,qd,q3g l]
  constructor
  ·rintro⟨h1,h2⟩ i hi
   cases i with
   |zero=>exact h1
   |succ i=>exact h2 i (by simpa using hi)
  ·intro h
   exact⟨h 0 (by simp),fun i hi=>h (i+1) (by simpa using hi)⟩
theorem qk7(n:Nat)(ih:∀ (t:Nd) (w:World) (v0 v1 v2:Value),t.sz<=n->NdR w t v0 v1 v2 ->
  Calls Tryz.prog 74 #[.agg #[v0,v1,v2]] w fun e w'=>e = .returned (.bool (zh t))/\Below w.heap.size w w')
  (l:List Nd) (v:Value) (w:World) (hsz:∀ i,(h:i < l.length)->(l[i]).sz<=n) (hv:NdL w l v) :
  Calls Tryz.prog 128 #[v] w fun e w'=>e = .returned (.bool (q07 l && decide (l.length<=8)))/\Below w.heap.size w w':=by
 obtain⟨a,cap,rfl,hl⟩:=hv.form;have IH:=qh ih;have Hsz:=qh hsz;have HV:=qh hv;unfold maxLen at hl;clear ih hsz hv;go_enter Tryz.func128,Tryz.ntmps128;go_wp2
 go_loopw [3] (fun v3 wr=>∃ i:Nat,i<=l.length/\i<=9/\v3 = .int .i64 i/\Hid (∀ j,(h:j < l.length)->j < i->zh l[j]=true)/\Hid (Below w.heap.size w wr)) (fun v3 _=>10 - (intOf v3).toNat)
 case atStart=>exact⟨0,qp _,by omega,rfl,qh (fun j _ h=>absurd h (Nat.not_lt_zero _)),Below.refl _ _⟩
 case round =>
  obtain⟨i,hi,hi9,rfl,hall,hbl⟩:=hrel
  by_cases hlt:i < l.length
  ·have hlt':(i:Int) < (l.length:Int):=by omega
   by_cases h8:i<=8
   ·have h8':(i:Int)<=8:=by omega
    have hi0:(0:Int)<=(i:Int):=by omega
    obtain⟨kk,ss,w0,w1,hR⟩:=HV.out.later hbl.out;obtain⟨b,o,k1,s1,l1,a1,c1,rfl,e1,x0,x1,x2,r1⟩:=hR.kid i hlt;have hs1:=Hsz.out i hlt;obtain⟨V,hV⟩:∃ V,zh l[i]=V:=⟨_,rfl⟩;have HVi:=qh hV;rw[e1]at hs1 hV;have C:=qh (IH.out (.mk k1 s1 l1) wr _ _ _ hs1 r1);rw[hV]at C;have nb:=qg x0;clear e1 hV r1 hR
    go_wp2_with fail
    refine C.out.mono ?_;clear C;rintro e w5⟨rfl,hb5⟩;have Hb5:Hid (Below w.heap.size w w5):=qh (hbl.out.trans (hb5.mono hbl.out.size));clear hb5 x0 x1 x2
    cases V with
    |false =>
     have HS:Hid (q07 l=false):=qh (by
      rw[Bool.eq_false_iff];intro h;have:=(q3g l).1 h i hlt;rw[HVi.out]at this
      cases this)
     go_wp2;go_ret;exact⟨by rw[HS.out];rfl,Hb5.out⟩
    |true =>
     go_wp2;go_roundw
     case rel=>exact⟨i+1,hlt,by omega,by push_cast;rfl,qh (fun j hj hji=>by
      by_cases e:j=i
      ·subst e;exact HVi.out
      ·exact hall.out j hj (by omega)),Hb5⟩
     case measure=>simp[intOf];omega
   ·have h8':¬ ((i:Int)<=8):=by omega
    have hd:decide (l.length<=8)=false:=by rw[decide_eq_false_iff_not];omega
    have hd2:decide ((l.length:Int)<=8)=false:=by rw[decide_eq_false_iff_not];omega
    have HD:=qh hd;clear hd;go_wp2;go_ret;exact⟨by rw[HD.out,Bool.and_false];simp,hbl.out⟩
  ·have hlt':¬ ((i:Int) < (l.length:Int)):=by omega
   have HS:Hid (q07 l=true):=qh ((q3g l).2 fun j hj=>hall.out j hj (by omega));have HDD:Hid (decide ((l.length:Int)<=8)=decide (l.length<=8)):=qh (by rw[decide_eq_decide];omega);go_wp2;go_ret;exact⟨by rw[HS.out,Bool.true_and,<-HDD.out];rfl,hbl.out⟩
theorem q80{l:List Nd}(h:0 < l.length):wk l=zj l[0]:=by
 cases l with
 |nil=>simp at h
 |cons a l=>rfl
theorem q6e(k:Int)(s:ByteArray)(l:List Nd)(w:World)(v0 v1 v2:Value)(ht:NdR w (.mk k s l) v0 v1 v2) :
  Calls Tryz.prog 126 #[.agg #[v0,v1,v2]] w fun e w'=>e = .returned (.bool (je s l))/\Below w.heap.size w w':=by
 obtain⟨k',s',l',a,cap,he,rfl,rfl,rfl,hs,hl⟩:=ht.form
 cases he;unfold maxLen at hl;obtain⟨V1,hV1⟩:∃ V,qy s=V:=⟨_,rfl⟩;obtain⟨V2,hV2⟩:∃ V,ww s=V:=⟨_,rfl⟩;have CN:=qh (fun w=>xc V1 s w hV1);have CV:=qh (fun w=>qd6 V2 s w hV2);obtain⟨h,hh⟩:∃ h,w.heap.size=h:=⟨_,rfl⟩;have hb0:=qh ((Below.refl w.heap.size w).alloc (q5 _) (.cells #[.int .i64 k,.string s,.slice a l.length cap] 25));have D0:=qh (nd3 (w:=w) (k:=k) (s:=s) (v2:=.slice a l.length cap) (t:=25) hh);have HH:=qh hh;have HT:=qh ht;have HS:Hid (je s l=((V1||V2) && (decide (l.length=1)||(decide (l.length=2) && wk l)))):=qh (by unfold je;rw[hV1,hV2]);clear hV1 hV2 ht
 cases V1 with
 |false =>
  cases V2 with
  |false =>
   clear hh;go_enter Tryz.func126,Tryz.ntmps126
   go_wp2_with fail
   refine(CN.out _).mono ?_;rintro e w1⟨rfl,hb1⟩;have B1:Hid (Below w.heap.size w w1):=qh (hb0.out.trans (hb1.mono hb0.out.size));have d1:w1.cell? ⟨w.heap.size,1,none⟩=some (.string s):=(hb1.cell (p:=⟨w.heap.size,1,none⟩) (by rw[q6];exact Nat.lt_succ_self _)).trans (by rw[HH.out];exact D0.out.2.1);clear CN hb1
   go_wp2_with fail
   refine(CV.out _).mono ?_;rintro e w2⟨rfl,hb2⟩;have B2:Hid (Below w.heap.size w w2):=qh (B1.out.trans (hb2.mono B1.out.size));clear CV hb2 d1;go_wp2;go_ret;exact⟨by rw[HS.out];rfl,B2.out⟩
  |true =>
   clear hh;go_enter Tryz.func126,Tryz.ntmps126
   go_wp2_with fail
   refine(CN.out _).mono ?_;rintro e w1⟨rfl,hb1⟩;have B1:Hid (Below w.heap.size w w1):=qh (hb0.out.trans (hb1.mono hb0.out.size));have d1:w1.cell? ⟨w.heap.size,1,none⟩=some (.string s):=(hb1.cell (p:=⟨w.heap.size,1,none⟩) (by rw[q6];exact Nat.lt_succ_self _)).trans (by rw[HH.out];exact D0.out.2.1);have d3:=qh (show w1.cell? ⟨w.heap.size,2,none⟩=some (.slice a l.length cap) from(hb1.cell (p:=⟨w.heap.size,2,none⟩) (by rw[q6];exact Nat.lt_succ_self _)).trans (by rw[HH.out];exact D0.out.2.2));have l3:=hb1.size;rw[q6]at l3;clear CN hb1
   go_wp2_with fail
   refine(CV.out _).mono ?_;rintro e w2⟨rfl,hb2⟩;have B2:Hid (Below w.heap.size w w2):=qh (B1.out.trans (hb2.mono B1.out.size));have d2:w2.cell? ⟨w.heap.size,2,none⟩=some (.slice a l.length cap):=(hb2.cell (p:=⟨w.heap.size,2,none⟩) l3).trans d3.out;clear CV hb2 d1 d3 l3
   by_cases hl1:l.length=1
   ·have e1:((l.length:Int)==1)=true:=by rw[hl1];rfl
    have HR:Hid (je s l=true):=qh (by rw[HS.out,decide_eq_true hl1];simp);clear hl1;go_wp2;go_ret;exact⟨by rw[HR.out];rfl,B2.out⟩
   ·have e1:((l.length:Int)==1)=false:=by rw[q9];omega
    by_cases hl2:l.length=2
    ·have e2:((l.length:Int)==2)=true:=by rw[hl2];rfl
     have i0:(0:Int) < (l.length:Int):=by omega
     have j0:0 < l.length:=by omega
     obtain⟨b,o,k1,s1,l1,a1,c1,rfl,eq1,x0,x1,x2,r1⟩:=(HT.out.later B2.out).kid 0 j0;simp only[Nat.zero_mul,Nat.add_zero]at x0 x1 x2;obtain⟨V,hV⟩:∃ V,zj (.mk k1 s1 l1)=V:=⟨_,rfl⟩;have HR:Hid (je s l=V):=qh (by rw[HS.out,decide_eq_false hl1,decide_eq_true hl2,q80 j0,eq1,hV];simp);have CT:=qh (q41 _ (.mk k1 s1 l1) w2 _ _ _ (q5 _) r1);rw[hV]at CT;have nb:=qg x0;clear eq1 hV r1 hl1 hl2
     go_wp2_with fail
     refine CT.out.mono ?_;clear CT;rintro e w9⟨rfl,hb9⟩;have B9:Hid (Below w.heap.size w w9):=qh (B2.out.trans (hb9.mono B2.out.size));clear hb9 x0 x1 x2 d2;go_wp2;go_ret;exact⟨by rw[HR.out];rfl,B9.out⟩
    ·have e2:((l.length:Int)==2)=false:=by rw[q9];omega
     have HR:Hid (je s l=false):=qh (by rw[HS.out,decide_eq_false hl1,decide_eq_false hl2];simp);clear hl1 hl2;go_wp2;go_ret;exact⟨by rw[HR.out];rfl,B2.out⟩
 |true =>
  clear hh;go_enter Tryz.func126,Tryz.ntmps126
  go_wp2_with fail
  refine(CN.out _).mono ?_;rintro e w1⟨rfl,hb1⟩;have B1:Hid (Below w.heap.size w w1):=qh (hb0.out.trans (hb1.mono hb0.out.size));have d2:w1.cell? ⟨w.heap.size,2,none⟩=some (.slice a l.length cap):=(hb1.cell (p:=⟨w.heap.size,2,none⟩) (by rw[q6];exact Nat.lt_succ_self _)).trans (by rw[HH.out];exact D0.out.2.2);clear CN CV hb1
  by_cases hl1:l.length=1
  ·have e1:((l.length:Int)==1)=true:=by rw[hl1];rfl
   have HR:Hid (je s l=true):=qh (by rw[HS.out,decide_eq_true hl1];simp);clear hl1;go_wp2;go_ret;exact⟨by rw[HR.out];rfl,B1.out⟩
  ·have e1:((l.length:Int)==1)=false:=by rw[q9];omega
   by_cases hl2:l.length=2
   ·have e2:((l.length:Int)==2)=true:=by rw[hl2];rfl
    have i0:(0:Int) < (l.length:Int):=by omega
    have j0:0 < l.length:=by omega
    obtain⟨b,o,k1,s1,l1,a1,c1,rfl,eq1,x0,x1,x2,r1⟩:=(HT.out.later B1.out).kid 0 j0;simp only[Nat.zero_mul,Nat.add_zero]at x0 x1 x2;obtain⟨V,hV⟩:∃ V,zj (.mk k1 s1 l1)=V:=⟨_,rfl⟩;have HR:Hid (je s l=V):=qh (by rw[HS.out,decide_eq_false hl1,decide_eq_true hl2,q80 j0,eq1,hV];simp);have CT:=qh (q41 _ (.mk k1 s1 l1) w1 _ _ _ (q5 _) r1);rw[hV]at CT;have nb:=qg x0;clear eq1 hV r1 hl1 hl2
    go_wp2_with fail
    refine CT.out.mono ?_;clear CT;rintro e w9⟨rfl,hb9⟩;have B9:Hid (Below w.heap.size w w9):=qh (B1.out.trans (hb9.mono B1.out.size));clear hb9 x0 x1 x2 d2;go_wp2;go_ret;exact⟨by rw[HR.out];rfl,B9.out⟩
   ·have e2:((l.length:Int)==2)=false:=by rw[q9];omega
    have HR:Hid (je s l=false):=qh (by rw[HS.out,decide_eq_false hl1,decide_eq_false hl2];simp);clear hl1 hl2;go_wp2;go_ret;exact⟨by rw[HR.out];rfl,B1.out⟩
theorem q65:∀ {l:List Nd} (h:0 < l.length),wq l=zh (l[l.length - 1]'(by omega))
 |[a],_=>by simp[wq]
 |a :: b :: l,_=>by
  simp only[wq];rw[q7 (by simp)];have:=q65 (l:=b :: l) (by simp);rw[wq]at this;rw[this];simp
theorem q72{s:ByteArray}{l:List Nd}(h:je s l=true):l.length=1\/l.length=2:=by
 unfold je at h;rw[qd]at h;have h2:=h.2;rw[Bool.or_eq_true,qd,qf,qf]at h2;rcases h2 with h|h
 ·exact .inl h
 ·exact .inr h.1
theorem qg2(n:Nat):∀ (t:Nd) (w:World) (v0 v1 v2:Value),t.sz<=n->NdR w t v0 v1 v2 ->
  Calls Tryz.prog 74 #[.agg #[v0,v1,v2]] w fun e w'=>e = .returned (.bool (zh t))/\Below w.heap.size w w':=by
 induction n with
 |zero=>intro t w v0 v1 v2 h;cases t;simp only[Nd.sz]at h;omega
 |succ n ih =>
  intro t w v0 v1 v2 hsz ht;obtain⟨k,s,l,a,cap,rfl,rfl,rfl,rfl,hs,hl⟩:=ht.form;have hsi:∀ i,(h:i < l.length)->(l[i]).sz<=n:=fun i h=>by have:=Nd.kid_lt k s l i h;omega
  have CA:=qh (fun w (hv:NdL w l (.slice a l.length cap))=>qk7 n ih l _ w hsi hv);have IH:=qh ih;have Hsi:=qh hsi;unfold maxLen at hl;obtain⟨A,hA⟩:∃ A,(q07 l && decide (l.length<=8))=A:=⟨_,rfl⟩;rw[hA]at CA;have HA:=qh hA;obtain⟨h,hh⟩:∃ h,w.heap.size=h:=⟨_,rfl⟩;have hb0:=qh ((Below.refl w.heap.size w).alloc (q5 _) (.cells #[.int .i64 k,.string s,.slice a l.length cap] 25));have D0:=qh (nd3 (w:=w) (k:=k) (s:=s) (v2:=.slice a l.length cap) (t:=25) hh);have HH:=qh hh;have HT:=qh ht;clear ih hsi hA hh ht hsz
  by_cases hk:k=15
  ·subst hk
   obtain⟨V,hV⟩:∃ V,qy s=V:=⟨_,rfl⟩;have CN:=qh (fun w=>xc V s w hV);have HS:Hid (zh (.mk 15 s l)=(V && A)):=qh (by rw[zh,qa rfl,hV,HA.out]);clear hV;go_enter Tryz.func74,Tryz.ntmps74
   go_wp2_with fail
   refine(CN.out _).mono ?_;rintro e w1⟨rfl,hb1⟩;have B1:Hid (Below w.heap.size w w1):=qh (hb0.out.trans (hb1.mono hb0.out.size));have d2:w1.cell? ⟨w.heap.size,2,none⟩=some (.slice a l.length cap):=(hb1.cell (p:=⟨w.heap.size,2,none⟩) (by rw[q6];exact Nat.lt_succ_self _)).trans (by rw[HH.out];exact D0.out.2.2);clear CN hb1
   cases V with
   |false =>
    go_wp2;go_ret;exact⟨by rw[HS.out];rfl,B1.out⟩
   |true =>
    go_wp2_with fail
    refine(CA.out _ ⟨_,_,_,_,HT.out.later B1.out⟩).mono ?_;rintro e w2⟨rfl,hb2⟩;have B2:Hid (Below w.heap.size w w2):=qh (B1.out.trans (hb2.mono B1.out.size));clear CA hb2 d2;go_wp2;go_ret;exact⟨by rw[HS.out];rfl,B2.out⟩
  ·have hk15:((k:Int)==15)=false:=by rw[q9];exact hk
   by_cases hk:k=16
   ·subst hk
    obtain⟨V,hV⟩:∃ V,ww s=V:=⟨_,rfl⟩;have CN:=qh (fun w=>qd6 V s w hV);have HS:Hid (zh (.mk 16 s l)=(V && A)):=qh (by rw[zh,q7 (by decide),qa rfl,hV,HA.out]);clear hV;go_enter Tryz.func74,Tryz.ntmps74
    go_wp2_with fail
    refine(CN.out _).mono ?_;rintro e w1⟨rfl,hb1⟩;have B1:Hid (Below w.heap.size w w1):=qh (hb0.out.trans (hb1.mono hb0.out.size));have d2:w1.cell? ⟨w.heap.size,2,none⟩=some (.slice a l.length cap):=(hb1.cell (p:=⟨w.heap.size,2,none⟩) (by rw[q6];exact Nat.lt_succ_self _)).trans (by rw[HH.out];exact D0.out.2.2);clear CN hb1
    cases V with
    |false =>
     go_wp2;go_ret;exact⟨by rw[HS.out];rfl,B1.out⟩
    |true =>
     go_wp2_with fail
     refine(CA.out _ ⟨_,_,_,_,HT.out.later B1.out⟩).mono ?_;rintro e w2⟨rfl,hb2⟩;have B2:Hid (Below w.heap.size w w2):=qh (B1.out.trans (hb2.mono B1.out.size));clear CA hb2 d2;go_wp2;go_ret;exact⟨by rw[HS.out];rfl,B2.out⟩
   ·have hk16:((k:Int)==16)=false:=by rw[q9];exact hk
    by_cases hk:k=17
    ·subst hk
     obtain⟨V,hV⟩:∃ V,je s l=V:=⟨_,rfl⟩;have CB:=qh (fun w (ht:NdR w (.mk 17 s l) (.int .i64 17) (.string s) (.slice a l.length cap))=>q6e 17 s l w _ _ _ ht);rw[hV]at CB;have HS:Hid (zh (.mk 17 s l)=(V && wq l)):=qh (by rw[zh,q7 (by decide),q7 (by decide),decide_eq_true rfl,Bool.true_and,hV]);have HV:=qh hV;clear hV;go_enter Tryz.func74,Tryz.ntmps74
     go_wp2_with fail
     refine(CB.out _ (HT.out.later hb0.out)).mono ?_;rintro e w1⟨rfl,hb1⟩;have B1:Hid (Below w.heap.size w w1):=qh (hb0.out.trans (hb1.mono hb0.out.size));have d2:w1.cell? ⟨w.heap.size,2,none⟩=some (.slice a l.length cap):=(hb1.cell (p:=⟨w.heap.size,2,none⟩) (by rw[q6];exact Nat.lt_succ_self _)).trans (by rw[HH.out];exact D0.out.2.2);clear CB hb1
     cases V with
     |false =>
      go_wp2;go_ret;exact⟨by rw[HS.out];rfl,B1.out⟩
     |true =>
      have hln:=q72 HV.out;obtain⟨m,hm⟩:∃ m,l.length=m+1:=⟨l.length - 1,by omega⟩;have j0:m < l.length:=by omega
      have i1:(l.length:Int) - 1=(m:Int):=by omega
      have i2:IntKind.i64.wrap (m:Int)=m:=by rw[IntKind.wrap_i64];omega
      have i3:(m:Int) < (l.length:Int):=by omega
      have i4:(0:Int)<=(m:Int):=by omega
      obtain⟨b,o,k1,s1,l1,a1,c1,rfl,eq1,x0,x1,x2,r1⟩:=(HT.out.later B1.out).kid m j0;have hs1:=Hsi.out m j0;obtain⟨U,hU⟩:∃ U,zh l[m]=U:=⟨_,rfl⟩
      have HE:Hid (wq l=U):=qh (by
       rw[q65 (by omega),<-hU]
       congr 2
       omega)
      rw[eq1]at hs1 hU;have CT:=qh (IH.out (.mk k1 s1 l1) w1 _ _ _ hs1 r1);rw[hU]at CT;have nb:=qg x0;clear eq1 hU r1 hln hm hs1
      go_wp2_with fail
      refine CT.out.mono ?_;clear CT;rintro e w9⟨rfl,hb9⟩;have B9:Hid (Below w.heap.size w w9):=qh (B1.out.trans (hb9.mono B1.out.size));clear hb9 x0 x1 x2 d2;go_wp2;go_ret;exact⟨by rw[HS.out,HE.out];rfl,B9.out⟩
    ·have hk17:((k:Int)==17)=false:=by rw[q9];exact hk
     have HS:Hid (zh (.mk k s l)=false):=qh (by rw[zh,q7 (by intro e;rw[e]at hk15;simp at hk15),q7 (by intro e;rw[e]at hk16;simp at hk16),decide_eq_false hk,Bool.false_and]);clear hk;go_enter Tryz.func74,Tryz.ntmps74;go_wp2;go_ret;exact⟨by rw[HS.out];rfl,hb0.out⟩
theorem q2k:∀ {l:List Nd} (h:0 < l.length),vr l=qn (l[l.length - 1]'(by omega))
 |[a],_=>by simp[vr]
 |a :: b :: l,_=>by
  simp only[vr];rw[q7 (by simp)];have:=q2k (l:=b :: l) (by simp);rw[vr]at this;rw[this];simp
theorem qbr{l:List Nd}(h:l.length=1):xy l=qn (l[0]'(by omega)):=by
 match l,h with
 |[a],_=>simp[xy]
theorem qll{l:List Nd}(h:l.length=2):xy l=(qn (l[0]'(by omega)) && qn (l[1]'(by omega))):=by
 match l,h with
 |[a,b],_=>simp[xy]
def lvl(k:Int):Int:=if k=27\/k=28 then 1 else if k=25\/k=26 then 2 else if k=24 then 3 else if k=23 then 4 else if k=22 then 5 else 6
theorem qi4(k:Int):decide (lvl k < 6)=yu k:=by
 unfold lvl yu
 by_cases h:22<=k/\k<=28
 ·rw[decide_eq_true h.1,decide_eq_true h.2,Bool.true_and,qf]
  split
  ·omega
  ·split
   ·omega
   ·split
    ·omega
    ·split
     ·omega
     ·split
      ·omega
      ·omega
 ·have e:(decide (22<=k) && decide (k<=28))=false:=by
   rw[Bool.and_eq_false_iff,decide_eq_false_iff_not,decide_eq_false_iff_not];omega
  rw[e,decide_eq_false_iff_not,q7 (by omega),q7 (by omega),q7 (by omega),q7 (by omega),q7 (by omega)];omega
theorem qqf(k:Int)(w:World):Calls Tryz.prog 127 #[.int .i64 k] w fun e w'=>e = .returned (.int .i64 (lvl k))/\w=w':=by
 by_cases n27:k=27
 ·subst n27
  go_enter Tryz.func127,Tryz.ntmps127;go_wp2;go_ret;exact⟨rfl,rfl⟩
 ·have b27:((k:Int)==27)=false:=by rw[q9];exact n27
  by_cases n28:k=28
  ·subst n28
   go_enter Tryz.func127,Tryz.ntmps127;go_wp2;go_ret;exact⟨rfl,rfl⟩
  ·have b28:((k:Int)==28)=false:=by rw[q9];exact n28
   by_cases n25:k=25
   ·subst n25
    go_enter Tryz.func127,Tryz.ntmps127;go_wp2;go_ret;exact⟨rfl,rfl⟩
   ·have b25:((k:Int)==25)=false:=by rw[q9];exact n25
    by_cases n26:k=26
    ·subst n26
     go_enter Tryz.func127,Tryz.ntmps127;go_wp2;go_ret;exact⟨rfl,rfl⟩
    ·have b26:((k:Int)==26)=false:=by rw[q9];exact n26
     by_cases n24:k=24
     ·subst n24
      go_enter Tryz.func127,Tryz.ntmps127;go_wp2;go_ret;exact⟨rfl,rfl⟩
     ·have b24:((k:Int)==24)=false:=by rw[q9];exact n24
      by_cases n23:k=23
      ·subst n23
       go_enter Tryz.func127,Tryz.ntmps127;go_wp2;go_ret;exact⟨rfl,rfl⟩
      ·have b23:((k:Int)==23)=false:=by rw[q9];exact n23
       by_cases n22:k=22
       ·subst n22
        go_enter Tryz.func127,Tryz.ntmps127;go_wp2;go_ret;exact⟨rfl,rfl⟩
       ·have b22:((k:Int)==22)=false:=by rw[q9];exact n22
        have HL:Hid (lvl k=6):=qh (by unfold lvl;rw[q7 (by omega),q7 (by omega),q7 (by omega),q7 (by omega),q7 (by omega)]);clear n27 n28 n25 n26 n24 n23 n22;go_enter Tryz.func127,Tryz.ntmps127;go_wp2;go_ret;exact⟨by rw[HL.out];rfl,rfl⟩
theorem q42(n:Nat):∀ (t:Nd) (w:World) (v0 v1 v2:Value),t.sz<=n->NdR w t v0 v1 v2 ->
  Calls Tryz.prog 73 #[.agg #[v0,v1,v2]] w fun e w'=>e = .returned (.bool (qn t))/\Below w.heap.size w w':=by
 induction n with
 |zero=>intro t w v0 v1 v2 h;cases t;simp only[Nd.sz]at h;omega
 |succ n ih =>
  intro t w v0 v1 v2 hsz ht;obtain⟨k,s,l,a,cap,rfl,rfl,rfl,rfl,hs,hl⟩:=ht.form;have Hsi:=qh (show ∀ i,(h:i < l.length)->(l[i]).sz<=n from fun i h=>by have:=Nd.kid_lt k s l i h;omega);have IH:=qh ih;unfold maxLen at hl;obtain⟨h,hh⟩:∃ h,w.heap.size=h:=⟨_,rfl⟩;have hb0:=qh ((Below.refl w.heap.size w).alloc (q5 _) (.cells #[.int .i64 k,.string s,.slice a l.length cap] 25));have D0:=qh (nd3 (w:=w) (k:=k) (s:=s) (v2:=.slice a l.length cap) (t:=25) hh);have HH:=qh hh;have HT:=qh ht;clear ih hh ht hsz
  by_cases hk:k=15
  ·subst hk
   have CT:=qh (fun w (h:NdR w (.mk 15 s l) (.int .i64 15) (.string s) (.slice a l.length cap))=>qg2 _ (.mk 15 s l) w _ _ _ (q5 _) h);have HS:Hid (qn (.mk 15 s l)=zh (.mk 15 s l)):=qh (by rw[qn,qa rfl]);obtain⟨V,hV⟩:∃ V,zh (.mk 15 s l)=V:=⟨_,rfl⟩;rw[hV]at CT HS;clear hV;go_enter Tryz.func73,Tryz.ntmps73
   go_wp2_with fail
   refine(CT.out _ (HT.out.later hb0.out)).mono ?_;rintro e w1⟨rfl,hb1⟩;have B1:Hid (Below w.heap.size w w1):=qh (hb0.out.trans (hb1.mono hb0.out.size));clear CT hb1;go_wp2;go_ret;exact⟨by rw[HS.out];rfl,B1.out⟩
  ·have m15:¬ k=15:=hk
   have hk15:((k:Int)==15)=false:=by rw[q9];exact hk
   clear hk
   by_cases hk:k=18
   ·subst hk
    obtain⟨V,hV⟩:∃ V,je s l=V:=⟨_,rfl⟩;have CB:=qh (fun w (ht:NdR w (.mk 18 s l) (.int .i64 18) (.string s) (.slice a l.length cap))=>q6e 18 s l w _ _ _ ht);rw[hV]at CB;have HS:Hid (qn (.mk 18 s l)=(V && vr l)):=qh (by rw[qn,q7 (by decide),qa (by decide),hV]);have HV:=qh hV;clear hV;go_enter Tryz.func73,Tryz.ntmps73
    go_wp2_with fail
    refine(CB.out _ (HT.out.later hb0.out)).mono ?_;rintro e w1⟨rfl,hb1⟩;have B1:Hid (Below w.heap.size w w1):=qh (hb0.out.trans (hb1.mono hb0.out.size));have d2:w1.cell? ⟨w.heap.size,2,none⟩=some (.slice a l.length cap):=(hb1.cell (p:=⟨w.heap.size,2,none⟩) (by rw[q6];exact Nat.lt_succ_self _)).trans (by rw[HH.out];exact D0.out.2.2);clear CB hb1
    cases V with
    |false =>
     go_wp2;go_ret;exact⟨by rw[HS.out];rfl,B1.out⟩
    |true =>
     have hln:=q72 HV.out;obtain⟨m,hm⟩:∃ m,l.length=m+1:=⟨l.length - 1,by omega⟩;have j0:m < l.length:=by omega
     have i1:(l.length:Int) - 1=(m:Int):=by omega
     have i2:IntKind.i64.wrap (m:Int)=m:=by rw[IntKind.wrap_i64];omega
     have i3:(m:Int) < (l.length:Int):=by omega
     have i4:(0:Int)<=(m:Int):=by omega
     obtain⟨b,o,k1,s1,l1,a1,c1,rfl,eq1,x0,x1,x2,r1⟩:=(HT.out.later B1.out).kid m j0;have hs1:=Hsi.out m j0;obtain⟨U,hU⟩:∃ U,qn l[m]=U:=⟨_,rfl⟩
     have HE:Hid (vr l=U):=qh (by
      rw[q2k (by omega),<-hU]
      congr 2
      omega)
     rw[eq1]at hs1 hU;have CT:=qh (IH.out (.mk k1 s1 l1) w1 _ _ _ hs1 r1);rw[hU]at CT;have nb:=qg x0;clear eq1 hU r1 hln hm hs1
     go_wp2_with fail
     refine CT.out.mono ?_;clear CT;rintro e w9⟨rfl,hb9⟩;have B9:Hid (Below w.heap.size w w9):=qh (B1.out.trans (hb9.mono B1.out.size));clear hb9 x0 x1 x2 d2;go_wp2;go_ret;exact⟨by rw[HS.out,HE.out];rfl,B9.out⟩
   ·have m18:¬ k=18:=hk
    have hk18:((k:Int)==18)=false:=by rw[q9];exact hk
    clear hk
    by_cases hk:k=19
    ·subst hk
     obtain⟨V,hV⟩:∃ V,je s l=V:=⟨_,rfl⟩;have CB:=qh (fun w (ht:NdR w (.mk 19 s l) (.int .i64 19) (.string s) (.slice a l.length cap))=>q6e 19 s l w _ _ _ ht);rw[hV]at CB;have HS:Hid (qn (.mk 19 s l)=(V && vr l)):=qh (by rw[qn,q7 (by decide),qa (by decide),hV]);have HV:=qh hV;clear hV;go_enter Tryz.func73,Tryz.ntmps73
     go_wp2_with fail
     refine(CB.out _ (HT.out.later hb0.out)).mono ?_;rintro e w1⟨rfl,hb1⟩;have B1:Hid (Below w.heap.size w w1):=qh (hb0.out.trans (hb1.mono hb0.out.size));have d2:w1.cell? ⟨w.heap.size,2,none⟩=some (.slice a l.length cap):=(hb1.cell (p:=⟨w.heap.size,2,none⟩) (by rw[q6];exact Nat.lt_succ_self _)).trans (by rw[HH.out];exact D0.out.2.2);clear CB hb1
     cases V with
     |false =>
      go_wp2;go_ret;exact⟨by rw[HS.out];rfl,B1.out⟩
     |true =>
      have hln:=q72 HV.out;obtain⟨m,hm⟩:∃ m,l.length=m+1:=⟨l.length - 1,by omega⟩;have j0:m < l.length:=by omega
      have i1:(l.length:Int) - 1=(m:Int):=by omega
      have i2:IntKind.i64.wrap (m:Int)=m:=by rw[IntKind.wrap_i64];omega
      have i3:(m:Int) < (l.length:Int):=by omega
      have i4:(0:Int)<=(m:Int):=by omega
      obtain⟨b,o,k1,s1,l1,a1,c1,rfl,eq1,x0,x1,x2,r1⟩:=(HT.out.later B1.out).kid m j0;have hs1:=Hsi.out m j0;obtain⟨U,hU⟩:∃ U,qn l[m]=U:=⟨_,rfl⟩
      have HE:Hid (vr l=U):=qh (by
       rw[q2k (by omega),<-hU]
       congr 2
       omega)
      rw[eq1]at hs1 hU;have CT:=qh (IH.out (.mk k1 s1 l1) w1 _ _ _ hs1 r1);rw[hU]at CT;have nb:=qg x0;clear eq1 hU r1 hln hm hs1
      go_wp2_with fail
      refine CT.out.mono ?_;clear CT;rintro e w9⟨rfl,hb9⟩;have B9:Hid (Below w.heap.size w w9):=qh (B1.out.trans (hb9.mono B1.out.size));clear hb9 x0 x1 x2 d2;go_wp2;go_ret;exact⟨by rw[HS.out,HE.out];rfl,B9.out⟩
    ·have m19:¬ k=19:=hk
     have hk19:((k:Int)==19)=false:=by rw[q9];exact hk
     clear hk
     by_cases hk:k=20
     ·subst hk
      have HS:Hid (qn (.mk 20 s l)=(qu s && decide (l.length=0))):=qh (by rw[qn,q7 (by decide),q7 (by decide),qa (by decide)])
      cases hse:s.toList.isEmpty with
      |false =>
       have HR:Hid (qn (.mk 20 s l)=false):=qh (by rw[HS.out];unfold qu;rw[hse];rfl);go_enter Tryz.func73,Tryz.ntmps73;go_wp2;go_ret;exact⟨by rw[HR.out];rfl,hb0.out⟩
      |true =>
       by_cases hll:l.length=0
       ·have e0:((l.length:Int)==0)=true:=by rw[hll];rfl
        have HR:Hid (qn (.mk 20 s l)=true):=qh (by rw[HS.out,decide_eq_true hll];unfold qu;rw[hse];rfl);clear hll;go_enter Tryz.func73,Tryz.ntmps73;go_wp2;go_ret;exact⟨by rw[HR.out];rfl,hb0.out⟩
       ·have e0:((l.length:Int)==0)=false:=by rw[q9];omega
        have HR:Hid (qn (.mk 20 s l)=false):=qh (by rw[HS.out,decide_eq_false hll,Bool.and_false]);clear hll;go_enter Tryz.func73,Tryz.ntmps73;go_wp2;go_ret;exact⟨by rw[HR.out];rfl,hb0.out⟩
     ·have m20:¬ k=20:=hk
      have hk20:((k:Int)==20)=false:=by rw[q9];exact hk
      clear hk
      by_cases hk:k=21
      ·subst hk
       have HS:Hid (qn (.mk 21 s l)=(qu s && decide (l.length=0))):=qh (by rw[qn,q7 (by decide),q7 (by decide),qa (by decide)])
       cases hse:s.toList.isEmpty with
       |false =>
        have HR:Hid (qn (.mk 21 s l)=false):=qh (by rw[HS.out];unfold qu;rw[hse];rfl);go_enter Tryz.func73,Tryz.ntmps73;go_wp2;go_ret;exact⟨by rw[HR.out];rfl,hb0.out⟩
       |true =>
        by_cases hll:l.length=0
        ·have e0:((l.length:Int)==0)=true:=by rw[hll];rfl
         have HR:Hid (qn (.mk 21 s l)=true):=qh (by rw[HS.out,decide_eq_true hll];unfold qu;rw[hse];rfl);clear hll;go_enter Tryz.func73,Tryz.ntmps73;go_wp2;go_ret;exact⟨by rw[HR.out];rfl,hb0.out⟩
        ·have e0:((l.length:Int)==0)=false:=by rw[q9];omega
         have HR:Hid (qn (.mk 21 s l)=false):=qh (by rw[HS.out,decide_eq_false hll,Bool.and_false]);clear hll;go_enter Tryz.func73,Tryz.ntmps73;go_wp2;go_ret;exact⟨by rw[HR.out];rfl,hb0.out⟩
      ·have m21:¬ k=21:=hk
       have hk21:((k:Int)==21)=false:=by rw[q9];exact hk
       clear hk
       by_cases hk:k=29
       ·subst hk
        have HS:Hid (qn (.mk 29 s l)=(qu s && (decide (l.length=1) && xy l))):=qh (by rw[qn,q7 (by decide),q7 (by decide),q7 (by decide),qa (by decide)])
        cases hse:s.toList.isEmpty with
        |false =>
         have HR:Hid (qn (.mk 29 s l)=false):=qh (by rw[HS.out];unfold qu;rw[hse];rfl);go_enter Tryz.func73,Tryz.ntmps73;go_wp2;go_ret;exact⟨by rw[HR.out];rfl,hb0.out⟩
        |true =>
         by_cases hll:l.length=1
         ·have e0:((l.length:Int)==1)=true:=by rw[hll];rfl
          have j0:0 < l.length:=by omega
          have i0:(0:Int) < (l.length:Int):=by omega
          obtain⟨b,o,k1,s1,l1,a1,c1,rfl,eq1,x0,x1,x2,r1⟩:=HT.out.kid 0 j0;simp only[Nat.zero_mul,Nat.add_zero]at x0 x1 x2;obtain⟨U,hU⟩:∃ U,qn (.mk k1 s1 l1)=U:=⟨_,rfl⟩;have hs1:=Hsi.out 0 j0;rw[eq1]at hs1;have HR:Hid (qn (.mk 29 s l)=U):=qh (by rw[HS.out,decide_eq_true hll,qbr hll,eq1,hU];unfold qu;rw[hse];simp);have CT:=qh (fun w h=>IH.out (.mk k1 s1 l1) w (.int .i64 k1) (.string s1) (.slice a1 l1.length c1) hs1 h);rw[hU]at CT;have R1:=qh r1;have nb:=qg x0;clear eq1 hU r1 hll hs1;go_enter Tryz.func73,Tryz.ntmps73
          go_wp2_with fail
          refine(CT.out _ (R1.out.later hb0.out)).mono ?_;rintro e w1⟨rfl,hb1⟩;have B1:Hid (Below w.heap.size w w1):=qh (hb0.out.trans (hb1.mono hb0.out.size));clear CT hb1 x0 x1 x2;go_wp2;go_ret;exact⟨by rw[HR.out];rfl,B1.out⟩
         ·have e0:((l.length:Int)==1)=false:=by rw[q9];omega
          have HR:Hid (qn (.mk 29 s l)=false):=qh (by rw[HS.out,decide_eq_false hll,Bool.false_and,Bool.and_false]);clear hll;go_enter Tryz.func73,Tryz.ntmps73;go_wp2;go_ret;exact⟨by rw[HR.out];rfl,hb0.out⟩
       ·have m29:¬ k=29:=hk
        have hk29:((k:Int)==29)=false:=by rw[q9];exact hk
        clear hk
        by_cases hk:k=30
        ·subst hk
         have HS:Hid (qn (.mk 30 s l)=(qu s && (decide (l.length=1) && xy l))):=qh (by rw[qn,q7 (by decide),q7 (by decide),q7 (by decide),qa (by decide)])
         cases hse:s.toList.isEmpty with
         |false =>
          have HR:Hid (qn (.mk 30 s l)=false):=qh (by rw[HS.out];unfold qu;rw[hse];rfl);go_enter Tryz.func73,Tryz.ntmps73;go_wp2;go_ret;exact⟨by rw[HR.out];rfl,hb0.out⟩
         |true =>
          by_cases hll:l.length=1
          ·have e0:((l.length:Int)==1)=true:=by rw[hll];rfl
           have j0:0 < l.length:=by omega
           have i0:(0:Int) < (l.length:Int):=by omega
           obtain⟨b,o,k1,s1,l1,a1,c1,rfl,eq1,x0,x1,x2,r1⟩:=HT.out.kid 0 j0;simp only[Nat.zero_mul,Nat.add_zero]at x0 x1 x2;obtain⟨U,hU⟩:∃ U,qn (.mk k1 s1 l1)=U:=⟨_,rfl⟩;have hs1:=Hsi.out 0 j0;rw[eq1]at hs1;have HR:Hid (qn (.mk 30 s l)=U):=qh (by rw[HS.out,decide_eq_true hll,qbr hll,eq1,hU];unfold qu;rw[hse];simp);have CT:=qh (fun w h=>IH.out (.mk k1 s1 l1) w (.int .i64 k1) (.string s1) (.slice a1 l1.length c1) hs1 h);rw[hU]at CT;have R1:=qh r1;have nb:=qg x0;clear eq1 hU r1 hll hs1;go_enter Tryz.func73,Tryz.ntmps73
           go_wp2_with fail
           refine(CT.out _ (R1.out.later hb0.out)).mono ?_;rintro e w1⟨rfl,hb1⟩;have B1:Hid (Below w.heap.size w w1):=qh (hb0.out.trans (hb1.mono hb0.out.size));clear CT hb1 x0 x1 x2;go_wp2;go_ret;exact⟨by rw[HR.out];rfl,B1.out⟩
          ·have e0:((l.length:Int)==1)=false:=by rw[q9];omega
           have HR:Hid (qn (.mk 30 s l)=false):=qh (by rw[HS.out,decide_eq_false hll,Bool.false_and,Bool.and_false]);clear hll;go_enter Tryz.func73,Tryz.ntmps73;go_wp2;go_ret;exact⟨by rw[HR.out];rfl,hb0.out⟩
        ·have m30:¬ k=30:=hk
         have hk30:((k:Int)==30)=false:=by rw[q9];exact hk
         clear hk;have HS:Hid (qn (.mk k s l)=(yu k && (qu s && (decide (l.length=2) && xy l)))):=qh (by rw[qn,q7 m15,q7 (by omega),q7 (by omega),q7 (by omega)]);clear m15 m18 m19 m20 m21 m29 m30;have CL:=qh (fun w=>qqf k w);have HL:=qh (qi4 k);obtain⟨L,hL⟩:∃ L,lvl k=L:=⟨_,rfl⟩;rw[hL]at CL HL;clear hL
         cases hb:yu k with
         |false =>
          rw[hb]at HL HS;have hd:=HL.out;have HR:Hid (qn (.mk k s l)=false):=qh (by rw[HS.out];rfl);clear hb;go_enter Tryz.func73,Tryz.ntmps73
          go_wp2_with fail
          refine(CL.out _).mono ?_;rintro e w1⟨rfl,rfl⟩;go_wp2;go_ret;exact⟨by rw[HR.out];rfl,hb0.out⟩
         |true =>
          rw[hb]at HL HS;have hd:=HL.out;have hd':L < 6:=by simpa using hd
          clear hb hd
          cases hse:s.toList.isEmpty with
          |false =>
           have HR:Hid (qn (.mk k s l)=false):=qh (by rw[HS.out];unfold qu;rw[hse];rfl);go_enter Tryz.func73,Tryz.ntmps73
           go_wp2_with fail
           refine(CL.out _).mono ?_;rintro e w1⟨rfl,rfl⟩;go_wp2;go_ret;exact⟨by rw[HR.out];rfl,hb0.out⟩
          |true =>
           by_cases hll:l.length=2
           ·have e0:((l.length:Int)==2)=true:=by rw[hll];rfl
            have j0:0 < l.length:=by omega
            have j1:1 < l.length:=by omega
            have i0:(0:Int) < (l.length:Int):=by omega
            have i1:(1:Int) < (l.length:Int):=by omega
            obtain⟨b,o,k1,s1,l1,a1,c1,rfl,eq1,x0,x1,x2,r1⟩:=HT.out.kid 0 j0;obtain⟨b',o',k2,s2,l2,a2,c2,hbo,eq2,y0,y1,y2,r2⟩:=HT.out.kid 1 j1;obtain⟨rfl,rfl⟩:b=b'/\o=o':=by simpa using hbo
            simp only[Nat.zero_mul,Nat.add_zero]at x0 x1 x2;simp only[Nat.one_mul]at y0 y1 y2;obtain⟨U1,hU1⟩:∃ U,qn (.mk k1 s1 l1)=U:=⟨_,rfl⟩;obtain⟨U2,hU2⟩:∃ U,qn (.mk k2 s2 l2)=U:=⟨_,rfl⟩;have hs1:=Hsi.out 0 j0;have hs2:=Hsi.out 1 j1;rw[eq1]at hs1;rw[eq2]at hs2;have HR:Hid (qn (.mk k s l)=(U1 && U2)):=qh (by rw[HS.out,decide_eq_true hll,qll hll,eq1,eq2,hU1,hU2];unfold qu;rw[hse];simp);have C1:=qh (fun w h=>IH.out (.mk k1 s1 l1) w (.int .i64 k1) (.string s1) (.slice a1 l1.length c1) hs1 h);have C2:=qh (fun w h=>IH.out (.mk k2 s2 l2) w (.int .i64 k2) (.string s2) (.slice a2 l2.length c2) hs2 h);rw[hU1]at C1;rw[hU2]at C2;have R1:=qh r1;have R2:=qh r2;have nb:=qg x0;have Y:=qh (And.intro y0 (And.intro y1 y2));clear eq1 eq2 hU1 hU2 r1 r2 hll hs1 hs2 hbo y0 y1 y2;go_enter Tryz.func73,Tryz.ntmps73
            go_wp2_with fail
            refine(CL.out _).mono ?_;rintro e w0⟨rfl,rfl⟩
            go_wp2_with fail
            refine(C1.out _ (R1.out.later hb0.out)).mono ?_;rintro e w1⟨rfl,hb1⟩;have B1:Hid (Below w.heap.size w w1):=qh (hb0.out.trans (hb1.mono hb0.out.size));have d2:w1.cell? ⟨w.heap.size,2,none⟩=some (.slice (some ⟨b,o,none⟩) l.length cap):=(hb1.cell (p:=⟨w.heap.size,2,none⟩) (by rw[q6];exact Nat.lt_succ_self _)).trans (by rw[HH.out];exact D0.out.2.2);obtain⟨y0,y1,y2⟩:=Y.out;have z0:=(B1.out.cell (p:=⟨b,o+3,none⟩) nb).trans y0;have z1:=(B1.out.cell (p:=⟨b,o+3+1,none⟩) nb).trans y1;have z2:=(B1.out.cell (p:=⟨b,o+3+2,none⟩) nb).trans y2;have l1:=qg z0;clear C1 hb1 x0 x1 x2 y0 y1 y2
            cases U1 with
            |false =>
             go_wp2;go_ret;exact⟨by rw[HR.out];rfl,B1.out⟩
            |true =>
             go_wp2_with fail
             refine(C2.out _ (R2.out.later B1.out)).mono ?_;rintro e w2⟨rfl,hb2⟩;have B2:Hid (Below w.heap.size w w2):=qh (B1.out.trans (hb2.mono B1.out.size));clear C2 hb2 z0 z1 z2 d2;go_wp2;go_ret;exact⟨by rw[HR.out];rfl,B2.out⟩
           ·have e0:((l.length:Int)==2)=false:=by rw[q9];omega
            have HR:Hid (qn (.mk k s l)=false):=qh (by rw[HS.out,decide_eq_false hll,Bool.false_and,Bool.and_false,Bool.and_false]);clear hll;go_enter Tryz.func73,Tryz.ntmps73
            go_wp2_with fail
            refine(CL.out _).mono ?_;rintro e w1⟨rfl,rfl⟩;go_wp2;go_ret;exact⟨by rw[HR.out];rfl,hb0.out⟩
theorem q4e:∀ (l:List Nd),yo l=true↔∀ i,(h:i < l.length)->zj l[i]=true
 |[]=>by simp[yo]
 |a :: l=>by
  simp only[yo,qd,q4e l]
  constructor
  ·rintro⟨h1,h2⟩ i hi
   cases i with
   |zero=>exact h1
   |succ i=>exact h2 i (by simpa using hi)
  ·intro h
   exact⟨h 0 (by simp),fun i hi=>h (i+1) (by simpa using hi)⟩
theorem q6f(l:List Nd)(v:Value)(w:World)(hv:NdL w l v) :
  Calls Tryz.prog 160 #[v] w fun e w'=>e = .returned (.bool (yo l && decide (l.length<=8)))/\Below w.heap.size w w':=by
 obtain⟨a,cap,rfl,hl⟩:=hv.form;have HV:=qh hv;unfold maxLen at hl;clear hv;go_enter Tryz.func160,Tryz.ntmps160;go_wp2
 go_loopw [3] (fun v3 wr=>∃ i:Nat,i<=l.length/\v3 = .int .i64 i/\Hid (∀ j,(h:j < l.length)->j < i->zj l[j]=true)/\Hid (Below w.heap.size w wr)) (fun v3 _=>l.length - (intOf v3).toNat)
 case atStart=>exact⟨0,qp _,rfl,qh (fun j _ h=>absurd h (Nat.not_lt_zero _)),Below.refl _ _⟩
 case round =>
  obtain⟨i,hi,rfl,hall,hbl⟩:=hrel
  by_cases hlt:i < l.length
  ·have hlt':(i:Int) < (l.length:Int):=by omega
   have hi0:(0:Int)<=(i:Int):=by omega
   obtain⟨kk,ss,w0,w1,hR⟩:=HV.out.later hbl.out;obtain⟨b,o,k1,s1,l1,a1,c1,rfl,e1,x0,x1,x2,r1⟩:=hR.kid i hlt;obtain⟨V,hV⟩:∃ V,zj l[i]=V:=⟨_,rfl⟩;have HVi:=qh hV;rw[e1]at hV;have C:=qh (q41 _ (.mk k1 s1 l1) wr _ _ _ (q5 _) r1);rw[hV]at C;have nb:=qg x0;clear e1 hV r1 hR
   go_wp2_with fail
   refine C.out.mono ?_;clear C;rintro e w5⟨rfl,hb5⟩;have Hb5:Hid (Below w.heap.size w w5):=qh (hbl.out.trans (hb5.mono hbl.out.size));clear hb5 x0 x1 x2
   cases V with
   |false =>
    have HS:Hid (yo l=false):=qh (by
     rw[Bool.eq_false_iff];intro h;have:=(q4e l).1 h i hlt;rw[HVi.out]at this
     cases this)
    go_wp2;go_ret;exact⟨by rw[HS.out];rfl,Hb5.out⟩
   |true =>
    go_wp2;go_roundw
    case rel=>exact⟨i+1,hlt,by push_cast;rfl,qh (fun j hj hji=>by
     by_cases e:j=i
     ·subst e;exact HVi.out
     ·exact hall.out j hj (by omega)),Hb5⟩
    case measure=>simp[intOf];omega
  ·have hlt':¬ ((i:Int) < (l.length:Int)):=by omega
   have HS:Hid (yo l=true):=qh ((q4e l).2 fun j hj=>hall.out j hj (by omega));have HDD:Hid (decide ((l.length:Int)<=8)=decide (l.length<=8)):=qh (by rw[decide_eq_decide];omega);go_wp2;go_ret;exact⟨by rw[HS.out,Bool.true_and,<-HDD.out];rfl,hbl.out⟩
theorem qcp:∀ (l:List Nd) (i:Nat) (h:i < l.length),Nd.szL (l.take (i+1))=Nd.szL (l.take i)+(l[i]).sz
 |a :: l,0,_=>by simp[Nd.szL]
 |a :: l,i+1,h=>by
  have:=qcp l i (by simpa using h);simp only[List.take_succ_cons,Nd.szL,zy]at this ⊢;omega
def vo:List Nd->Bool
 |[]=>true
 |a :: l=>xa a && vo l
theorem q18:∀ (l:List Nd),vo l=true↔∀ i,(h:i < l.length)->xa l[i]=true
 |[]=>by simp[vo]
 |a :: l=>by
  simp only[vo,qd,q18 l]
  constructor
  ·rintro⟨h1,h2⟩ i hi
   cases i with
   |zero=>exact h1
   |succ i=>exact h2 i (by simpa using hi)
  ·intro h
   exact⟨h 0 (by simp),fun i hi=>h (i+1) (by simpa using hi)⟩
theorem NdL.take{w:World}{l:List Nd}{a:Option Addr}{n cap:Nat}(h:NdL w l (.slice a n cap))(m:Nat)(hm:m<=l.length)(c:Nat)(hc:m<=c):NdL w (l.take m) (.slice a m c):=by
 obtain⟨k,s,v0,v1,h⟩:=h
 cases h with
 |mk _ _ _ _ _ b o f0 f1 f2 hs hl hc0 ha h0 h1 h2 hr =>
  have e:(l.take m).length=m:=by rw[List.length_take];omega
  have:=NdR.mk (w:=w) k s (l.take m) a c b o f0 f1 f2 hs (by omega) (by omega) (fun hne=>ha (by rintro rfl;simp at hne))
   (fun i hi=>h0 i (by omega)) (fun i hi=>h1 i (by omega)) (fun i hi=>h2 i (by omega))
   (fun i hi=>by rw[List.getElem_take];exact hr i (by omega))
  rw[e]at this;exact⟨k,s,_,_,this⟩
theorem q6g(l:List Nd)(v:Value)(w:World)(hv:NdL w l v) :
  Calls Tryz.prog 159 #[v] w fun e w'=>e = .returned (.bool (vo l))/\Below w.heap.size w w':=by
 obtain⟨a,cap,rfl,hl⟩:=hv.form;have HV:=qh hv;unfold maxLen at hl;clear hv;go_enter Tryz.func159,Tryz.ntmps159;go_wp2
 go_loopw [3] (fun v3 wr=>∃ i:Nat,i<=l.length/\v3 = .int .i64 i/\Hid (∀ j,(h:j < l.length)->j < i->xa l[j]=true)/\Hid (Below w.heap.size w wr)) (fun v3 _=>l.length - (intOf v3).toNat)
 case atStart=>exact⟨0,qp _,rfl,qh (fun j _ h=>absurd h (Nat.not_lt_zero _)),Below.refl _ _⟩
 case round =>
  obtain⟨i,hi,rfl,hall,hbl⟩:=hrel
  by_cases hlt:i < l.length
  ·have hlt':(i:Int) < (l.length:Int):=by omega
   have hi0:(0:Int)<=(i:Int):=by omega
   obtain⟨kk,ss,w0,w1,hR⟩:=HV.out.later hbl.out;obtain⟨b,o,k1,s1,l1,a1,c1,rfl,e1,x0,x1,x2,r1⟩:=hR.kid i hlt;obtain⟨V,hV⟩:∃ V,qy s1=V:=⟨_,rfl⟩;have HL:Hid (xa l[i]=(decide (k1=15) && (decide (l1.length=0) && V))):=qh (by rw[e1,xa,hV])
   have HF:Hid (xa l[i]=false->vo l=false):=qh (fun hf=>by
    rw[Bool.eq_false_iff];intro h;have:=(q18 l).1 h i hlt;rw[hf]at this
    cases this)
   have C:=qh (fun w=>xc V s1 w hV);have nb:=qg x0;clear e1 hV r1 hR
   by_cases hk:k1=15
   ·subst hk
    by_cases hll:l1.length=0
    ·have hl0:¬ ((0:Int) < (l1.length:Int)):=by omega
     have hd0:decide (0 < l1.length)=false:=by rw[decide_eq_false_iff_not];omega
     have hd1:(0 < l1.length)=False:=eq_false (by omega);rw[decide_eq_true rfl,decide_eq_true hll,Bool.true_and,Bool.true_and]at HL;clear hll
     go_wp2_with fail
     refine(C.out _).mono ?_;clear C;rintro e w5⟨rfl,hb5⟩;have Hb5:Hid (Below w.heap.size w w5):=qh (hbl.out.trans (hb5.mono hbl.out.size));clear hb5 x0 x1 x2
     cases V with
     |false =>
      go_wp2;go_ret;exact⟨by rw[HF.out HL.out];rfl,Hb5.out⟩
     |true =>
      go_wp2;go_roundw
      case rel=>exact⟨i+1,hlt,by push_cast;rfl,qh (fun j hj hji=>by
       by_cases e:j=i
       ·subst e;exact HL.out
       ·exact hall.out j hj (by omega)),Hb5⟩
      case measure=>simp[intOf];omega
    ·have hl0:(0:Int) < (l1.length:Int):=by omega
     have hd0:decide (0 < l1.length)=true:=by rw[qf];omega
     have hd1:0 < l1.length:=by omega
     rw[decide_eq_false hll,Bool.false_and,Bool.and_false]at HL;clear hll;go_wp2;go_ret;exact⟨by rw[HF.out HL.out];rfl,hbl.out⟩
   ·have hk2:((k1:Int) != 15)=true:=by rw[bne_iff_ne];exact hk
    rw[decide_eq_false hk,Bool.false_and]at HL;clear hk;go_wp2;go_ret;exact⟨by rw[HF.out HL.out];rfl,hbl.out⟩
  ·have hlt':¬ ((i:Int) < (l.length:Int)):=by omega
   have HS:Hid (vo l=true):=qh ((q18 l).2 fun j hj=>hall.out j hj (by omega));go_wp2;go_ret;exact⟨by rw[HS.out];rfl,hbl.out⟩
def vq:Nd->Bool
 | .mk k s l=>decide (k=15) && (decide (l.length=0) && (decide (s=⟨#[105,110]⟩)||(decide (s=⟨#[111,117,116]⟩)||decide (s=⟨#[97,110,121]⟩))))
def q0h:List Nd->Bool
 |[]=>true
 |a :: l=>vq a && q0h l
theorem q19:∀ (l:List Nd),q0h l=true↔∀ i,(h:i < l.length)->vq l[i]=true
 |[]=>by simp[q0h]
 |a :: l=>by
  simp only[q0h,qd,q19 l]
  constructor
  ·rintro⟨h1,h2⟩ i hi
   cases i with
   |zero=>exact h1
   |succ i=>exact h2 i (by simpa using hi)
  ·intro h
   exact⟨h 0 (by simp),fun i hi=>h (i+1) (by simpa using hi)⟩
theorem q3s{a b:ByteArray}(h:a.toList=b.toList):a=b:=by
 rw[ByteArray.toList_eq,ByteArray.toList_eq]at h
 cases a;cases b;congr;exact Array.toList_inj.1 h
theorem qk8(l:List Nd)(v:Value)(w:World)(hv:NdL w l v) :
  Calls Tryz.prog 161 #[v] w fun e w'=>e = .returned (.bool (q0h l && decide (l.length<=8)))/\Below w.heap.size w w':=by
 obtain⟨a,cap,rfl,hl⟩:=hv.form;have HV:=qh hv;unfold maxLen at hl;clear hv;go_enter Tryz.func161,Tryz.ntmps161;go_wp2
 go_loopw [3] (fun v3 wr=>∃ i:Nat,i<=l.length/\v3 = .int .i64 i/\Hid (∀ j,(h:j < l.length)->j < i->vq l[j]=true)/\Hid (Below w.heap.size w wr)) (fun v3 _=>l.length - (intOf v3).toNat)
 case atStart=>exact⟨0,qp _,rfl,qh (fun j _ h=>absurd h (Nat.not_lt_zero _)),Below.refl _ _⟩
 case round =>
  obtain⟨i,hi,rfl,hall,hbl⟩:=hrel
  by_cases hlt:i < l.length
  ·have hlt':(i:Int) < (l.length:Int):=by omega
   have hi0:(0:Int)<=(i:Int):=by omega
   obtain⟨kk,ss,w0,w1,hR⟩:=HV.out.later hbl.out;obtain⟨b,o,k1,s1,l1,a1,c1,rfl,e1,x0,x1,x2,r1⟩:=hR.kid i hlt;have HL:Hid (vq l[i]=(decide (k1=15) && (decide (l1.length=0) && (decide (s1=⟨#[105,110]⟩)||(decide (s1=⟨#[111,117,116]⟩)||decide (s1=⟨#[97,110,121]⟩)))))):=qh (by rw[e1,vq])
   have HF:Hid (vq l[i]=false->q0h l=false):=qh (fun hf=>by
    rw[Bool.eq_false_iff];intro h;have:=(q19 l).1 h i hlt;rw[hf]at this
    cases this)
   have nb:=qg x0;clear e1 r1 hR
   by_cases hk:k1=15
   ·subst hk
    by_cases hll:l1.length=0
    ·have hl0:¬ ((0:Int) < (l1.length:Int)):=by omega
     have hd0:decide (0 < l1.length)=false:=by rw[decide_eq_false_iff_not];omega
     have hd1:(0 < l1.length)=False:=eq_false (by omega);rw[decide_eq_true (rfl:(15:Int)=15),decide_eq_true hll,Bool.true_and,Bool.true_and]at HL;clear hll
     by_cases h1:s1=⟨#[105,110]⟩
     ·subst h1
      go_wp2;go_roundw
      case rel=>exact⟨i+1,hlt,by push_cast;rfl,qh (fun j hj hji=>by
       by_cases e:j=i
       ·subst e;rw[HL.out];simp
       ·exact hall.out j hj (by omega)),hbl⟩
      case measure=>simp[intOf];omega
     ·have h1f:=eq_false h1
      rw[decide_eq_false h1,Bool.false_or]at HL
      by_cases h2:s1=⟨#[111,117,116]⟩
      ·subst h2
       go_wp2;go_roundw
       case rel=>exact⟨i+1,hlt,by push_cast;rfl,qh (fun j hj hji=>by
        by_cases e:j=i
        ·subst e;rw[HL.out];simp
        ·exact hall.out j hj (by omega)),hbl⟩
       case measure=>simp[intOf];omega
      ·have h2f:=eq_false h2
       rw[decide_eq_false h2,Bool.false_or]at HL
       by_cases h3:s1=⟨#[97,110,121]⟩
       ·subst h3
        go_wp2;go_roundw
        case rel=>exact⟨i+1,hlt,by push_cast;rfl,qh (fun j hj hji=>by
         by_cases e:j=i
         ·subst e;rw[HL.out];simp
         ·exact hall.out j hj (by omega)),hbl⟩
        case measure=>simp[intOf];omega
       ·have h3f:=eq_false h3
        rw[decide_eq_false h3]at HL
        have m1:(s1.toList==[105,110])=false:=by
         rw[q9];intro h;exact h1 (q3s (h.trans (by decide +kernel)))
        have m2:(s1.toList==[111,117,116])=false:=by
         rw[q9];intro h;exact h2 (q3s (h.trans (by decide +kernel)))
        have m3:(s1.toList==[97,110,121])=false:=by
         rw[q9];intro h;exact h3 (q3s (h.trans (by decide +kernel)))
        go_wp2;go_ret;exact⟨by rw[HF.out HL.out];rfl,hbl.out⟩
    ·have hl0:(0:Int) < (l1.length:Int):=by omega
     have hd0:decide (0 < l1.length)=true:=by rw[qf];omega
     have hd1:0 < l1.length:=by omega
     rw[decide_eq_false hll,Bool.false_and,Bool.and_false]at HL;clear hll;go_wp2;go_ret;exact⟨by rw[HF.out HL.out];rfl,hbl.out⟩
   ·have hk2:((k1:Int) != 15)=true:=by rw[bne_iff_ne];exact hk
    rw[decide_eq_false hk,Bool.false_and]at HL;clear hk;go_wp2;go_ret;exact⟨by rw[HF.out HL.out];rfl,hbl.out⟩
  ·have hlt':¬ ((i:Int) < (l.length:Int)):=by omega
   have HS:Hid (q0h l=true):=qh ((q19 l).2 fun j hj=>hall.out j hj (by omega));have HDD:Hid (decide ((l.length:Int)<=8)=decide (l.length<=8)):=qh (by rw[decide_eq_decide];omega);go_wp2;go_ret;exact⟨by rw[HS.out,Bool.true_and,<-HDD.out];rfl,hbl.out⟩
def q32:List Nd->Bool
 |[]=>false
 |a :: l=>if l.isEmpty then zj a else q32 l
theorem q31:∀ {l:List Nd} (h:0 < l.length),q32 l=zj (l[l.length - 1]'(by omega))
 |[a],_=>by simp[q32]
 |a :: b :: l,_=>by
  simp only[q32];rw[q7 (by simp)];have:=q31 (l:=b :: l) (by simp);rw[q32]at this;rw[this];simp
theorem q2z:∀ {l:List Nd} (h:l.length=1),xy l=qn (l[0]'(by omega))
 |[a],_=>by simp[xy]
def itemB:Nd->Bool
 | .mk k s l =>
  if k=2\/k=14 then qu s && (decide (1<=l.length) && vo l)
  else if k=3 then qu s && (decide (2<=l.length) && (vo (l.take (l.length - 1)) && q32 l))
  else qy s && (if k=4\/k=5\/k=6 then yo l && decide (l.length<=8)
   else if k=7 then q0h l && decide (l.length<=8)
   else if k=8\/k=9\/k=10\/k=11 then decide (l.length=1) && xy l
   else if k=12\/k=13 then decide (l.length=0) else false)
theorem qk6(s:ByteArray)(l:List Nd)(w:World)(v0 v1 v2:Value)(ht:NdR w (.mk 2 s l) v0 v1 v2) :
  Calls Tryz.prog 101 #[.agg #[v0,v1,v2]] w fun e w'=>e = .returned (.bool (itemB (.mk 2 s l)))/\Below w.heap.size w w':=by
 obtain⟨k',s',l',a,cap,he,rfl,rfl,rfl,hs,hl⟩:=ht.form
 cases he;unfold maxLen at hl;obtain⟨V,hV⟩:∃ V,qy s=V:=⟨_,rfl⟩;have CN:=qh (fun w=>xc V s w hV);have HV:=qh hV;obtain⟨h,hh⟩:∃ h,w.heap.size=h:=⟨_,rfl⟩;have hb0:=qh ((Below.refl w.heap.size w).alloc (q5 _) (.cells #[.int .i64 2,.string s,.slice a l.length cap] 25));have D0:=qh (nd3 (w:=w) (k:=2) (s:=s) (v2:=.slice a l.length cap) (t:=25) hh);have HH:=qh hh;have HT:=qh ht;have HC:=qh ht.cap;have HL:Hid (NdL w l (.slice a l.length cap)):=qh ⟨_,_,_,_,ht⟩;clear hh ht hV;have HS:Hid (itemB (.mk 2 s l)=(qu s && (decide (1<=l.length) && vo l))):=qh (by rw[itemB,qa (by decide)])
 cases hse:s.toList.isEmpty with
 |false =>
  have HR:Hid (itemB (.mk 2 s l)=false):=qh (by rw[HS.out];unfold qu;rw[hse];rfl);go_enter Tryz.func101,Tryz.ntmps101;go_wp2;go_ret;exact⟨by rw[HR.out];rfl,hb0.out⟩
 |true =>
  by_cases hll:1<=l.length
  ·have e1:(1:Int)<=(l.length:Int):=by omega
   have e2:decide (1<=l.length)=true:=decide_eq_true hll;have e3:decide (0 < l.length)=true:=decide_eq_true hll;have e5:0 < l.length:=hll;obtain⟨V,hV⟩:∃ V,vo l=V:=⟨_,rfl⟩;have C:=qh (fun w hv=>q6g l (.slice a l.length cap) w hv);rw[hV]at C;have HR:Hid (itemB (.mk 2 s l)=V):=qh (by rw[HS.out,decide_eq_true hll,hV];unfold qu;rw[hse];rfl);clear hV;go_enter Tryz.func101,Tryz.ntmps101
   go_wp2_with fail
   refine(C.out _ (HL.out.later hb0.out)).mono ?_;rintro e w1⟨rfl,hbw1⟩;have B1:Hid (Below w.heap.size w w1):=qh (hb0.out.trans (hbw1.mono hb0.out.size));clear C hbw1;go_wp2;go_ret;exact⟨by rw[HR.out];rfl,B1.out⟩
  ·have e1:¬ ((1:Int)<=(l.length:Int)):=by omega
   have e2:decide (1<=l.length)=false:=decide_eq_false hll;have e3:decide (0 < l.length)=false:=decide_eq_false hll;have e6:l=[]:=List.length_eq_zero_iff.1 (by omega);have HR:Hid (itemB (.mk 2 s l)=false):=qh (by rw[HS.out,decide_eq_false hll,Bool.false_and,Bool.and_false]);clear hll;subst e6;go_enter Tryz.func101,Tryz.ntmps101;go_wp2;go_ret;exact⟨by rw[HR.out];rfl,hb0.out⟩
theorem qk5(s:ByteArray)(l:List Nd)(w:World)(v0 v1 v2:Value)(ht:NdR w (.mk 3 s l) v0 v1 v2) :
  Calls Tryz.prog 101 #[.agg #[v0,v1,v2]] w fun e w'=>e = .returned (.bool (itemB (.mk 3 s l)))/\Below w.heap.size w w':=by
 obtain⟨k',s',l',a,cap,he,rfl,rfl,rfl,hs,hl⟩:=ht.form
 cases he;unfold maxLen at hl;obtain⟨V,hV⟩:∃ V,qy s=V:=⟨_,rfl⟩;have CN:=qh (fun w=>xc V s w hV);have HV:=qh hV;obtain⟨h,hh⟩:∃ h,w.heap.size=h:=⟨_,rfl⟩;have hb0:=qh ((Below.refl w.heap.size w).alloc (q5 _) (.cells #[.int .i64 3,.string s,.slice a l.length cap] 25));have D0:=qh (nd3 (w:=w) (k:=3) (s:=s) (v2:=.slice a l.length cap) (t:=25) hh);have HH:=qh hh;have HT:=qh ht;have HC:=qh ht.cap;have HL:Hid (NdL w l (.slice a l.length cap)):=qh ⟨_,_,_,_,ht⟩;clear hh ht hV;have HS:Hid (itemB (.mk 3 s l)=(qu s && (decide (2<=l.length) && (vo (l.take (l.length - 1)) && q32 l)))):=qh (by rw[itemB,q7 (by decide),qa (by decide)])
 cases hse:s.toList.isEmpty with
 |false =>
  have HR:Hid (itemB (.mk 3 s l)=false):=qh (by rw[HS.out];unfold qu;rw[hse];rfl);go_enter Tryz.func101,Tryz.ntmps101;go_wp2;go_ret;exact⟨by rw[HR.out];rfl,hb0.out⟩
 |true =>
  by_cases hll:2<=l.length
  ·obtain⟨m,hm⟩:∃ m,l.length=m+1:=⟨l.length - 1,by omega⟩
   have j0:m < l.length:=by omega
   have jc:m<=cap:=by have:=HC.out;omega
   have e1:(1:Int)<=(m:Int):=by omega
   have e2:decide (1<=m)=true:=decide_eq_true (by omega);have e3:decide (0 < m)=true:=decide_eq_true (by omega);have e5:0 < m:=by omega
   have i1:(l.length:Int) - 1=(m:Int):=by omega
   have i2:IntKind.i64.wrap (m:Int)=m:=by rw[IntKind.wrap_i64];omega
   have i3:(m:Int) < (l.length:Int):=by omega
   have i4:(0:Int)<=(m:Int):=by omega
   have i5:(m:Int)<=(cap:Int):=by omega
   obtain⟨V,hV⟩:∃ V,vo (l.take m)=V:=⟨_,rfl⟩;have C:=qh (fun w hv=>q6g (l.take m) (.slice a m cap) w hv);rw[hV]at C;have HR:Hid (itemB (.mk 3 s l)=(V && q32 l)):=qh (by rw[HS.out,decide_eq_true hll,show l.length - 1=m from by omega,hV];unfold qu;rw[hse];rfl);have HLm:=qh (fun w (h:NdL w l (.slice a l.length cap))=>h.take m (by omega) cap jc);have HM:=qh hm;clear hV hm hll;go_enter Tryz.func101,Tryz.ntmps101
   go_wp2_with fail
   refine(C.out _ (HLm.out _ (HL.out.later hb0.out))).mono ?_;rintro e w1⟨rfl,hbw1⟩;have B1:Hid (Below w.heap.size w w1):=qh (hb0.out.trans (hbw1.mono hb0.out.size));have d0:w1.cell? ⟨w.heap.size,0,none⟩=some (.int .i64 3):=(hbw1.cell (p:=⟨w.heap.size,0,none⟩) (by rw[q6];exact Nat.lt_succ_self _)).trans (by rw[HH.out];exact D0.out.1);have d2:w1.cell? ⟨w.heap.size,2,none⟩=some (.slice a l.length cap):=(hbw1.cell (p:=⟨w.heap.size,2,none⟩) (by rw[q6];exact Nat.lt_succ_self _)).trans (by rw[HH.out];exact D0.out.2.2);clear C hbw1
   cases V with
   |false =>
    go_wp2;go_ret;exact⟨by rw[HR.out];rfl,B1.out⟩
   |true =>
    obtain⟨b,o,k1,s1,l1,a1,c1,rfl,eq1,x0,x1,x2,r1⟩:=(HT.out.later B1.out).kid m j0;obtain⟨U,hU⟩:∃ U,zj l[m]=U:=⟨_,rfl⟩
    have HE:Hid (q32 l=U):=qh (by
     rw[q31 (by omega),<-hU]
     congr 2
     have:=HM.out
     omega)
    rw[eq1]at hU;have CT:=qh (q41 _ (.mk k1 s1 l1) w1 _ _ _ (q5 _) r1);rw[hU]at CT;have nb:=qg x0;clear eq1 hU r1
    go_wp2_with fail
    refine CT.out.mono ?_;clear CT;rintro e w9⟨rfl,hbw9⟩;have B9:Hid (Below w.heap.size w w9):=qh (B1.out.trans (hbw9.mono B1.out.size));clear hbw9 x0 x1 x2 d0 d2;go_wp2;go_ret;exact⟨by rw[HR.out,HE.out];rfl,B9.out⟩
  ·have HR:Hid (itemB (.mk 3 s l)=false):=qh (by rw[HS.out,decide_eq_false hll,Bool.false_and,Bool.and_false])
   by_cases h0:l.length=0
   ·have i1:(l.length:Int) - 1 = -1:=by omega
    have i7:l=[]:=List.length_eq_zero_iff.1 h0;clear hll h0;subst i7;go_enter Tryz.func101,Tryz.ntmps101;go_wp2;go_ret;exact⟨by rw[HR.out];rfl,hb0.out⟩
   ·have i1:(l.length:Int) - 1=0:=by omega
    clear hll h0;go_enter Tryz.func101,Tryz.ntmps101;go_wp2;go_ret;exact⟨by rw[HR.out];rfl,hb0.out⟩
theorem qk4(s:ByteArray)(l:List Nd)(w:World)(v0 v1 v2:Value)(ht:NdR w (.mk 4 s l) v0 v1 v2) :
  Calls Tryz.prog 101 #[.agg #[v0,v1,v2]] w fun e w'=>e = .returned (.bool (itemB (.mk 4 s l)))/\Below w.heap.size w w':=by
 obtain⟨k',s',l',a,cap,he,rfl,rfl,rfl,hs,hl⟩:=ht.form
 cases he;unfold maxLen at hl;obtain⟨V,hV⟩:∃ V,qy s=V:=⟨_,rfl⟩;have CN:=qh (fun w=>xc V s w hV);have HV:=qh hV;obtain⟨h,hh⟩:∃ h,w.heap.size=h:=⟨_,rfl⟩;have hb0:=qh ((Below.refl w.heap.size w).alloc (q5 _) (.cells #[.int .i64 4,.string s,.slice a l.length cap] 25));have D0:=qh (nd3 (w:=w) (k:=4) (s:=s) (v2:=.slice a l.length cap) (t:=25) hh);have HH:=qh hh;have HT:=qh ht;have HC:=qh ht.cap;have HL:Hid (NdL w l (.slice a l.length cap)):=qh ⟨_,_,_,_,ht⟩;clear hh ht hV;have HS:Hid (itemB (.mk 4 s l)=(V && (yo l && decide (l.length<=8)))):=qh (by rw[itemB,q7 (by decide),q7 (by decide),qa (by decide)];rw[HV.out])
 cases V with
 |false =>
  go_enter Tryz.func101,Tryz.ntmps101
  go_wp2_with fail
  refine(CN.out _).mono ?_;rintro e w1⟨rfl,hbw1⟩;have B1:Hid (Below w.heap.size w w1):=qh (hb0.out.trans (hbw1.mono hb0.out.size));have d0:w1.cell? ⟨w.heap.size,0,none⟩=some (.int .i64 4):=(hbw1.cell (p:=⟨w.heap.size,0,none⟩) (by rw[q6];exact Nat.lt_succ_self _)).trans (by rw[HH.out];exact D0.out.1);have d2:w1.cell? ⟨w.heap.size,2,none⟩=some (.slice a l.length cap):=(hbw1.cell (p:=⟨w.heap.size,2,none⟩) (by rw[q6];exact Nat.lt_succ_self _)).trans (by rw[HH.out];exact D0.out.2.2);clear CN hbw1;go_wp2;go_ret;exact⟨by rw[HS.out];rfl,B1.out⟩
 |true =>
  obtain⟨U,hU⟩:∃ U,(yo l && decide (l.length<=8))=U:=⟨_,rfl⟩;have C:=qh (fun w hv=>q6f l (.slice a l.length cap) w hv);rw[hU]at C HS;clear hU;go_enter Tryz.func101,Tryz.ntmps101
  go_wp2_with fail
  refine(CN.out _).mono ?_;rintro e w1⟨rfl,hbw1⟩;have B1:Hid (Below w.heap.size w w1):=qh (hb0.out.trans (hbw1.mono hb0.out.size));have d0:w1.cell? ⟨w.heap.size,0,none⟩=some (.int .i64 4):=(hbw1.cell (p:=⟨w.heap.size,0,none⟩) (by rw[q6];exact Nat.lt_succ_self _)).trans (by rw[HH.out];exact D0.out.1);have d2:w1.cell? ⟨w.heap.size,2,none⟩=some (.slice a l.length cap):=(hbw1.cell (p:=⟨w.heap.size,2,none⟩) (by rw[q6];exact Nat.lt_succ_self _)).trans (by rw[HH.out];exact D0.out.2.2);clear CN hbw1
  go_wp2_with fail
  refine(C.out _ (HL.out.later B1.out)).mono ?_;rintro e w9⟨rfl,hbw9⟩;have B9:Hid (Below w.heap.size w w9):=qh (B1.out.trans (hbw9.mono B1.out.size));clear C hbw9 d0 d2;go_wp2;go_ret;exact⟨by rw[HS.out];rfl,B9.out⟩
theorem qk3(s:ByteArray)(l:List Nd)(w:World)(v0 v1 v2:Value)(ht:NdR w (.mk 5 s l) v0 v1 v2) :
  Calls Tryz.prog 101 #[.agg #[v0,v1,v2]] w fun e w'=>e = .returned (.bool (itemB (.mk 5 s l)))/\Below w.heap.size w w':=by
 obtain⟨k',s',l',a,cap,he,rfl,rfl,rfl,hs,hl⟩:=ht.form
 cases he;unfold maxLen at hl;obtain⟨V,hV⟩:∃ V,qy s=V:=⟨_,rfl⟩;have CN:=qh (fun w=>xc V s w hV);have HV:=qh hV;obtain⟨h,hh⟩:∃ h,w.heap.size=h:=⟨_,rfl⟩;have hb0:=qh ((Below.refl w.heap.size w).alloc (q5 _) (.cells #[.int .i64 5,.string s,.slice a l.length cap] 25));have D0:=qh (nd3 (w:=w) (k:=5) (s:=s) (v2:=.slice a l.length cap) (t:=25) hh);have HH:=qh hh;have HT:=qh ht;have HC:=qh ht.cap;have HL:Hid (NdL w l (.slice a l.length cap)):=qh ⟨_,_,_,_,ht⟩;clear hh ht hV;have HS:Hid (itemB (.mk 5 s l)=(V && (yo l && decide (l.length<=8)))):=qh (by rw[itemB,q7 (by decide),q7 (by decide),qa (by decide)];rw[HV.out])
 cases V with
 |false =>
  go_enter Tryz.func101,Tryz.ntmps101
  go_wp2_with fail
  refine(CN.out _).mono ?_;rintro e w1⟨rfl,hbw1⟩;have B1:Hid (Below w.heap.size w w1):=qh (hb0.out.trans (hbw1.mono hb0.out.size));have d0:w1.cell? ⟨w.heap.size,0,none⟩=some (.int .i64 5):=(hbw1.cell (p:=⟨w.heap.size,0,none⟩) (by rw[q6];exact Nat.lt_succ_self _)).trans (by rw[HH.out];exact D0.out.1);have d2:w1.cell? ⟨w.heap.size,2,none⟩=some (.slice a l.length cap):=(hbw1.cell (p:=⟨w.heap.size,2,none⟩) (by rw[q6];exact Nat.lt_succ_self _)).trans (by rw[HH.out];exact D0.out.2.2);clear CN hbw1;go_wp2;go_ret;exact⟨by rw[HS.out];rfl,B1.out⟩
 |true =>
  obtain⟨U,hU⟩:∃ U,(yo l && decide (l.length<=8))=U:=⟨_,rfl⟩;have C:=qh (fun w hv=>q6f l (.slice a l.length cap) w hv);rw[hU]at C HS;clear hU;go_enter Tryz.func101,Tryz.ntmps101
  go_wp2_with fail
  refine(CN.out _).mono ?_;rintro e w1⟨rfl,hbw1⟩;have B1:Hid (Below w.heap.size w w1):=qh (hb0.out.trans (hbw1.mono hb0.out.size));have d0:w1.cell? ⟨w.heap.size,0,none⟩=some (.int .i64 5):=(hbw1.cell (p:=⟨w.heap.size,0,none⟩) (by rw[q6];exact Nat.lt_succ_self _)).trans (by rw[HH.out];exact D0.out.1);have d2:w1.cell? ⟨w.heap.size,2,none⟩=some (.slice a l.length cap):=(hbw1.cell (p:=⟨w.heap.size,2,none⟩) (by rw[q6];exact Nat.lt_succ_self _)).trans (by rw[HH.out];exact D0.out.2.2);clear CN hbw1
  go_wp2_with fail
  refine(C.out _ (HL.out.later B1.out)).mono ?_;rintro e w9⟨rfl,hbw9⟩;have B9:Hid (Below w.heap.size w w9):=qh (B1.out.trans (hbw9.mono B1.out.size));clear C hbw9 d0 d2;go_wp2;go_ret;exact⟨by rw[HS.out];rfl,B9.out⟩
theorem qk2(s:ByteArray)(l:List Nd)(w:World)(v0 v1 v2:Value)(ht:NdR w (.mk 6 s l) v0 v1 v2) :
  Calls Tryz.prog 101 #[.agg #[v0,v1,v2]] w fun e w'=>e = .returned (.bool (itemB (.mk 6 s l)))/\Below w.heap.size w w':=by
 obtain⟨k',s',l',a,cap,he,rfl,rfl,rfl,hs,hl⟩:=ht.form
 cases he;unfold maxLen at hl;obtain⟨V,hV⟩:∃ V,qy s=V:=⟨_,rfl⟩;have CN:=qh (fun w=>xc V s w hV);have HV:=qh hV;obtain⟨h,hh⟩:∃ h,w.heap.size=h:=⟨_,rfl⟩;have hb0:=qh ((Below.refl w.heap.size w).alloc (q5 _) (.cells #[.int .i64 6,.string s,.slice a l.length cap] 25));have D0:=qh (nd3 (w:=w) (k:=6) (s:=s) (v2:=.slice a l.length cap) (t:=25) hh);have HH:=qh hh;have HT:=qh ht;have HC:=qh ht.cap;have HL:Hid (NdL w l (.slice a l.length cap)):=qh ⟨_,_,_,_,ht⟩;clear hh ht hV;have HS:Hid (itemB (.mk 6 s l)=(V && (yo l && decide (l.length<=8)))):=qh (by rw[itemB,q7 (by decide),q7 (by decide),qa (by decide)];rw[HV.out])
 cases V with
 |false =>
  go_enter Tryz.func101,Tryz.ntmps101
  go_wp2_with fail
  refine(CN.out _).mono ?_;rintro e w1⟨rfl,hbw1⟩;have B1:Hid (Below w.heap.size w w1):=qh (hb0.out.trans (hbw1.mono hb0.out.size));have d0:w1.cell? ⟨w.heap.size,0,none⟩=some (.int .i64 6):=(hbw1.cell (p:=⟨w.heap.size,0,none⟩) (by rw[q6];exact Nat.lt_succ_self _)).trans (by rw[HH.out];exact D0.out.1);have d2:w1.cell? ⟨w.heap.size,2,none⟩=some (.slice a l.length cap):=(hbw1.cell (p:=⟨w.heap.size,2,none⟩) (by rw[q6];exact Nat.lt_succ_self _)).trans (by rw[HH.out];exact D0.out.2.2);clear CN hbw1;go_wp2;go_ret;exact⟨by rw[HS.out];rfl,B1.out⟩
 |true =>
  obtain⟨U,hU⟩:∃ U,(yo l && decide (l.length<=8))=U:=⟨_,rfl⟩;have C:=qh (fun w hv=>q6f l (.slice a l.length cap) w hv);rw[hU]at C HS;clear hU;go_enter Tryz.func101,Tryz.ntmps101
  go_wp2_with fail
  refine(CN.out _).mono ?_;rintro e w1⟨rfl,hbw1⟩;have B1:Hid (Below w.heap.size w w1):=qh (hb0.out.trans (hbw1.mono hb0.out.size));have d0:w1.cell? ⟨w.heap.size,0,none⟩=some (.int .i64 6):=(hbw1.cell (p:=⟨w.heap.size,0,none⟩) (by rw[q6];exact Nat.lt_succ_self _)).trans (by rw[HH.out];exact D0.out.1);have d2:w1.cell? ⟨w.heap.size,2,none⟩=some (.slice a l.length cap):=(hbw1.cell (p:=⟨w.heap.size,2,none⟩) (by rw[q6];exact Nat.lt_succ_self _)).trans (by rw[HH.out];exact D0.out.2.2);clear CN hbw1
  go_wp2_with fail
  refine(C.out _ (HL.out.later B1.out)).mono ?_;rintro e w9⟨rfl,hbw9⟩;have B9:Hid (Below w.heap.size w w9):=qh (B1.out.trans (hbw9.mono B1.out.size));clear C hbw9 d0 d2;go_wp2;go_ret;exact⟨by rw[HS.out];rfl,B9.out⟩
theorem qk1(s:ByteArray)(l:List Nd)(w:World)(v0 v1 v2:Value)(ht:NdR w (.mk 7 s l) v0 v1 v2) :
  Calls Tryz.prog 101 #[.agg #[v0,v1,v2]] w fun e w'=>e = .returned (.bool (itemB (.mk 7 s l)))/\Below w.heap.size w w':=by
 obtain⟨k',s',l',a,cap,he,rfl,rfl,rfl,hs,hl⟩:=ht.form
 cases he;unfold maxLen at hl;obtain⟨V,hV⟩:∃ V,qy s=V:=⟨_,rfl⟩;have CN:=qh (fun w=>xc V s w hV);have HV:=qh hV;obtain⟨h,hh⟩:∃ h,w.heap.size=h:=⟨_,rfl⟩;have hb0:=qh ((Below.refl w.heap.size w).alloc (q5 _) (.cells #[.int .i64 7,.string s,.slice a l.length cap] 25));have D0:=qh (nd3 (w:=w) (k:=7) (s:=s) (v2:=.slice a l.length cap) (t:=25) hh);have HH:=qh hh;have HT:=qh ht;have HC:=qh ht.cap;have HL:Hid (NdL w l (.slice a l.length cap)):=qh ⟨_,_,_,_,ht⟩;clear hh ht hV;have HS:Hid (itemB (.mk 7 s l)=(V && (q0h l && decide (l.length<=8)))):=qh (by rw[itemB,q7 (by decide),q7 (by decide),q7 (by decide),qa (by decide)];rw[HV.out])
 cases V with
 |false =>
  go_enter Tryz.func101,Tryz.ntmps101
  go_wp2_with fail
  refine(CN.out _).mono ?_;rintro e w1⟨rfl,hbw1⟩;have B1:Hid (Below w.heap.size w w1):=qh (hb0.out.trans (hbw1.mono hb0.out.size));have d0:w1.cell? ⟨w.heap.size,0,none⟩=some (.int .i64 7):=(hbw1.cell (p:=⟨w.heap.size,0,none⟩) (by rw[q6];exact Nat.lt_succ_self _)).trans (by rw[HH.out];exact D0.out.1);have d2:w1.cell? ⟨w.heap.size,2,none⟩=some (.slice a l.length cap):=(hbw1.cell (p:=⟨w.heap.size,2,none⟩) (by rw[q6];exact Nat.lt_succ_self _)).trans (by rw[HH.out];exact D0.out.2.2);clear CN hbw1;go_wp2;go_ret;exact⟨by rw[HS.out];rfl,B1.out⟩
 |true =>
  obtain⟨U,hU⟩:∃ U,(q0h l && decide (l.length<=8))=U:=⟨_,rfl⟩;have C:=qh (fun w hv=>qk8 l (.slice a l.length cap) w hv);rw[hU]at C HS;clear hU;go_enter Tryz.func101,Tryz.ntmps101
  go_wp2_with fail
  refine(CN.out _).mono ?_;rintro e w1⟨rfl,hbw1⟩;have B1:Hid (Below w.heap.size w w1):=qh (hb0.out.trans (hbw1.mono hb0.out.size));have d0:w1.cell? ⟨w.heap.size,0,none⟩=some (.int .i64 7):=(hbw1.cell (p:=⟨w.heap.size,0,none⟩) (by rw[q6];exact Nat.lt_succ_self _)).trans (by rw[HH.out];exact D0.out.1);have d2:w1.cell? ⟨w.heap.size,2,none⟩=some (.slice a l.length cap):=(hbw1.cell (p:=⟨w.heap.size,2,none⟩) (by rw[q6];exact Nat.lt_succ_self _)).trans (by rw[HH.out];exact D0.out.2.2);clear CN hbw1
  go_wp2_with fail
  refine(C.out _ (HL.out.later B1.out)).mono ?_;rintro e w9⟨rfl,hbw9⟩;have B9:Hid (Below w.heap.size w w9):=qh (B1.out.trans (hbw9.mono B1.out.size));clear C hbw9 d0 d2;go_wp2;go_ret;exact⟨by rw[HS.out];rfl,B9.out⟩
theorem qk0(s:ByteArray)(l:List Nd)(w:World)(v0 v1 v2:Value)(ht:NdR w (.mk 8 s l) v0 v1 v2) :
  Calls Tryz.prog 101 #[.agg #[v0,v1,v2]] w fun e w'=>e = .returned (.bool (itemB (.mk 8 s l)))/\Below w.heap.size w w':=by
 obtain⟨k',s',l',a,cap,he,rfl,rfl,rfl,hs,hl⟩:=ht.form
 cases he;unfold maxLen at hl;obtain⟨V,hV⟩:∃ V,qy s=V:=⟨_,rfl⟩;have CN:=qh (fun w=>xc V s w hV);have HV:=qh hV;obtain⟨h,hh⟩:∃ h,w.heap.size=h:=⟨_,rfl⟩;have hb0:=qh ((Below.refl w.heap.size w).alloc (q5 _) (.cells #[.int .i64 8,.string s,.slice a l.length cap] 25));have D0:=qh (nd3 (w:=w) (k:=8) (s:=s) (v2:=.slice a l.length cap) (t:=25) hh);have HH:=qh hh;have HT:=qh ht;have HC:=qh ht.cap;have HL:Hid (NdL w l (.slice a l.length cap)):=qh ⟨_,_,_,_,ht⟩;clear hh ht hV;have HS:Hid (itemB (.mk 8 s l)=(V && (decide (l.length=1) && xy l))):=qh (by rw[itemB,q7 (by decide),q7 (by decide),q7 (by decide),q7 (by decide),qa (by decide)];rw[HV.out])
 cases V with
 |false =>
  go_enter Tryz.func101,Tryz.ntmps101
  go_wp2_with fail
  refine(CN.out _).mono ?_;rintro e w1⟨rfl,hbw1⟩;have B1:Hid (Below w.heap.size w w1):=qh (hb0.out.trans (hbw1.mono hb0.out.size));have d0:w1.cell? ⟨w.heap.size,0,none⟩=some (.int .i64 8):=(hbw1.cell (p:=⟨w.heap.size,0,none⟩) (by rw[q6];exact Nat.lt_succ_self _)).trans (by rw[HH.out];exact D0.out.1);have d2:w1.cell? ⟨w.heap.size,2,none⟩=some (.slice a l.length cap):=(hbw1.cell (p:=⟨w.heap.size,2,none⟩) (by rw[q6];exact Nat.lt_succ_self _)).trans (by rw[HH.out];exact D0.out.2.2);clear CN hbw1;go_wp2;go_ret;exact⟨by rw[HS.out];rfl,B1.out⟩
 |true =>
  by_cases hll:l.length=1
  ·have e1:((l.length:Int)==1)=true:=by rw[hll];rfl
   have j0:0 < l.length:=by omega
   have j1:(0:Int) < (l.length:Int):=by omega
   have HM:=qh hll;clear hll;go_enter Tryz.func101,Tryz.ntmps101
   go_wp2_with fail
   refine(CN.out _).mono ?_;rintro e w1⟨rfl,hbw1⟩;have B1:Hid (Below w.heap.size w w1):=qh (hb0.out.trans (hbw1.mono hb0.out.size));have d0:w1.cell? ⟨w.heap.size,0,none⟩=some (.int .i64 8):=(hbw1.cell (p:=⟨w.heap.size,0,none⟩) (by rw[q6];exact Nat.lt_succ_self _)).trans (by rw[HH.out];exact D0.out.1);have d2:w1.cell? ⟨w.heap.size,2,none⟩=some (.slice a l.length cap):=(hbw1.cell (p:=⟨w.heap.size,2,none⟩) (by rw[q6];exact Nat.lt_succ_self _)).trans (by rw[HH.out];exact D0.out.2.2);clear CN hbw1;obtain⟨b,o,k1,s1,l1,a1,c1,rfl,eq1,x0,x1,x2,r1⟩:=(HT.out.later B1.out).kid 0 j0;obtain⟨U,hU⟩:∃ U,qn l[0]=U:=⟨_,rfl⟩;have HE:Hid (xy l=U):=qh (by rw[q2z HM.out,<-hU]);rw[eq1]at hU;have CT:=qh (q42 _ (.mk k1 s1 l1) w1 _ _ _ (q5 _) r1);rw[hU]at CT;simp only[Nat.zero_mul,Nat.add_zero]at x0 x1 x2;have nb:=qg x0;clear eq1 hU r1
   go_wp2_with fail
   refine CT.out.mono ?_;clear CT;rintro e w9⟨rfl,hbw9⟩;have B9:Hid (Below w.heap.size w w9):=qh (B1.out.trans (hbw9.mono B1.out.size));clear hbw9 x0 x1 x2 d0 d2;go_wp2;go_ret;exact⟨by rw[HS.out,HE.out,decide_eq_true HM.out];rfl,B9.out⟩
  ·have e1:((l.length:Int)==1)=false:=by rw[q9];omega
   rw[decide_eq_false hll,Bool.false_and,Bool.and_false]at HS;clear hll;go_enter Tryz.func101,Tryz.ntmps101
   go_wp2_with fail
   refine(CN.out _).mono ?_;rintro e w1⟨rfl,hbw1⟩;have B1:Hid (Below w.heap.size w w1):=qh (hb0.out.trans (hbw1.mono hb0.out.size));have d0:w1.cell? ⟨w.heap.size,0,none⟩=some (.int .i64 8):=(hbw1.cell (p:=⟨w.heap.size,0,none⟩) (by rw[q6];exact Nat.lt_succ_self _)).trans (by rw[HH.out];exact D0.out.1);have d2:w1.cell? ⟨w.heap.size,2,none⟩=some (.slice a l.length cap):=(hbw1.cell (p:=⟨w.heap.size,2,none⟩) (by rw[q6];exact Nat.lt_succ_self _)).trans (by rw[HH.out];exact D0.out.2.2);clear CN hbw1;go_wp2;go_ret;exact⟨by rw[HS.out];rfl,B1.out⟩
theorem qjz(s:ByteArray)(l:List Nd)(w:World)(v0 v1 v2:Value)(ht:NdR w (.mk 9 s l) v0 v1 v2) :
  Calls Tryz.prog 101 #[.agg #[v0,v1,v2]] w fun e w'=>e = .returned (.bool (itemB (.mk 9 s l)))/\Below w.heap.size w w':=by
 obtain⟨k',s',l',a,cap,he,rfl,rfl,rfl,hs,hl⟩:=ht.form
 cases he;unfold maxLen at hl;obtain⟨V,hV⟩:∃ V,qy s=V:=⟨_,rfl⟩;have CN:=qh (fun w=>xc V s w hV);have HV:=qh hV;obtain⟨h,hh⟩:∃ h,w.heap.size=h:=⟨_,rfl⟩;have hb0:=qh ((Below.refl w.heap.size w).alloc (q5 _) (.cells #[.int .i64 9,.string s,.slice a l.length cap] 25));have D0:=qh (nd3 (w:=w) (k:=9) (s:=s) (v2:=.slice a l.length cap) (t:=25) hh);have HH:=qh hh;have HT:=qh ht;have HC:=qh ht.cap;have HL:Hid (NdL w l (.slice a l.length cap)):=qh ⟨_,_,_,_,ht⟩;clear hh ht hV;have HS:Hid (itemB (.mk 9 s l)=(V && (decide (l.length=1) && xy l))):=qh (by rw[itemB,q7 (by decide),q7 (by decide),q7 (by decide),q7 (by decide),qa (by decide)];rw[HV.out])
 cases V with
 |false =>
  go_enter Tryz.func101,Tryz.ntmps101
  go_wp2_with fail
  refine(CN.out _).mono ?_;rintro e w1⟨rfl,hbw1⟩;have B1:Hid (Below w.heap.size w w1):=qh (hb0.out.trans (hbw1.mono hb0.out.size));have d0:w1.cell? ⟨w.heap.size,0,none⟩=some (.int .i64 9):=(hbw1.cell (p:=⟨w.heap.size,0,none⟩) (by rw[q6];exact Nat.lt_succ_self _)).trans (by rw[HH.out];exact D0.out.1);have d2:w1.cell? ⟨w.heap.size,2,none⟩=some (.slice a l.length cap):=(hbw1.cell (p:=⟨w.heap.size,2,none⟩) (by rw[q6];exact Nat.lt_succ_self _)).trans (by rw[HH.out];exact D0.out.2.2);clear CN hbw1;go_wp2;go_ret;exact⟨by rw[HS.out];rfl,B1.out⟩
 |true =>
  by_cases hll:l.length=1
  ·have e1:((l.length:Int)==1)=true:=by rw[hll];rfl
   have j0:0 < l.length:=by omega
   have j1:(0:Int) < (l.length:Int):=by omega
   have HM:=qh hll;clear hll;go_enter Tryz.func101,Tryz.ntmps101
   go_wp2_with fail
   refine(CN.out _).mono ?_;rintro e w1⟨rfl,hbw1⟩;have B1:Hid (Below w.heap.size w w1):=qh (hb0.out.trans (hbw1.mono hb0.out.size));have d0:w1.cell? ⟨w.heap.size,0,none⟩=some (.int .i64 9):=(hbw1.cell (p:=⟨w.heap.size,0,none⟩) (by rw[q6];exact Nat.lt_succ_self _)).trans (by rw[HH.out];exact D0.out.1);have d2:w1.cell? ⟨w.heap.size,2,none⟩=some (.slice a l.length cap):=(hbw1.cell (p:=⟨w.heap.size,2,none⟩) (by rw[q6];exact Nat.lt_succ_self _)).trans (by rw[HH.out];exact D0.out.2.2);clear CN hbw1;obtain⟨b,o,k1,s1,l1,a1,c1,rfl,eq1,x0,x1,x2,r1⟩:=(HT.out.later B1.out).kid 0 j0;obtain⟨U,hU⟩:∃ U,qn l[0]=U:=⟨_,rfl⟩;have HE:Hid (xy l=U):=qh (by rw[q2z HM.out,<-hU]);rw[eq1]at hU;have CT:=qh (q42 _ (.mk k1 s1 l1) w1 _ _ _ (q5 _) r1);rw[hU]at CT;simp only[Nat.zero_mul,Nat.add_zero]at x0 x1 x2;have nb:=qg x0;clear eq1 hU r1
   go_wp2_with fail
   refine CT.out.mono ?_;clear CT;rintro e w9⟨rfl,hbw9⟩;have B9:Hid (Below w.heap.size w w9):=qh (B1.out.trans (hbw9.mono B1.out.size));clear hbw9 x0 x1 x2 d0 d2;go_wp2;go_ret;exact⟨by rw[HS.out,HE.out,decide_eq_true HM.out];rfl,B9.out⟩
  ·have e1:((l.length:Int)==1)=false:=by rw[q9];omega
   rw[decide_eq_false hll,Bool.false_and,Bool.and_false]at HS;clear hll;go_enter Tryz.func101,Tryz.ntmps101
   go_wp2_with fail
   refine(CN.out _).mono ?_;rintro e w1⟨rfl,hbw1⟩;have B1:Hid (Below w.heap.size w w1):=qh (hb0.out.trans (hbw1.mono hb0.out.size));have d0:w1.cell? ⟨w.heap.size,0,none⟩=some (.int .i64 9):=(hbw1.cell (p:=⟨w.heap.size,0,none⟩) (by rw[q6];exact Nat.lt_succ_self _)).trans (by rw[HH.out];exact D0.out.1);have d2:w1.cell? ⟨w.heap.size,2,none⟩=some (.slice a l.length cap):=(hbw1.cell (p:=⟨w.heap.size,2,none⟩) (by rw[q6];exact Nat.lt_succ_self _)).trans (by rw[HH.out];exact D0.out.2.2);clear CN hbw1;go_wp2;go_ret;exact⟨by rw[HS.out];rfl,B1.out⟩
theorem qhh(s:ByteArray)(l:List Nd)(w:World)(v0 v1 v2:Value)(ht:NdR w (.mk 10 s l) v0 v1 v2) :
  Calls Tryz.prog 101 #[.agg #[v0,v1,v2]] w fun e w'=>e = .returned (.bool (itemB (.mk 10 s l)))/\Below w.heap.size w w':=by
 obtain⟨k',s',l',a,cap,he,rfl,rfl,rfl,hs,hl⟩:=ht.form
 cases he;unfold maxLen at hl;obtain⟨V,hV⟩:∃ V,qy s=V:=⟨_,rfl⟩;have CN:=qh (fun w=>xc V s w hV);have HV:=qh hV;obtain⟨h,hh⟩:∃ h,w.heap.size=h:=⟨_,rfl⟩;have hb0:=qh ((Below.refl w.heap.size w).alloc (q5 _) (.cells #[.int .i64 10,.string s,.slice a l.length cap] 25));have D0:=qh (nd3 (w:=w) (k:=10) (s:=s) (v2:=.slice a l.length cap) (t:=25) hh);have HH:=qh hh;have HT:=qh ht;have HC:=qh ht.cap;have HL:Hid (NdL w l (.slice a l.length cap)):=qh ⟨_,_,_,_,ht⟩;clear hh ht hV;have HS:Hid (itemB (.mk 10 s l)=(V && (decide (l.length=1) && xy l))):=qh (by rw[itemB,q7 (by decide),q7 (by decide),q7 (by decide),q7 (by decide),qa (by decide)];rw[HV.out])
 cases V with
 |false =>
  go_enter Tryz.func101,Tryz.ntmps101
  go_wp2_with fail
  refine(CN.out _).mono ?_;rintro e w1⟨rfl,hbw1⟩;have B1:Hid (Below w.heap.size w w1):=qh (hb0.out.trans (hbw1.mono hb0.out.size));have d0:w1.cell? ⟨w.heap.size,0,none⟩=some (.int .i64 10):=(hbw1.cell (p:=⟨w.heap.size,0,none⟩) (by rw[q6];exact Nat.lt_succ_self _)).trans (by rw[HH.out];exact D0.out.1);have d2:w1.cell? ⟨w.heap.size,2,none⟩=some (.slice a l.length cap):=(hbw1.cell (p:=⟨w.heap.size,2,none⟩) (by rw[q6];exact Nat.lt_succ_self _)).trans (by rw[HH.out];exact D0.out.2.2);clear CN hbw1;go_wp2;go_ret;exact⟨by rw[HS.out];rfl,B1.out⟩
 |true =>
  by_cases hll:l.length=1
  ·have e1:((l.length:Int)==1)=true:=by rw[hll];rfl
   have j0:0 < l.length:=by omega
   have j1:(0:Int) < (l.length:Int):=by omega
   have HM:=qh hll;clear hll;go_enter Tryz.func101,Tryz.ntmps101
   go_wp2_with fail
   refine(CN.out _).mono ?_;rintro e w1⟨rfl,hbw1⟩;have B1:Hid (Below w.heap.size w w1):=qh (hb0.out.trans (hbw1.mono hb0.out.size));have d0:w1.cell? ⟨w.heap.size,0,none⟩=some (.int .i64 10):=(hbw1.cell (p:=⟨w.heap.size,0,none⟩) (by rw[q6];exact Nat.lt_succ_self _)).trans (by rw[HH.out];exact D0.out.1);have d2:w1.cell? ⟨w.heap.size,2,none⟩=some (.slice a l.length cap):=(hbw1.cell (p:=⟨w.heap.size,2,none⟩) (by rw[q6];exact Nat.lt_succ_self _)).trans (by rw[HH.out];exact D0.out.2.2);clear CN hbw1;obtain⟨b,o,k1,s1,l1,a1,c1,rfl,eq1,x0,x1,x2,r1⟩:=(HT.out.later B1.out).kid 0 j0;obtain⟨U,hU⟩:∃ U,qn l[0]=U:=⟨_,rfl⟩;have HE:Hid (xy l=U):=qh (by rw[q2z HM.out,<-hU]);rw[eq1]at hU;have CT:=qh (q42 _ (.mk k1 s1 l1) w1 _ _ _ (q5 _) r1);rw[hU]at CT;simp only[Nat.zero_mul,Nat.add_zero]at x0 x1 x2;have nb:=qg x0;clear eq1 hU r1
   go_wp2_with fail
   refine CT.out.mono ?_;clear CT;rintro e w9⟨rfl,hbw9⟩;have B9:Hid (Below w.heap.size w w9):=qh (B1.out.trans (hbw9.mono B1.out.size));clear hbw9 x0 x1 x2 d0 d2;go_wp2;go_ret;exact⟨by rw[HS.out,HE.out,decide_eq_true HM.out];rfl,B9.out⟩
  ·have e1:((l.length:Int)==1)=false:=by rw[q9];omega
   rw[decide_eq_false hll,Bool.false_and,Bool.and_false]at HS;clear hll;go_enter Tryz.func101,Tryz.ntmps101
   go_wp2_with fail
   refine(CN.out _).mono ?_;rintro e w1⟨rfl,hbw1⟩;have B1:Hid (Below w.heap.size w w1):=qh (hb0.out.trans (hbw1.mono hb0.out.size));have d0:w1.cell? ⟨w.heap.size,0,none⟩=some (.int .i64 10):=(hbw1.cell (p:=⟨w.heap.size,0,none⟩) (by rw[q6];exact Nat.lt_succ_self _)).trans (by rw[HH.out];exact D0.out.1);have d2:w1.cell? ⟨w.heap.size,2,none⟩=some (.slice a l.length cap):=(hbw1.cell (p:=⟨w.heap.size,2,none⟩) (by rw[q6];exact Nat.lt_succ_self _)).trans (by rw[HH.out];exact D0.out.2.2);clear CN hbw1;go_wp2;go_ret;exact⟨by rw[HS.out];rfl,B1.out⟩
theorem qhg(s:ByteArray)(l:List Nd)(w:World)(v0 v1 v2:Value)(ht:NdR w (.mk 11 s l) v0 v1 v2) :
  Calls Tryz.prog 101 #[.agg #[v0,v1,v2]] w fun e w'=>e = .returned (.bool (itemB (.mk 11 s l)))/\Below w.heap.size w w':=by
 obtain⟨k',s',l',a,cap,he,rfl,rfl,rfl,hs,hl⟩:=ht.form
 cases he;unfold maxLen at hl;obtain⟨V,hV⟩:∃ V,qy s=V:=⟨_,rfl⟩;have CN:=qh (fun w=>xc V s w hV);have HV:=qh hV;obtain⟨h,hh⟩:∃ h,w.heap.size=h:=⟨_,rfl⟩;have hb0:=qh ((Below.refl w.heap.size w).alloc (q5 _) (.cells #[.int .i64 11,.string s,.slice a l.length cap] 25));have D0:=qh (nd3 (w:=w) (k:=11) (s:=s) (v2:=.slice a l.length cap) (t:=25) hh);have HH:=qh hh;have HT:=qh ht;have HC:=qh ht.cap;have HL:Hid (NdL w l (.slice a l.length cap)):=qh ⟨_,_,_,_,ht⟩;clear hh ht hV;have HS:Hid (itemB (.mk 11 s l)=(V && (decide (l.length=1) && xy l))):=qh (by rw[itemB,q7 (by decide),q7 (by decide),q7 (by decide),q7 (by decide),qa (by decide)];rw[HV.out])
 cases V with
 |false =>
  go_enter Tryz.func101,Tryz.ntmps101
  go_wp2_with fail
  refine(CN.out _).mono ?_;rintro e w1⟨rfl,hbw1⟩;have B1:Hid (Below w.heap.size w w1):=qh (hb0.out.trans (hbw1.mono hb0.out.size));have d0:w1.cell? ⟨w.heap.size,0,none⟩=some (.int .i64 11):=(hbw1.cell (p:=⟨w.heap.size,0,none⟩) (by rw[q6];exact Nat.lt_succ_self _)).trans (by rw[HH.out];exact D0.out.1);have d2:w1.cell? ⟨w.heap.size,2,none⟩=some (.slice a l.length cap):=(hbw1.cell (p:=⟨w.heap.size,2,none⟩) (by rw[q6];exact Nat.lt_succ_self _)).trans (by rw[HH.out];exact D0.out.2.2);clear CN hbw1;go_wp2;go_ret;exact⟨by rw[HS.out];rfl,B1.out⟩
 |true =>
  by_cases hll:l.length=1
  ·have e1:((l.length:Int)==1)=true:=by rw[hll];rfl
   have j0:0 < l.length:=by omega
   have j1:(0:Int) < (l.length:Int):=by omega
   have HM:=qh hll;clear hll;go_enter Tryz.func101,Tryz.ntmps101
   go_wp2_with fail
   refine(CN.out _).mono ?_;rintro e w1⟨rfl,hbw1⟩;have B1:Hid (Below w.heap.size w w1):=qh (hb0.out.trans (hbw1.mono hb0.out.size));have d0:w1.cell? ⟨w.heap.size,0,none⟩=some (.int .i64 11):=(hbw1.cell (p:=⟨w.heap.size,0,none⟩) (by rw[q6];exact Nat.lt_succ_self _)).trans (by rw[HH.out];exact D0.out.1);have d2:w1.cell? ⟨w.heap.size,2,none⟩=some (.slice a l.length cap):=(hbw1.cell (p:=⟨w.heap.size,2,none⟩) (by rw[q6];exact Nat.lt_succ_self _)).trans (by rw[HH.out];exact D0.out.2.2);clear CN hbw1;obtain⟨b,o,k1,s1,l1,a1,c1,rfl,eq1,x0,x1,x2,r1⟩:=(HT.out.later B1.out).kid 0 j0;obtain⟨U,hU⟩:∃ U,qn l[0]=U:=⟨_,rfl⟩;have HE:Hid (xy l=U):=qh (by rw[q2z HM.out,<-hU]);rw[eq1]at hU;have CT:=qh (q42 _ (.mk k1 s1 l1) w1 _ _ _ (q5 _) r1);rw[hU]at CT;simp only[Nat.zero_mul,Nat.add_zero]at x0 x1 x2;have nb:=qg x0;clear eq1 hU r1
   go_wp2_with fail
   refine CT.out.mono ?_;clear CT;rintro e w9⟨rfl,hbw9⟩;have B9:Hid (Below w.heap.size w w9):=qh (B1.out.trans (hbw9.mono B1.out.size));clear hbw9 x0 x1 x2 d0 d2;go_wp2;go_ret;exact⟨by rw[HS.out,HE.out,decide_eq_true HM.out];rfl,B9.out⟩
  ·have e1:((l.length:Int)==1)=false:=by rw[q9];omega
   rw[decide_eq_false hll,Bool.false_and,Bool.and_false]at HS;clear hll;go_enter Tryz.func101,Tryz.ntmps101
   go_wp2_with fail
   refine(CN.out _).mono ?_;rintro e w1⟨rfl,hbw1⟩;have B1:Hid (Below w.heap.size w w1):=qh (hb0.out.trans (hbw1.mono hb0.out.size));have d0:w1.cell? ⟨w.heap.size,0,none⟩=some (.int .i64 11):=(hbw1.cell (p:=⟨w.heap.size,0,none⟩) (by rw[q6];exact Nat.lt_succ_self _)).trans (by rw[HH.out];exact D0.out.1);have d2:w1.cell? ⟨w.heap.size,2,none⟩=some (.slice a l.length cap):=(hbw1.cell (p:=⟨w.heap.size,2,none⟩) (by rw[q6];exact Nat.lt_succ_self _)).trans (by rw[HH.out];exact D0.out.2.2);clear CN hbw1;go_wp2;go_ret;exact⟨by rw[HS.out];rfl,B1.out⟩
theorem qhf(s:ByteArray)(l:List Nd)(w:World)(v0 v1 v2:Value)(ht:NdR w (.mk 12 s l) v0 v1 v2) :
  Calls Tryz.prog 101 #[.agg #[v0,v1,v2]] w fun e w'=>e = .returned (.bool (itemB (.mk 12 s l)))/\Below w.heap.size w w':=by
 obtain⟨k',s',l',a,cap,he,rfl,rfl,rfl,hs,hl⟩:=ht.form
 cases he;unfold maxLen at hl;obtain⟨V,hV⟩:∃ V,qy s=V:=⟨_,rfl⟩;have CN:=qh (fun w=>xc V s w hV);have HV:=qh hV;obtain⟨h,hh⟩:∃ h,w.heap.size=h:=⟨_,rfl⟩;have hb0:=qh ((Below.refl w.heap.size w).alloc (q5 _) (.cells #[.int .i64 12,.string s,.slice a l.length cap] 25));have D0:=qh (nd3 (w:=w) (k:=12) (s:=s) (v2:=.slice a l.length cap) (t:=25) hh);have HH:=qh hh;have HT:=qh ht;have HC:=qh ht.cap;have HL:Hid (NdL w l (.slice a l.length cap)):=qh ⟨_,_,_,_,ht⟩;clear hh ht hV;have HS:Hid (itemB (.mk 12 s l)=(V && decide (l.length=0))):=qh (by rw[itemB,q7 (by decide),q7 (by decide),q7 (by decide),q7 (by decide),q7 (by decide),qa (by decide)];rw[HV.out])
 cases V with
 |false =>
  go_enter Tryz.func101,Tryz.ntmps101
  go_wp2_with fail
  refine(CN.out _).mono ?_;rintro e w1⟨rfl,hbw1⟩;have B1:Hid (Below w.heap.size w w1):=qh (hb0.out.trans (hbw1.mono hb0.out.size));have d0:w1.cell? ⟨w.heap.size,0,none⟩=some (.int .i64 12):=(hbw1.cell (p:=⟨w.heap.size,0,none⟩) (by rw[q6];exact Nat.lt_succ_self _)).trans (by rw[HH.out];exact D0.out.1);have d2:w1.cell? ⟨w.heap.size,2,none⟩=some (.slice a l.length cap):=(hbw1.cell (p:=⟨w.heap.size,2,none⟩) (by rw[q6];exact Nat.lt_succ_self _)).trans (by rw[HH.out];exact D0.out.2.2);clear CN hbw1;go_wp2;go_ret;exact⟨by rw[HS.out];rfl,B1.out⟩
 |true =>
  by_cases hll:l.length=0
  ·have e1:((l.length:Int)==0)=true:=by rw[hll];rfl
   rw[decide_eq_true hll]at HS;clear hll;go_enter Tryz.func101,Tryz.ntmps101
   go_wp2_with fail
   refine(CN.out _).mono ?_;rintro e w1⟨rfl,hbw1⟩;have B1:Hid (Below w.heap.size w w1):=qh (hb0.out.trans (hbw1.mono hb0.out.size));have d0:w1.cell? ⟨w.heap.size,0,none⟩=some (.int .i64 12):=(hbw1.cell (p:=⟨w.heap.size,0,none⟩) (by rw[q6];exact Nat.lt_succ_self _)).trans (by rw[HH.out];exact D0.out.1);have d2:w1.cell? ⟨w.heap.size,2,none⟩=some (.slice a l.length cap):=(hbw1.cell (p:=⟨w.heap.size,2,none⟩) (by rw[q6];exact Nat.lt_succ_self _)).trans (by rw[HH.out];exact D0.out.2.2);clear CN hbw1;go_wp2;go_ret;exact⟨by rw[HS.out];rfl,B1.out⟩
  ·have e1:((l.length:Int)==0)=false:=by rw[q9];omega
   rw[decide_eq_false hll,Bool.and_false]at HS;clear hll;go_enter Tryz.func101,Tryz.ntmps101
   go_wp2_with fail
   refine(CN.out _).mono ?_;rintro e w1⟨rfl,hbw1⟩;have B1:Hid (Below w.heap.size w w1):=qh (hb0.out.trans (hbw1.mono hb0.out.size));have d0:w1.cell? ⟨w.heap.size,0,none⟩=some (.int .i64 12):=(hbw1.cell (p:=⟨w.heap.size,0,none⟩) (by rw[q6];exact Nat.lt_succ_self _)).trans (by rw[HH.out];exact D0.out.1);have d2:w1.cell? ⟨w.heap.size,2,none⟩=some (.slice a l.length cap):=(hbw1.cell (p:=⟨w.heap.size,2,none⟩) (by rw[q6];exact Nat.lt_succ_self _)).trans (by rw[HH.out];exact D0.out.2.2);clear CN hbw1;go_wp2;go_ret;exact⟨by rw[HS.out];rfl,B1.out⟩
theorem qhe(s:ByteArray)(l:List Nd)(w:World)(v0 v1 v2:Value)(ht:NdR w (.mk 13 s l) v0 v1 v2) :
  Calls Tryz.prog 101 #[.agg #[v0,v1,v2]] w fun e w'=>e = .returned (.bool (itemB (.mk 13 s l)))/\Below w.heap.size w w':=by
 obtain⟨k',s',l',a,cap,he,rfl,rfl,rfl,hs,hl⟩:=ht.form
 cases he;unfold maxLen at hl;obtain⟨V,hV⟩:∃ V,qy s=V:=⟨_,rfl⟩;have CN:=qh (fun w=>xc V s w hV);have HV:=qh hV;obtain⟨h,hh⟩:∃ h,w.heap.size=h:=⟨_,rfl⟩;have hb0:=qh ((Below.refl w.heap.size w).alloc (q5 _) (.cells #[.int .i64 13,.string s,.slice a l.length cap] 25));have D0:=qh (nd3 (w:=w) (k:=13) (s:=s) (v2:=.slice a l.length cap) (t:=25) hh);have HH:=qh hh;have HT:=qh ht;have HC:=qh ht.cap;have HL:Hid (NdL w l (.slice a l.length cap)):=qh ⟨_,_,_,_,ht⟩;clear hh ht hV;have HS:Hid (itemB (.mk 13 s l)=(V && decide (l.length=0))):=qh (by rw[itemB,q7 (by decide),q7 (by decide),q7 (by decide),q7 (by decide),q7 (by decide),qa (by decide)];rw[HV.out])
 cases V with
 |false =>
  go_enter Tryz.func101,Tryz.ntmps101
  go_wp2_with fail
  refine(CN.out _).mono ?_;rintro e w1⟨rfl,hbw1⟩;have B1:Hid (Below w.heap.size w w1):=qh (hb0.out.trans (hbw1.mono hb0.out.size));have d0:w1.cell? ⟨w.heap.size,0,none⟩=some (.int .i64 13):=(hbw1.cell (p:=⟨w.heap.size,0,none⟩) (by rw[q6];exact Nat.lt_succ_self _)).trans (by rw[HH.out];exact D0.out.1);have d2:w1.cell? ⟨w.heap.size,2,none⟩=some (.slice a l.length cap):=(hbw1.cell (p:=⟨w.heap.size,2,none⟩) (by rw[q6];exact Nat.lt_succ_self _)).trans (by rw[HH.out];exact D0.out.2.2);clear CN hbw1;go_wp2;go_ret;exact⟨by rw[HS.out];rfl,B1.out⟩
 |true =>
  by_cases hll:l.length=0
  ·have e1:((l.length:Int)==0)=true:=by rw[hll];rfl
   rw[decide_eq_true hll]at HS;clear hll;go_enter Tryz.func101,Tryz.ntmps101
   go_wp2_with fail
   refine(CN.out _).mono ?_;rintro e w1⟨rfl,hbw1⟩;have B1:Hid (Below w.heap.size w w1):=qh (hb0.out.trans (hbw1.mono hb0.out.size));have d0:w1.cell? ⟨w.heap.size,0,none⟩=some (.int .i64 13):=(hbw1.cell (p:=⟨w.heap.size,0,none⟩) (by rw[q6];exact Nat.lt_succ_self _)).trans (by rw[HH.out];exact D0.out.1);have d2:w1.cell? ⟨w.heap.size,2,none⟩=some (.slice a l.length cap):=(hbw1.cell (p:=⟨w.heap.size,2,none⟩) (by rw[q6];exact Nat.lt_succ_self _)).trans (by rw[HH.out];exact D0.out.2.2);clear CN hbw1;go_wp2;go_ret;exact⟨by rw[HS.out];rfl,B1.out⟩
  ·have e1:((l.length:Int)==0)=false:=by rw[q9];omega
   rw[decide_eq_false hll,Bool.and_false]at HS;clear hll;go_enter Tryz.func101,Tryz.ntmps101
   go_wp2_with fail
   refine(CN.out _).mono ?_;rintro e w1⟨rfl,hbw1⟩;have B1:Hid (Below w.heap.size w w1):=qh (hb0.out.trans (hbw1.mono hb0.out.size));have d0:w1.cell? ⟨w.heap.size,0,none⟩=some (.int .i64 13):=(hbw1.cell (p:=⟨w.heap.size,0,none⟩) (by rw[q6];exact Nat.lt_succ_self _)).trans (by rw[HH.out];exact D0.out.1);have d2:w1.cell? ⟨w.heap.size,2,none⟩=some (.slice a l.length cap):=(hbw1.cell (p:=⟨w.heap.size,2,none⟩) (by rw[q6];exact Nat.lt_succ_self _)).trans (by rw[HH.out];exact D0.out.2.2);clear CN hbw1;go_wp2;go_ret;exact⟨by rw[HS.out];rfl,B1.out⟩
theorem qhd(s:ByteArray)(l:List Nd)(w:World)(v0 v1 v2:Value)(ht:NdR w (.mk 14 s l) v0 v1 v2) :
  Calls Tryz.prog 101 #[.agg #[v0,v1,v2]] w fun e w'=>e = .returned (.bool (itemB (.mk 14 s l)))/\Below w.heap.size w w':=by
 obtain⟨k',s',l',a,cap,he,rfl,rfl,rfl,hs,hl⟩:=ht.form
 cases he;unfold maxLen at hl;obtain⟨V,hV⟩:∃ V,qy s=V:=⟨_,rfl⟩;have CN:=qh (fun w=>xc V s w hV);have HV:=qh hV;obtain⟨h,hh⟩:∃ h,w.heap.size=h:=⟨_,rfl⟩;have hb0:=qh ((Below.refl w.heap.size w).alloc (q5 _) (.cells #[.int .i64 14,.string s,.slice a l.length cap] 25));have D0:=qh (nd3 (w:=w) (k:=14) (s:=s) (v2:=.slice a l.length cap) (t:=25) hh);have HH:=qh hh;have HT:=qh ht;have HC:=qh ht.cap;have HL:Hid (NdL w l (.slice a l.length cap)):=qh ⟨_,_,_,_,ht⟩;clear hh ht hV;have HS:Hid (itemB (.mk 14 s l)=(qu s && (decide (1<=l.length) && vo l))):=qh (by rw[itemB,qa (by decide)])
 cases hse:s.toList.isEmpty with
 |false =>
  have HR:Hid (itemB (.mk 14 s l)=false):=qh (by rw[HS.out];unfold qu;rw[hse];rfl);go_enter Tryz.func101,Tryz.ntmps101;go_wp2;go_ret;exact⟨by rw[HR.out];rfl,hb0.out⟩
 |true =>
  by_cases hll:1<=l.length
  ·have e1:(1:Int)<=(l.length:Int):=by omega
   have e2:decide (1<=l.length)=true:=decide_eq_true hll;have e3:decide (0 < l.length)=true:=decide_eq_true hll;have e5:0 < l.length:=hll;obtain⟨V,hV⟩:∃ V,vo l=V:=⟨_,rfl⟩;have C:=qh (fun w hv=>q6g l (.slice a l.length cap) w hv);rw[hV]at C;have HR:Hid (itemB (.mk 14 s l)=V):=qh (by rw[HS.out,decide_eq_true hll,hV];unfold qu;rw[hse];rfl);clear hV;go_enter Tryz.func101,Tryz.ntmps101
   go_wp2_with fail
   refine(C.out _ (HL.out.later hb0.out)).mono ?_;rintro e w1⟨rfl,hbw1⟩;have B1:Hid (Below w.heap.size w w1):=qh (hb0.out.trans (hbw1.mono hb0.out.size));clear C hbw1;go_wp2;go_ret;exact⟨by rw[HR.out];rfl,B1.out⟩
  ·have e1:¬ ((1:Int)<=(l.length:Int)):=by omega
   have e2:decide (1<=l.length)=false:=decide_eq_false hll;have e3:decide (0 < l.length)=false:=decide_eq_false hll;have e6:l=[]:=List.length_eq_zero_iff.1 (by omega);have HR:Hid (itemB (.mk 14 s l)=false):=qh (by rw[HS.out,decide_eq_false hll,Bool.false_and,Bool.and_false]);clear hll;subst e6;go_enter Tryz.func101,Tryz.ntmps101;go_wp2;go_ret;exact⟨by rw[HR.out];rfl,hb0.out⟩
theorem qd7(k:Int)(m2:¬ k=2)(m3:¬ k=3)(m4:¬ k=4)(m5:¬ k=5)(m6:¬ k=6)(m7:¬ k=7)(m8:¬ k=8)(m9:¬ k=9)(m10:¬ k=10)(m11:¬ k=11)(m12:¬ k=12)(m13:¬ k=13)(m14:¬ k=14)(s:ByteArray)(l:List Nd)(w:World)(v0 v1 v2:Value)(ht:NdR w (.mk k s l) v0 v1 v2) :
  Calls Tryz.prog 101 #[.agg #[v0,v1,v2]] w fun e w'=>e = .returned (.bool (itemB (.mk k s l)))/\Below w.heap.size w w':=by
 obtain⟨k',s',l',a,cap,he,rfl,rfl,rfl,hs,hl⟩:=ht.form
 cases he;unfold maxLen at hl;obtain⟨V,hV⟩:∃ V,qy s=V:=⟨_,rfl⟩;have CN:=qh (fun w=>xc V s w hV);have HV:=qh hV;obtain⟨h,hh⟩:∃ h,w.heap.size=h:=⟨_,rfl⟩;have hb0:=qh ((Below.refl w.heap.size w).alloc (q5 _) (.cells #[.int .i64 k,.string s,.slice a l.length cap] 25));have D0:=qh (nd3 (w:=w) (k:=k) (s:=s) (v2:=.slice a l.length cap) (t:=25) hh);have HH:=qh hh;have HT:=qh ht;have HC:=qh ht.cap;have HL:Hid (NdL w l (.slice a l.length cap)):=qh ⟨_,_,_,_,ht⟩;clear hh ht hV;have n2:((k:Int)==2)=false:=by rw[q9];exact m2
 have n3:((k:Int)==3)=false:=by rw[q9];exact m3
 have n4:((k:Int)==4)=false:=by rw[q9];exact m4
 have n5:((k:Int)==5)=false:=by rw[q9];exact m5
 have n6:((k:Int)==6)=false:=by rw[q9];exact m6
 have n7:((k:Int)==7)=false:=by rw[q9];exact m7
 have n8:((k:Int)==8)=false:=by rw[q9];exact m8
 have n9:((k:Int)==9)=false:=by rw[q9];exact m9
 have n10:((k:Int)==10)=false:=by rw[q9];exact m10
 have n11:((k:Int)==11)=false:=by rw[q9];exact m11
 have n12:((k:Int)==12)=false:=by rw[q9];exact m12
 have n13:((k:Int)==13)=false:=by rw[q9];exact m13
 have n14:((k:Int)==14)=false:=by rw[q9];exact m14
 have HS:Hid (itemB (.mk k s l)=false):=qh (by rw[itemB,q7 (by omega),q7 (by omega),q7 (by omega),q7 (by omega),q7 (by omega),q7 (by omega),Bool.and_false]);clear m2 m3 m4 m5 m6 m7 m8 m9 m10 m11 m12 m13 m14
 cases V with
 |false =>
  go_enter Tryz.func101,Tryz.ntmps101
  go_wp2_with fail
  refine(CN.out _).mono ?_;rintro e w1⟨rfl,hbw1⟩;have B1:Hid (Below w.heap.size w w1):=qh (hb0.out.trans (hbw1.mono hb0.out.size));have d0:w1.cell? ⟨w.heap.size,0,none⟩=some (.int .i64 k):=(hbw1.cell (p:=⟨w.heap.size,0,none⟩) (by rw[q6];exact Nat.lt_succ_self _)).trans (by rw[HH.out];exact D0.out.1);have d2:w1.cell? ⟨w.heap.size,2,none⟩=some (.slice a l.length cap):=(hbw1.cell (p:=⟨w.heap.size,2,none⟩) (by rw[q6];exact Nat.lt_succ_self _)).trans (by rw[HH.out];exact D0.out.2.2);clear CN hbw1;go_wp2;go_ret;exact⟨by rw[HS.out];rfl,B1.out⟩
 |true =>
  go_enter Tryz.func101,Tryz.ntmps101
  go_wp2_with fail
  refine(CN.out _).mono ?_;rintro e w1⟨rfl,hbw1⟩;have B1:Hid (Below w.heap.size w w1):=qh (hb0.out.trans (hbw1.mono hb0.out.size));have d0:w1.cell? ⟨w.heap.size,0,none⟩=some (.int .i64 k):=(hbw1.cell (p:=⟨w.heap.size,0,none⟩) (by rw[q6];exact Nat.lt_succ_self _)).trans (by rw[HH.out];exact D0.out.1);have d2:w1.cell? ⟨w.heap.size,2,none⟩=some (.slice a l.length cap):=(hbw1.cell (p:=⟨w.heap.size,2,none⟩) (by rw[q6];exact Nat.lt_succ_self _)).trans (by rw[HH.out];exact D0.out.2.2);clear CN hbw1;go_wp2;go_ret;exact⟨by rw[HS.out];rfl,B1.out⟩
theorem qor(t:Nd)(w:World)(v0 v1 v2:Value)(ht:NdR w t v0 v1 v2) :
  Calls Tryz.prog 101 #[.agg #[v0,v1,v2]] w fun e w'=>e = .returned (.bool (itemB t))/\Below w.heap.size w w':=by
 obtain⟨k,s,l⟩:=t
 by_cases m2:k=2
 ·subst m2;exact qk6 s l w v0 v1 v2 ht
 by_cases m3:k=3
 ·subst m3;exact qk5 s l w v0 v1 v2 ht
 by_cases m4:k=4
 ·subst m4;exact qk4 s l w v0 v1 v2 ht
 by_cases m5:k=5
 ·subst m5;exact qk3 s l w v0 v1 v2 ht
 by_cases m6:k=6
 ·subst m6;exact qk2 s l w v0 v1 v2 ht
 by_cases m7:k=7
 ·subst m7;exact qk1 s l w v0 v1 v2 ht
 by_cases m8:k=8
 ·subst m8;exact qk0 s l w v0 v1 v2 ht
 by_cases m9:k=9
 ·subst m9;exact qjz s l w v0 v1 v2 ht
 by_cases m10:k=10
 ·subst m10;exact qhh s l w v0 v1 v2 ht
 by_cases m11:k=11
 ·subst m11;exact qhg s l w v0 v1 v2 ht
 by_cases m12:k=12
 ·subst m12;exact qhf s l w v0 v1 v2 ht
 by_cases m13:k=13
 ·subst m13;exact qhe s l w v0 v1 v2 ht
 by_cases m14:k=14
 ·subst m14;exact qhd s l w v0 v1 v2 ht
 exact qd7 k m2 m3 m4 m5 m6 m7 m8 m9 m10 m11 m12 m13 m14 s l w v0 v1 v2 ht
def q26:List Nd->Bool
 |[]=>true
 |a :: l=>itemB a && q26 l
theorem vy:∀ (l:List Nd),q26 l=true↔∀ i,(h:i < l.length)->itemB l[i]=true
 |[]=>by simp[q26]
 |a :: l=>by
  simp only[q26,qd,vy l]
  constructor
  ·rintro⟨h1,h2⟩ i hi
   cases i with
   |zero=>exact h1
   |succ i=>exact h2 i (by simpa using hi)
  ·intro h
   exact⟨h 0 (by simp),fun i hi=>h (i+1) (by simpa using hi)⟩
def xq:Nd->Bool
 | .mk k s l=>decide (k=1) && (qu s && q26 l)
theorem qoq(t:Nd)(w:World)(v0 v1 v2:Value)(ht:NdR w t v0 v1 v2) :
  Calls Tryz.prog 72 #[.agg #[v0,v1,v2]] w fun e w'=>e = .returned (.bool (xq t))/\Below w.heap.size w w':=by
 obtain⟨k,s,l,a,cap,rfl,rfl,rfl,rfl,hs,hl⟩:=ht.form;unfold maxLen at hl;have hb0:=qh ((Below.refl w.heap.size w).alloc (q5 _) (.cells #[.int .i64 k,.string s,.slice a l.length cap] 25))
 by_cases hk:k=1
 ·subst hk
  cases hse:s.toList.isEmpty with
  |false =>
   have HR:Hid (xq (.mk 1 s l)=false):=qh (by rw[xq];unfold qu;rw[hse];rfl);clear ht;go_enter Tryz.func72,Tryz.ntmps72;go_wp2;go_ret;exact⟨by rw[HR.out];rfl,hb0.out⟩
  |true =>
   have HR:Hid (xq (.mk 1 s l)=q26 l):=qh (by rw[xq,decide_eq_true rfl];unfold qu;rw[hse];rfl);have HT:=qh ht;clear ht hb0;go_enter Tryz.func72,Tryz.ntmps72;go_wp2;obtain⟨h,hh⟩:∃ h,w.heap.size=h:=⟨_,rfl⟩;obtain⟨wz,hwz⟩:∃ wz,w.alloc (Obj.cells #[Value.int IntKind.i64 1,Value.string s,Value.slice a l.length cap] 25)=wz:=⟨_,rfl⟩;have hB:Hid (Below w.heap.size w wz):=qh (by rw[<-hwz];exact(Below.refl _ w).alloc (q5 _) _);have hz:wz.heap.size=h+1:=by rw[<-hwz];simp[hh]
   have g0:wz.cell? ⟨h,2,none⟩=some (.slice a l.length cap):=by
    rw[<-hwz,<-hh];exact(World.cell?_alloc_at _ _ _ _ rfl).trans rfl
   have HG0:=qh g0;have Hz:=qh hz;have HTz:=qh (HT.out.later hB.out);rw[hwz,hh];clear hwz hh hz g0 HT
   go_loopw [3] (fun v3 wr=>∃ i:Nat,i<=l.length/\v3 = .int .i64 (i:Int)/\Hid (∀ j,(h:j < l.length)->j < i->itemB l[j]=true)/\Hid (Below wz.heap.size wz wr)) (fun v3 _=>l.length - (intOf v3).toNat)
   case atStart=>exact⟨0,qp _,rfl,qh (fun j _ h=>absurd h (Nat.not_lt_zero _)),Below.refl _ _⟩
   case round =>
    obtain⟨i,hi,rfl,hall,hbl⟩:=hrel;have g0:=(hbl.out.cell (p:=⟨h,2,none⟩) (by have:=Hz.out;simp only;omega)).trans HG0.out
    by_cases hlt:i < l.length
    ·have hlt':(i:Int) < (l.length:Int):=by omega
     have hi0:(0:Int)<=(i:Int):=by omega
     obtain⟨b,o,k1,s1,l1,a1,c1,rfl,e1,x0,x1,x2,r1⟩:=(HTz.out.later hbl.out).kid i hlt;obtain⟨V,hV⟩:∃ V,itemB l[i]=V:=⟨_,rfl⟩;have HVi:=qh hV;rw[e1]at hV;have C:=qh (qor (.mk k1 s1 l1) wr _ _ _ r1);rw[hV]at C;have L0:=qg g0;have L2:=qg x0;clear e1 hV r1
     go_wp2_with fail
     refine C.out.mono ?_;clear C;rintro e w5⟨rfl,hb5⟩;have Hb5:Hid (Below wz.heap.size wz w5):=qh (hbl.out.trans (hb5.mono hbl.out.size));clear hb5 x0 x1 x2 g0
     cases V with
     |false =>
      have HS:Hid (q26 l=false):=qh (by
       rw[Bool.eq_false_iff];intro h;have:=(vy l).1 h i hlt;rw[HVi.out]at this
       cases this)
      go_wp2;go_ret;exact⟨by rw[HR.out,HS.out];rfl,hB.out.trans (Hb5.out.mono hB.out.size)⟩
     |true =>
      go_wp2;go_roundw
      case rel=>exact⟨i+1,hlt,by push_cast;rfl,qh (fun j hj hji=>by
       by_cases e:j=i
       ·subst e;exact HVi.out
       ·exact hall.out j hj (by omega)),Hb5⟩
      case measure=>simp[intOf];omega
    ·have hlt':¬ ((i:Int) < (l.length:Int)):=by omega
     have HS:Hid (q26 l=true):=qh ((vy l).2 fun j hj=>hall.out j hj (by omega));go_wp2;go_ret;exact⟨by rw[HR.out,HS.out];rfl,hB.out.trans (hbl.out.mono hB.out.size)⟩
 ·have hk2:((k:Int) != 1)=true:=by rw[bne_iff_ne];exact hk
  have HR:Hid (xq (.mk k s l)=false):=qh (by rw[xq,decide_eq_false hk,Bool.false_and]);clear hk ht;go_enter Tryz.func72,Tryz.ntmps72;go_wp2;go_ret;exact⟨by rw[HR.out];rfl,hb0.out⟩
def xv(t:Nd):Int:=if 4000 < t.sz then 2 else if 100 < t.dp then 5 else if zj t||(zh t||(qn t||(itemB t||xq t))) then 0 else 21
section
variable {P:Program} (w:World)
theorem yh{w:World}{base:Nat}{e:TypeId}{v:Value}{xs:List Value}(h:w.ownsRow base e 1 v xs.length xs):∃ a cap,v = .slice a xs.length cap:=by
 rcases h.2 with ⟨rfl,h0⟩|⟨g,cap,cur,rfl,_⟩
 ·exact⟨none,0,by rw[h0]⟩
 ·exact⟨_,_,rfl⟩
theorem zd{w w':World}{base:Nat}{e:TypeId}{v:Value}{xs:List Value}(h:w.ownsRow base e 1 v xs.length xs)(hk:∀ g,v.ownBlock=some g->w'.heap[g]?=w.heap[g]?):w'.ownsRow base e 1 v xs.length xs:=by
 refine⟨h.1,?_⟩;rcases h.2 with hn|⟨g,cap,cur,hv,hb,hg,rest⟩
 ·exact .inl hn
 ·exact .inr ⟨g,cap,cur,hv,hb,(hk g (by rw[hv];rfl)).trans hg,rest⟩
theorem qd1{w w':World}{base:Nat}{e:TypeId}{g cap:Nat}{xs ys:List Value}(h:w.ownsRow base e 1 (.slice (some ⟨g,0,none⟩) xs.length cap) xs.length xs)
  (h':w'.ownsRow base e 1 (.slice (some ⟨g,0,none⟩) (xs++ys).length cap) (xs++ys).length (xs++ys)):w'.ownsRow base e 1 (.slice (some ⟨g,0,none⟩) xs.length cap) xs.length xs:=by
 refine⟨h.1,?_⟩;rcases h'.2 with ⟨h0,_⟩|⟨g',cap',cur,hv,hb,hg,hn,hm,hs,ht⟩
 ·cases h0
 ·cases hv
  refine .inr ⟨g,cap,cur,rfl,hb,hg,by rw[qc]at hn;omega,hm,hs,?_⟩;have:=congrArg (List.take (xs.length*1)) ht;rw[List.take_take,Nat.min_eq_left (by rw[qc];omega)]at this;rw[this,Nat.mul_one,List.take_left]
theorem yd(t ty:TypeId)(base:Nat)(e:TypeId)(i:TypeInfo)(z:Value)(bytes:Nat)(ht:P.underlying t=some (.slice e))(hi:P.info? e=some i)(hz:i.zero=some z)
  (hsize:i.size=1) (hby:i.bytes=bytes) (hzs:z.cells.size=1)
  (v:Value) (xs:List Value) (hown:w.ownsRow base e 1 v xs.length xs)
  (ad:Addr) (c:Nat) (u:Value) (hnews:∀ j x,[u][j]?=some x->w.cell? (ad.add j)=some x) (h1:u.oneCell'=true)
  (h63:xs.length+1<=maxLen) (hbytes:(xs.length+1)*bytes<=140737488355328) (hbase:base<=w.heap.size) :
  ∃ g cap w',(Builtin.append_ #[t,t] ty #[v,.slice (some ad) 1 c]).run P w = .ok (.slice (some ⟨g,0,none⟩) (xs.length+1) cap) w' /\
   w'.ownsRow base e 1 (.slice (some ⟨g,0,none⟩) (xs.length+1) cap) (xs.length+1) (xs++[u])/\w'.ownsRow base e 1 v xs.length xs/\w.grownBy w' v.ownBlock/\(v.ownBlock=some g\/w.heap.size<=g):=by
 have hone:∀ x∈[u],x.oneCell'=true:=fun x hx=>by rw[List.mem_singleton.1 hx];exact h1
 rcases hown.2 with ⟨rfl,h0⟩|⟨g,cap,cur,rfl,hb,hg,hn,hm,hs,htk⟩
 ·obtain⟨g,cap,w',hr,h2,h3,h4,_⟩:=run_append_lies (P:=P) w t ty base e i z 1 bytes ht hi hz hsize hby hzs (by decide) (.slice none 0 0) xs.length xs hown ad 1 c [u] rfl hnews hone (by decide) h63 hbytes hbase _ rfl
  refine⟨g,cap,w',hr,h2,?_,h3,?_⟩
  ·refine⟨hown.1,.inl ⟨rfl,h0⟩⟩
  ·rcases h4 with h4|h4
   ·exact .inl h4
   ·exact .inr (by omega)
 ·by_cases hroom:xs.length+1<=cap
  ·obtain⟨w',hr,h2,h3⟩:=run_append_own_spare (P:=P) w base t ty e i 1 ht hi hsize g xs.length cap xs hown ad 1 c [u] rfl hnews hone hroom
   refine⟨g,cap,w',hr,h2,qd1 hown (ys:=[u]) (by rw[qc];exact h2),h3,.inl rfl⟩
  ·have holds:∀ j x,xs[j]?=some x->w.cell? ((⟨g,0,none⟩:Addr).add j)=some x:=fun j x hx=>hown.cells (g:=g) rfl j x hx
   obtain⟨v',w',hr,h2,h3⟩:=run_append_arg_grows (P:=P) w t ty e i z 1 bytes ht hi hz hsize hby hzs (by decide) ⟨g,0,none⟩ xs.length cap xs (by omega) holds ad 1 c [u] rfl hnews (by omega) h63 hbytes;obtain⟨g',cap',rfl,hge,_⟩:=h2.form (by omega);refine⟨g',cap',w',hr,vj h2 hbase,zd hown fun k hk=>?_,⟨h3.os,h3.tape,h3.output,h3.size,fun k hk _=>h3.block k hk (by simp)⟩,.inr hge⟩
   cases hk;exact h3.block g (za hg) (by simp)
theorem q5s{o:Oper}{a:Act}{K:Act->World->Prop}{Q:Exit->Act->World->Prop}(s x:Operand)(t:TypeId)
  (ho:o.op = .call { callee:=.builtin .append,args:=#[s,x],argTypes:=#[t,t] })
  (base:Nat) (e:TypeId) (i:TypeInfo) (z:Value) (bytes:Nat) (ht:P.underlying t=some (.slice e)) (hi:P.info? e=some i) (hz:i.zero=some z)
  (hsize:i.size=1) (hby:i.bytes=bytes) (hzs:z.cells.size=1)
  (v:Value) (xs:List Value) (hs:a.eval s=v) (hown:w.ownsRow base e 1 v xs.length xs)
  (ad:Addr) (c:Nat) (u:Value) (hx:a.eval x = .slice (some ad) 1 c) (hnews:∀ j x,[u][j]?=some x->w.cell? (ad.add j)=some x) (h1:u.oneCell'=true)
  (h63:xs.length+1<=maxLen) (hbytes:(xs.length+1)*bytes<=140737488355328) (hbase:base<=w.heap.size)
  (h:∀ g cap w',w'.ownsRow base e 1 (.slice (some ⟨g,0,none⟩) (xs.length+1) cap) (xs.length+1) (xs++[u])->w'.ownsRow base e 1 v xs.length xs->w.grownBy w' v.ownBlock->(v.ownBlock=some g\/w.heap.size<=g)->K (a.put o.dst (.slice (some ⟨g,0,none⟩) (xs.length+1) cap)) w'):o.wp P a w K Q:=by
 obtain⟨g,cap,w',hr,h2,h3,h4,h5⟩:=yd (P:=P) w t o.type base e i z bytes ht hi hz hsize hby hzs v xs hown ad c u hnews h1 h63 hbytes hbase;unfold Oper.wp execOp;simp only[ho,resolve,invoke,builtin,Sem.run_bind,Sem.run_pure,Result.andThen_ok,List.map_toArray,List.map_cons,List.map_nil,hs,hx,hr];exact h g cap w' h2 h3 h4 h5
theorem q7i{ops:Array Oper}{rest:List Oper}{o:Oper}{a:Act}{Q:Exit->Act->World->Prop}(hgd:o.guard=none)(s x:Operand)(t:TypeId)
  (ho:o.op = .call { callee:=.builtin .append,args:=#[s,x],argTypes:=#[t,t] })
  (base:Nat) (e:TypeId) (i:TypeInfo) (z:Value) (bytes:Nat) (ht:P.underlying t=some (.slice e)) (hi:P.info? e=some i) (hz:i.zero=some z)
  (hsize:i.size=1) (hby:i.bytes=bytes) (hzs:z.cells.size=1)
  (v:Value) (xs:List Value) (hs:a.eval s=v) (hown:w.ownsRow base e 1 v xs.length xs)
  (ad:Addr) (c:Nat) (u:Value) (hx:a.eval x = .slice (some ad) 1 c) (hnews:∀ j x,[u][j]?=some x->w.cell? (ad.add j)=some x) (h1:u.oneCell'=true)
  (h63:xs.length+1<=maxLen) (hbytes:(xs.length+1)*bytes<=140737488355328) (hbase:base<=w.heap.size)
  (h:∀ g cap w',w'.ownsRow base e 1 (.slice (some ⟨g,0,none⟩) (xs.length+1) cap) (xs.length+1) (xs++[u])->w'.ownsRow base e 1 v xs.length xs->w.grownBy w' v.ownBlock->(v.ownBlock=some g\/w.heap.size<=g)->wpList P ops Q rest (a.put o.dst (.slice (some ⟨g,0,none⟩) (xs.length+1) cap)) w'):wpList P ops Q (o :: rest) a w :=
 wpList_plain hgd fun _ hK=>q5s w s x t ho base e i z bytes ht hi hz hsize hby hzs v xs hs hown ad c u hx hnews h1 h63 hbytes hbase fun g cap w' h2 h3 h4 h5=>hK _ _ (h g cap w' h2 h3 h4 h5)
theorem q90{ops:Array Oper}{o:Oper}{a:Act}{K:Act->World->Prop}{Q:Exit->Act->World->Prop}{E:Prop}(hgd:o.guard=none)(s x:Operand)(t:TypeId)
  (ho:o.op = .call { callee:=.builtin .append,args:=#[s,x],argTypes:=#[t,t] })
  (base:Nat) (e:TypeId) (i:TypeInfo) (z:Value) (bytes:Nat) (ht:P.underlying t=some (.slice e)) (hi:P.info? e=some i) (hz:i.zero=some z)
  (hsize:i.size=1) (hby:i.bytes=bytes) (hzs:z.cells.size=1)
  (v:Value) (xs:List Value) (hs:a.eval s=v) (hown:w.ownsRow base e 1 v xs.length xs)
  (ad:Addr) (c:Nat) (u:Value) (hx:a.eval x = .slice (some ad) 1 c) (hnews:∀ j x,[u][j]?=some x->w.cell? (ad.add j)=some x) (h1:u.oneCell'=true)
  (h63:xs.length+1<=maxLen) (hbytes:(xs.length+1)*bytes<=140737488355328) (hbase:base<=w.heap.size)
  (h:∀ g cap w',w'.ownsRow base e 1 (.slice (some ⟨g,0,none⟩) (xs.length+1) cap) (xs.length+1) (xs++[u])->w'.ownsRow base e 1 v xs.length xs->w.grownBy w' v.ownBlock->(v.ownBlock=some g\/w.heap.size<=g)->K (a.put o.dst (.slice (some ⟨g,0,none⟩) (xs.length+1) cap)) w') :
  if Region.wanted o (yielded ops a.tmps)=true then Oper.wp P o a w K Q else E:=by
 have hw:Region.wanted o (yielded ops a.tmps)=true:=by simp[Region.wanted,hgd]
 rw[qa hw];exact q5s w s x t ho base e i z bytes ht hi hz hsize hby hzs v xs hs hown ad c u hx hnews h1 h63 hbytes hbase h
end
end Go.Proofs.YtkckddojlignpaaGreatDoor
namespace Go.Proofs.YtkckddojlignpaaGreatDoor
structure It where
 d:Nat
 ins:List ByteArray
 wd:Bool
 t:Nd
def y3(k:Int):Bool:=k==17||(k==18||k==19)
mutual
def xm(d:Nat)(ins:List ByteArray)(wd:Bool):Nd->List It
 | .mk k s l=>⟨d,ins,wd,.mk k s l⟩ :: vu (d+1) ins (if y3 k then ins++[s] else ins) (k==7) l
def vu(d:Nat)(ins il:List ByteArray)(wd:Bool):List Nd->List It
 |[]=>[]
 |a :: l=>xm d (if l.isEmpty then il else ins) wd a++vu d ins il wd l
end
mutual
theorem q87(d:Nat)(ins:List ByteArray)(wd:Bool):∀ t:Nd,(xm d ins wd t).length=t.sz
 | .mk k s l=>by simp only[xm,Nd.sz,qi];rw[qdc];omega
theorem qdc(d:Nat)(ins il:List ByteArray)(wd:Bool):∀ l:List Nd,(vu d ins il wd l).length=Nd.szL l
 |[]=>by simp only[vu,Nd.szL,qo]
 |a :: l=>by simp only[vu,Nd.szL,qc];rw[q87,qdc]
end
def lvs:List It->Nat
 |[]=>0
 |x :: l=>max (x.d+1) (lvs l)
theorem q54:∀ a b:List It,lvs (a++b)=max (lvs a) (lvs b)
 |[],b=>by simp[lvs]
 |x :: a,b=>by simp only[List.cons_append,lvs];rw[q54 a b];omega
theorem qn7(a:List It)(x:It):lvs (a++[x])=max (lvs a) (x.d+1):=by rw[q54];simp[lvs]
mutual
theorem qdo(d:Nat)(ins:List ByteArray)(wd:Bool):∀ t:Nd,lvs (xm d ins wd t)=d+t.dp
 | .mk k s l=>by
  simp only[xm,Nd.dp,lvs];have:=qdp (d+1) ins (if y3 k then ins++[s] else ins) (k==7) l;omega
theorem qdp(d:Nat)(ins il:List ByteArray)(wd:Bool):∀ l:List Nd,max d (lvs (vu d ins il wd l))=d+Nd.dpL l
 |[]=>by simp[vu,Nd.dpL,lvs]
 |a :: l=>by
  simp only[vu,Nd.dpL];rw[q54,qdo];have:=qdp d ins il wd l;omega
end
theorem qk9{d:Nat}{ins il:List ByteArray}{wd:Bool}{l:List Nd}{i:Nat}(h:i < l.length) :
  vu d ins il wd (l.drop i)=xm d (if i+1=l.length then il else ins) wd l[i]++vu d ins il wd (l.drop (i+1)):=by
 rw[List.drop_eq_getElem_cons h];simp only[vu]
 by_cases he:i+1=l.length
 ·rw[qa he,qa (by rw[List.isEmpty_iff,List.drop_eq_nil_iff];omega)]
 ·rw[q7 he,q7 (by rw[List.isEmpty_iff,List.drop_eq_nil_iff];omega)]
end Go.Proofs.YtkckddojlignpaaGreatDoor
