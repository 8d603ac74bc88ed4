/- A part of the proof, packed: see the last text of this claim. -/
import Derived.Test.YtgjijidlaghlmaaGreatDoorPkTa
import Derived.Test.YtgjijidlaghlmaaGreatDoorPkTb
import Derived.Deep.RegionWith
import Derived.BigQuiet
import Derived.Lib.IndexLaws
import Derived.Deep.AppendLies
import Derived.Deep.DeepAppendRoom
import Derived.ArgAppend
import Derived.Deep.RegionLaw
import Derived.Deep.RegionHeld3
import Derived.RangeFuncNested
import Derived.RangeFuncCalls
import Derived.RangeFuncLeaves
import Derived.Shelf.Abstract
import Derived.OwnWalkIn
import Derived.TacticsInMore
import Derived.LoopNIn
import Derived.LoopIn
namespace Go.Proofs.YtgjijidlaghlmaaGreatDoor
open Go.RowKit
def kindJ:Option (Nat×Nat)→Value
 | some (k,j)=>.tuple #[.int .i64 k,.int .i64 j]
 | none=>.tuple #[.int .i64 0,.int .i64 0]
set_option maxRecDepth 100000 in
set_option maxHeartbeats 1000000 in
theorem rToken_capital (s:ByteArray) (i:Nat) (w:World) (hs:s.size≤100000) (hi:i < s.size) (hc:Lx.capital s[i]=true) :
  Calls Tryz.prog 119 #[.string s,.int .i64 i] w fun e w'=>e = .returned (kindJ (Lx.tokAt (bs s) i))∧Below w.heap.size w w':=by
 have hsm:Lx.small s[i]=false:=by
  simp only [Lx.capital,Bool.and_eq_true,decide_eq_true_eq] at hc
  simp only [Lx.small,Bool.and_eq_false_iff,decide_eq_false_iff_not];omega
 have h0:(bs s)[i]?=some s[i]:=by rw [List.getElem?_eq_getElem (by rw [bs_len];exact hi),bs_get hi]
 have ht:Lx.tokAt (bs s) i=some (2,Lx.runTo (bs s) i):=by simp only [Lx.tokAt,h0,hsm,hc];rfl
 rw [ht]
 have hby:=byte_lt s[i]
 have CC:=qh (fun w=>rCapital s[i] w)
 rw [hc] at CC
 have CR:=qh (fun w=>rRun s i w (by unfold maxLen;omega) (by omega))
 have hi':(i:Int) < (s.size:Int):=by omega
 clear ht h0 hsm hc
 go_enter Tryz.func119,Tryz.ntmps119
 go_wp2_with fail
 refine (CC.out _).mono ?_
 rintro e w1 ⟨rfl,rfl⟩
 go_wp2_with fail
 refine (CR.out _).mono ?_
 rintro e w1 ⟨rfl,rfl⟩
 go_wp2
 go_ret2
 exact ⟨rfl,Below.refl _ _⟩
theorem words_has (x:ByteArray):anyEq wordsB x=Lx.words.contains (bs x):=by
 unfold anyEq wordsB
 rw [List.any_map,Bool.eq_iff_iff,List.any_eq_true,List.contains_iff_mem]
 constructor
 ·rintro ⟨l,hl,h⟩
  simp only [Function.comp_apply,ByteArray.toList_eq,beq_iff_eq] at h
  rw [show bs x=l from h.symm];exact hl
 ·intro h
  exact ⟨_,h,by simp only [Function.comp_apply,ByteArray.toList_eq,beq_iff_eq];rfl⟩
theorem bytes_eq (x:ByteArray) (l:Lx.Bs):(x.toList==l)=decide (bs x=l):=by
 rw [ByteArray.toList_eq,Bool.eq_iff_iff,beq_iff_eq,decide_eq_true_eq];rfl
theorem pre_dash (l:Lx.Bs) (j:Nat):Lx.pre l j [45]=decide (l[j]?=some 45):=by
 unfold Lx.pre
 cases h:l.drop j with
 | nil =>
  have:l[j]?=none:=by rw [List.getElem?_eq_none_iff];exact List.drop_eq_nil_iff.1 h
  rw [this];rfl
 | cons c r =>
  have:l[j]?=some c:=by have:=congrArg (fun x=>x[0]?) h;simpa using this
  rw [this]
  by_cases h45:c=45
  ·subst h45;simp [List.isPrefixOf]
  ·have:(45==c)=false:=by rw [beq_eq_false_iff_ne];exact fun e=>h45 e.symm
   simp [List.isPrefixOf,this,h45]
set_option maxRecDepth 100000 in
set_option maxHeartbeats 2000000 in
theorem rToken_small (s:ByteArray) (i:Nat) (w:World) (hs:s.size≤100000) (hi:i < s.size) (hsm:Lx.small s[i]=true) :
  Calls Tryz.prog 119 #[.string s,.int .i64 i] w fun e w'=>e = .returned (kindJ (Lx.tokAt (bs s) i))∧Below w.heap.size w w':=by
 have hc:Lx.capital s[i]=false:=by
  simp only [Lx.small,Bool.and_eq_true,decide_eq_true_eq] at hsm
  simp only [Lx.capital,Bool.and_eq_false_iff,decide_eq_false_iff_not];omega
 have HT:=qh (tok_small (e:=Lx.nameTo (bs s) i) hi hsm rfl)
 have hnl:=Lx.nameTo_le (l:=bs s) (i:=i) (by rw [bs_len];omega)
 have hrl:=Lx.runTo_le (l:=bs s) (i:=i) (by rw [bs_len];omega)
 rw [bs_len] at hnl hrl
 have HD:Hid (Lx.nameTo (bs s) i=if (bs s)[Lx.runTo (bs s) i]?=some 64∧((bs s)[Lx.runTo (bs s) i+1]?.map Lx.small)=some true then Lx.runTo (bs s) (Lx.runTo (bs s) i+1) else Lx.runTo (bs s) i):=qh rfl
 obtain ⟨e,he⟩:∃ e,Lx.nameTo (bs s) i=e:=⟨_,rfl⟩
 obtain ⟨T,hT⟩:∃ T,Lx.tokAt (bs s) i=T:=⟨_,rfl⟩
 have CR:=qh (fun w=>rRun s i w (by unfold maxLen;omega) (by omega))
 obtain ⟨j,hj⟩:∃ j,Lx.runTo (bs s) i=j:=⟨_,rfl⟩
 have hby:=byte_lt s[i]
 have CC:=qh (fun w=>rCapital s[i] w)
 have CM:=qh (fun w=>rSmall s[i] w)
 rw [hc] at CC
 rw [hsm] at CM
 rw [he] at HT hnl HD
 rw [hT] at HT ⊢
 rw [hj] at hrl HD CR
 have hi':(i:Int) < (s.size:Int):=by omega
 clear hc hsm he hT hj
 go_enter Tryz.func119,Tryz.ntmps119
 go_wp2_with fail
 refine (CC.out _).mono ?_
 rintro e1 w1 ⟨rfl,rfl⟩
 go_wp2_with fail
 refine (CM.out _).mono ?_
 rintro e1 w1 ⟨rfl,rfl⟩
 go_wp2_with fail
 refine (CR.out _).mono ?_
 rintro e1 w1 ⟨rfl,rfl⟩
 clear CC CM CR
 obtain ⟨X,hX⟩:∃ X,decide ((bs s)[j]?=some 64∧((bs s)[j+1]?.map Lx.small)=some true)=X:=⟨_,rfl⟩
 have HX:=qh hX
 clear hX
 go_upto_region 5 with fail
 go_cut [40] (fun v wx=>v = .bool X∧wx=w)
 case first =>
  by_cases h1:j+1 < s.size
  ·have h1':(j:Int)+1 < (s.size:Int):=by omega
   have hj':(j:Int) < (s.size:Int):=by omega
   have g0:(bs s)[j]?=some (s[j]'(by omega)):=by rw [List.getElem?_eq_getElem (by rw [bs_len];omega),bs_get (by omega)]
   have g1:(bs s)[j+1]?=some s[j+1]:=by rw [List.getElem?_eq_getElem (by rw [bs_len];omega),bs_get (by omega)]
   rw [g0,g1] at HX
   have hb0:=byte_lt (s[j]'(by omega))
   have hb1:=byte_lt s[j+1]
   clear g0 g1
   by_cases h2:(s[j]'(by omega))=64
   ·have h2':(((s[j]'(by omega)).toNat:Int)==64)=true:=by rw [h2];rfl
    have HX2:Hid (X=Lx.small s[j+1]):=qh (by rw [←HX.out,h2];simp)
    have CM:=qh (fun w=>rSmall s[j+1] w)
    obtain ⟨V,hV⟩:∃ V,Lx.small s[j+1]=V:=⟨_,rfl⟩
    rw [hV] at CM HX2
    clear h2 hV HX
    go_wp2_with fail
    refine (CM.out _).mono ?_
    rintro e1 w1 ⟨rfl,rfl⟩
    go_wp2
    go_meet
    exact ⟨by rw [HX2.out],rfl⟩
   ·have h2':(((s[j]'(by omega)).toNat:Int)==64)=false:=by
     rw [beq_eq_false_iff_ne];intro e;exact h2 (by rw [←UInt8.toNat_inj];exact Int.ofNat_inj.1 e)
    have HX2:Hid (X=false):=qh (by rw [←HX.out];simp [h2])
    clear h2 HX
    go_wp2
    go_meet
    exact ⟨by rw [HX2.out],rfl⟩
  ·have h1':¬ ((j:Int)+1 < (s.size:Int)):=by omega
   have HX2:Hid (X=false):=qh (by
    have g1:(bs s)[j+1]?=none:=by rw [List.getElem?_eq_none_iff,bs_len];omega
    rw [←HX.out,g1];simp)
   clear HX
   go_wp2
   go_meet
   exact ⟨by rw [HX2.out],rfl⟩
 case rest =>
  obtain ⟨rfl,rfl⟩:=hcut
  go_upto_if 40 with fail
  go_cut [6] (fun v wx=>v = .int .i64 e∧wx=wc)
  case first =>
   cases X
   ·have HE:Hid (e=j):=qh (by rw [HD.out,if_neg (of_decide_eq_false HX.out)])
    go_wp2
    go_meet
    exact ⟨by rw [HE.out],rfl⟩
   ·have hx:=of_decide_eq_true HX.out
    have hj1:j+1 < s.size:=by
     rcases Nat.lt_or_ge (j+1) s.size with h | h
     ·exact h
     ·have g1:(bs s)[j+1]?=none:=by rw [List.getElem?_eq_none_iff,bs_len];exact h
      rw [g1] at hx;simp at hx
    have HE:Hid (e=Lx.runTo (bs s) (j+1)):=qh (by rw [HD.out,if_pos hx])
    have CR:=qh (fun w=>rRun s (j+1) w (by unfold maxLen;omega) (by omega))
    rw [←HE.out] at CR
    clear hx
    have ej:(((j+1:Nat)):Int)=(j:Int)+1:=by omega
    rw [ej] at CR
    clear ej
    go_wp2_with fail
    refine (CR.out _).mono ?_
    rintro e1 w1 ⟨rfl,rfl⟩
    go_wp2
    go_meet
    exact ⟨rfl,rfl⟩
  case rest =>
   obtain ⟨rfl,rfl⟩:=hcut
   clear HD HX
   have CI:=qh (fun w=>rIsAt s ⟨#[45]⟩ e w hs (by decide) hnl.2)
   rw [show bs ⟨#[45]⟩=[45] from rfl,pre_dash] at CI
   obtain ⟨O,hO⟩:∃ O,decide (bs (s.extract i e)=[111])=O:=⟨_,rfl⟩
   obtain ⟨M,hM⟩:∃ M,decide ((bs s)[e]?=some 45)=M:=⟨_,rfl⟩
   have hO2:((s.extract i e).toList==[111])=O:=by rw [bytes_eq];exact hO
   rw [hM] at CI
   have HO:=qh hO
   have HM:=qh hM
   clear hO hM
   have hie:(i:Int)≤(e:Int):=by omega
   have hes:(e:Int)≤(s.size:Int):=by omega
   go_upto_region 7 with fail
   go_cut [54] (fun v wx=>v = .bool (O && M)∧wx=wc)
   case first =>
    cases O
    ·go_wp2
     go_meet
     exact ⟨rfl,rfl⟩
    ·go_wp2_with fail
     refine (CI.out _).mono ?_
     rintro e1 w1 ⟨rfl,rfl⟩
     go_wp2
     go_meet
     exact ⟨by simp,rfl⟩
   case rest =>
    obtain ⟨rfl,rfl⟩:=hcut
    clear CI hO2
    cases hOM:(O && M)
    ·have HT2:Hid (T=if Lx.words.contains (bs (s.extract i e))=true then some (4,e) else some (1,e)):=qh (by
      rw [HT.out,if_neg]
      rintro ⟨h1,h2⟩
      rw [←HO.out,←HM.out,decide_eq_true h1,decide_eq_true h2] at hOM
      cases hOM)
     clear HT hOM
     go_upto_region 9 with fail
     obtain ⟨Y,hY⟩:∃ Y,Lx.words.contains (bs (s.extract i e))=Y:=⟨_,rfl⟩
     have HY:=qh (words_has (s.extract i e))
     rw [hY] at HT2 HY
     clear hY
     go_cut [63] (fun v wx=>v = .bool Y∧Hid (Below wc.heap.size wc wx))
     case first =>
      have CX:=qh (rIndex (.slice (some ⟨wc.heap.size,0,none⟩) 17 17) wordsB (s.extract i e) (wc.alloc (.cells (wordsB.map Value.string).toArray 9)).drew (strSl_lit wc wordsB 9) (by decide))
      have hbw:Hid (Below wc.heap.size wc (wc.alloc (.cells (wordsB.map Value.string).toArray 9)).drew):=(((Below.refl _ wc).alloc (Nat.le_refl _) _).drew)
      have CW:=qh (fun w=>rWords w)
      generalize wordsB.map Value.string=WV at CX hbw CW
      go_region_with (first
       | (go_at_call 172;refine (CW.out _).mono ?_;rintro e1 w1 ⟨rfl,rfl⟩)
       | (go_at_call 64;refine CX.out.mono ?_;rintro e1 w1 ⟨⟨m,rfl,hm⟩,rfl⟩))
      all_goals go_wp2
      all_goals go_meet
      all_goals exact ⟨by rw [HY.out],hbw⟩
     case rest =>
      obtain ⟨rfl,hbx⟩:=hcut
      cases Y
      ·go_wp2
       go_ret2
       exact ⟨by rw [HT2.out];rfl,hbx.out⟩
      ·go_wp2
       go_ret2
       exact ⟨by rw [HT2.out];rfl,hbx.out⟩
    ·have HT2:Hid (T=some (3,e+1)):=qh (by
      rw [HT.out,if_pos]
      rw [Bool.and_eq_true] at hOM
      exact ⟨of_decide_eq_true (HO.out.trans hOM.1),of_decide_eq_true (HM.out.trans hOM.2)⟩)
     clear HT hOM
     go_wp2
     go_ret2
     exact ⟨by rw [HT2.out];rfl,Below.refl _ _⟩
end Go.Proofs.YtgjijidlaghlmaaGreatDoor
namespace Go.Proofs.YtgjijidlaghlmaaGreatDoor
open Go.RowKit
theorem pre_at1 (l:Lx.Bs) (j:Nat) (x:UInt8):Lx.pre l j [x]=decide (l[j]?=some x):=by
 unfold Lx.pre
 cases h:l.drop j with
 | nil =>
  have:l[j]?=none:=by rw [List.getElem?_eq_none_iff];exact List.drop_eq_nil_iff.1 h
  rw [this];rfl
 | cons c r =>
  have:l[j]?=some c:=by have:=congrArg (fun x=>x[0]?) h;simpa using this
  rw [this]
  by_cases h45:c=x
  ·subst h45;simp [List.isPrefixOf]
  ·have:(x==c)=false:=by rw [beq_eq_false_iff_ne];exact fun e=>h45 e.symm
   simp [List.isPrefixOf,this,h45]
def sgnF (l:Lx.Bs) (i:Nat):List ByteArray→Option (Nat×Nat)
 | []=>none
 | p :: r=>if Lx.pre l i (bs p) then some (3,i+p.size) else sgnF l i r
theorem tok_sign {l:Lx.Bs} {i:Nat} {c:UInt8} (h0:l[i]?=some c) (hs:Lx.small c=false) (hc:Lx.capital c=false) (hd:Lx.pre l i [45,111]=false) :
  Lx.tokAt l i=sgnF l i (signsB.drop 2):=by
 have e1:Lx.tokAt l i=if Lx.signB c then some (3,i+1) else if Lx.isLong l i then some (3,i+2) else none:=by
  simp only [Lx.tokAt,h0,hs,hc];rfl
 have e2:Lx.isLong l i=(Lx.pre l i [45,62] || Lx.pre l i [61,62] || Lx.pre l i [60,61]):=by
  unfold Lx.isLong;rw [hd];simp
 rw [e1,e2]
 have hb:∀ x:UInt8,bs ⟨#[x]⟩=[x]:=fun _=>rfl
 have hb2:∀ x y:UInt8,bs ⟨#[x,y]⟩=[x,y]:=fun _ _=>rfl
 have hz:∀ x:UInt8,(⟨#[x]⟩:ByteArray).size=1:=fun _=>rfl
 have hz2:∀ x y:UInt8,(⟨#[x,y]⟩:ByteArray).size=2:=fun _ _=>rfl
 simp only [signsB,List.drop_succ_cons,List.drop_zero,sgnF,hb,hb2,hz,hz2,pre_at1,h0,Option.some.injEq]
 have hf:∀ a b:UInt8,Lx.pre l i [a,b]=true→c=a:=fun a b h=>by
  have:=(Lx.pre_two h).1;rw [h0] at this;exact Option.some.inj this
 by_cases h1:Lx.pre l i [61,62]=true
 ·have:=hf _ _ h1;subst this;rw [h1];simp [Lx.signB]
 ·by_cases h2:Lx.pre l i [60,61]=true
  ·have:=hf _ _ h2;subst this;rw [h2];simp [Lx.signB,h1]
  ·by_cases h3:Lx.pre l i [45,62]=true
   ·have:=hf _ _ h3;subst this;rw [h3];simp [Lx.signB,h1,h2]
   ·simp only [Bool.not_eq_true] at h1 h2 h3
    rw [h1,h2,h3]
    simp only [Lx.signB,Bool.or_false,Bool.false_eq_true,if_false,decide_eq_true_eq]
    by_cases hm:([42,38,43,33,123,125,40,41,46,44,58,92]:List UInt8).contains c=true
    ·rw [if_pos hm]
     rw [List.contains_iff_mem] at hm
     simp only [List.mem_cons,List.not_mem_nil,or_false] at hm
     rcases hm with h | h | h | h | h | h | h | h | h | h | h | h <;> subst h <;> rfl
    ·rw [if_neg hm]
     rw [List.contains_iff_mem] at hm
     simp only [List.mem_cons,List.not_mem_nil,or_false,not_or] at hm
     simp [hm]
theorem tok_dash {l:Lx.Bs} {i:Nat} (hd:Lx.pre l i [45,111]=true):Lx.tokAt l i=if (l[i+2]?.map Lx.part)=some true then none else some (3,i+2):=by
 obtain ⟨h0,h1⟩:=Lx.pre_two hd
 have hl1:i+1 < l.length:=(List.getElem?_eq_some_iff.1 h1).1
 have e1:Lx.tokAt l i=if Lx.isLong l i then some (3,i+2) else none:=by
  simp only [Lx.tokAt,h0];rfl
 have hn:∀ a b:UInt8,(a≠45∨b≠111)→Lx.pre l i [a,b]=false:=fun a b h=>by
  rw [Bool.eq_false_iff];intro e
  obtain ⟨g0,g1⟩:=Lx.pre_two e
  rw [h0] at g0;rw [h1] at g1
  rcases h with h | h
  ·exact h (Option.some.inj g0).symm
  ·exact h (Option.some.inj g1).symm
 have e2:Lx.isLong l i=(Lx.runTo l (i+1)==i+2):=by
  unfold Lx.isLong
  rw [hd,hn 45 62 (.inr (by decide)),hn 61 62 (.inl (by decide)),hn 60 61 (.inl (by decide))]
  simp
 have e3:Lx.runTo l (i+1)=Lx.runTo l (i+2):=by
  rw [Lx.runTo_step hl1,if_pos]
  rw [show l[i+1]=111 from (List.getElem?_eq_some_iff.1 h1).2];decide
 rw [e1,e2,e3]
 by_cases h2:i+2 < l.length
 ·rw [Lx.runTo_step h2,List.getElem?_eq_getElem h2]
  by_cases hp:Lx.part l[i+2]=true
  ·have hle:=(Lx.runTo_le (l:=l) (i:=i+2+1) (by omega)).1
   rw [if_pos hp,if_neg (by rw [beq_iff_eq];omega),if_pos (by simp [hp])]
  ·rw [if_neg hp,if_pos (by simp),if_neg (by simpa using hp)]
 ·rw [Lx.runTo_end (by omega),List.getElem?_eq_none (by omega)]
  simp
theorem signs_size:∀ j:Fin signsB.length,signsB[j].size≤2:=by decide +kernel
set_option maxRecDepth 100000 in
set_option maxHeartbeats 2000000 in
theorem rToken_sign (s:ByteArray) (i:Nat) (w:World) (hs:s.size≤100000) (hi:i < s.size) (hsm:Lx.small s[i]=false) (hc:Lx.capital s[i]=false) :
  Calls Tryz.prog 119 #[.string s,.int .i64 i] w fun e w'=>e = .returned (kindJ (Lx.tokAt (bs s) i))∧Below w.heap.size w w':=by
 have h0:(bs s)[i]?=some s[i]:=by rw [List.getElem?_eq_getElem (by rw [bs_len];exact hi),bs_get hi]
 have hby:=byte_lt s[i]
 have CC:=qh (fun w=>rCapital s[i] w)
 have CM:=qh (fun w=>rSmall s[i] w)
 have CI:=qh (fun w=>rIsAt s ⟨#[45,111]⟩ i w hs (by decide) (by omega))
 have HD:=qh (tok_dash (l:=bs s) (i:=i))
 have HN:=qh (tok_sign h0 hsm hc)
 rw [hc] at CC
 rw [hsm] at CM
 rw [show bs ⟨#[45,111]⟩=[45,111] from rfl] at CI
 obtain ⟨T,hT⟩:∃ T,Lx.tokAt (bs s) i=T:=⟨_,rfl⟩
 rw [hT] at HD HN ⊢
 obtain ⟨D,hD⟩:∃ D,Lx.pre (bs s) i [45,111]=D:=⟨_,rfl⟩
 rw [hD] at HD HN CI
 have hi':(i:Int) < (s.size:Int):=by omega
 clear hc hsm hT hD h0
 go_enter Tryz.func119,Tryz.ntmps119
 go_wp2_with fail
 refine (CC.out _).mono ?_
 rintro e1 w1 ⟨rfl,rfl⟩
 go_wp2_with fail
 refine (CM.out _).mono ?_
 rintro e1 w1 ⟨rfl,rfl⟩
 go_wp2_with fail
 refine (CI.out _).mono ?_
 rintro e1 w1 ⟨rfl,rfl⟩
 clear CC CM CI
 cases D
 ·have HT:=qh (HN.out rfl)
  clear HN HD
  go_wp2_with fail
  refine (rSigns _).mono ?_
  rintro e1 w1 ⟨rfl,rfl⟩
  have HS:=qh (strSl_lit w signsB 9)
  have HB:Hid (Below w.heap.size w (w.alloc (.cells (signsB.map Value.string).toArray 9))):=(Below.refl _ w).alloc (Nat.le_refl _) _
  generalize w.alloc (.cells (signsB.map Value.string).toArray 9)=W1 at HS HB ⊢
  obtain ⟨N,hN⟩:∃ N,w.heap.size=N:=⟨_,rfl⟩
  rw [hN] at HS ⊢
  clear hN
  have HC:Hid (∀ k,(h:k < signsB.length)→W1.cell? ⟨N,k,none⟩=some (.string signsB[k])):=qh fun k h=>by
   obtain ⟨a,cap,he,hl⟩:=HS.out
   simp only [Value.slice.injEq] at he
   obtain ⟨b,o,h1,h2⟩:=hl (by decide)
   rw [←he.1,Option.some.injEq,Addr.mk.injEq] at h1
   obtain ⟨rfl,rfl,_⟩:=h1
   have:=h2 k h
   rwa [Nat.zero_add] at this
  clear HS
  go_wp2_with fail
  go_loopw [8] (fun v wr=>∃ k:Nat,k≤17∧v = .int .i64 k∧Hid (T=sgnF (bs s) i (signsB.drop k))∧W1=wr) (fun v _=>17 - (intOf v).toNat)
  case atStart=>exact ⟨2,by omega,rfl,HT,rfl⟩
  case round =>
   obtain ⟨k,hk,rfl,hrun,rfl⟩:=hrel
   by_cases hlt:k < 17
   ·have hlt':(k:Int) < 17:=by omega
    have hkl:k < signsB.length:=hlt
    have x0:=HC.out k hkl
    have hst:sgnF (bs s) i (signsB.drop k)=if Lx.pre (bs s) i (bs signsB[k]) then some (3,i+signsB[k].size) else sgnF (bs s) i (signsB.drop (k+1)):=by
     rw [List.drop_eq_getElem_cons hkl];rfl
    have hsz:signsB[k].size≤2:=signs_size ⟨k,hkl⟩
    generalize signsB[k]=X at x0 hst hsz
    have CI:=qh (fun w=>rIsAt s X i w hs (by omega) (by omega))
    obtain ⟨V,hV⟩:∃ V,Lx.pre (bs s) i (bs X)=V:=⟨_,rfl⟩
    rw [hV] at CI hst
    have HST:=qh hst
    have nb:=block_lt_of_cell x0
    clear hst hV
    go_wp2_with fail
    refine (CI.out _).mono ?_
    rintro e1 w1 ⟨rfl,rfl⟩
    clear CI
    cases V
    ·go_wp2
     go_roundw
     case rel=>exact ⟨k+1,by omega,by push_cast;rfl,by rw [hrun.out,HST.out];exact qh rfl,by trivial⟩
     case measure=>simp [intOf];omega
    ·go_upto_region 21 with fail
     go_region
     all_goals go_wp2
     all_goals go_ret2
     all_goals exact ⟨by rw [hrun.out,HST.out];rfl,HB.out.drew⟩
   ·have hlt':¬ ((k:Int) < 17):=by omega
    have hz:sgnF (bs s) i (signsB.drop k)=none:=by rw [List.drop_of_length_le (show signsB.length≤k from by show 17≤k;omega)];rfl
    have HZ:=qh hz
    clear hz
    go_wp2
    go_ret2
    exact ⟨by rw [hrun.out,HZ.out];rfl,HB.out⟩
 ·have HT:=qh (HD.out rfl)
  clear HN HD
  by_cases h2:i+2 < s.size
  ·have h2':(i:Int)+2 < (s.size:Int):=by omega
   have hb2:=byte_lt s[i+2]
   have g2:(bs s)[i+2]?=some s[i+2]:=by rw [List.getElem?_eq_getElem (by rw [bs_len];omega),bs_get (by omega)]
   rw [g2] at HT
   have CP:=qh (fun w=>rPart s[i+2] w)
   obtain ⟨V,hV⟩:∃ V,Lx.part s[i+2]=V:=⟨_,rfl⟩
   rw [hV] at CP
   simp only [Option.map_some,hV] at HT
   clear g2 hV
   go_wp2_with fail
   refine (CP.out _).mono ?_
   rintro e1 w1 ⟨rfl,rfl⟩
   clear CP
   cases V
   ·go_wp2
    go_ret2
    exact ⟨by rw [HT.out];rfl,Below.refl _ _⟩
   ·go_wp2
    go_ret2
    exact ⟨by rw [HT.out];rfl,Below.refl _ _⟩
  ·have h2':¬ ((i:Int)+2 < (s.size:Int)):=by omega
   have g2:(bs s)[i+2]?=none:=by rw [List.getElem?_eq_none_iff,bs_len];omega
   rw [g2] at HT
   clear g2
   go_wp2
   go_ret2
   exact ⟨by rw [HT.out];rfl,Below.refl _ _⟩
end Go.Proofs.YtgjijidlaghlmaaGreatDoor
namespace Go.Proofs.YtgjijidlaghlmaaGreatDoor
open Go.RowKit
theorem rToken (s:ByteArray) (i:Nat) (w:World) (hs:s.size≤100000) (hi:i < s.size) :
  Calls Tryz.prog 119 #[.string s,.int .i64 i] w fun e w'=>e = .returned (kindJ (Lx.tokAt (bs s) i))∧Below w.heap.size w w':=by
 cases hc:Lx.capital s[i] with
 | true=>exact rToken_capital s i w hs hi hc
 | false =>
  cases hsm:Lx.small s[i] with
  | true=>exact rToken_small s i w hs hi hsm
  | false=>exact rToken_sign s i w hs hi hsm hc
end Go.Proofs.YtgjijidlaghlmaaGreatDoor
namespace Go.Proofs.YtgjijidlaghlmaaGreatDoor
open Go.RowKit
end Go.Proofs.YtgjijidlaghlmaaGreatDoor
namespace Go.Proofs.YtgjijidlaghlmaaGreatDoor
open Go.RowKit
def refTok (a:AT):Bool:=match Lx.tokAt (bs a.t) 0 with
 | some (k,j)=>decide ((k:Int)=a.k) && decide (j=a.t.size)
 | none=>false
def refB (a:AT):Bool:=match (bs a.t)[0]? with
 | none=>false
 | some c=>decide (a.t.size≤40) && !Lx.blank c && !decide (c.toNat=37) && refTok a
theorem tok_kind {l:Lx.Bs} {i k j:Nat} (h:Lx.tokAt l i=some (k,j)):k≠0∧k≤4:=by
 unfold Lx.tokAt at h
 split at h
 ·cases h
 ·split at h
  ·simp only at h
   split at h
   ·simp at h;omega
   ·split at h <;> (simp at h;omega)
  ·split at h
   ·simp at h;omega
   ·split at h
    ·simp at h;omega
    ·split at h
     ·simp at h;omega
     ·cases h
end Go.Proofs.YtgjijidlaghlmaaGreatDoor
namespace Go.Proofs.YtgjijidlaghlmaaGreatDoor
open Go.RowKit
theorem scanT_every (l:Lx.Bs) (Q:Lx.Tok→Prop) (hQ:∀ i k j,i < l.length→Lx.tokAt l i=some (k,j)→j - i≤40→Q ⟨k,Lx.slice l i j,i⟩) :
  ∀ (f:Nat) (pre:List Lx.Tok) (i:Nat) (ts:List Lx.Tok),(∀ t∈pre,Q t)→Lx.scanT l f pre i = .toks ts→∀ t∈ts,Q t
 | 0,_,_,_,hp,h=>by simp [Lx.scanT] at h;subst h;exact hp
 | f+1,pre,i,ts,hp,h=>by
  unfold Lx.scanT at h
  split at h
  ·simp at h;subst h;exact hp
  ·rename_i hi
   split at h
   ·simp at h
   ·rename_i k j ht
    split at h
    ·simp at h
    ·split at h
     ·simp at h
     ·rename_i h40
      refine scanT_every l Q hQ f _ _ _ (fun t hm=>?_) h
      rcases List.mem_append.1 hm with hm | hm
      ·exact hp t hm
      ·obtain rfl:=List.mem_singleton.1 hm
       exact hQ i k j (by omega) ht (by omega)
theorem scan_every {l:Lx.Bs} {ts:List Lx.Tok} (h:Lx.scan l = .toks ts) (Q:Lx.Tok→Prop) (hQ:∀ i k j,i < l.length→l.length≤20000→Lx.tokAt l i=some (k,j)→j - i≤40→Q ⟨k,Lx.slice l i j,i⟩):l.length≤20000∧∀ t∈ts,Q t:=by
 unfold Lx.scan at h
 split at h
 ·simp at h
 ·rename_i hl
  exact ⟨by omega,scanT_every l Q (fun i k j hi=>hQ i k j hi (by omega)) _ _ _ _ (by simp) h⟩
theorem slice_len (l:Lx.Bs) (i j:Nat):(Lx.slice l i j).length≤j - i:=by
 unfold Lx.slice
 rw [List.length_take]
 omega
theorem slice_head {l:Lx.Bs} {i j:Nat} (hi:i < l.length) (hj:i < j):∃ r,Lx.slice l i j=l[i] :: r:=by
 unfold Lx.slice
 rw [List.drop_eq_getElem_cons hi]
 obtain ⟨m,hm⟩:∃ m,j - i=m+1:=⟨j - i - 1,by omega⟩
 rw [hm,List.take_succ_cons]
 exact ⟨_,rfl⟩
theorem scan_bounds {l:Lx.Bs} {ts:List Lx.Tok} (h:Lx.scan l = .toks ts):∀ t∈ts,t.text.length≤40∧t.pos≤20000∧t.kind≤4 :=
 (scan_every h (fun t=>t.text.length≤40∧t.pos≤20000∧t.kind≤4) fun _i _k _j hi hl ht h40=>⟨Nat.le_trans (slice_len _ _ _) h40,Nat.le_trans (Nat.le_of_lt hi) hl,(tok_kind ht).2⟩).2
theorem tok_sane {l:Lx.Bs} {i k j:Nat} (hi:i < l.length) (h:Lx.tokAt l i=some (k,j)) (hk:k=1∨k=2):∀ s∈specials,Lx.slice l i j≠s:=by
 have hlt:=(Lx.tokAt_lt h).1
 obtain ⟨r,hr⟩:=slice_head hi hlt
 unfold Lx.tokAt at h
 rw [List.getElem?_eq_getElem hi] at h
 simp only at h
 intro s hs e
 rw [hr] at e
 split at h
 ·rename_i hsm
  split at h
  ·simp at h;omega
  ·rename_i ho
   split at h
   ·simp at h;omega
   ·rename_i hw
    simp only [Option.some.injEq,Prod.mk.injEq] at h
    obtain ⟨_,rfl⟩:=h
    rw [hr,e] at hw
    have hc:∀ c r',s=c :: r'→Lx.small c=true:=fun c r' hc=>by rw [hc] at e;rw [←(List.cons.inj e).1];exact hsm
    simp only [specials,List.mem_cons,List.not_mem_nil,or_false] at hs
    rcases hs with rfl | rfl | rfl | rfl | rfl | rfl | rfl | rfl | rfl | rfl | rfl | rfl | rfl | rfl | rfl | rfl | rfl | rfl | rfl | rfl | rfl
    all_goals first
     | exact absurd (hc _ _ rfl) (by decide)
     | exact hw (by decide)
     | skip
    have e0:l[i]=111:=(List.cons.inj e).1
    have hs2:Lx.slice l i (Lx.nameTo l i)=[111,45]:=by rw [hr,e]
    have h1:l[i+1]?=some 45:=by
     have:=congrArg (fun x:Lx.Bs=>x[1]?) hs2
     simp only [Lx.slice] at this
     rw [List.getElem?_take] at this
     split at this
     ·rw [List.getElem?_drop] at this;exact this
     ·cases this
    have hi1:i+1 < l.length:=by
     rcases Nat.lt_or_ge (i+1) l.length with h' | h'
     ·exact h'
     ·rw [List.getElem?_eq_none h'] at h1;cases h1
    have h1':l[i+1]=45:=by rw [List.getElem?_eq_getElem hi1] at h1;exact Option.some.inj h1
    have hrun:Lx.runTo l i=i+1:=by
     rw [Lx.runTo_step hi,e0,if_pos (by decide),Lx.runTo_step hi1,h1',if_neg (by decide)]
    have hn:Lx.nameTo l i=i+1:=by
     unfold Lx.nameTo
     simp only [hrun]
     rw [if_neg]
     rintro ⟨h2,_⟩
     rw [h1] at h2
     cases h2
    have:=congrArg List.length hs2
    have h3:=slice_len l i (Lx.nameTo l i)
    rw [this,hn] at h3
    simp at h3
 ·rename_i hsm
  split at h
  ·rename_i hcap
   have hc:∀ c r',s=c :: r'→Lx.capital c=true:=fun c r' hc=>by rw [hc] at e;rw [←(List.cons.inj e).1];exact hcap
   simp only [specials,List.mem_cons,List.not_mem_nil,or_false] at hs
   rcases hs with rfl | rfl | rfl | rfl | rfl | rfl | rfl | rfl | rfl | rfl | rfl | rfl | rfl | rfl | rfl | rfl | rfl | rfl | rfl | rfl | rfl
   all_goals exact absurd (hc _ _ rfl) (by decide)
  ·split at h
   ·simp at h;omega
   ·split at h
    ·simp at h;omega
    ·simp at h
theorem scan_saneT {l:Lx.Bs} {ts:List Lx.Tok} (h:Lx.scan l = .toks ts):SaneT ts:=by
 have H:=(scan_every h (fun t=>t.kind=1∨t.kind=2→∀ s∈specials,t.text≠s) fun i k j hi hl ht h40 hk=>tok_sane hi ht hk).2
 intro q hk s hs
 unfold Sx.knd at hk
 unfold Sx.txt
 cases ht:ts[q]? with
 | none=>rw [ht] at hk;simp at hk
 | some t =>
  rw [ht] at hk
  exact H t (List.mem_of_getElem? ht) hk s hs
end Go.Proofs.YtgjijidlaghlmaaGreatDoor
namespace Go.Proofs.YtgjijidlaghlmaaGreatDoor
open Go.RowKit
theorem ps_ready {B:Nat} {s:ByteArray} {l:List Lx.Tok} {v:Value} {w:World} {pb mi mp:Nat} (hl:Lx.scan (bs s) = .toks l) (ht:Toks B v l w) (gl:GLw w)
  (hrow:w.heap[pb]?=some (.cells #[v,.int .i64 0,.int .i64 (s.size:Nat),.map (some mi),.map (some mp)] 131 (0,0))) (hmi:StrMap w mi itemsL) (hmp:StrMap w mp partsL) (hni:mi≠pb) (hnp:mp≠pb) (hp:2≤pb) :
  ∃ E:PE,E.pb=pb∧E.ts=l∧E.en=s.size∧PS E 0 w:=by
 have h6:=scan_len hl
 have hsz:s.size≤20000:=by
  have:=(scan_every hl (fun _=>True) fun _ _ _ _ _ _ _=>trivial).1
  rwa [bs_len] at this
 have hsm:=scan_bounds hl
 have hsl:=ht.sl
 rcases ht.2 with ⟨rfl,hn⟩ | ⟨g,cap,cur,rfl,hg,hh,hnc,_,_,_⟩
 ·obtain rfl:l=[]:=List.length_eq_zero_iff.1 hn
  exact ⟨⟨pb,[],none,0,0,0,s.size,mi,mp⟩,rfl,rfl,rfl,⟨hrow,Nat.zero_le _,⟨by simp,by simp,hsz,fun h=>absurd rfl h,fun h=>absurd rfl h,Nat.le_refl _,fun i hi=>absurd hi (Nat.not_lt_zero _),fun i hi=>absurd hi (Nat.not_lt_zero _),fun i hi=>absurd hi (Nat.not_lt_zero _),hp,gl,hni,hnp,hmi,hmp⟩⟩⟩
 ·obtain ⟨a,cap',he,hcs⟩:=hsl
  have hts:∀ i (hi:i < l.length),TokAt w g (0+i*3) (ofTok l[i]):=by
   intro i hi
   have hne:l.map ofTok≠[]:=by intro e;rw [List.map_eq_nil_iff] at e;subst e;simp at hi
   obtain ⟨b,o,ha,hc⟩:=hcs hne
   rw [ha] at he
   injection he with he1 he2 he3
   injection he1 with he1
   injection he1 with hb ho
   subst hb;subst ho
   have:=hc i (by rw [List.length_map];exact hi)
   rwa [List.getElem_map] at this
  refine ⟨⟨pb,l,some ⟨g,0,none⟩,g,0,cap,s.size,mi,mp⟩,rfl,rfl,rfl,⟨hrow,Nat.zero_le _,⟨h6,hsm,hsz,fun _=>rfl,fun hne hgp=>?_,hnc,fun i hi=>(hts i hi).1,fun i hi=>(hts i hi).2.1,fun i hi=>(hts i hi).2.2,hp,gl,hni,hnp,hmi,hmp⟩⟩⟩
  simp only at hgp
  have h0:0 < l.length:=List.length_pos_iff.2 hne
  have c:=(hts 0 h0).2.1
  rw [hgp,cell_of_row _ _ _ _ _ _ hrow] at c
  simp at c
end Go.Proofs.YtgjijidlaghlmaaGreatDoor
namespace Go.Proofs.YtgjijidlaghlmaaGreatDoor
open Go.RowKit
set_option maxRecDepth 100000 in
set_option maxHeartbeats 2000000 in
theorem parse_no (s:ByteArray) (l:List Lx.Tok) (hl:Lx.scan (bs s) = .toks l) (w:World) (hw:2≤w.heap.size) (gl:GLw w) (hs:s.size≤maxLen) (g:Nat) (eg:∀ args w,(callFunc g args).run Tryz.prog w = .ok (.enter g args) w) (q:Nat)
  (CW:∀ (E:PE) w,E.ts=l→E.en=s.size→PS E 0 w→Calls Tryz.prog g #[.pointer (some ⟨E.pb,0,none⟩)] w (Gr E w (.bad q))) :
  Calls Tryz.prog 68 #[.string s,F_ g] w fun e w'=>(∀ E:PE,E.ts=l→E.en=s.size→e = .returned (.tuple #[.agg #[.int .i64 0,.string ⟨#[]⟩,.slice none 0 0],.int .i64 (E.pos q:Nat),.int .i64 20]))∧Below w.heap.size w w':=by
 have C:=qh (fun w=>scan_toks2 s l hl w hs)
 have CI:=qh items_made
 have CP:=qh parts_made
 have CW':=qh CW
 have Hl:=qh hl
 have GL:=qh gl
 have hmf:∀ (fn:Fn) (first cap:Array Value) (w:World),(Instr.makeFunc fn first cap).run Tryz.prog w = .ok (.func fn first cap) w:=fun _ _ _ _=>rfl
 have eg2:∀ args w,(callFunc 122 args).run Tryz.prog w = .ok (.enter 122 args) w:=enters_of Tryz.func122 (by kernel_rfl) rfl
 have hb0:=qh (((Below.refl w.heap.size w).alloc (Nat.le_refl _) (.cells #[.int .i64 0,.string ⟨#[]⟩,.slice none 0 0] 25)).alloc (by simp) (.cells #[.int .i64 0] 3) |>.alloc (by simp;omega) (.cells #[.int .i64 0] 26))
 clear hl gl CW
 unfold F_
 go_enter_defers Tryz.func68,Tryz.ntmps68
 go_wp2_with fail
 refine (C.out _).mono ?_
 rintro e w1 ⟨v,rfl,ht,hb⟩
 obtain ⟨va,vcap,rfl⟩:=ownsRow_shape ht
 have z1:=hb.size
 simp only [World.size_alloc] at z1 ht
 have bx0:Row3 w1 w.heap.size (.int .i64 0) (.string ⟨#[]⟩) (.slice none 0 0):=(hb.block w.heap.size (by simp only [World.size_alloc];omega)).trans (heap3_1 w _ _ _)
 have bx1:Boxed w1 (w.heap.size+1) 3 (.int .i64 0):=(hb.block (w.heap.size+1) (by simp only [World.size_alloc];omega)).trans (heap3_2 w _ _ _)
 have bx2:Boxed w1 (w.heap.size+1+1) 26 (.int .i64 0):=(hb.block (w.heap.size+1+1) (by simp only [World.size_alloc];omega)).trans (heap3_3 w _ _ _)
 have B1:=qh (hb0.out.trans (hb.mono (by simp only [World.size_alloc];omega)))
 have d1:=bx1.cell
 have d2:=bx2.cell
 have f1:=bx1.frozen
 have f2:=bx2.frozen
 have l0:=bx0.lt
 have l1:=bx1.lt
 have l2:=bx2.lt
 have R0:=qh bx0
 have X1:=qh bx1
 have X2:=qh bx2
 have HT:=qh ht
 clear hb bx0 bx1 bx2 z1 hb0 ht
 go_wp2_with fail
 generalize hW2:World.setCell (World.setCell w1 _ _) _ _=W2
 have S2:W2.heap.size=w1.heap.size:=by rw [←hW2,setCell_size,setCell_size]
 have R2:=qh (show Row3 W2 w.heap.size (.int .i64 0) (.string ⟨#[]⟩) (.slice none 0 0) by
  rw [←hW2]
  exact (R0.out.other (p:=⟨w.heap.size+1,0,none⟩) _ (by simp)).other (p:=⟨w.heap.size+1+1,0,none⟩) _ (by simp only;omega))
 have Y1:=qh (show Boxed W2 (w.heap.size+1) 3 (.int .i64 0) by
  rw [←hW2]
  exact boxed_otherP (Boxed.set _ X1.out) ⟨w.heap.size+1+1,0,none⟩ (by simp only;omega))
 have Y2:=qh (show Boxed W2 (w.heap.size+1+1) 26 (.int .i64 0) by
  rw [←hW2]
  exact Boxed.set _ (boxed_otherP X2.out ⟨w.heap.size+1,0,none⟩ (by simp only;omega)))
 have B2:=qh (show Below w.heap.size w W2 by
  rw [←hW2]
  exact (B1.out.setCell (p:=⟨w.heap.size+1,0,none⟩) (by simp) _).setCell (p:=⟨w.heap.size+1+1,0,none⟩) (by simp only;omega) _)
 have T2:=qh (show Toks (w.heap.size+1+1+1) (.slice va l.length vcap) l W2 by
  rw [←hW2]
  exact ownsRow_blocks HT.out fun k hk _ _=>(Below.heap_setCell _ _ _ _ (by simp only;omega)).trans (Below.heap_setCell _ _ _ _ (by simp only;omega)))
 clear hW2 d1 d2 f1 f2 R0 X1 X2 B1 HT C
 refine (CI.out _).mono ?_
 rintro e w3 ⟨rfl,m3,b3⟩
 simp only [S2] at m3 b3
 have M3:=qh m3
 have b3':=qh b3
 have z3:=m3.lt
 clear m3 b3 CI
 go_wp2_with fail
 refine (CP.out _).mono ?_
 rintro e w4 ⟨rfl,m4,b4⟩
 have M4:=qh m4
 have b4':=qh b4
 have z4:=m4.lt
 clear m4 b4 CP
 go_wp2_with fail
 generalize hW5:w4.alloc (.cells #[.slice va l.length vcap,.int .i64 0,.int .i64 (s.size:Nat),.map (some w1.heap.size),.map (some w3.heap.size)] 131)=W5
 have z5:W5.heap.size=w4.heap.size+1:=by rw [←hW5,World.size_alloc]
 have row5:W5.heap[w4.heap.size]?=some (.cells #[.slice va l.length vcap,.int .i64 0,.int .i64 (s.size:Nat),.map (some w1.heap.size),.map (some w3.heap.size)] 131 (0,0)):=by
  rw [←hW5];exact World.alloc_heap_new w4 _
 have b5:Below w4.heap.size w4 W5:=by rw [←hW5];exact (Below.refl _ _).alloc (Nat.le_refl _) _
 have HK:∀ k,k < w1.heap.size→W5.heap[k]?=W2.heap[k]?:=fun k hk=>(b5.block k (by omega)).trans ((b4'.out.block k (by omega)).trans (b3'.out.block k hk))
 have BB:=qh (B2.out.trans ((b3'.out.trans ((b4'.out.trans (b5.mono (by omega))).mono (by omega))).mono (by omega)))
 have GL5:=GL.out.keep fun b hb _=>BB.out.block b (by omega)
 have T5:=ownsRow_below' (ownsRow_below' (ownsRow_below' T2.out (by rw [S2];exact b3'.out)) b4'.out) b5
 obtain ⟨E,e1,e2,e3,hPS⟩:=ps_ready Hl.out T5 GL5 row5 ((M3.out.keep (b4'.out.block _ (by omega))).keep (b5.block _ (by omega))) (M4.out.keep (b5.block _ (by omega))) (by omega) (by omega) (by omega)
 have K:=CW'.out E _ e2 e3 hPS
 rw [e1] at K
 clear hW5 row5 b5 GL5 T5 M3 M4 CW' GL hPS
 refine K.mono ?_
 rintro e w6 ⟨rfl,hm,hq⟩
 have HK6:∀ k,k < w1.heap.size→w6.heap[k]?=W2.heap[k]?:=fun k hk=>(hm.blk k (by omega) (by omega)).trans (HK k hk)
 have B6:=qh ((BB.out.setCell (p:=⟨E.pb,1,none⟩) (by simp only;omega) (.int .i64 (q:Nat))).trans (Below.mono hm (by omega)))
 have R6:=qh (show Row3 w6 w.heap.size (.int .i64 0) (.string ⟨#[]⟩) (.slice none 0 0) from (HK6 _ (by omega)).trans R2.out)
 have U1:=qh (show Boxed w6 (w.heap.size+1) 3 (.int .i64 0) from (HK6 _ (by omega)).trans Y1.out)
 have U2:=qh (show Boxed w6 (w.heap.size+1+1) 26 (.int .i64 0) from (HK6 _ (by omega)).trans Y2.out)
 clear K hm hq HK HK6 BB R2 Y1 Y2 T2 b3' b4' B2
 go_wp2_with fail
 refine leaves_cons (f:=122) (args:=#[.pointer (some ⟨w.heap.size,0,none⟩),.pointer (some ⟨w.heap.size+1,0,none⟩),.pointer (some ⟨w.heap.size+1+1,0,none⟩)]) (by simp) (by simp [invoke,go_sem,eg2]) ?_
 unfold misfit
 refine (pcatch_panic w.heap.size (E.pos q) [] _ _ _ 0 0 w6 R6.out U1.out.cell U2.out.cell U1.out.frozen U2.out.frozen).mono ?_
 rintro e u' w7 ⟨rfl,rfl,b7,r7,x7,y7⟩
 obtain ⟨⟨c0,c1,c2⟩,_⟩:=r7.cells
 refine ⟨.tuple #[.agg #[.int .i64 0,.string ⟨#[]⟩,.slice none 0 0],.int .i64 (E.pos q:Nat),.int .i64 20],by simp [results,Tryz.results68,go_sem,c0,c1,c2,x7,y7],fun E' h1 h2=>?_,B6.out.trans b7⟩
 have hE:E'.pos q=E.pos q:=by unfold PE.pos;rw [h1,h2,e2,e3]
 rw [hE]
end Go.Proofs.YtgjijidlaghlmaaGreatDoor
namespace Go.Proofs.YtgjijidlaghlmaaGreatDoor
open Go.RowKit
theorem PS.aside {E:PE} {q:Nat} {w w':World} {b:Nat} {v0 v1:Value} {a:Option Addr} {n c:Nat} (h:PS E q w) (hR:Row3 w b v0 v1 (.slice a n c)) (h2:2≤b) (he:∀ j,j≠b→w'.heap[j]?=w.heap[j]?):PS E q w':=by
 have hpb:E.pb≠b:=by
  intro e
  have h1:=h.row
  rw [e] at h1
  have:=h1.symm.trans hR
  simp [PE.row] at this
 have hmi:E.mi≠b:=by
  intro e
  obtain ⟨es,k,h1,_⟩:=h.g.mi
  rw [e] at h1
  have:=h1.symm.trans hR
  simp at this
 have hmp:E.mp≠b:=by
  intro e
  obtain ⟨es,k,h1,_⟩:=h.g.mp
  rw [e] at h1
  have:=h1.symm.trans hR
  simp at this
 have htb:∀ i,i < E.ts.length→E.tb≠b:=by
  intro i hi e
  have c2:=h.g.c2 i hi
  rw [e,cell_of_row _ _ _ _ _ _ hR] at c2
  rcases Nat.lt_or_ge (E.off+i*3+2) 3 with hl | hl
  ·have h0:E.off+i*3+2=2:=by omega
   rw [h0] at c2
   simp at c2
  ·rw [Array.getElem?_eq_none (by simpa using hl)] at c2
   cases c2
 have hc:∀ i,i < E.ts.length→∀ p,w'.cell? ⟨E.tb,p,none⟩=w.cell? ⟨E.tb,p,none⟩:=fun i hi p=>World.cell?_of_block (w:=w) (he E.tb (htb i hi))
 exact ⟨(he _ hpb).trans h.row,h.le,⟨h.g.few,h.g.small,h.g.endS,h.g.ha,h.g.hb,h.g.hc,fun i hi=>(hc i hi _).trans (h.g.c0 i hi),fun i hi=>(hc i hi _).trans (h.g.c1 i hi),fun i hi=>(hc i hi _).trans (h.g.c2 i hi),h.g.hp,h.g.gl.keep (fun j hj _=>he j (by omega)),h.g.hmi,h.g.hmp,h.g.mi.keep (he _ hmi),h.g.mp.keep (he _ hmp)⟩⟩
set_option maxRecDepth 100000 in
set_option maxHeartbeats 2000000 in
theorem parse_left (s:ByteArray) (l:List Lx.Tok) (hl:Lx.scan (bs s) = .toks l) (w:World) (hw:2≤w.heap.size) (gl:GLw w) (hs:s.size≤maxLen) (g:Nat) (eg:∀ args w,(callFunc g args).run Tryz.prog w = .ok (.enter g args) w) (q:Nat) (k:Int) (sx:ByteArray) (kids:List Nd) (hql:q < l.length)
  (CW:∀ (E:PE) w,E.ts=l→E.en=s.size→PS E 0 w→Calls Tryz.prog g #[.pointer (some ⟨E.pb,0,none⟩)] w (Gr E w (.ok (.mk k sx kids) q))) :
  Calls Tryz.prog 68 #[.string s,F_ g] w fun e w'=>(∀ E:PE,E.ts=l→E.en=s.size→e = .returned (.tuple #[.agg #[.int .i64 0,.string ⟨#[]⟩,.slice none 0 0],.int .i64 (E.pos q:Nat),.int .i64 20]))∧Below w.heap.size w w':=by
 have C:=qh (fun w=>scan_toks2 s l hl w hs)
 have CI:=qh items_made
 have CP:=qh parts_made
 have CW':=qh CW
 have Hl:=qh hl
 have GL:=qh gl
 have hmf:∀ (fn:Fn) (first cap:Array Value) (w:World),(Instr.makeFunc fn first cap).run Tryz.prog w = .ok (.func fn first cap) w:=fun _ _ _ _=>rfl
 have eg2:∀ args w,(callFunc 122 args).run Tryz.prog w = .ok (.enter 122 args) w:=enters_of Tryz.func122 (by kernel_rfl) rfl
 have hb0:=qh (((Below.refl w.heap.size w).alloc (Nat.le_refl _) (.cells #[.int .i64 0,.string ⟨#[]⟩,.slice none 0 0] 25)).alloc (by simp) (.cells #[.int .i64 0] 3) |>.alloc (by simp;omega) (.cells #[.int .i64 0] 26))
 clear hl gl CW
 unfold F_
 go_enter_defers Tryz.func68,Tryz.ntmps68
 go_wp2_with fail
 refine (C.out _).mono ?_
 rintro e w1 ⟨v,rfl,ht,hb⟩
 obtain ⟨va,vcap,rfl⟩:=ownsRow_shape ht
 have z1:=hb.size
 simp only [World.size_alloc] at z1 ht
 have bx0:Row3 w1 w.heap.size (.int .i64 0) (.string ⟨#[]⟩) (.slice none 0 0):=(hb.block w.heap.size (by simp only [World.size_alloc];omega)).trans (heap3_1 w _ _ _)
 have bx1:Boxed w1 (w.heap.size+1) 3 (.int .i64 0):=(hb.block (w.heap.size+1) (by simp only [World.size_alloc];omega)).trans (heap3_2 w _ _ _)
 have bx2:Boxed w1 (w.heap.size+1+1) 26 (.int .i64 0):=(hb.block (w.heap.size+1+1) (by simp only [World.size_alloc];omega)).trans (heap3_3 w _ _ _)
 have B1:=qh (hb0.out.trans (hb.mono (by simp only [World.size_alloc];omega)))
 have d1:=bx1.cell
 have d2:=bx2.cell
 have f1:=bx1.frozen
 have f2:=bx2.frozen
 have l0:=bx0.lt
 have l1:=bx1.lt
 have l2:=bx2.lt
 have R0:=qh bx0
 have X1:=qh bx1
 have X2:=qh bx2
 have HT:=qh ht
 clear hb bx0 bx1 bx2 z1 hb0 ht
 go_wp2_with fail
 generalize hW2:World.setCell (World.setCell w1 _ _) _ _=W2
 have S2:W2.heap.size=w1.heap.size:=by rw [←hW2,setCell_size,setCell_size]
 have R2:=qh (show Row3 W2 w.heap.size (.int .i64 0) (.string ⟨#[]⟩) (.slice none 0 0) by
  rw [←hW2]
  exact (R0.out.other (p:=⟨w.heap.size+1,0,none⟩) _ (by simp)).other (p:=⟨w.heap.size+1+1,0,none⟩) _ (by simp only;omega))
 have Y1:=qh (show Boxed W2 (w.heap.size+1) 3 (.int .i64 0) by
  rw [←hW2]
  exact boxed_otherP (Boxed.set _ X1.out) ⟨w.heap.size+1+1,0,none⟩ (by simp only;omega))
 have Y2:=qh (show Boxed W2 (w.heap.size+1+1) 26 (.int .i64 0) by
  rw [←hW2]
  exact Boxed.set _ (boxed_otherP X2.out ⟨w.heap.size+1,0,none⟩ (by simp only;omega)))
 have B2:=qh (show Below w.heap.size w W2 by
  rw [←hW2]
  exact (B1.out.setCell (p:=⟨w.heap.size+1,0,none⟩) (by simp) _).setCell (p:=⟨w.heap.size+1+1,0,none⟩) (by simp only;omega) _)
 have T2:=qh (show Toks (w.heap.size+1+1+1) (.slice va l.length vcap) l W2 by
  rw [←hW2]
  exact ownsRow_blocks HT.out fun k hk _ _=>(Below.heap_setCell _ _ _ _ (by simp only;omega)).trans (Below.heap_setCell _ _ _ _ (by simp only;omega)))
 clear hW2 d1 d2 f1 f2 R0 X1 X2 B1 HT C
 refine (CI.out _).mono ?_
 rintro e w3 ⟨rfl,m3,b3⟩
 simp only [S2] at m3 b3
 have M3:=qh m3
 have b3':=qh b3
 have z3:=m3.lt
 clear m3 b3 CI
 go_wp2_with fail
 refine (CP.out _).mono ?_
 rintro e w4 ⟨rfl,m4,b4⟩
 have M4:=qh m4
 have b4':=qh b4
 have z4:=m4.lt
 clear m4 b4 CP
 go_wp2_with fail
 generalize hW5:w4.alloc (.cells #[.slice va l.length vcap,.int .i64 0,.int .i64 (s.size:Nat),.map (some w1.heap.size),.map (some w3.heap.size)] 131)=W5
 have z5:W5.heap.size=w4.heap.size+1:=by rw [←hW5,World.size_alloc]
 have row5:W5.heap[w4.heap.size]?=some (.cells #[.slice va l.length vcap,.int .i64 0,.int .i64 (s.size:Nat),.map (some w1.heap.size),.map (some w3.heap.size)] 131 (0,0)):=by
  rw [←hW5];exact World.alloc_heap_new w4 _
 have b5:Below w4.heap.size w4 W5:=by rw [←hW5];exact (Below.refl _ _).alloc (Nat.le_refl _) _
 have HK:∀ k,k < w1.heap.size→W5.heap[k]?=W2.heap[k]?:=fun k hk=>(b5.block k (by omega)).trans ((b4'.out.block k (by omega)).trans (b3'.out.block k hk))
 have BB:=qh (B2.out.trans ((b3'.out.trans ((b4'.out.trans (b5.mono (by omega))).mono (by omega))).mono (by omega)))
 have GL5:=GL.out.keep fun b hb _=>BB.out.block b (by omega)
 have T5:=ownsRow_below' (ownsRow_below' (ownsRow_below' T2.out (by rw [S2];exact b3'.out)) b4'.out) b5
 obtain ⟨E,e1,e2,e3,hPS⟩:=ps_ready Hl.out T5 GL5 row5 ((M3.out.keep (b4'.out.block _ (by omega))).keep (b5.block _ (by omega))) (M4.out.keep (b5.block _ (by omega))) (by omega) (by omega) (by omega)
 have K:=CW'.out E _ e2 e3 hPS
 rw [e1] at K
 clear hW5 row5 b5 GL5 T5 M3 M4 CW' GL
 refine K.mono ?_
 rintro e w6 ⟨⟨va6,vc6,rfl,_⟩,hm,hq⟩
 have HK6:∀ k,k < w1.heap.size→w6.heap[k]?=W2.heap[k]?:=fun k hk=>(hm.blk k (by omega) (by omega)).trans (HK k hk)
 have B6:=qh ((BB.out.setCell (p:=⟨E.pb,1,none⟩) (by simp only;omega) (.int .i64 (q:Nat))).trans (Below.mono hm (by omega)))
 have R6:=qh (show Row3 w6 w.heap.size (.int .i64 0) (.string ⟨#[]⟩) (.slice none 0 0) from (HK6 _ (by omega)).trans R2.out)
 have U1:=qh (show Boxed w6 (w.heap.size+1) 3 (.int .i64 0) from (HK6 _ (by omega)).trans Y1.out)
 have U2:=qh (show Boxed w6 (w.heap.size+1+1) 26 (.int .i64 0) from (HK6 _ (by omega)).trans Y2.out)
 have P6:=qh (hm.ps hPS hq)
 have hpz:w.heap.size < E.pb:=by omega
 have l6:=hm.size
 obtain ⟨⟨c0,c1,c2⟩,g0,g1,g2⟩:=R6.out.cells
 clear K hm hq HK HK6 BB R2 Y1 Y2 T2 b3' b4' B2 hPS
 have h6a:=R6.out.lt
 have D:=qh (fun w h=>refuse_any E q w h)
 go_wp2_with fail
 generalize hW7:World.setCell (World.setCell (World.setCell w6 _ _) _ _) _ _=W7
 have HE:∀ j,j≠w.heap.size→W7.heap[j]?=w6.heap[j]?:=fun j hj=>by
  rw [←hW7]
  exact (Below.heap_setCell _ _ _ _ hj).trans ((Below.heap_setCell _ _ _ _ hj).trans (Below.heap_setCell _ _ _ _ hj))
 have R7:=qh (show Row3 W7 w.heap.size (.int .i64 k) (.string sx) (.slice va6 kids.length vc6) by rw [←hW7];exact R6.out.put _ _ _)
 have P7:=qh (P6.out.aside R6.out hw HE)
 have N1:=qh (show Boxed W7 (w.heap.size+1) 3 (.int .i64 0) from (HE _ (by omega)).trans U1.out)
 have N2:=qh (show Boxed W7 (w.heap.size+1+1) 26 (.int .i64 0) from (HE _ (by omega)).trans U2.out)
 have B7:=qh (show Below w.heap.size w W7 by rw [←hW7];exact below3 B6.out (Nat.le_refl _) _ _ _)
 obtain ⟨p0,p1,p2,p3,p4⟩:=P7.out.cells
 have pz:=P7.out.lt
 rw [e1] at p0 p1
 rw [e2] at p0
 have hlt:(q:Int) < (l.length:Int):=by omega
 clear hW7 HE R6 P6 U1 U2 B6 c0 c1 c2 g0 g1 g2 p2 p3 p4
 go_quiet (fail)
 generalize hW8:W7.drewN _=W8
 have b8:Below W7.heap.size W7 W8:=by rw [←hW8];exact below_drewN (Below.refl _ _) _
 have K8:=D.out _ (P7.out.later b8)
 rw [e1] at K8
 have h7:=R7.out.lt
 have h71:=N1.out.lt
 have h72:=N2.out.lt
 have z8:=b8.size
 have HB8:=qh b8
 clear hW8 b8 p0 p1 D
 go_wp2_with fail
 refine K8.mono ?_
 rintro e w9 ⟨rfl,b9⟩
 have b89:=HB8.out.trans (b9.mono z8)
 have R6:=qh (show Row3 w9 w.heap.size (.int .i64 k) (.string sx) (.slice va6 kids.length vc6) from (b89.block _ h7).trans R7.out)
 have U1:=qh (show Boxed w9 (w.heap.size+1) 3 (.int .i64 0) from (b89.block _ h71).trans N1.out)
 have U2:=qh (show Boxed w9 (w.heap.size+1+1) 26 (.int .i64 0) from (b89.block _ h72).trans N2.out)
 have B6:=qh (B7.out.trans (b89.mono (by omega)))
 clear b89 b9 HB8 K8 P7 N1 N2 B7 R7
 go_wp2_with fail
 refine leaves_cons (f:=122) (args:=#[.pointer (some ⟨w.heap.size,0,none⟩),.pointer (some ⟨w.heap.size+1,0,none⟩),.pointer (some ⟨w.heap.size+1+1,0,none⟩)]) (by simp) (by simp [invoke,go_sem,eg2]) ?_
 unfold misfit
 refine (pcatch_panic w.heap.size (E.pos q) [] _ _ _ 0 0 w9 R6.out U1.out.cell U2.out.cell U1.out.frozen U2.out.frozen).mono ?_
 rintro e u' w10 ⟨rfl,rfl,b7,r7,x7,y7⟩
 obtain ⟨⟨c0,c1,c2⟩,_⟩:=r7.cells
 refine ⟨.tuple #[.agg #[.int .i64 0,.string ⟨#[]⟩,.slice none 0 0],.int .i64 (E.pos q:Nat),.int .i64 20],by simp [results,Tryz.results68,go_sem,c0,c1,c2,x7,y7],fun E' h1 h2=>?_,B6.out.trans b7⟩
 have hE:E'.pos q=E.pos q:=by unfold PE.pos;rw [h1,h2,e2,e3]
 rw [hE]
end Go.Proofs.YtgjijidlaghlmaaGreatDoor
namespace Go.Proofs.YtgjijidlaghlmaaGreatDoor
open Go.RowKit
set_option maxRecDepth 100000 in
set_option maxHeartbeats 2000000 in
theorem parse_yes (s:ByteArray) (l:List Lx.Tok) (hl:Lx.scan (bs s) = .toks l) (w:World) (hw:2≤w.heap.size) (gl:GLw w) (hs:s.size≤maxLen) (g:Nat) (eg:∀ args w,(callFunc g args).run Tryz.prog w = .ok (.enter g args) w) (q:Nat) (k:Int) (sx:ByteArray) (kids:List Nd) (hql:q=l.length) (er:Nat) (he:((er:Int)==0)=true)
  (CK:∀ va vc w,NdR w (.mk k sx kids) (.int .i64 k) (.string sx) (.slice va kids.length vc)→Calls Tryz.prog 27 #[.agg #[.int .i64 k,.string sx,.slice va kids.length vc]] w fun e w'=>e = .returned (.int .i64 er)∧Below w.heap.size w w')
  (CW:∀ (E:PE) w,E.ts=l→E.en=s.size→PS E 0 w→Calls Tryz.prog g #[.pointer (some ⟨E.pb,0,none⟩)] w (Gr E w (.ok (.mk k sx kids) q))) :
  Calls Tryz.prog 68 #[.string s,F_ g] w fun e w'=>(∃ va vc,e = .returned (.tuple #[.agg #[.int .i64 k,.string sx,.slice va kids.length vc],.int .i64 0,.int .i64 0])∧NdS (fun b=>w.heap.size≤b) w' (.mk k sx kids) (.int .i64 k) (.string sx) (.slice va kids.length vc))∧Below w.heap.size w w':=by
 have C:=qh (fun w=>scan_toks2 s l hl w hs)
 have CI:=qh items_made
 have CP:=qh parts_made
 have CW':=qh CW
 have Hl:=qh hl
 have GL:=qh gl
 have hmf:∀ (fn:Fn) (first cap:Array Value) (w:World),(Instr.makeFunc fn first cap).run Tryz.prog w = .ok (.func fn first cap) w:=fun _ _ _ _=>rfl
 have eg2:∀ args w,(callFunc 122 args).run Tryz.prog w = .ok (.enter 122 args) w:=enters_of Tryz.func122 (by kernel_rfl) rfl
 have hb0:=qh (((Below.refl w.heap.size w).alloc (Nat.le_refl _) (.cells #[.int .i64 0,.string ⟨#[]⟩,.slice none 0 0] 25)).alloc (by simp) (.cells #[.int .i64 0] 3) |>.alloc (by simp;omega) (.cells #[.int .i64 0] 26))
 clear hl gl CW
 unfold F_
 go_enter_defers Tryz.func68,Tryz.ntmps68
 go_wp2_with fail
 refine (C.out _).mono ?_
 rintro e w1 ⟨v,rfl,ht,hb⟩
 obtain ⟨va,vcap,rfl⟩:=ownsRow_shape ht
 have z1:=hb.size
 simp only [World.size_alloc] at z1 ht
 have bx0:Row3 w1 w.heap.size (.int .i64 0) (.string ⟨#[]⟩) (.slice none 0 0):=(hb.block w.heap.size (by simp only [World.size_alloc];omega)).trans (heap3_1 w _ _ _)
 have bx1:Boxed w1 (w.heap.size+1) 3 (.int .i64 0):=(hb.block (w.heap.size+1) (by simp only [World.size_alloc];omega)).trans (heap3_2 w _ _ _)
 have bx2:Boxed w1 (w.heap.size+1+1) 26 (.int .i64 0):=(hb.block (w.heap.size+1+1) (by simp only [World.size_alloc];omega)).trans (heap3_3 w _ _ _)
 have B1:=qh (hb0.out.trans (hb.mono (by simp only [World.size_alloc];omega)))
 have d1:=bx1.cell
 have d2:=bx2.cell
 have f1:=bx1.frozen
 have f2:=bx2.frozen
 have l0:=bx0.lt
 have l1:=bx1.lt
 have l2:=bx2.lt
 have R0:=qh bx0
 have X1:=qh bx1
 have X2:=qh bx2
 have HT:=qh ht
 clear hb bx0 bx1 bx2 z1 hb0 ht
 go_wp2_with fail
 generalize hW2:World.setCell (World.setCell w1 _ _) _ _=W2
 have S2:W2.heap.size=w1.heap.size:=by rw [←hW2,setCell_size,setCell_size]
 have R2:=qh (show Row3 W2 w.heap.size (.int .i64 0) (.string ⟨#[]⟩) (.slice none 0 0) by
  rw [←hW2]
  exact (R0.out.other (p:=⟨w.heap.size+1,0,none⟩) _ (by simp)).other (p:=⟨w.heap.size+1+1,0,none⟩) _ (by simp only;omega))
 have Y1:=qh (show Boxed W2 (w.heap.size+1) 3 (.int .i64 0) by
  rw [←hW2]
  exact boxed_otherP (Boxed.set _ X1.out) ⟨w.heap.size+1+1,0,none⟩ (by simp only;omega))
 have Y2:=qh (show Boxed W2 (w.heap.size+1+1) 26 (.int .i64 0) by
  rw [←hW2]
  exact Boxed.set _ (boxed_otherP X2.out ⟨w.heap.size+1,0,none⟩ (by simp only;omega)))
 have B2:=qh (show Below w.heap.size w W2 by
  rw [←hW2]
  exact (B1.out.setCell (p:=⟨w.heap.size+1,0,none⟩) (by simp) _).setCell (p:=⟨w.heap.size+1+1,0,none⟩) (by simp only;omega) _)
 have T2:=qh (show Toks (w.heap.size+1+1+1) (.slice va l.length vcap) l W2 by
  rw [←hW2]
  exact ownsRow_blocks HT.out fun k hk _ _=>(Below.heap_setCell _ _ _ _ (by simp only;omega)).trans (Below.heap_setCell _ _ _ _ (by simp only;omega)))
 clear hW2 d1 d2 f1 f2 R0 X1 X2 B1 HT C
 refine (CI.out _).mono ?_
 rintro e w3 ⟨rfl,m3,b3⟩
 simp only [S2] at m3 b3
 have M3:=qh m3
 have b3':=qh b3
 have z3:=m3.lt
 clear m3 b3 CI
 go_wp2_with fail
 refine (CP.out _).mono ?_
 rintro e w4 ⟨rfl,m4,b4⟩
 have M4:=qh m4
 have b4':=qh b4
 have z4:=m4.lt
 clear m4 b4 CP
 go_wp2_with fail
 generalize hW5:w4.alloc (.cells #[.slice va l.length vcap,.int .i64 0,.int .i64 (s.size:Nat),.map (some w1.heap.size),.map (some w3.heap.size)] 131)=W5
 have z5:W5.heap.size=w4.heap.size+1:=by rw [←hW5,World.size_alloc]
 have row5:W5.heap[w4.heap.size]?=some (.cells #[.slice va l.length vcap,.int .i64 0,.int .i64 (s.size:Nat),.map (some w1.heap.size),.map (some w3.heap.size)] 131 (0,0)):=by
  rw [←hW5];exact World.alloc_heap_new w4 _
 have b5:Below w4.heap.size w4 W5:=by rw [←hW5];exact (Below.refl _ _).alloc (Nat.le_refl _) _
 have HK:∀ k,k < w1.heap.size→W5.heap[k]?=W2.heap[k]?:=fun k hk=>(b5.block k (by omega)).trans ((b4'.out.block k (by omega)).trans (b3'.out.block k hk))
 have BB:=qh (B2.out.trans ((b3'.out.trans ((b4'.out.trans (b5.mono (by omega))).mono (by omega))).mono (by omega)))
 have GL5:=GL.out.keep fun b hb _=>BB.out.block b (by omega)
 have T5:=ownsRow_below' (ownsRow_below' (ownsRow_below' T2.out (by rw [S2];exact b3'.out)) b4'.out) b5
 obtain ⟨E,e1,e2,e3,hPS⟩:=ps_ready Hl.out T5 GL5 row5 ((M3.out.keep (b4'.out.block _ (by omega))).keep (b5.block _ (by omega))) (M4.out.keep (b5.block _ (by omega))) (by omega) (by omega) (by omega)
 have K:=CW'.out E _ e2 e3 hPS
 rw [e1] at K
 clear hW5 row5 b5 GL5 T5 M3 M4 CW' GL
 refine K.mono ?_
 rintro e w6 ⟨⟨va6,vc6,rfl,hn⟩,hm,hq⟩
 have HK6:∀ k,k < w1.heap.size→w6.heap[k]?=W2.heap[k]?:=fun k hk=>(hm.blk k (by omega) (by omega)).trans (HK k hk)
 have B6:=qh ((BB.out.setCell (p:=⟨E.pb,1,none⟩) (by simp only;omega) (.int .i64 (q:Nat))).trans (Below.mono hm (by omega)))
 have R6:=qh (show Row3 w6 w.heap.size (.int .i64 0) (.string ⟨#[]⟩) (.slice none 0 0) from (HK6 _ (by omega)).trans R2.out)
 have U1:=qh (show Boxed w6 (w.heap.size+1) 3 (.int .i64 0) from (HK6 _ (by omega)).trans Y1.out)
 have U2:=qh (show Boxed w6 (w.heap.size+1+1) 26 (.int .i64 0) from (HK6 _ (by omega)).trans Y2.out)
 have P6:=qh (hm.ps hPS hq)
 have S6:=qh hn
 have CK':=qh CK
 clear hn CK
 have hpz:w.heap.size < E.pb:=by omega
 have l6:=hm.size
 obtain ⟨⟨c0,c1,c2⟩,g0,g1,g2⟩:=R6.out.cells
 clear K hm hq HK HK6 BB R2 Y1 Y2 T2 b3' b4' B2 hPS
 have h6a:=R6.out.lt
 go_wp2_with fail
 generalize hW7:World.setCell (World.setCell (World.setCell w6 _ _) _ _) _ _=W7
 have HE:∀ j,j≠w.heap.size→W7.heap[j]?=w6.heap[j]?:=fun j hj=>by
  rw [←hW7]
  exact (Below.heap_setCell _ _ _ _ hj).trans ((Below.heap_setCell _ _ _ _ hj).trans (Below.heap_setCell _ _ _ _ hj))
 have R7:=qh (show Row3 W7 w.heap.size (.int .i64 k) (.string sx) (.slice va6 kids.length vc6) by rw [←hW7];exact R6.out.put _ _ _)
 have S7:=qh (S6.out.keep (w':=W7) (S':=fun b=>w.heap.size+1+1 < b) fun b h1 h2=>⟨HE b (by omega),by omega⟩)
 have P7:=qh (P6.out.aside R6.out hw HE)
 have N1:=qh (show Boxed W7 (w.heap.size+1) 3 (.int .i64 0) from (HE _ (by omega)).trans U1.out)
 have N2:=qh (show Boxed W7 (w.heap.size+1+1) 26 (.int .i64 0) from (HE _ (by omega)).trans U2.out)
 have B7:=qh (show Below w.heap.size w W7 by rw [←hW7];exact below3 B6.out (Nat.le_refl _) _ _ _)
 obtain ⟨p0,p1,p2,p3,p4⟩:=P7.out.cells
 have pz:=P7.out.lt
 rw [e1] at p0 p1
 rw [e2] at p0
 have hlt:decide ((q:Int) < (l.length:Int))=false:=decide_eq_false (by omega)
 clear hW7 HE R6 S6 P6 U1 U2 B6 c0 c1 c2 g0 g1 g2 p2 p3 p4
 go_quiet (fail)
 generalize hW8:W7.drewN _=W8
 have b8:Below W7.heap.size W7 W8:=by rw [←hW8];exact below_drewN (Below.refl _ _) _
 have h7:=R7.out.lt
 have h71:=N1.out.lt
 have h72:=N2.out.lt
 have z8:=b8.size
 have R8:=qh (show Row3 W8 w.heap.size (.int .i64 k) (.string sx) (.slice va6 kids.length vc6) from (b8.block _ h7).trans R7.out)
 have S8:=qh (S7.out.keep (w':=W8) (S':=fun b=>w.heap.size+1+1 < b) fun b h1 h2=>⟨b8.block b h2,h1⟩)
 have K8:=CK'.out va6 vc6 W8 S8.out.toR
 have HB8:=qh b8
 obtain ⟨⟨c0,c1,c2⟩,g0,g1,g2⟩:=R8.out.cells
 have h8:=R8.out.lt
 clear hW8 b8 p0 p1 CK'
 go_wp2_with fail
 refine K8.mono ?_
 rintro e w9 ⟨rfl,b9⟩
 have b89:=HB8.out.trans (b9.mono z8)
 have R9:=qh (show Row3 w9 w.heap.size (.int .i64 k) (.string sx) (.slice va6 kids.length vc6) from (b9.block _ h8).trans R8.out)
 have U1:=qh (show Boxed w9 (w.heap.size+1) 3 (.int .i64 0) from (b89.block _ h71).trans N1.out)
 have U2:=qh (show Boxed w9 (w.heap.size+1+1) 26 (.int .i64 0) from (b89.block _ h72).trans N2.out)
 have S9:=qh (S8.out.keep (w':=w9) (S':=fun b=>w.heap.size+1+1 < b) fun b h1 h2=>⟨b9.block b h2,h1⟩)
 have B9:=qh (B7.out.trans (b89.mono (by omega)))
 clear b89 b9 HB8 K8 P7 N1 N2 B7 R7 c0 c1 c2 g0 g1 g2 S7 S8 R8
 obtain ⟨⟨c0,c1,c2⟩,g0,g1,g2⟩:=R9.out.cells
 have u1:=U1.out.cell
 have u2:=U2.out.cell
 have v1:=U1.out.frozen
 have v2:=U2.out.frozen
 have h9:=R9.out.lt
 have h91:=U1.out.lt
 have h92:=U2.out.lt
 go_wp2_with fail
 generalize hWA:World.setCell (World.setCell (World.setCell (World.setCell (World.setCell w9 _ _) _ _) _ _) _ _) _ _=WA
 have RA:=qh (show Row3 WA w.heap.size (.int .i64 k) (.string sx) (.slice va6 kids.length vc6) by
  rw [←hWA]
  exact ((R9.out.put _ _ _).other (p:=⟨w.heap.size+1,0,none⟩) _ (by simp)).other (p:=⟨w.heap.size+1+1,0,none⟩) _ (by simp only;omega))
 have A1:=qh (show Boxed WA (w.heap.size+1) 3 (.int .i64 0) by
  rw [←hWA]
  exact boxed_otherP (Boxed.set _ (boxed_put3 U1.out (by omega))) ⟨w.heap.size+1+1,0,none⟩ (by simp only;omega))
 have A2:=qh (show Boxed WA (w.heap.size+1+1) 26 (.int .i64 0) by
  rw [←hWA]
  exact Boxed.set _ (boxed_otherP (boxed_put3 U2.out (by omega)) ⟨w.heap.size+1,0,none⟩ (by simp only;omega)))
 have BA:=qh (show Below w.heap.size w WA by
  rw [←hWA]
  exact ((below3 B9.out (Nat.le_refl _) _ _ _).setCell (p:=⟨w.heap.size+1,0,none⟩) (by simp) _).setCell (p:=⟨w.heap.size+1+1,0,none⟩) (by simp only;omega) _)
 have HA:∀ b,w.heap.size+1+1 < b→WA.heap[b]?=w9.heap[b]?:=fun b hb=>by
  rw [←hWA]
  exact (Below.heap_setCell _ _ _ _ (by simp only;omega)).trans ((Below.heap_setCell _ _ _ _ (by simp only;omega)).trans ((Below.heap_setCell _ _ _ _ (by simp only;omega)).trans ((Below.heap_setCell _ _ _ _ (by simp only;omega)).trans (Below.heap_setCell _ _ _ _ (by simp only;omega)))))
 have zA:w9.heap.size=WA.heap.size:=by rw [←hWA];simp only [setCell_size]
 clear hWA c0 c1 c2 g0 g1 g2 u1 u2 v1 v2
 refine leaves_cons (f:=122) (args:=#[.pointer (some ⟨w.heap.size,0,none⟩),.pointer (some ⟨w.heap.size+1,0,none⟩),.pointer (some ⟨w.heap.size+1+1,0,none⟩)]) (by simp) (by simp [invoke,go_sem,eg2]) ?_
 refine (pcatch_idle w.heap.size WA).mono ?_
 rintro e u' wz ⟨rfl,rfl,rfl⟩
 obtain ⟨⟨c0,c1,c2⟩,_⟩:=(RA.out.alloc (.cells #[.int .i64 0] 126)).cells
 have x1:=(boxed_alloc A1.out (.cells #[.int .i64 0] 126)).cell
 have x2:=(boxed_alloc A2.out (.cells #[.int .i64 0] 126)).cell
 refine ⟨.tuple #[.agg #[.int .i64 k,.string sx,.slice va6 kids.length vc6],.int .i64 0,.int .i64 0],by simp [results,Tryz.results68,go_sem,c0,c1,c2,x1,x2],⟨va6,vc6,rfl,S9.out.keep fun b h1 h2=>⟨(Below.heap_alloc _ _ _ (by rw [←zA];exact h2)).trans (HA b h1),by omega⟩⟩,BA.out.alloc (by rw [←zA];omega) _⟩
set_option maxRecDepth 100000 in
set_option maxHeartbeats 2000000 in
theorem parse_wrong (s:ByteArray) (l:List Lx.Tok) (hl:Lx.scan (bs s) = .toks l) (w:World) (hw:2≤w.heap.size) (gl:GLw w) (hs:s.size≤maxLen) (g:Nat) (eg:∀ args w,(callFunc g args).run Tryz.prog w = .ok (.enter g args) w) (q:Nat) (k:Int) (sx:ByteArray) (kids:List Nd) (hql:q=l.length) (er:Nat) (he:((er:Int)==0)=false)
  (CK:∀ va vc w,NdR w (.mk k sx kids) (.int .i64 k) (.string sx) (.slice va kids.length vc)→Calls Tryz.prog 27 #[.agg #[.int .i64 k,.string sx,.slice va kids.length vc]] w fun e w'=>e = .returned (.int .i64 er)∧Below w.heap.size w w')
  (CW:∀ (E:PE) w,E.ts=l→E.en=s.size→PS E 0 w→Calls Tryz.prog g #[.pointer (some ⟨E.pb,0,none⟩)] w (Gr E w (.ok (.mk k sx kids) q))) :
  Calls Tryz.prog 68 #[.string s,F_ g] w fun e w'=>(e = .returned (.tuple #[.agg #[.int .i64 0,.string ⟨#[]⟩,.slice none 0 0],.int .i64 0,.int .i64 er]))∧Below w.heap.size w w':=by
 have C:=qh (fun w=>scan_toks2 s l hl w hs)
 have CI:=qh items_made
 have CP:=qh parts_made
 have CW':=qh CW
 have Hl:=qh hl
 have GL:=qh gl
 have hmf:∀ (fn:Fn) (first cap:Array Value) (w:World),(Instr.makeFunc fn first cap).run Tryz.prog w = .ok (.func fn first cap) w:=fun _ _ _ _=>rfl
 have eg2:∀ args w,(callFunc 122 args).run Tryz.prog w = .ok (.enter 122 args) w:=enters_of Tryz.func122 (by kernel_rfl) rfl
 have hb0:=qh (((Below.refl w.heap.size w).alloc (Nat.le_refl _) (.cells #[.int .i64 0,.string ⟨#[]⟩,.slice none 0 0] 25)).alloc (by simp) (.cells #[.int .i64 0] 3) |>.alloc (by simp;omega) (.cells #[.int .i64 0] 26))
 clear hl gl CW
 unfold F_
 go_enter_defers Tryz.func68,Tryz.ntmps68
 go_wp2_with fail
 refine (C.out _).mono ?_
 rintro e w1 ⟨v,rfl,ht,hb⟩
 obtain ⟨va,vcap,rfl⟩:=ownsRow_shape ht
 have z1:=hb.size
 simp only [World.size_alloc] at z1 ht
 have bx0:Row3 w1 w.heap.size (.int .i64 0) (.string ⟨#[]⟩) (.slice none 0 0):=(hb.block w.heap.size (by simp only [World.size_alloc];omega)).trans (heap3_1 w _ _ _)
 have bx1:Boxed w1 (w.heap.size+1) 3 (.int .i64 0):=(hb.block (w.heap.size+1) (by simp only [World.size_alloc];omega)).trans (heap3_2 w _ _ _)
 have bx2:Boxed w1 (w.heap.size+1+1) 26 (.int .i64 0):=(hb.block (w.heap.size+1+1) (by simp only [World.size_alloc];omega)).trans (heap3_3 w _ _ _)
 have B1:=qh (hb0.out.trans (hb.mono (by simp only [World.size_alloc];omega)))
 have d1:=bx1.cell
 have d2:=bx2.cell
 have f1:=bx1.frozen
 have f2:=bx2.frozen
 have l0:=bx0.lt
 have l1:=bx1.lt
 have l2:=bx2.lt
 have R0:=qh bx0
 have X1:=qh bx1
 have X2:=qh bx2
 have HT:=qh ht
 clear hb bx0 bx1 bx2 z1 hb0 ht
 go_wp2_with fail
 generalize hW2:World.setCell (World.setCell w1 _ _) _ _=W2
 have S2:W2.heap.size=w1.heap.size:=by rw [←hW2,setCell_size,setCell_size]
 have R2:=qh (show Row3 W2 w.heap.size (.int .i64 0) (.string ⟨#[]⟩) (.slice none 0 0) by
  rw [←hW2]
  exact (R0.out.other (p:=⟨w.heap.size+1,0,none⟩) _ (by simp)).other (p:=⟨w.heap.size+1+1,0,none⟩) _ (by simp only;omega))
 have Y1:=qh (show Boxed W2 (w.heap.size+1) 3 (.int .i64 0) by
  rw [←hW2]
  exact boxed_otherP (Boxed.set _ X1.out) ⟨w.heap.size+1+1,0,none⟩ (by simp only;omega))
 have Y2:=qh (show Boxed W2 (w.heap.size+1+1) 26 (.int .i64 0) by
  rw [←hW2]
  exact Boxed.set _ (boxed_otherP X2.out ⟨w.heap.size+1,0,none⟩ (by simp only;omega)))
 have B2:=qh (show Below w.heap.size w W2 by
  rw [←hW2]
  exact (B1.out.setCell (p:=⟨w.heap.size+1,0,none⟩) (by simp) _).setCell (p:=⟨w.heap.size+1+1,0,none⟩) (by simp only;omega) _)
 have T2:=qh (show Toks (w.heap.size+1+1+1) (.slice va l.length vcap) l W2 by
  rw [←hW2]
  exact ownsRow_blocks HT.out fun k hk _ _=>(Below.heap_setCell _ _ _ _ (by simp only;omega)).trans (Below.heap_setCell _ _ _ _ (by simp only;omega)))
 clear hW2 d1 d2 f1 f2 R0 X1 X2 B1 HT C
 refine (CI.out _).mono ?_
 rintro e w3 ⟨rfl,m3,b3⟩
 simp only [S2] at m3 b3
 have M3:=qh m3
 have b3':=qh b3
 have z3:=m3.lt
 clear m3 b3 CI
 go_wp2_with fail
 refine (CP.out _).mono ?_
 rintro e w4 ⟨rfl,m4,b4⟩
 have M4:=qh m4
 have b4':=qh b4
 have z4:=m4.lt
 clear m4 b4 CP
 go_wp2_with fail
 generalize hW5:w4.alloc (.cells #[.slice va l.length vcap,.int .i64 0,.int .i64 (s.size:Nat),.map (some w1.heap.size),.map (some w3.heap.size)] 131)=W5
 have z5:W5.heap.size=w4.heap.size+1:=by rw [←hW5,World.size_alloc]
 have row5:W5.heap[w4.heap.size]?=some (.cells #[.slice va l.length vcap,.int .i64 0,.int .i64 (s.size:Nat),.map (some w1.heap.size),.map (some w3.heap.size)] 131 (0,0)):=by
  rw [←hW5];exact World.alloc_heap_new w4 _
 have b5:Below w4.heap.size w4 W5:=by rw [←hW5];exact (Below.refl _ _).alloc (Nat.le_refl _) _
 have HK:∀ k,k < w1.heap.size→W5.heap[k]?=W2.heap[k]?:=fun k hk=>(b5.block k (by omega)).trans ((b4'.out.block k (by omega)).trans (b3'.out.block k hk))
 have BB:=qh (B2.out.trans ((b3'.out.trans ((b4'.out.trans (b5.mono (by omega))).mono (by omega))).mono (by omega)))
 have GL5:=GL.out.keep fun b hb _=>BB.out.block b (by omega)
 have T5:=ownsRow_below' (ownsRow_below' (ownsRow_below' T2.out (by rw [S2];exact b3'.out)) b4'.out) b5
 obtain ⟨E,e1,e2,e3,hPS⟩:=ps_ready Hl.out T5 GL5 row5 ((M3.out.keep (b4'.out.block _ (by omega))).keep (b5.block _ (by omega))) (M4.out.keep (b5.block _ (by omega))) (by omega) (by omega) (by omega)
 have K:=CW'.out E _ e2 e3 hPS
 rw [e1] at K
 clear hW5 row5 b5 GL5 T5 M3 M4 CW' GL
 refine K.mono ?_
 rintro e w6 ⟨⟨va6,vc6,rfl,hn⟩,hm,hq⟩
 have HK6:∀ k,k < w1.heap.size→w6.heap[k]?=W2.heap[k]?:=fun k hk=>(hm.blk k (by omega) (by omega)).trans (HK k hk)
 have B6:=qh ((BB.out.setCell (p:=⟨E.pb,1,none⟩) (by simp only;omega) (.int .i64 (q:Nat))).trans (Below.mono hm (by omega)))
 have R6:=qh (show Row3 w6 w.heap.size (.int .i64 0) (.string ⟨#[]⟩) (.slice none 0 0) from (HK6 _ (by omega)).trans R2.out)
 have U1:=qh (show Boxed w6 (w.heap.size+1) 3 (.int .i64 0) from (HK6 _ (by omega)).trans Y1.out)
 have U2:=qh (show Boxed w6 (w.heap.size+1+1) 26 (.int .i64 0) from (HK6 _ (by omega)).trans Y2.out)
 have P6:=qh (hm.ps hPS hq)
 have S6:=qh hn
 have CK':=qh CK
 clear hn CK
 have hpz:w.heap.size < E.pb:=by omega
 have l6:=hm.size
 obtain ⟨⟨c0,c1,c2⟩,g0,g1,g2⟩:=R6.out.cells
 clear K hm hq HK HK6 BB R2 Y1 Y2 T2 b3' b4' B2 hPS
 have h6a:=R6.out.lt
 go_wp2_with fail
 generalize hW7:World.setCell (World.setCell (World.setCell w6 _ _) _ _) _ _=W7
 have HE:∀ j,j≠w.heap.size→W7.heap[j]?=w6.heap[j]?:=fun j hj=>by
  rw [←hW7]
  exact (Below.heap_setCell _ _ _ _ hj).trans ((Below.heap_setCell _ _ _ _ hj).trans (Below.heap_setCell _ _ _ _ hj))
 have R7:=qh (show Row3 W7 w.heap.size (.int .i64 k) (.string sx) (.slice va6 kids.length vc6) by rw [←hW7];exact R6.out.put _ _ _)
 have S7:=qh (S6.out.keep (w':=W7) (S':=fun b=>w.heap.size+1+1 < b) fun b h1 h2=>⟨HE b (by omega),by omega⟩)
 have P7:=qh (P6.out.aside R6.out hw HE)
 have N1:=qh (show Boxed W7 (w.heap.size+1) 3 (.int .i64 0) from (HE _ (by omega)).trans U1.out)
 have N2:=qh (show Boxed W7 (w.heap.size+1+1) 26 (.int .i64 0) from (HE _ (by omega)).trans U2.out)
 have B7:=qh (show Below w.heap.size w W7 by rw [←hW7];exact below3 B6.out (Nat.le_refl _) _ _ _)
 obtain ⟨p0,p1,p2,p3,p4⟩:=P7.out.cells
 have pz:=P7.out.lt
 rw [e1] at p0 p1
 rw [e2] at p0
 have hlt:decide ((q:Int) < (l.length:Int))=false:=decide_eq_false (by omega)
 clear hW7 HE R6 S6 P6 U1 U2 B6 c0 c1 c2 g0 g1 g2 p2 p3 p4
 go_quiet (fail)
 generalize hW8:W7.drewN _=W8
 have b8:Below W7.heap.size W7 W8:=by rw [←hW8];exact below_drewN (Below.refl _ _) _
 have h7:=R7.out.lt
 have h71:=N1.out.lt
 have h72:=N2.out.lt
 have z8:=b8.size
 have R8:=qh (show Row3 W8 w.heap.size (.int .i64 k) (.string sx) (.slice va6 kids.length vc6) from (b8.block _ h7).trans R7.out)
 have S8:=qh (S7.out.keep (w':=W8) (S':=fun b=>w.heap.size+1+1 < b) fun b h1 h2=>⟨b8.block b h2,h1⟩)
 have K8:=CK'.out va6 vc6 W8 S8.out.toR
 have HB8:=qh b8
 obtain ⟨⟨c0,c1,c2⟩,g0,g1,g2⟩:=R8.out.cells
 have h8:=R8.out.lt
 clear hW8 b8 p0 p1 CK'
 go_wp2_with fail
 refine K8.mono ?_
 rintro e w9 ⟨rfl,b9⟩
 have b89:=HB8.out.trans (b9.mono z8)
 have R9:=qh (show Row3 w9 w.heap.size (.int .i64 k) (.string sx) (.slice va6 kids.length vc6) from (b9.block _ h8).trans R8.out)
 have U1:=qh (show Boxed w9 (w.heap.size+1) 3 (.int .i64 0) from (b89.block _ h71).trans N1.out)
 have U2:=qh (show Boxed w9 (w.heap.size+1+1) 26 (.int .i64 0) from (b89.block _ h72).trans N2.out)
 have S9:=qh (S8.out.keep (w':=w9) (S':=fun b=>w.heap.size+1+1 < b) fun b h1 h2=>⟨b9.block b h2,h1⟩)
 have B9:=qh (B7.out.trans (b89.mono (by omega)))
 clear b89 b9 HB8 K8 P7 N1 N2 B7 R7 c0 c1 c2 g0 g1 g2 S7 S8 R8
 obtain ⟨⟨c0,c1,c2⟩,g0,g1,g2⟩:=R9.out.cells
 have u1:=U1.out.cell
 have u2:=U2.out.cell
 have v1:=U1.out.frozen
 have v2:=U2.out.frozen
 have h9:=R9.out.lt
 have h91:=U1.out.lt
 have h92:=U2.out.lt
 go_wp2_with fail
 generalize hWA:World.setCell (World.setCell (World.setCell (World.setCell (World.setCell w9 _ _) _ _) _ _) _ _) _ _=WA
 have RA:=qh (show Row3 WA w.heap.size (.int .i64 0) (.string ⟨#[]⟩) (.slice none 0 0) by
  rw [←hWA]
  exact ((R9.out.put _ _ _).other (p:=⟨w.heap.size+1,0,none⟩) _ (by simp)).other (p:=⟨w.heap.size+1+1,0,none⟩) _ (by simp only;omega))
 have A1:=qh (show Boxed WA (w.heap.size+1) 3 (.int .i64 0) by
  rw [←hWA]
  exact boxed_otherP (Boxed.set _ (boxed_put3 U1.out (by omega))) ⟨w.heap.size+1+1,0,none⟩ (by simp only;omega))
 have A2:=qh (show Boxed WA (w.heap.size+1+1) 26 (.int .i64 er) by
  rw [←hWA]
  exact Boxed.set _ (boxed_otherP (boxed_put3 U2.out (by omega)) ⟨w.heap.size+1,0,none⟩ (by simp only;omega)))
 have BA:=qh (show Below w.heap.size w WA by
  rw [←hWA]
  exact ((below3 B9.out (Nat.le_refl _) _ _ _).setCell (p:=⟨w.heap.size+1,0,none⟩) (by simp) _).setCell (p:=⟨w.heap.size+1+1,0,none⟩) (by simp only;omega) _)
 have HA:∀ b,w.heap.size+1+1 < b→WA.heap[b]?=w9.heap[b]?:=fun b hb=>by
  rw [←hWA]
  exact (Below.heap_setCell _ _ _ _ (by simp only;omega)).trans ((Below.heap_setCell _ _ _ _ (by simp only;omega)).trans ((Below.heap_setCell _ _ _ _ (by simp only;omega)).trans ((Below.heap_setCell _ _ _ _ (by simp only;omega)).trans (Below.heap_setCell _ _ _ _ (by simp only;omega)))))
 have zA:w9.heap.size=WA.heap.size:=by rw [←hWA];simp only [setCell_size]
 clear hWA c0 c1 c2 g0 g1 g2 u1 u2 v1 v2
 refine leaves_cons (f:=122) (args:=#[.pointer (some ⟨w.heap.size,0,none⟩),.pointer (some ⟨w.heap.size+1,0,none⟩),.pointer (some ⟨w.heap.size+1+1,0,none⟩)]) (by simp) (by simp [invoke,go_sem,eg2]) ?_
 refine (pcatch_idle w.heap.size WA).mono ?_
 rintro e u' wz ⟨rfl,rfl,rfl⟩
 obtain ⟨⟨c0,c1,c2⟩,_⟩:=(RA.out.alloc (.cells #[.int .i64 0] 126)).cells
 have x1:=(boxed_alloc A1.out (.cells #[.int .i64 0] 126)).cell
 have x2:=(boxed_alloc A2.out (.cells #[.int .i64 0] 126)).cell
 refine ⟨.tuple #[.agg #[.int .i64 0,.string ⟨#[]⟩,.slice none 0 0],.int .i64 0,.int .i64 er],by simp [results,Tryz.results68,go_sem,c0,c1,c2,x1,x2],rfl,BA.out.alloc (by rw [←zA];omega) _⟩
end Go.Proofs.YtgjijidlaghlmaaGreatDoor
namespace Go.Proofs.YtgjijidlaghlmaaGreatDoor
open Go.RowKit
def posT (l:List Lx.Tok) (en q:Nat):Nat:=match l[q]? with | some t=>t.pos | none=>en
def node0:Value:=.agg #[.int .i64 0,.string ⟨#[]⟩,.slice none 0 0]
def ParseOut (l:List Lx.Tok) (en:Nat) (chk:Nd→Nat) (r:Sx.PR Nd) (w:World) (e:Ending) (w':World):Prop :=
 Below w.heap.size w w' ∧
 match r with
 | .bad q=>e = .returned (.tuple #[node0,.int .i64 (posT l en q:Nat),.int .i64 20])
 | .ok (.mk k s kids) q =>
  if q < l.length then e = .returned (.tuple #[node0,.int .i64 (posT l en q:Nat),.int .i64 20])
  else if chk (.mk k s kids)=0 then ∃ va vc,e = .returned (.tuple #[.agg #[.int .i64 k,.string s,.slice va kids.length vc],.int .i64 0,.int .i64 0])∧NdS (fun b=>w.heap.size≤b) w' (.mk k s kids) (.int .i64 k) (.string s) (.slice va kids.length vc)
  else e = .returned (.tuple #[node0,.int .i64 0,.int .i64 (chk (.mk k s kids):Nat)])
theorem posT_of (l:List Lx.Tok) (en q:Nat):∃ E:PE,E.ts=l∧E.en=en∧E.pos q=posT l en q:=⟨⟨0,l,none,0,0,0,en,0,0⟩,rfl,rfl,rfl⟩
theorem parse_any (s:ByteArray) (l:List Lx.Tok) (hl:Lx.scan (bs s) = .toks l) (w:World) (hw:2≤w.heap.size) (gl:GLw w) (hs:s.size≤maxLen) (g:Nat) (eg:∀ args w,(callFunc g args).run Tryz.prog w = .ok (.enter g args) w) (r:Sx.PR Nd) (hr:∀ n q,r = .ok n q→q≤l.length) (chk:Nd→Nat)
  (CW:∀ (E:PE) w,E.ts=l→E.en=s.size→PS E 0 w→Calls Tryz.prog g #[.pointer (some ⟨E.pb,0,none⟩)] w (Gr E w r))
  (CK:∀ k sx kids va vc w,NdR w (.mk k sx kids) (.int .i64 k) (.string sx) (.slice va kids.length vc)→Calls Tryz.prog 27 #[.agg #[.int .i64 k,.string sx,.slice va kids.length vc]] w fun e w'=>e = .returned (.int .i64 (chk (.mk k sx kids):Nat))∧Below w.heap.size w w') :
  Calls Tryz.prog 68 #[.string s,F_ g] w (ParseOut l s.size chk r w):=by
 cases r with
 | bad q =>
  refine (parse_no s l hl w hw gl hs g eg q CW).mono ?_
  rintro e w' ⟨h,hb⟩
  obtain ⟨E,h1,h2,h3⟩:=posT_of l s.size q
  exact ⟨hb,by rw [h E h1 h2,h3];rfl⟩
 | ok n q =>
  obtain ⟨k,sx,kids⟩:=n
  by_cases hq:q < l.length
  ·refine (parse_left s l hl w hw gl hs g eg q k sx kids hq CW).mono ?_
   rintro e w' ⟨h,hb⟩
   obtain ⟨E,h1,h2,h3⟩:=posT_of l s.size q
   refine ⟨hb,?_⟩
   simp only [if_pos hq]
   rw [h E h1 h2,h3]
   rfl
  ·have hql:q=l.length:=by have:=hr _ _ rfl;omega
   by_cases h0:chk (.mk k sx kids)=0
   ·refine (parse_yes s l hl w hw gl hs g eg q k sx kids hql (chk (.mk k sx kids)) (by rw [h0];rfl) (fun va vc w h=>CK k sx kids va vc w h) CW).mono ?_
    rintro e w' ⟨h,hb⟩
    refine ⟨hb,?_⟩
    simp only [if_neg hq,if_pos h0]
    exact h
   ·refine (parse_wrong s l hl w hw gl hs g eg q k sx kids hql (chk (.mk k sx kids)) (by rw [beq_eq_false_iff_ne];omega) (fun va vc w h=>CK k sx kids va vc w h) CW).mono ?_
    rintro e w' ⟨h,hb⟩
    refine ⟨hb,?_⟩
    simp only [if_neg hq,if_neg h0]
    exact h
end Go.Proofs.YtgjijidlaghlmaaGreatDoor
namespace Go.Proofs.YtgjijidlaghlmaaGreatDoor
def nameB (s:ByteArray):Bool:=checkB ⟨1,s,0⟩
def varB (s:ByteArray):Bool:=checkB ⟨2,s,0⟩
def noneB (s:ByteArray):Bool:=s.toList.isEmpty
mutual
def typB:Nd→Bool
 | .mk k s l=>if k=31 then noneB s && (decide (l.length=2) && typL l) else decide (k=15) && (decide (l.length=0) && nameB s)
def typL:List Nd→Bool
 | []=>true
 | a :: l=>typB a && typL l
end
def headTyp:List Nd→Bool
 | []=>false
 | a :: _=>typB a
def bindB (s:ByteArray) (l:List Nd):Bool:=(nameB s || varB s) && (decide (l.length=1) || (decide (l.length=2) && headTyp l))
mutual
def termB:Nd→Bool
 | .mk k s l=>if k=15 then nameB s && (termL l && decide (l.length≤8)) else if k=16 then varB s && (termL l && decide (l.length≤8)) else decide (k=17) && (bindB s l && termE l)
def termL:List Nd→Bool
 | []=>true
 | a :: l=>termB a && termL l
def termE:List Nd→Bool
 | []=>false
 | a :: l=>if l.isEmpty then termB a else termE l
end
def isBinary (k:Int):Bool:=decide (22≤k) && decide (k≤28)
mutual
def formB:Nd→Bool
 | .mk k s l =>
  if k=15 then termB (.mk k s l)
  else if k=18∨k=19 then bindB s l && formE l
  else if k=20∨k=21 then noneB s && decide (l.length=0)
  else if k=29∨k=30 then noneB s && (decide (l.length=1) && formL l)
  else isBinary k && (noneB s && (decide (l.length=2) && formL l))
def formL:List Nd→Bool
 | []=>true
 | a :: l=>formB a && formL l
def formE:List Nd→Bool
 | []=>false
 | a :: l=>if l.isEmpty then formB a else formE l
end
def loneB:Nd→Bool
 | .mk k s l=>decide (k=15) && (decide (l.length=0) && nameB s)
end Go.Proofs.YtgjijidlaghlmaaGreatDoor
namespace Go.Proofs.YtgjijidlaghlmaaGreatDoor
namespace Lx
def nameLen (r:Bs):Nat :=
 let j:=runLen r
 if r[j]?=some 64∧(r[j+1]?.map small)=some true then j+1+runLen (r.drop (j+1)) else j
def longR (r:Bs):Bool :=
 ([45,111].isPrefixOf r && runLen (r.drop 1)==1) || [45,62].isPrefixOf r || [61,62].isPrefixOf r || [60,61].isPrefixOf r
def tokR (r:Bs):Option (Nat×Nat) :=
 match r[0]? with
 | none=>none
 | some c =>
  if small c then
   let j:=nameLen r
   if r.take j=[111]∧r[j]?=some 45 then some (3,j+1)
   else if words.contains (r.take j) then some (4,j) else some (1,j)
  else if capital c then some (2,runLen r)
  else if signB c then some (3,1)
  else if longR r then some (3,2) else none
theorem nameTo_rel (l:Bs) (i:Nat):nameTo l i=i+nameLen (l.drop i):=by
 have h1:(l.drop i)[runLen (l.drop i)]?=l[runTo l i]?:=List.getElem?_drop
 have h2:(l.drop i)[runLen (l.drop i)+1]?=l[runTo l i+1]?:=by rw [List.getElem?_drop];rfl
 unfold nameTo nameLen
 simp only [h1,h2]
 by_cases h:l[runTo l i]?=some 64∧(l[runTo l i+1]?.map small)=some true
 ·simp only [if_pos h]
  show runTo l i+1+runLen (l.drop (runTo l i+1))=_
  rw [List.drop_drop,show i+(runLen (l.drop i)+1)=runTo l i+1 from rfl]
  unfold runTo
  omega
 ·simp only [if_neg h];rfl
theorem isLong_rel (l:Bs) (i:Nat):isLong l i=longR (l.drop i):=by
 simp only [isLong,longR,pre,runTo,List.drop_drop]
 congr 4
 by_cases h:runLen (l.drop (i+1))=1
 ·rw [h];simp
 ·rw [show (runLen (l.drop (i+1))==1)=false from by simpa using h,show (i+1+runLen (l.drop (i+1))==i+2)=false from by rw [beq_eq_false_iff_ne];omega]
theorem tokAt_rel (l:Bs) (i:Nat):tokAt l i=(tokR (l.drop i)).map fun p=>(p.1,i+p.2):=by
 unfold tokAt tokR
 rw [List.getElem?_drop,Nat.add_zero]
 cases l[i]? with
 | none=>rfl
 | some c =>
  simp only [slice,nameTo_rel,isLong_rel,runTo,List.getElem?_drop,Nat.add_sub_cancel_left]
  split
  ·split
   ·rfl
   ·split <;> rfl
  ·split
   ·rfl
   ·split
    ·rfl
    ·split <;> rfl
def scanS:Nat→List Tok→Nat→Bs→Res
 | 0,pre,_,_=>.toks pre
 | f+1,pre,o,r =>
  if r=[] then .toks pre
  else match tokR r with
   | none=>.bad o 10
   | some (k,n) =>
    if pre.length=6000 then .bad o 2
    else if 40 < n then .bad o 11
    else scanS f (pre++[⟨k,r.take n,o⟩]) (o+n+skipC false (r.drop n)) ((r.drop n).drop (skipC false (r.drop n)))
theorem scanT_rel (l:Bs):∀ (f:Nat) (pre:List Tok) (i:Nat),scanT l f pre i=scanS f pre i (l.drop i)
 | 0,_,_=>rfl
 | f+1,pre,i=>by
  simp only [scanT,scanS]
  by_cases h:l.length≤i
  ·rw [if_pos h,if_pos (List.drop_of_length_le h)]
  ·rw [if_neg h,if_neg (by intro e;have:=congrArg List.length e;simp at this;omega),tokAt_rel]
   cases tokR (l.drop i) with
   | none=>rfl
   | some p =>
    obtain ⟨k,n⟩:=p
    simp only [Option.map_some]
    split
    ·rfl
    ·rw [Nat.add_sub_cancel_left]
     split
     ·rfl
     ·rw [scanT_rel l f,slice,Nat.add_sub_cancel_left,skipTo,List.drop_drop,List.drop_drop]
def scanP (f:Nat) (pre:List Tok) (o:Nat) (r:Bs):Res:=scanS f pre (o+skipC false r) (r.drop (skipC false r))
theorem scanS_step {f:Nat} {pre:List Tok} {o k n:Nat} {r:Bs} (h0:r≠[]) (h:tokR r=some (k,n)) (h6:pre.length≠6000) (h4:¬ 40 < n) :
  scanS (f+1) pre o r=scanP f (pre++[⟨k,r.take n,o⟩]) (o+n) (r.drop n):=by
 simp only [scanS,scanP];rw [if_neg h0,h];simp only;rw [if_neg h6,if_neg h4]
theorem scan_rel (l:Bs):scan l=if 20000 < l.length then .bad 0 2 else scanP (l.length+1) [] 0 l:=by
 unfold scan;rw [scanT_rel];unfold skipTo scanP;simp only [List.drop_zero,Nat.zero_add]
theorem tokR_lt {r:Bs} {k n:Nat} (h:tokR r=some (k,n)):0 < n∧n≤r.length:=by
 have e:=tokAt_rel r 0
 rw [List.drop_zero,h] at e
 have:=tokAt_lt (l:=r) (i:=0) (k:=k) (j:=0+n) (by rw [e];rfl)
 omega
theorem scanS_inv {f:Nat} {pre l:List Tok} {o:Nat} {r:Bs} (h:scanS (f+1) pre o r = .toks l) :
  (r=[]∧l=pre)∨∃ k n,r≠[]∧tokR r=some (k,n)∧pre.length≠6000∧¬ 40 < n∧scanP f (pre++[⟨k,r.take n,o⟩]) (o+n) (r.drop n) = .toks l:=by
 simp only [scanS] at h
 by_cases h0:r=[]
 ·rw [if_pos h0] at h;exact .inl ⟨h0,by simpa using h.symm⟩
 ·rw [if_neg h0] at h
  cases ht:tokR r with
  | none=>rw [ht] at h;simp at h
  | some p =>
   obtain ⟨k,n⟩:=p
   rw [ht] at h
   simp only at h
   by_cases h6:pre.length=6000
   ·rw [if_pos h6] at h;simp at h
   ·rw [if_neg h6] at h
    by_cases h4:40 < n
    ·rw [if_pos h4] at h;simp at h
    ·rw [if_neg h4] at h;exact .inr ⟨k,n,h0,rfl,h6,h4,h⟩
def sh (d:Nat) (t:Tok):Tok:=⟨t.kind,t.text,t.pos+d⟩
theorem scanS_shift (d:Nat):∀ (f:Nat) (pre P l:List Tok) (o:Nat) (r:Bs),P.length≤6000→scanS f pre o r = .toks l →
  ∃ rest,l=pre++rest∧((P.length+rest.length≤6000∧scanS f P (o+d) r = .toks (P++rest.map (sh d)))∨(6000 < P.length+rest.length∧∃ p,scanS f P (o+d) r = .bad p 2))
 | 0,pre,P,l,o,r,hP,h=>by
  simp only [scanS,Res.toks.injEq] at h
  subst h
  exact ⟨[],by simp,.inl ⟨by simpa using hP,by simp [scanS]⟩⟩
 | f+1,pre,P,l,o,r,hP,h=>by
  rcases scanS_inv h with ⟨rfl,rfl⟩ | ⟨k,n,h0,ht,h6,h4,hs⟩
  ·exact ⟨[],by simp,.inl ⟨by simpa using hP,by simp [scanS]⟩⟩
  ·by_cases hP6:P.length=6000
   ·obtain ⟨rest,hl,_⟩:=scanS_shift d f _ [] l _ _ (by simp) hs
    refine ⟨⟨k,r.take n,o⟩ :: rest,by rw [hl,List.append_assoc];rfl,.inr ⟨by simp;omega,o+d,?_⟩⟩
    simp only [scanS]
    rw [if_neg h0,ht]
    simp only
    rw [if_pos hP6]
   ·obtain ⟨rest,hl,hc⟩:=scanS_shift d f _ (P++[⟨k,r.take n,o+d⟩]) l _ _ (by rw [List.length_append,List.length_singleton];omega) hs
    refine ⟨⟨k,r.take n,o⟩ :: rest,by rw [hl,List.append_assoc];rfl,?_⟩
    rw [scanS_step h0 ht hP6 h4]
    unfold scanP
    rw [show o+d+n+skipC false (r.drop n)=o+n+skipC false (r.drop n)+d from by omega]
    rcases hc with ⟨h1,h2⟩ | ⟨h1,p,h2⟩
    ·refine .inl ⟨by simp only [List.length_append,List.length_cons,List.length_nil] at h1 ⊢;omega,?_⟩
     rw [h2,List.append_assoc];rfl
    ·exact .inr ⟨by simp only [List.length_append,List.length_cons,List.length_nil] at h1 ⊢;omega,p,h2⟩
end Lx
end Go.Proofs.YtgjijidlaghlmaaGreatDoor
namespace Go.Proofs.YtgjijidlaghlmaaGreatDoor
open Go.RowKit
theorem scan_one {l:Lx.Bs} {k:Nat} (h4:l.length≤40) (h0:l≠[]) (hsk:Lx.skipC false l=0) (ht:Lx.tokR l=some (k,l.length)):Lx.scan l = .toks [⟨k,l,0⟩]:=by
 rw [Lx.scan_rel,if_neg (by omega)]
 unfold Lx.scanP
 rw [hsk,List.drop_zero,Lx.scanS_step h0 ht (by simp) (by omega)]
 unfold Lx.scanP
 rw [List.drop_of_length_le (Nat.le_refl _),List.take_of_length_le (Nat.le_refl _)]
 have hpos:0 < l.length:=List.length_pos_iff.2 h0
 obtain ⟨f,hf⟩:∃ f,l.length=f+1:=⟨l.length - 1,by omega⟩
 rw [hf]
 simp [Lx.scanS,Lx.skipC]
theorem scan_one_inv {l:Lx.Bs} {t:Lx.Tok} (h:Lx.scan l = .toks [t]) (ht:t.text=l) (h0:l≠[]) :
  l.length≤40∧Lx.skipC false l=0∧Lx.tokR l=some (t.kind,l.length):=by
 rw [Lx.scan_rel] at h
 split at h
 ·cases h
 ·unfold Lx.scanP at h
  rcases Lx.scanS_inv h with ⟨_,e⟩ | ⟨k,n,hne,htk,_,h40,hs⟩
  ·cases e
  ·have hn:=Lx.tokR_lt htk
   obtain ⟨rest,hl,_⟩:=Lx.scanS_shift 0 _ _ [] _ _ _ (by simp) hs
   rw [List.nil_append,List.cons_append,List.nil_append,List.cons.injEq] at hl
   have e1:=hl.1
   subst e1
   simp only at ht
   have hlen:=congrArg List.length ht
   rw [List.length_take,List.length_drop] at hlen
   rw [List.length_drop] at hn
   have hpos:0 < l.length:=List.length_pos_iff.2 h0
   have hk0:Lx.skipC false l=0:=by omega
   rw [hk0,List.drop_zero] at htk
   have hnl:n=l.length:=by omega
   subst hnl
   exact ⟨by omega,hk0,htk⟩
theorem skip_zero (c:UInt8) (r:Lx.Bs):Lx.skipC false (c :: r)=0↔(Lx.blank c=false∧c.toNat≠37):=by
 simp only [Lx.skipC]
 by_cases hb:Lx.blank c=true
 ·rw [if_pos hb,hb];simp
 ·rw [if_neg hb]
  by_cases h37:c.toNat=37
  ·rw [if_pos h37];simp [h37]
  ·rw [if_neg h37];simp [h37,hb]
theorem check_ref (a:AT):checkB a=refB a:=by
 have hrel:=Lx.tokAt_rel (bs a.t) 0
 rw [List.drop_zero] at hrel
 have hsz:(bs a.t).length=a.t.size:=bs_len a.t
 have htext:∀ l:Lx.Bs,(((⟨l.toArray⟩:ByteArray).toList==a.t.toList)=true)↔l=bs a.t:=fun l=>by
  rw [ByteArray.toList_eq,ByteArray.toList_eq,beq_iff_eq];rfl
 rw [Bool.eq_iff_iff]
 unfold checkB scansB refB refTok
 rw [hrel]
 constructor
 ·intro h
  cases hs:Lx.scan (bs a.t) with
  | bad p er=>rw [hs] at h;cases h
  | toks ts =>
   rw [hs] at h
   match ts,h with
   | [],h=>simp [sameB] at h
   | [t],h =>
    simp only [List.map_cons,List.map_nil,sameB,ofTok,Bool.and_true,Bool.and_eq_true,beq_iff_eq] at h
    have ht:t.text=bs a.t:=(htext _).1 (by rw [beq_iff_eq];exact h.2)
    have h0:bs a.t≠[]:=by
     intro e;rw [e] at hs;simp [Lx.scan,Lx.scanT,Lx.skipTo,Lx.skipC] at hs
    obtain ⟨h40,hk,htk⟩:=scan_one_inv hs ht h0
    cases hl:bs a.t with
    | nil=>exact absurd hl h0
    | cons c r =>
     rw [hl] at hk
     obtain ⟨hb,h37⟩:=(skip_zero c r).1 hk
     rw [←hl,htk]
     simp only [hl,List.getElem?_cons_zero,Option.map_some,hb,decide_eq_false h37,Bool.not_false,Bool.and_true,Bool.and_eq_true,decide_eq_true_eq]
     exact ⟨by omega,h.1,by rw [←hl];omega⟩
   | t :: u :: ts,h=>simp [sameB] at h
 ·intro h
  cases hl:bs a.t with
  | nil=>rw [hl] at h;simp at h
  | cons c r =>
   rw [hl] at h
   simp only [List.getElem?_cons_zero,Bool.and_eq_true,decide_eq_true_eq,Bool.not_eq_true'] at h
   obtain ⟨⟨⟨h40,hb⟩,h37⟩,hT⟩:=h
   cases htk:Lx.tokR (c :: r) with
   | none=>rw [htk] at hT;simp at hT
   | some p =>
    obtain ⟨k,n⟩:=p
    rw [htk] at hT
    simp only [Option.map_some,Bool.and_eq_true,decide_eq_true_eq] at hT
    have hn:n=(c :: r).length:=by rw [←hl,hsz];omega
    subst hn
    rw [scan_one (by rw [←hl,hsz];omega) (by simp) ((skip_zero c r).2 ⟨hb,by simpa using h37⟩) htk]
    simp only [List.map_cons,List.map_nil,sameB,ofTok,Bool.and_true,Bool.and_eq_true,beq_iff_eq]
    exact ⟨hT.1,by have:=(htext (c :: r)).2 hl.symm;rwa [beq_iff_eq] at this⟩
end Go.Proofs.YtgjijidlaghlmaaGreatDoor
namespace Go.Proofs.YtgjijidlaghlmaaGreatDoor
open Go.RowKit
end Go.Proofs.YtgjijidlaghlmaaGreatDoor
namespace Go.Proofs.YtgjijidlaghlmaaGreatDoor
open Go.RowKit
end Go.Proofs.YtgjijidlaghlmaaGreatDoor
namespace Go.Proofs.YtgjijidlaghlmaaGreatDoor
open Go.RowKit
mutual
def Nd.dp:Nd→Nat
 | .mk _ _ l=>1+Nd.dpL l
def Nd.dpL:List Nd→Nat
 | []=>0
 | a :: l=>max (Nd.dp a) (Nd.dpL l)
end
end Go.Proofs.YtgjijidlaghlmaaGreatDoor
namespace Go.Proofs.YtgjijidlaghlmaaGreatDoor
open Go.RowKit
def NdL (w:World) (l:List Nd) (v:Value):Prop:=∃ k s v0 v1,NdR w (.mk k s l) v0 v1 v
theorem NdL.later {w w':World} (hb:Below w.heap.size w w') {l:List Nd} {v:Value} (h:NdL w l v):NdL w' l v:=by
 obtain ⟨k,s,v0,v1,h⟩:=h
 exact ⟨k,s,v0,v1,h.later hb⟩
theorem termL_iff:∀ (l:List Nd),termL l=true↔∀ i,(h:i < l.length)→termB l[i]=true
 | []=>by simp [termL]
 | a :: l=>by
  simp only [termL,Bool.and_eq_true,termL_iff l]
  constructor
  ·rintro ⟨h1,h2⟩ i hi
   cases i with
   | zero=>exact h1
   | succ i=>exact h2 i (by simpa using hi)
  ·intro h
   exact ⟨h 0 (by simp),fun i hi=>h (i+1) (by simpa using hi)⟩
end Go.Proofs.YtgjijidlaghlmaaGreatDoor
namespace Go.Proofs.YtgjijidlaghlmaaGreatDoor
open Go.RowKit
theorem termE_get:∀ {l:List Nd} (h:0 < l.length),termE l=termB (l[l.length - 1]'(by omega))
 | [a],_=>by simp [termE]
 | a :: b :: l,_=>by
  simp only [termE]
  rw [if_neg (by simp)]
  have:=termE_get (l:=b :: l) (by simp)
  rw [termE] at this
  rw [this]
  simp
end Go.Proofs.YtgjijidlaghlmaaGreatDoor
namespace Go.Proofs.YtgjijidlaghlmaaGreatDoor
open Go.RowKit
theorem formE_get:∀ {l:List Nd} (h:0 < l.length),formE l=formB (l[l.length - 1]'(by omega))
 | [a],_=>by simp [formE]
 | a :: b :: l,_=>by
  simp only [formE]
  rw [if_neg (by simp)]
  have:=formE_get (l:=b :: l) (by simp)
  rw [formE] at this
  rw [this]
  simp
end Go.Proofs.YtgjijidlaghlmaaGreatDoor
namespace Go.Proofs.YtgjijidlaghlmaaGreatDoor
open Go.RowKit
theorem typL_iff:∀ (l:List Nd),typL l=true↔∀ i,(h:i < l.length)→typB l[i]=true
 | []=>by simp [typL]
 | a :: l=>by
  simp only [typL,Bool.and_eq_true,typL_iff l]
  constructor
  ·rintro ⟨h1,h2⟩ i hi
   cases i with
   | zero=>exact h1
   | succ i=>exact h2 i (by simpa using hi)
  ·intro h
   exact ⟨h 0 (by simp),fun i hi=>h (i+1) (by simpa using hi)⟩
end Go.Proofs.YtgjijidlaghlmaaGreatDoor
namespace Go.Proofs.YtgjijidlaghlmaaGreatDoor
open Go.RowKit
theorem szL_take:∀ (l:List Nd) (i:Nat) (h:i < l.length),Nd.szL (l.take (i+1))=Nd.szL (l.take i)+(l[i]).sz
 | a :: l,0,_=>by simp [Nd.szL]
 | a :: l,i+1,h=>by
  have:=szL_take l i (by simpa using h)
  simp only [List.take_succ_cons,Nd.szL,List.getElem_cons_succ] at this ⊢
  omega
end Go.Proofs.YtgjijidlaghlmaaGreatDoor
namespace Go.Proofs.YtgjijidlaghlmaaGreatDoor
open Go.RowKit
def nameL:List Nd→Bool
 | []=>true
 | a :: l=>loneB a && nameL l
theorem nameL_iff:∀ (l:List Nd),nameL l=true↔∀ i,(h:i < l.length)→loneB l[i]=true
 | []=>by simp [nameL]
 | a :: l=>by
  simp only [nameL,Bool.and_eq_true,nameL_iff l]
  constructor
  ·rintro ⟨h1,h2⟩ i hi
   cases i with
   | zero=>exact h1
   | succ i=>exact h2 i (by simpa using hi)
  ·intro h
   exact ⟨h 0 (by simp),fun i hi=>h (i+1) (by simpa using hi)⟩
theorem NdL.take {w:World} {l:List Nd} {a:Option Addr} {n cap:Nat} (h:NdL w l (.slice a n cap)) (m:Nat) (hm:m≤l.length) (c:Nat) (hc:m≤c):NdL w (l.take m) (.slice a m c):=by
 obtain ⟨k,s,v0,v1,h⟩:=h
 cases h with
 | mk _ _ _ _ _ b o f0 f1 f2 hs hl hc0 ha h0 h1 h2 hr =>
  have e:(l.take m).length=m:=by rw [List.length_take];omega
  have:=NdR.mk (w:=w) k s (l.take m) a c b o f0 f1 f2 hs (by omega) (by omega) (fun hne=>ha (by rintro rfl;simp at hne))
   (fun i hi=>h0 i (by omega)) (fun i hi=>h1 i (by omega)) (fun i hi=>h2 i (by omega))
   (fun i hi=>by rw [List.getElem_take];exact hr i (by omega))
  rw [e] at this
  exact ⟨k,s,_,_,this⟩
end Go.Proofs.YtgjijidlaghlmaaGreatDoor
namespace Go.Proofs.YtgjijidlaghlmaaGreatDoor
open Go.RowKit
def modeB:Nd→Bool
 | .mk k s l=>decide (k=15) && (decide (l.length=0) && (decide (s=⟨#[105,110]⟩) || (decide (s=⟨#[111,117,116]⟩) || decide (s=⟨#[97,110,121]⟩))))
def modeL:List Nd→Bool
 | []=>true
 | a :: l=>modeB a && modeL l
theorem modeL_iff:∀ (l:List Nd),modeL l=true↔∀ i,(h:i < l.length)→modeB l[i]=true
 | []=>by simp [modeL]
 | a :: l=>by
  simp only [modeL,Bool.and_eq_true,modeL_iff l]
  constructor
  ·rintro ⟨h1,h2⟩ i hi
   cases i with
   | zero=>exact h1
   | succ i=>exact h2 i (by simpa using hi)
  ·intro h
   exact ⟨h 0 (by simp),fun i hi=>h (i+1) (by simpa using hi)⟩
end Go.Proofs.YtgjijidlaghlmaaGreatDoor
namespace Go.Proofs.YtgjijidlaghlmaaGreatDoor
open Go.RowKit
def typE:List Nd→Bool
 | []=>false
 | a :: l=>if l.isEmpty then typB a else typE l
theorem typE_get:∀ {l:List Nd} (h:0 < l.length),typE l=typB (l[l.length - 1]'(by omega))
 | [a],_=>by simp [typE]
 | a :: b :: l,_=>by
  simp only [typE]
  rw [if_neg (by simp)]
  have:=typE_get (l:=b :: l) (by simp)
  rw [typE] at this
  rw [this]
  simp
def itemB:Nd→Bool
 | .mk k s l =>
  if k=2∨k=14 then noneB s && (decide (1≤l.length) && nameL l)
  else if k=3 then noneB s && (decide (2≤l.length) && (nameL (l.take (l.length - 1)) && typE l))
  else nameB s && (if k=4∨k=5∨k=6 then typL l && decide (l.length≤8)
   else if k=7 then modeL l && decide (l.length≤8)
   else if k=8∨k=9∨k=10∨k=11 then decide (l.length=1) && formL l
   else if k=12∨k=13 then decide (l.length=0) else false)
end Go.Proofs.YtgjijidlaghlmaaGreatDoor
namespace Go.Proofs.YtgjijidlaghlmaaGreatDoor
open Go.RowKit
def itemL:List Nd→Bool
 | []=>true
 | a :: l=>itemB a && itemL l
theorem itemL_iff:∀ (l:List Nd),itemL l=true↔∀ i,(h:i < l.length)→itemB l[i]=true
 | []=>by simp [itemL]
 | a :: l=>by
  simp only [itemL,Bool.and_eq_true,itemL_iff l]
  constructor
  ·rintro ⟨h1,h2⟩ i hi
   cases i with
   | zero=>exact h1
   | succ i=>exact h2 i (by simpa using hi)
  ·intro h
   exact ⟨h 0 (by simp),fun i hi=>h (i+1) (by simpa using hi)⟩
def textB:Nd→Bool
 | .mk k s l=>decide (k=1) && (noneB s && itemL l)
def chkN (t:Nd):Int:=if 4000 < t.sz then 2 else if 100 < t.dp then 5 else if typB t || (termB t || (formB t || (itemB t || textB t))) then 0 else 21
end Go.Proofs.YtgjijidlaghlmaaGreatDoor
namespace Go.Proofs.YtgjijidlaghlmaaGreatDoor
open Go.RowKit
section
variable {P:Program} (w:World)
theorem row_shape {w:World} {base:Nat} {e:TypeId} {v:Value} {xs:List Value} (h:w.ownsRow base e 1 v xs.length xs):∃ a cap,v = .slice a xs.length cap:=by
 rcases h.2 with ⟨rfl,h0⟩ | ⟨g,cap,cur,rfl,_⟩
 ·exact ⟨none,0,by rw [h0]⟩
 ·exact ⟨_,_,rfl⟩
theorem row_keep {w w':World} {base:Nat} {e:TypeId} {v:Value} {xs:List Value} (h:w.ownsRow base e 1 v xs.length xs) (hk:∀ g,v.ownBlock=some g→w'.heap[g]?=w.heap[g]?):w'.ownsRow base e 1 v xs.length xs:=by
 refine ⟨h.1,?_⟩
 rcases h.2 with hn | ⟨g,cap,cur,hv,hb,hg,rest⟩
 ·exact .inl hn
 ·exact .inr ⟨g,cap,cur,hv,hb,(hk g (by rw [hv];rfl)).trans hg,rest⟩
theorem row_less {w w':World} {base:Nat} {e:TypeId} {g cap:Nat} {xs ys:List Value} (h:w.ownsRow base e 1 (.slice (some ⟨g,0,none⟩) xs.length cap) xs.length xs)
  (h':w'.ownsRow base e 1 (.slice (some ⟨g,0,none⟩) (xs++ys).length cap) (xs++ys).length (xs++ys)):w'.ownsRow base e 1 (.slice (some ⟨g,0,none⟩) xs.length cap) xs.length xs:=by
 refine ⟨h.1,?_⟩
 rcases h'.2 with ⟨h0,_⟩ | ⟨g',cap',cur,hv,hb,hg,hn,hm,hs,ht⟩
 ·cases h0
 ·cases hv
  refine .inr ⟨g,cap,cur,rfl,hb,hg,by rw [List.length_append] at hn;omega,hm,hs,?_⟩
  have:=congrArg (List.take (xs.length*1)) ht
  rw [List.take_take,Nat.min_eq_left (by rw [List.length_append];omega)] at this
  rw [this,Nat.mul_one,List.take_left]
theorem run_append_two (t ty:TypeId) (base:Nat) (e:TypeId) (i:TypeInfo) (z:Value) (bytes:Nat) (ht:P.underlying t=some (.slice e)) (hi:P.info? e=some i) (hz:i.zero=some z)
  (hsize:i.size=1) (hby:i.bytes=bytes) (hzs:z.cells.size=1)
  (v:Value) (xs:List Value) (hown:w.ownsRow base e 1 v xs.length xs)
  (ad:Addr) (c:Nat) (u:Value) (hnews:∀ j x,[u][j]?=some x→w.cell? (ad.add j)=some x) (h1:u.oneCell'=true)
  (h63:xs.length+1≤maxLen) (hbytes:(xs.length+1)*bytes≤140737488355328) (hbase:base≤w.heap.size) :
  ∃ g cap w',(Builtin.append_ #[t,t] ty #[v,.slice (some ad) 1 c]).run P w = .ok (.slice (some ⟨g,0,none⟩) (xs.length+1) cap) w' ∧
   w'.ownsRow base e 1 (.slice (some ⟨g,0,none⟩) (xs.length+1) cap) (xs.length+1) (xs++[u])∧w'.ownsRow base e 1 v xs.length xs∧w.grownBy w' v.ownBlock∧(v.ownBlock=some g∨w.heap.size≤g):=by
 have hone:∀ x∈[u],x.oneCell'=true:=fun x hx=>by rw [List.mem_singleton.1 hx];exact h1
 rcases hown.2 with ⟨rfl,h0⟩ | ⟨g,cap,cur,rfl,hb,hg,hn,hm,hs,htk⟩
 ·obtain ⟨g,cap,w',hr,h2,h3,h4,_⟩:=run_append_lies (P:=P) w t ty base e i z 1 bytes ht hi hz hsize hby hzs (by decide) (.slice none 0 0) xs.length xs hown ad 1 c [u] rfl hnews hone (by decide) h63 hbytes hbase _ rfl
  refine ⟨g,cap,w',hr,h2,?_,h3,?_⟩
  ·refine ⟨hown.1,.inl ⟨rfl,h0⟩⟩
  ·rcases h4 with h4 | h4
   ·exact .inl h4
   ·exact .inr (by omega)
 ·by_cases hroom:xs.length+1≤cap
  ·obtain ⟨w',hr,h2,h3⟩:=run_append_own_spare (P:=P) w base t ty e i 1 ht hi hsize g xs.length cap xs hown ad 1 c [u] rfl hnews hone hroom
   refine ⟨g,cap,w',hr,h2,row_less hown (ys:=[u]) (by rw [List.length_append];exact h2),h3,.inl rfl⟩
  ·have holds:∀ j x,xs[j]?=some x→w.cell? ((⟨g,0,none⟩:Addr).add j)=some x:=fun j x hx=>hown.cells (g:=g) rfl j x hx
   obtain ⟨v',w',hr,h2,h3⟩:=run_append_arg_grows (P:=P) w t ty e i z 1 bytes ht hi hz hsize hby hzs (by decide) ⟨g,0,none⟩ xs.length cap xs (by omega) holds ad 1 c [u] rfl hnews (by omega) h63 hbytes
   obtain ⟨g',cap',rfl,hge,_⟩:=h2.form (by omega)
   refine ⟨g',cap',w',hr,ownsRow_base h2 hbase,row_keep hown fun k hk=>?_,⟨h3.os,h3.tape,h3.output,h3.size,fun k hk _=>h3.block k hk (by simp)⟩,.inr hge⟩
   cases hk
   exact h3.block g (heap_lt hg) (by simp)
theorem wp_append_two {o:Oper} {a:Act} {K:Act→World→Prop} {Q:Exit→Act→World→Prop} (s x:Operand) (t:TypeId)
  (ho:o.op = .call { callee:=.builtin .append,args:=#[s,x],argTypes:=#[t,t] })
  (base:Nat) (e:TypeId) (i:TypeInfo) (z:Value) (bytes:Nat) (ht:P.underlying t=some (.slice e)) (hi:P.info? e=some i) (hz:i.zero=some z)
  (hsize:i.size=1) (hby:i.bytes=bytes) (hzs:z.cells.size=1)
  (v:Value) (xs:List Value) (hs:a.eval s=v) (hown:w.ownsRow base e 1 v xs.length xs)
  (ad:Addr) (c:Nat) (u:Value) (hx:a.eval x = .slice (some ad) 1 c) (hnews:∀ j x,[u][j]?=some x→w.cell? (ad.add j)=some x) (h1:u.oneCell'=true)
  (h63:xs.length+1≤maxLen) (hbytes:(xs.length+1)*bytes≤140737488355328) (hbase:base≤w.heap.size)
  (h:∀ g cap w',w'.ownsRow base e 1 (.slice (some ⟨g,0,none⟩) (xs.length+1) cap) (xs.length+1) (xs++[u])→w'.ownsRow base e 1 v xs.length xs→w.grownBy w' v.ownBlock→(v.ownBlock=some g∨w.heap.size≤g)→K (a.put o.dst (.slice (some ⟨g,0,none⟩) (xs.length+1) cap)) w'):o.wp P a w K Q:=by
 obtain ⟨g,cap,w',hr,h2,h3,h4,h5⟩:=run_append_two (P:=P) w t o.type base e i z bytes ht hi hz hsize hby hzs v xs hown ad c u hnews h1 h63 hbytes hbase
 unfold Oper.wp execOp
 simp only [ho,resolve,invoke,builtin,Sem.run_bind,Sem.run_pure,Result.andThen_ok,List.map_toArray,List.map_cons,List.map_nil,hs,hx,hr]
 exact h g cap w' h2 h3 h4 h5
theorem wpList_append_two {ops:Array Oper} {rest:List Oper} {o:Oper} {a:Act} {Q:Exit→Act→World→Prop} (hgd:o.guard=none) (s x:Operand) (t:TypeId)
  (ho:o.op = .call { callee:=.builtin .append,args:=#[s,x],argTypes:=#[t,t] })
  (base:Nat) (e:TypeId) (i:TypeInfo) (z:Value) (bytes:Nat) (ht:P.underlying t=some (.slice e)) (hi:P.info? e=some i) (hz:i.zero=some z)
  (hsize:i.size=1) (hby:i.bytes=bytes) (hzs:z.cells.size=1)
  (v:Value) (xs:List Value) (hs:a.eval s=v) (hown:w.ownsRow base e 1 v xs.length xs)
  (ad:Addr) (c:Nat) (u:Value) (hx:a.eval x = .slice (some ad) 1 c) (hnews:∀ j x,[u][j]?=some x→w.cell? (ad.add j)=some x) (h1:u.oneCell'=true)
  (h63:xs.length+1≤maxLen) (hbytes:(xs.length+1)*bytes≤140737488355328) (hbase:base≤w.heap.size)
  (h:∀ g cap w',w'.ownsRow base e 1 (.slice (some ⟨g,0,none⟩) (xs.length+1) cap) (xs.length+1) (xs++[u])→w'.ownsRow base e 1 v xs.length xs→w.grownBy w' v.ownBlock→(v.ownBlock=some g∨w.heap.size≤g)→wpList P ops Q rest (a.put o.dst (.slice (some ⟨g,0,none⟩) (xs.length+1) cap)) w'):wpList P ops Q (o :: rest) a w :=
 wpList_plain hgd fun _ hK=>wp_append_two w s x t ho base e i z bytes ht hi hz hsize hby hzs v xs hs hown ad c u hx hnews h1 h63 hbytes hbase fun g cap w' h2 h3 h4 h5=>hK _ _ (h g cap w' h2 h3 h4 h5)
theorem step_append_two {ops:Array Oper} {o:Oper} {a:Act} {K:Act→World→Prop} {Q:Exit→Act→World→Prop} {E:Prop} (hgd:o.guard=none) (s x:Operand) (t:TypeId)
  (ho:o.op = .call { callee:=.builtin .append,args:=#[s,x],argTypes:=#[t,t] })
  (base:Nat) (e:TypeId) (i:TypeInfo) (z:Value) (bytes:Nat) (ht:P.underlying t=some (.slice e)) (hi:P.info? e=some i) (hz:i.zero=some z)
  (hsize:i.size=1) (hby:i.bytes=bytes) (hzs:z.cells.size=1)
  (v:Value) (xs:List Value) (hs:a.eval s=v) (hown:w.ownsRow base e 1 v xs.length xs)
  (ad:Addr) (c:Nat) (u:Value) (hx:a.eval x = .slice (some ad) 1 c) (hnews:∀ j x,[u][j]?=some x→w.cell? (ad.add j)=some x) (h1:u.oneCell'=true)
  (h63:xs.length+1≤maxLen) (hbytes:(xs.length+1)*bytes≤140737488355328) (hbase:base≤w.heap.size)
  (h:∀ g cap w',w'.ownsRow base e 1 (.slice (some ⟨g,0,none⟩) (xs.length+1) cap) (xs.length+1) (xs++[u])→w'.ownsRow base e 1 v xs.length xs→w.grownBy w' v.ownBlock→(v.ownBlock=some g∨w.heap.size≤g)→K (a.put o.dst (.slice (some ⟨g,0,none⟩) (xs.length+1) cap)) w') :
  if Region.wanted o (yielded ops a.tmps)=true then Oper.wp P o a w K Q else E:=by
 have hw:Region.wanted o (yielded ops a.tmps)=true:=by simp [Region.wanted,hgd]
 rw [if_pos hw]
 exact wp_append_two w s x t ho base e i z bytes ht hi hz hsize hby hzs v xs hs hown ad c u hx hnews h1 h63 hbytes hbase h
end
end Go.Proofs.YtgjijidlaghlmaaGreatDoor
namespace Go.Proofs.YtgjijidlaghlmaaGreatDoor
structure It where
 d:Nat
 ins:List ByteArray
 wd:Bool
 t:Nd
def bindK (k:Int):Bool:=k==17 || (k==18 || k==19)
mutual
def preN (d:Nat) (ins:List ByteArray) (wd:Bool):Nd→List It
 | .mk k s l=>⟨d,ins,wd,.mk k s l⟩ :: preL (d+1) ins (if bindK k then ins++[s] else ins) (k==7) l
def preL (d:Nat) (ins il:List ByteArray) (wd:Bool):List Nd→List It
 | []=>[]
 | a :: l=>preN d (if l.isEmpty then il else ins) wd a++preL d ins il wd l
end
mutual
theorem preN_len (d:Nat) (ins:List ByteArray) (wd:Bool):∀ t:Nd,(preN d ins wd t).length=t.sz
 | .mk k s l=>by simp only [preN,Nd.sz,List.length_cons];rw [preL_len];omega
theorem preL_len (d:Nat) (ins il:List ByteArray) (wd:Bool):∀ l:List Nd,(preL d ins il wd l).length=Nd.szL l
 | []=>by simp only [preL,Nd.szL,List.length_nil]
 | a :: l=>by simp only [preL,Nd.szL,List.length_append];rw [preN_len,preL_len]
end
def lvs:List It→Nat
 | []=>0
 | x :: l=>max (x.d+1) (lvs l)
theorem lvs_append:∀ a b:List It,lvs (a++b)=max (lvs a) (lvs b)
 | [],b=>by simp [lvs]
 | x :: a,b=>by simp only [List.cons_append,lvs];rw [lvs_append a b];omega
theorem lvs_snoc (a:List It) (x:It):lvs (a++[x])=max (lvs a) (x.d+1):=by rw [lvs_append];simp [lvs]
mutual
theorem lvs_preN (d:Nat) (ins:List ByteArray) (wd:Bool):∀ t:Nd,lvs (preN d ins wd t)=d+t.dp
 | .mk k s l=>by
  simp only [preN,Nd.dp,lvs]
  have:=lvs_preL (d+1) ins (if bindK k then ins++[s] else ins) (k==7) l
  omega
theorem lvs_preL (d:Nat) (ins il:List ByteArray) (wd:Bool):∀ l:List Nd,max d (lvs (preL d ins il wd l))=d+Nd.dpL l
 | []=>by simp [preL,Nd.dpL,lvs]
 | a :: l=>by
  simp only [preL,Nd.dpL]
  rw [lvs_append,lvs_preN]
  have:=lvs_preL d ins il wd l
  omega
end
theorem preL_drop {d:Nat} {ins il:List ByteArray} {wd:Bool} {l:List Nd} {i:Nat} (h:i < l.length) :
  preL d ins il wd (l.drop i)=preN d (if i+1=l.length then il else ins) wd l[i]++preL d ins il wd (l.drop (i+1)):=by
 rw [List.drop_eq_getElem_cons h]
 simp only [preL]
 by_cases he:i+1=l.length
 ·rw [if_pos he,if_pos (by rw [List.isEmpty_iff,List.drop_eq_nil_iff];omega)]
 ·rw [if_neg he,if_neg (by rw [List.isEmpty_iff,List.drop_eq_nil_iff];omega)]
end Go.Proofs.YtgjijidlaghlmaaGreatDoor
namespace Go.Proofs.YtgjijidlaghlmaaGreatDoor
open Go.RowKit
set_option maxRecDepth 100000 in
set_option maxHeartbeats 400000 in
theorem isBinder_any (k:Int) (s:ByteArray) (a:Option Addr) (n cap:Nat) (w:World) :
  Calls Tryz.prog 216 #[.agg #[.int .i64 k,.string s,.slice a n cap]] w fun e w'=>e = .returned (.bool (bindK k))∧Below w.heap.size w w':=by
 have HB:=qh ((Below.refl w.heap.size w).alloc (Nat.le_refl _) (.cells #[.int .i64 k,.string s,.slice a n cap] 25))
 obtain ⟨R,hR⟩:∃ R,bindK k=R:=⟨_,rfl⟩
 have HR:=qh hR
 rw [hR]
 clear hR
 cases h1:(k==17) with
 | true =>
  have HS:Hid (R=true):=qh (by rw [←HR.out];unfold bindK;rw [h1];rfl)
  go_enter Tryz.func216,Tryz.ntmps216
  go_wp2
  go_ret
  exact ⟨by rw [HS.out];rfl,HB.out⟩
 | false =>
  cases h2:(k==18) with
  | true =>
   have HS:Hid (R=true):=qh (by rw [←HR.out];unfold bindK;rw [h1,h2];rfl)
   go_enter Tryz.func216,Tryz.ntmps216
   go_wp2
   go_ret
   exact ⟨by rw [HS.out];rfl,HB.out⟩
  | false =>
   cases h3:(k==19) with
   | true =>
    have HS:Hid (R=true):=qh (by rw [←HR.out];unfold bindK;rw [h1,h2,h3];rfl)
    go_enter Tryz.func216,Tryz.ntmps216
    go_wp2
    go_ret
    exact ⟨by rw [HS.out];rfl,HB.out⟩
   | false =>
    have HS:Hid (R=false):=qh (by rw [←HR.out];unfold bindK;rw [h1,h2,h3];rfl)
    go_enter Tryz.func216,Tryz.ntmps216
    go_wp2
    go_ret
    exact ⟨by rw [HS.out];rfl,HB.out⟩
theorem infoI64:(Tryz.prog.info? 3).map (fun i=>(i.zero,i.size,i.bytes))=some (some (.int .i64 0),1,8):=by kernel_rfl
theorem infoStr:(Tryz.prog.info? 9).map (fun i=>(i.zero,i.size,i.bytes))=some (some (.string ⟨#[]⟩),1,16):=by kernel_rfl
def RowI (n₁:Nat) (W:World) (v:Value) (ps:List Value):Prop:=W.ownsRow n₁ 3 1 v ps.length ps
def RowS (n₁:Nat) (W:World) (v:Value) (ss:List ByteArray):Prop:=W.ownsRow n₁ 9 1 v (ss.map Value.string).length (ss.map Value.string)
def RowP (W:World) (b:Nat) (v0 v1 v2:Value):Prop:=W.heap[b]?=some (.cells #[v0,v1,v2] 108 (0,0))
section
variable {W:World} {b:Nat} {v0 v1 v2:Value}
theorem RowP.cells (h:RowP W b v0 v1 v2):(W.cell? ⟨b,0,none⟩=some v0∧W.cell? ⟨b,1,none⟩=some v1∧W.cell? ⟨b,2,none⟩=some v2)∧W.frozen? ⟨b,0,none⟩=false∧W.frozen? ⟨b,1,none⟩=false∧W.frozen? ⟨b,2,none⟩=false:=by
 have h0:W.heap[b]?=some (.cells #[v0,v1,v2] 108 (0,0)):=h
 exact ⟨⟨cell_of_row _ _ _ _ _ _ h0,cell_of_row _ _ _ _ _ _ h0,cell_of_row _ _ _ _ _ _ h0⟩,by simp [World.frozen?,h0],by simp [World.frozen?,h0],by simp [World.frozen?,h0]⟩
theorem RowP.lt (h:RowP W b v0 v1 v2):b < W.heap.size:=heap_lt h
theorem RowP.put (h:RowP W b v0 v1 v2) (u0 u1 u2:Value):RowP (((W.setCell ⟨b,0,none⟩ u0).setCell ⟨b,1,none⟩ u1).setCell ⟨b,2,none⟩ u2) b u0 u1 u2:=by
 have h0:W.heap[b]?=some (.cells #[v0,v1,v2] 108 (0,0)):=h
 exact (setCell_row (setCell_row (setCell_row h0))).trans rfl
theorem ret_place {fn:Func} {t:Nat} {a:Act} {R:Ending→World→Prop} (h:RowP W b v0 v1 v2) (hr:fn.results=#[ResultVar.cell t 108]) (hd:a.defers=[]) (ha:(a.tmps[t]?).getD undef = .pointer (some ⟨b,0,none⟩))
  (hR:R (.returned (.agg #[v0,v1,v2])) W):bodyPost Tryz.prog fn R .ret a W:=by
 obtain ⟨⟨c0,c1,c2⟩,_⟩:=h.cells
 exact bodyPost_ret (v:=.agg #[v0,v1,v2]) (by simp [results,hr,go_sem,ha,c0,c1,c2]) hd hR
end
def DownO (n₁:Nat) (vp vi:Value) (ps:List Value) (ss:List ByteArray) (p:Value) (ss':List ByteArray) (wd:Bool) (W:World) (e:Ending) (W':World):Prop :=
 ∃ (ap ai:Option Addr) (cp ci:Nat),e = .returned (.agg #[.slice ap (ps++[p]).length cp,.slice ai ss'.length ci,.bool wd]) ∧
  RowI n₁ W' (.slice ap (ps++[p]).length cp) (ps++[p])∧RowS n₁ W' (.slice ai ss'.length ci) ss'∧RowI n₁ W' vp ps∧RowS n₁ W' vi ss∧W.heap.size≤W'.heap.size ∧
  (∀ b,b < W.heap.size→vp.ownBlock≠some b→vi.ownBlock≠some b→W'.heap[b]?=W.heap[b]?) ∧
  Below n₁ W W' ∧
  (∀ g,(Value.slice ap (ps++[p]).length cp).ownBlock=some g→vp.ownBlock=some g∨W.heap.size≤g) ∧
  (∀ g,(Value.slice ai ss'.length ci).ownBlock=some g→vi.ownBlock=some g∨W.heap.size≤g)
theorem cells1 (W:World) (u:Value) (t:TypeId) (n:Nat) (hn:n=W.heap.size):∀ (j:Nat) (x:Value),[u][j]?=some x→(W.alloc (.cells #[u] t)).cell? ((⟨n,0,none⟩:Addr).add j)=some x:=by
 intro j x hj
 have h0:j=0:=by
  rcases j with _ | j
  ·rfl
  ·simp at hj
 subst h0
 subst hn
 simp at hj
 subst hj
 have hadd:(⟨W.heap.size,0,none⟩:Addr).add 0=⟨W.heap.size,0,none⟩:=by unfold Addr.add;split <;> simp_all
 rw [hadd,World.cell?_alloc_at _ _ _ _ rfl]
 rfl
theorem cells1x (W:World) (u:Value) (t:TypeId) (o:Obj):∀ (j:Nat) (x:Value),[u][j]?=some x→((W.alloc (.cells #[u] t)).alloc o).drew.cell? ((⟨W.heap.size,0,none⟩:Addr).add j)=some x:=by
 intro j x hj
 have h0:j=0:=by
  rcases j with _ | j
  ·rfl
  ·simp at hj
 subst h0
 have hadd:(⟨W.heap.size,0,none⟩:Addr).add 0=⟨W.heap.size,0,none⟩:=by unfold Addr.add;split <;> simp_all
 have:=cells1 W u t _ rfl 0 x hj
 rw [hadd] at this ⊢
 exact (show ((W.alloc (.cells #[u] t)).alloc o).cell? _=_ from (World.cell?_alloc_past _ _ _ (by simp)).trans this)
def Mid (n₁ h:Nat) (W w6:World) (ap:Value) (ai:Value) (wd:Bool) (k:Int) (s:ByteArray) (v2:Value) (ss:List ByteArray):Prop :=
 RowP w6 h ap ai (.bool wd)∧Row3 w6 (h+1) (.int .i64 k) (.string s) v2∧RowP w6 (h+1+1) (.slice none 0 0) (.slice none 0 0) (.bool false)∧RowS n₁ w6 ai ss∧W.heap.size≤w6.heap.size ∧
  (∀ b,b < W.heap.size→ap.ownBlock≠some b→w6.heap[b]?=W.heap[b]?)∧Below n₁ W w6
theorem mid0D {n₁ h:Nat} {W w6:World} {ap u:Value} {t:TypeId} (hz:h+1+1+1≤W.heap.size) (hown:∀ g,ap.ownBlock=some g→n₁≤g∧g < h)
  (hg:((W.alloc (.cells #[u] t)).alloc (.cells #[.slice none 0 0,.slice none 0 0,.bool false] 108)).drew.grownBy w6 ap.ownBlock):RowP w6 (W.heap.size+1) (.slice none 0 0) (.slice none 0 0) (.bool false):=by
 refine (hg.block _ (show W.heap.size+1 < ((W.alloc (.cells #[u] t)).alloc (.cells #[.slice none 0 0,.slice none 0 0,.bool false] 108)).heap.size by simp) (fun e=>by have:=hown _ e.symm;omega)).trans ?_
 exact (show ((W.alloc (.cells #[u] t)).alloc (.cells #[.slice none 0 0,.slice none 0 0,.bool false] 108)).heap[_]?=_ from alloc_at (by simp))
theorem rows_apart {W:World} {n₁:Nat} {vp vi:Value} {ps:List Value} {ss:List ByteArray} (h:RowI n₁ W vp ps) (h':RowS n₁ W vi ss):∀ g,vp.ownBlock=some g→vi.ownBlock≠some g:=by
 intro g h1 h2
 rcases h.2 with ⟨rfl,_⟩ | ⟨g1,_,_,rfl,_,e1,_⟩
 ·cases h1
 ·rcases h'.2 with ⟨rfl,_⟩ | ⟨g2,_,_,rfl,_,e2,_⟩
  ·cases h2
  ·simp only [Value.ownBlock,Option.some.injEq] at h1 h2
   rw [h1] at e1
   rw [h2] at e2
   rw [e1] at e2
   exact absurd (Obj.cells.inj (Option.some.inj e2)).2.1 (by decide)
theorem cells1y (W:World) (u:Value) (t:TypeId) (o:Obj):∀ (j:Nat) (x:Value),[u][j]?=some x→((W.alloc o).alloc (.cells #[u] t)).drew.cell? ((⟨W.heap.size+1,0,none⟩:Addr).add j)=some x :=
 fun j x hj=>(show ((W.alloc o).alloc (.cells #[u] t)).cell? _=_ from cells1 (W.alloc o) u t (W.heap.size+1) (by simp) j x hj)
theorem mid0E {n₁ h:Nat} {W w6:World} {ap u:Value} {t:TypeId} (hz:h+1+1+1≤W.heap.size) (hown:∀ g,ap.ownBlock=some g→n₁≤g∧g < h)
  (hg:((W.alloc (.cells #[.slice none 0 0,.slice none 0 0,.bool false] 108)).alloc (.cells #[u] t)).drew.grownBy w6 ap.ownBlock):RowP w6 W.heap.size (.slice none 0 0) (.slice none 0 0) (.bool false):=by
 refine (hg.block _ (show W.heap.size < ((W.alloc (.cells #[.slice none 0 0,.slice none 0 0,.bool false] 108)).alloc (.cells #[u] t)).heap.size by simp;omega) (fun e=>by have:=hown _ e.symm;omega)).trans ?_
 exact (show ((W.alloc (.cells #[.slice none 0 0,.slice none 0 0,.bool false] 108)).alloc (.cells #[u] t)).heap[_]?=_ from (Below.heap_alloc _ _ _ (by simp)).trans (World.alloc_heap_new _ _))
structure MidV (n₁ h:Nat) (W V:World) (D:Nat) (v' vp vi:Value) (ps:List Value) (ss:List ByteArray) (p:Value) (wd k7:Bool) (k:Int) (s:ByteArray) (v2:Value):Prop where
 d:RowP V D v' vi (.bool k7)
 a:RowP V h vp vi (.bool wd)
 n:Row3 V (h+1) (.int .i64 k) (.string s) v2
 r:RowP V (h+1+1) (.slice none 0 0) (.slice none 0 0) (.bool false)
 q:RowI n₁ V v' (ps++[p])
 p:RowI n₁ V vp ps
 s:RowS n₁ V vi ss
 z:h+1+1+1≤D
 k:∀ b,b < h→vp.ownBlock≠some b→V.heap[b]?=W.heap[b]?
 o:∀ g,v'.ownBlock=some g→vp.ownBlock=some g∨h≤g
 x:Below n₁ W V
theorem rowI_not {n₁:Nat} {w:World} {v:Value} {ps:List Value} {D:Nat} {x y z:Value} (h:RowI n₁ w v ps) (hD:RowP w D x y z):∀ g,v.ownBlock=some g→g≠D:=by
 intro g h1 e
 subst e
 rcases h.2 with ⟨rfl,_⟩ | ⟨g1,_,_,rfl,_,e1,_⟩
 ·cases h1
 ·simp only [Value.ownBlock,Option.some.injEq] at h1
  rw [h1] at e1
  have e2:w.heap[g]?=some (.cells #[x,y,z] 108 (0,0)):=hD
  rw [e1] at e2
  exact absurd (Obj.cells.inj (Option.some.inj e2)).2.1 (by decide)
theorem rowS_not {n₁:Nat} {w:World} {v:Value} {ps:List ByteArray} {D:Nat} {x y z:Value} (h:RowS n₁ w v ps) (hD:RowP w D x y z):∀ g,v.ownBlock=some g→g≠D:=by
 intro g h1 e
 subst e
 rcases h.2 with ⟨rfl,_⟩ | ⟨g1,_,_,rfl,_,e1,_⟩
 ·cases h1
 ·simp only [Value.ownBlock,Option.some.injEq] at h1
  rw [h1] at e1
  have e2:w.heap[g]?=some (.cells #[x,y,z] 108 (0,0)):=hD
  rw [e1] at e2
  exact absurd (Obj.cells.inj (Option.some.inj e2)).2.1 (by decide)
theorem mid2 {n₁ h:Nat} {W W3 w6:World} {D:Nat} {v' vp vi:Value} {ps:List Value} {ss:List ByteArray} {p:Value} {wd k7:Bool} {k:Int} {s:ByteArray} {v2:Value} (hn:n₁≤h) (hx:Below n₁ W W3) (hz3:h+1+1+1≤W3.heap.size) (hk3:∀ b,b < h→W3.heap[b]?=W.heap[b]?)
  (M:Mid n₁ h W3 w6 vp vi wd k s v2 ss) (hD:RowP w6 D (.slice none 0 0) (.slice none 0 0) (.bool false)) (hDz:h+1+1+1≤D) (Q:RowI n₁ w6 v' (ps++[p])) (P:RowI n₁ w6 vp ps) (o:∀ g,v'.ownBlock=some g→vp.ownBlock=some g∨h≤g) :
  MidV n₁ h W (((w6.setCell ⟨D,0,none⟩ v').setCell ⟨D,1,none⟩ vi).setCell ⟨D,2,none⟩ (.bool k7)) D v' vp vi ps ss p wd k7 k s v2:=by
 obtain ⟨m1,m2,m3,m4,m5,m6,m7⟩:=M
 have far:∀ b,b≠D→(((w6.setCell ⟨D,0,none⟩ v').setCell ⟨D,1,none⟩ vi).setCell ⟨D,2,none⟩ (.bool k7)).heap[b]?=w6.heap[b]?:=fun b hb =>
  (Below.heap_setCell _ _ _ _ (by simp only;exact hb)).trans ((Below.heap_setCell _ _ _ _ (by simp only;exact hb)).trans (Below.heap_setCell _ _ _ _ (by simp only;exact hb)))
 exact ⟨hD.put _ _ _,(far _ (by omega)).trans m1,(far _ (by omega)).trans m2,(far _ (by omega)).trans m3,row_keep Q fun g e=>far g (rowI_not Q hD g e),row_keep P fun g e=>far g (rowI_not P hD g e),row_keep m4 fun g e=>far g (rowS_not m4 hD g e),hDz,
  fun b hb hne=>(far b (by omega)).trans ((m6 b (by omega) hne).trans (hk3 b hb)),o,(((hx.trans m7).setCell (p:=⟨D,0,none⟩) (by simp only;omega) _).setCell (p:=⟨D,1,none⟩) (by simp only;omega) _).setCell (p:=⟨D,2,none⟩) (by simp only;omega) _⟩
theorem mid1 {n₁ h:Nat} {W W3 w6:World} {v' vp vi:Value} {ps:List Value} {ss:List ByteArray} {p:Value} {wd k7:Bool} {k:Int} {s:ByteArray} {v2:Value} (hn:n₁≤h) (hx:Below n₁ W W3) (hz3:h+1+1+1≤W3.heap.size) (hk3:∀ b,b < h→W3.heap[b]?=W.heap[b]?)
  (M:Mid n₁ h W3 w6 vp vi wd k s v2 ss) (Q:RowI n₁ w6 v' (ps++[p])) (P:RowI n₁ w6 vp ps) (o:∀ g,v'.ownBlock=some g→vp.ownBlock=some g∨h≤g) :
  MidV n₁ h W (w6.alloc (.cells #[v',vi,.bool k7] 108)) w6.heap.size v' vp vi ps ss p wd k7 k s v2:=by
 obtain ⟨m1,m2,m3,m4,m5,m6,m7⟩:=M
 have al:∀ b,b < w6.heap.size→(w6.alloc (.cells #[v',vi,.bool k7] 108)).heap[b]?=w6.heap[b]?:=fun b hb=>Below.heap_alloc _ _ _ hb
 exact ⟨World.alloc_heap_new _ _,(al _ m1.lt).trans m1,(al _ m2.lt).trans m2,(al _ m3.lt).trans m3,row_keep Q fun g e=>al g (World.ownsRow.lt Q g e).2,row_keep P fun g e=>al g (World.ownsRow.lt P g e).2,row_keep m4 fun g e=>al g (World.ownsRow.lt m4 g e).2,by omega,fun b hb hne=>(al b (by omega)).trans ((m6 b (by omega) hne).trans (hk3 b hb)),o,(hx.trans m7).alloc (by omega) _⟩
theorem MidV.later {n₁ h:Nat} {W V V':World} {D:Nat} {v' vp vi:Value} {ps:List Value} {ss:List ByteArray} {p:Value} {wd k7:Bool} {k:Int} {s:ByteArray} {v2:Value} (M:MidV n₁ h W V D v' vp vi ps ss p wd k7 k s v2) (hb:Below V.heap.size V V') (hh:h≤V.heap.size) (hn:n₁≤h):MidV n₁ h W V' D v' vp vi ps ss p wd k7 k s v2 :=
 ⟨(hb.block _ M.d.lt).trans M.d,(hb.block _ M.a.lt).trans M.a,(hb.block _ M.n.lt).trans M.n,(hb.block _ M.r.lt).trans M.r,row_keep M.q fun g e=>hb.block g (World.ownsRow.lt M.q g e).2,row_keep M.p fun g e=>hb.block g (World.ownsRow.lt M.p g e).2,row_keep M.s fun g e=>hb.block g (World.ownsRow.lt M.s g e).2,M.z,fun b h1 h2=>(hb.block b (by omega)).trans (M.k b h1 h2),M.o,M.x.trans (hb.mono (by omega))⟩
theorem down_of {n₁ h:Nat} {W V F:World} {D:Nat} {g cap:Nat} {vp vi:Value} {ps:List Value} {ss:List ByteArray} {p:Value} {wd k7:Bool} {k:Int} {s:ByteArray} {v2:Value} (M:MidV n₁ h W V D (.slice (some ⟨g,0,none⟩) (ps++[p]).length cap) vp vi ps ss p wd k7 k s v2) (hh:W.heap.size=h)
  (hF:∀ b,b < V.heap.size→b≠D→b≠h+1+1→vi.ownBlock≠some b→F.heap[b]?=V.heap[b]?) (hsz:V.heap.size≤F.heap.size) (hx:Below n₁ V F) {ai:Option Addr} {ci:Nat} {ss':List ByteArray} (hv:RowS n₁ F (.slice ai ss'.length ci) ss') (hvi:RowS n₁ F vi ss)
  (hown:∀ g,vp.ownBlock=some g→n₁≤g∧g < h) (hap:∀ g,vp.ownBlock=some g→vi.ownBlock≠some g) (ho:∀ g,(Value.slice ai ss'.length ci).ownBlock=some g→vi.ownBlock=some g∨W.heap.size≤g) :
  DownO n₁ vp vi ps ss p ss' k7 W (.returned (.agg #[.slice (some ⟨g,0,none⟩) (ps++[p]).length cap,.slice ai ss'.length ci,.bool k7])) F:=by
 have l1:=M.r.lt
 have hz:=M.z
 refine ⟨_,_,_,_,rfl,?_,hv,?_,hvi,by omega,fun b hb h1 h2=>?_,M.x.trans hx,fun g' e=>by rw [hh];exact M.o g' e,ho⟩
 ·exact row_keep M.q fun g' e=>hF g' (World.ownsRow.lt M.q g' e).2 (rowI_not M.q M.d g' e) (rowI_not M.q M.r g' e) (rows_apart M.q M.s g' e)
 ·exact row_keep M.p fun g' e=>hF g' (World.ownsRow.lt M.p g' e).2 (by have:=hown g' e;omega) (by have:=hown g' e;omega) (hap g' e)
 ·exact (hF b (by omega) (by omega) (by omega) h2).trans (M.k b (by omega) h1)
def Base (n₁ h:Nat) (W3:World) (vp:Value) (ps:List Value) (w:World):Prop:=(∀ b,b < h+1+1+1→vp.ownBlock≠some b→w.heap[b]?=W3.heap[b]?)∧RowI n₁ w vp ps∧h+1+1+1≤w.heap.size∧Below n₁ W3 w
section
variable {n₁ h:Nat} {W3:World} {vp vi u:Value} {ps:List Value} {w w':World}
abbrev Sb (n₁ h:Nat) (W3:World) (vp vi u:Value) (ps:List Value) (w:World):Prop:=w.cell? ⟨h,0,none⟩=some vp∧w.cell? ⟨h,1,none⟩=some vi∧w.cell? ⟨h+1,0,none⟩=some u∧Hid (Base n₁ h W3 vp ps w)
theorem Sb_of (hk:∀ b,b < h+1+1+1→vp.ownBlock≠some b→w'.heap[b]?=w.heap[b]?) (hr:RowI n₁ w' vp ps) (hz:w.heap.size≤w'.heap.size) (hx:Below n₁ w w') (hown:∀ g,vp.ownBlock=some g→n₁≤g∧g < h) (H:Sb n₁ h W3 vp vi u ps w):Sb n₁ h W3 vp vi u ps w':=by
 obtain ⟨c0,c1,c2,hb⟩:=H
 have far:∀ b,h≤b→vp.ownBlock≠some b:=fun b hb e=>by have:=hown b e;omega
 exact ⟨(World.cell?_of_block (hk h (by omega) (far _ (by omega)))).trans c0,(World.cell?_of_block (hk h (by omega) (far _ (by omega)))).trans c1,(World.cell?_of_block (hk (h+1) (by omega) (far _ (by omega)))).trans c2,
  qh ⟨fun b hb1 hb2=>(hk b hb1 hb2).trans (hb.out.1 b hb1 hb2),hr,Nat.le_trans hb.out.2.2.1 hz,hb.out.2.2.2.trans hx⟩⟩
theorem Sb_alloc {o:Obj} (hn:n₁≤h) (hown:∀ g,vp.ownBlock=some g→n₁≤g∧g < h) (H:Sb n₁ h W3 vp vi u ps w):Sb n₁ h W3 vp vi u ps (w.alloc o) :=
 Sb_of (fun b hb _=>Below.heap_alloc _ _ _ (by have:=H.2.2.2.out.2.2.1;omega)) (row_keep H.2.2.2.out.2.1 fun g e=>Below.heap_alloc _ _ _ (by have:=hown g e;have:=H.2.2.2.out.2.2.1;omega)) (by simp) ((Below.refl _ w).alloc (by have:=H.2.2.2.out.2.2.1;omega) _) hown H
theorem Sb_drew (H:Sb n₁ h W3 vp vi u ps w):Sb n₁ h W3 vp vi u ps w.drew:=⟨H.1,H.2.1,H.2.2.1,qh ⟨H.2.2.2.out.1,H.2.2.2.out.2.1,H.2.2.2.out.2.2.1,H.2.2.2.out.2.2.2.drew⟩⟩
theorem Sb_undrew (H:Sb n₁ h W3 vp vi u ps w.drew):Sb n₁ h W3 vp vi u ps w:=⟨H.1,H.2.1,H.2.2.1,qh ⟨H.2.2.2.out.1,H.2.2.2.out.2.1,H.2.2.2.out.2.2.1,⟨H.2.2.2.out.2.2.2.os,H.2.2.2.out.2.2.2.tape,H.2.2.2.out.2.2.2.output,H.2.2.2.out.2.2.2.size,H.2.2.2.out.2.2.2.block⟩⟩⟩
theorem Sb_allocd {o:Obj} (hn:n₁≤h) (hown:∀ g,vp.ownBlock=some g→n₁≤g∧g < h) (H:Sb n₁ h W3 vp vi u ps w.drew):Sb n₁ h W3 vp vi u ps (w.alloc o).drew:=Sb_drew (Sb_alloc hn hown (Sb_undrew H))
theorem Sb_grown (hn:n₁≤h) (hown:∀ g,vp.ownBlock=some g→n₁≤g∧g < h) (hg:w.grownBy w' vp.ownBlock) (hr:RowI n₁ w' vp ps) (H:Sb n₁ h W3 vp vi u ps w):Sb n₁ h W3 vp vi u ps w' :=
 Sb_of (fun b hb hne=>hg.block b (by have:=H.2.2.2.out.2.2.1;omega) (fun e=>hne e.symm)) hr hg.size ((Below.refl _ w).grown hg (by have:=H.2.2.2.out.2.2.1;omega) (fun k e=>(hown k e).1)) hown H
theorem Sb_set3 {D:Nat} {u0 u1 u2:Value} (hn:n₁≤h) (hown:∀ g,vp.ownBlock=some g→n₁≤g∧g < h) (hD:h+1+1+1≤D) (H:Sb n₁ h W3 vp vi u ps w):Sb n₁ h W3 vp vi u ps (((w.setCell ⟨D,0,none⟩ u0).setCell ⟨D,1,none⟩ u1).setCell ⟨D,2,none⟩ u2):=by
 have far:∀ b,b≠D→(((w.setCell ⟨D,0,none⟩ u0).setCell ⟨D,1,none⟩ u1).setCell ⟨D,2,none⟩ u2).heap[b]?=w.heap[b]?:=fun b hb =>
  (Below.heap_setCell _ _ _ _ (by simp only;exact hb)).trans ((Below.heap_setCell _ _ _ _ (by simp only;exact hb)).trans (Below.heap_setCell _ _ _ _ (by simp only;exact hb)))
 exact Sb_of (fun b hb _=>far b (by omega)) (row_keep H.2.2.2.out.2.1 fun g e=>far g (by have:=hown g e;omega)) (by simp) ((((Below.refl _ w).setCell (p:=⟨D,0,none⟩) (by simp only;omega) _).setCell (p:=⟨D,1,none⟩) (by simp only;omega) _).setCell (p:=⟨D,2,none⟩) (by simp only;omega) _) hown H
theorem Sb_row (H:Sb n₁ h W3 vp vi u ps w):RowI n₁ w vp ps:=H.2.2.2.out.2.1
theorem Sb_mid {wd:Bool} {k:Int} {s:ByteArray} {v2:Value} {ss:List ByteArray} (hz:W3.heap.size=h+1+1+1) (hown:∀ g,vp.ownBlock=some g→n₁≤g∧g < h)
  (hA:RowP W3 h vp vi (.bool wd)) (hN:Row3 W3 (h+1) (.int .i64 k) (.string s) v2) (hR:RowP W3 (h+1+1) (.slice none 0 0) (.slice none 0 0) (.bool false)) (hS:RowS n₁ W3 vi ss) (hap:∀ g,vp.ownBlock=some g→vi.ownBlock≠some g)
  (H:Sb n₁ h W3 vp vi u ps w):Mid n₁ h W3 w vp vi wd k s v2 ss:=by
 have hb:=H.2.2.2.out
 have far:∀ b,h≤b→vp.ownBlock≠some b:=fun b hb e=>by have:=hown b e;omega
 exact ⟨(hb.1 h (by omega) (far _ (by omega))).trans hA,(hb.1 _ (by omega) (far _ (by omega))).trans hN,(hb.1 _ (by omega) (far _ (by omega))).trans hR,row_keep hS fun g e=>hb.1 g (by have:=(World.ownsRow.lt hS g e).2;omega) (fun e2=>hap g e2 e),by have:=hb.2.2.1;omega,fun b h1 h2=>hb.1 b (by omega) h2,hb.2.2.2⟩
end
theorem cells1d (W:World) (u:Value) (t:TypeId):∀ (j:Nat) (x:Value),[u][j]?=some x→(W.alloc (.cells #[u] t)).drew.cell? ((⟨W.heap.size,0,none⟩:Addr).add j)=some x :=
 fun j x hj=>(show (W.alloc (.cells #[u] t)).cell? _=_ from cells1 W u t _ rfl j x hj)
theorem rowI_snoc {n₁:Nat} {w:World} {g cap:Nat} {ps:List Value} {p:Value} (h:w.ownsRow n₁ 3 1 (.slice (some ⟨g,0,none⟩) (ps.length+1) cap) (ps.length+1) (ps++[p])):RowI n₁ w (.slice (some ⟨g,0,none⟩) (ps.length+1) cap) (ps++[p]):=by
 have e:(ps++[p]).length=ps.length+1:=by simp
 unfold RowI
 rw [e]
 exact h
theorem rowS_snoc {n₁:Nat} {w:World} {g cap:Nat} {ss:List ByteArray} {x:ByteArray} (h:w.ownsRow n₁ 9 1 (.slice (some ⟨g,0,none⟩) ((ss.map Value.string).length+1) cap) ((ss.map Value.string).length+1) (ss.map Value.string++[.string x])):RowS n₁ w (.slice (some ⟨g,0,none⟩) (ss++[x]).length cap) (ss++[x]):=by
 unfold RowS
 have e1:(ss++[x]).map Value.string=ss.map Value.string++[.string x]:=by simp
 have e2:((ss++[x]).map Value.string).length=(ss.map Value.string).length+1:=by simp
 have e3:(ss++[x]).length=(ss.map Value.string).length+1:=by simp
 rw [e2,e3,e1]
 exact h
theorem own_or {vp:Value} {g n cap h z:Nat} (hg:vp.ownBlock=some g∨z≤g) (hz:h≤z):∀ g',(Value.slice (some ⟨g,0,none⟩) n cap).ownBlock=some g'→vp.ownBlock=some g'∨h≤g':=by
 intro g' e
 simp only [Value.ownBlock,Option.some.injEq] at e
 subst e
 rcases hg with hg | hg
 ·exact .inl hg
 ·exact .inr (Nat.le_trans hz hg)
set_option maxRecDepth 100000 in
set_option maxHeartbeats 2000000 in
theorem below_any (n₁:Nat) (k:Int) (s:ByteArray) (a:Option Addr) (len cap i:Nat) (ap ai:Option Addr) (cp ci:Nat) (ps:List Value) (ss:List ByteArray) (wd:Bool) (W:World) (hn:n₁≤W.heap.size)
  (hp:RowI n₁ W (.slice ap ps.length cp) ps) (hs:RowS n₁ W (.slice ai ss.length ci) ss) (hpl:ps.length≤100000) (hsl:ss.length≤100000) (hlen:len≤maxLen) (_hi:i < len) (V:Bool) (hV:(bindK k && decide (i+1=len))=V) (ss':List ByteArray) (hss:(if V=true then ss++[s] else ss)=ss') :
  Calls Tryz.prog 164 #[.agg #[.slice ap ps.length cp,.slice ai ss.length ci,.bool wd],.agg #[.int .i64 k,.string s,.slice a len cap],.int .i64 i] W
   (DownO n₁ (.slice ap ps.length cp) (.slice ai ss.length ci) ps ss (.int .i64 i) ss' (k==7) W):=by
 unfold maxLen at hlen
 obtain ⟨iI,hI,hIz,hIs,hIb⟩:=info_parts infoI64
 obtain ⟨iS,hS,hSz,hSs,hSb⟩:=info_parts infoStr
 have CB:=qh (fun w=>isBinder_any k s a len cap w)
 have hap:=qh (rows_apart hp hs)
 have HX0:=qh hss
 have HL1:Hid ((ps++[Value.int .i64 (i:Int)]).length=ps.length+1):=qh (by simp)
 clear hss
 obtain ⟨h,hh⟩:∃ h,W.heap.size=h:=⟨_,rfl⟩
 have hownp:∀ g,(Value.slice ap ps.length cp).ownBlock=some g→n₁≤g∧g < h:=fun g e=>by rw [←hh];exact World.ownsRow.lt hp g e
 have howns:∀ g,(Value.slice ai ss.length ci).ownBlock=some g→n₁≤g∧g < h:=fun g e=>by rw [←hh];exact World.ownsRow.lt hs g e
 rw [hh] at hn
 obtain ⟨R,hR⟩:∃ R,bindK k=R:=⟨_,rfl⟩
 rw [hR] at CB hV
 obtain ⟨K7,h7⟩:∃ K7,(k==7)=K7:=⟨_,rfl⟩
 go_enter Tryz.func164,Tryz.ntmps164
 go_wp2_with fail
 obtain ⟨W3,hW3⟩:∃ W3,((W.alloc (.cells #[.slice ap ps.length cp,.slice ai ss.length ci,.bool wd] 108)).alloc (.cells #[.int .i64 k,.string s,.slice a len cap] 25)).alloc (.cells #[.slice none 0 0,.slice none 0 0,.bool false] 108)=W3:=⟨_,rfl⟩
 have z3:W3.heap.size=h+1+1+1:=by rw [←hW3];simp [hh]
 have k3:∀ b,b < h→W3.heap[b]?=W.heap[b]?:=fun b hb=>by
  rw [←hW3]
  exact (Below.heap_alloc _ _ _ (by simp only [World.size_alloc];omega)).trans ((Below.heap_alloc _ _ _ (by simp only [World.size_alloc];omega)).trans (Below.heap_alloc _ _ _ (by omega)))
 have A3:RowP W3 h (.slice ap ps.length cp) (.slice ai ss.length ci) (.bool wd):=by
  rw [←hW3,←hh];exact (Below.heap_alloc _ _ _ (by simp only [World.size_alloc];omega)).trans ((Below.heap_alloc _ _ _ (by simp only [World.size_alloc];omega)).trans (World.alloc_heap_new _ _))
 have N3:Row3 W3 (h+1) (.int .i64 k) (.string s) (.slice a len cap):=by
  rw [←hW3,←hh];exact (Below.heap_alloc _ _ _ (by simp only [World.size_alloc];omega)).trans (alloc_at (by simp))
 have R3:RowP W3 (h+1+1) (.slice none 0 0) (.slice none 0 0) (.bool false):=by
  rw [←hW3,←hh];exact alloc_at (by simp)
 have P3:RowI n₁ W3 (.slice ap ps.length cp) ps:=row_keep hp fun g hg=>k3 g (by have:=hownp g hg;omega)
 have S3:RowS n₁ W3 (.slice ai ss.length ci) ss:=row_keep hs fun g hg=>k3 g (by have:=howns g hg;omega)
 rw [hW3]
 have HW3:=qh k3
 have HB3:Hid (Below n₁ W W3):=qh (by rw [←hW3];exact (((Below.refl _ W).alloc (by omega) _).alloc (by simp only [World.size_alloc];omega) _).alloc (by simp only [World.size_alloc];omega) _)
 have Z3:=qh z3
 have HA3:=qh A3
 have HN3:=qh N3
 have HR3:=qh R3
 have HP3:=qh P3
 have HS3:=qh S3
 have HH:=qh hh
 have H7:=qh h7
 have HV:=qh hV
 have HR:=qh hR
 obtain ⟨⟨a0,a1,a2⟩,_⟩:=A3.cells
 obtain ⟨⟨b0,b1,b2⟩,_⟩:=N3.cells
 clear hW3 k3 z3 A3 N3 R3 P3 S3 hh hV hR hp hs
 have a0':=fun o=>(World.cell?_alloc_past (w:=W3) o h 0 HA3.out.lt).trans a0
 have a1':=fun o=>(World.cell?_alloc_past (w:=W3) o h 1 HA3.out.lt).trans a1
 have b0':=fun o=>(World.cell?_alloc_past (w:=W3) o (h+1) 0 HN3.out.lt).trans b0
 have a0'':=fun o o'=>(World.cell?_alloc_past (w:=W3.alloc o) o' h 0 (by have:=HA3.out.lt;simp;omega)).trans (a0' o)
 have a1'':=fun o o'=>(World.cell?_alloc_past (w:=W3.alloc o) o' h 1 (by have:=HA3.out.lt;simp;omega)).trans (a1' o)
 have b0'':=fun o o'=>(World.cell?_alloc_past (w:=W3.alloc o) o' (h+1) 0 (by have:=HN3.out.lt;simp;omega)).trans (b0' o)
 go_upto_region 1 with fail
 go_cut [7] (fun v7 wx=>∃ D g cap',v7 = .pointer (some ⟨D,0,none⟩)∧Hid (MidV n₁ h W wx D (.slice (some ⟨g,0,none⟩) (ps++[Value.int .i64 i]).length cap') (.slice ap ps.length cp) (.slice ai ss.length ci) ps ss (Value.int .i64 i) wd K7 k s (.slice a len cap)))
 case first =>
  have S0:Sb n₁ h W3 (.slice ap ps.length cp) (.slice ai ss.length ci) (.int .i64 k) ps W3:=⟨a0,a1,b0,qh ⟨fun _ _ _=>rfl,HP3.out,by have:=Z3.out;omega,Below.refl _ _⟩⟩
  have S1:=Sb_drew S0
  clear a0 a1 a2 b0 b1 b2
  go_region_held3 (fun w'=>w'.cell? ⟨h,0,none⟩=some (.slice ap ps.length cp)∧w'.cell? ⟨h,1,none⟩=some (.slice ai ss.length ci)∧w'.cell? ⟨h+1,0,none⟩=some (.int .i64 k)∧Hid (Base n₁ h W3 (.slice ap ps.length cp) ps w'))
   (first | with_reducible exact S1 | with_reducible exact S6 | (with_reducible refine Sb_allocd hn hownp ?_;with_reducible assumption) | (with_reducible refine Sb_alloc hn hownp ?_;with_reducible assumption) | exact Sb_set3 hn hownp (by have:=Z3.out;have:=S6.2.2.2.out.2.2.1;omega) S6 | exact Sb_set3 hn hownp (by have:=Z3.out;have:=S6.2.2.2.out.2.2.1;omega) (Sb_alloc hn hownp S6))
   (first
    | (refine step_append_two _ rfl _ _ 60 rfl n₁ 3 iI _ 8 Tryz.underlying60 hI hIz hIs hIb rfl (.slice ap ps.length cp) ps rfl (Sb_row (by with_reducible assumption)) _ _ (.int .i64 i) rfl (by first | with_reducible exact cells1d _ _ _ | with_reducible exact cells1x _ _ _ _ | with_reducible exact cells1y _ _ _ _) rfl (by unfold maxLen;omega) (by omega) (by have:=Z3.out;simp;omega) ?_;intro g6 cap6 w6 Q6 P6 G6 hg6;have S6:=Sb_grown hn hownp G6 P6 (by with_reducible assumption);first | (with_reducible have D6:=(mid0D (Nat.le_of_eq Z3.out.symm) hownp G6).cells;obtain ⟨⟨f0,f1,f2⟩,f3,f4,f5⟩:=D6) | (with_reducible have D6:=(mid0E (Nat.le_of_eq Z3.out.symm) hownp G6).cells;obtain ⟨⟨f0,f1,f2⟩,f3,f4,f5⟩:=D6) | skip))
  all_goals (try go_wp2)
  all_goals go_meet
  ·refine ⟨_,g6,cap6,rfl,qh ?_⟩
   rw [HL1.out]
   exact (mid1 hn HB3.out (Nat.le_of_eq Z3.out.symm) HW3.out (Sb_mid Z3.out hownp HA3.out HN3.out HR3.out HS3.out hap.out S6) (rowI_snoc Q6) P6 (own_or hg6 (by have:=Z3.out;simp;omega)))
  ·refine ⟨_,g6,cap6,rfl,qh ?_⟩
   rw [HL1.out]
   exact (mid2 hn HB3.out (Nat.le_of_eq Z3.out.symm) HW3.out (Sb_mid Z3.out hownp HA3.out HN3.out HR3.out HS3.out hap.out S6) (mid0D (Nat.le_of_eq Z3.out.symm) hownp G6) (by have:=Z3.out;omega) (rowI_snoc Q6) P6 (own_or hg6 (by have:=Z3.out;simp;omega)))
  ·refine ⟨_,g6,cap6,rfl,qh ?_⟩
   rw [HL1.out]
   exact (mid2 hn HB3.out (Nat.le_of_eq Z3.out.symm) HW3.out (Sb_mid Z3.out hownp HA3.out HN3.out HR3.out HS3.out hap.out S6) (mid0E (Nat.le_of_eq Z3.out.symm) hownp G6) (by have:=Z3.out;omega) (rowI_snoc Q6) P6 (own_or hg6 (by have:=Z3.out;simp;omega)))
 case rest =>
  obtain ⟨D,g,cap',rfl,hM⟩:=hcut
  clear a0 a1 a2 b0 b1 b2
  obtain ⟨⟨n0,n1,n2⟩,_⟩:=hM.out.n.cells
  go_wp2_with fail
  refine (CB.out _).mono ?_
  rintro e w8 ⟨rfl,hb8⟩
  clear n0 n1 n2 CB
  have M8:=qh (hM.out.later hb8 (by have:=hM.out.r.lt;omega) hn)
  clear hb8 hM
  obtain ⟨⟨n0,n1,n2⟩,_⟩:=M8.out.n.cells
  obtain ⟨⟨d0,d1,d2⟩,df0,df1,df2⟩:=M8.out.d.cells
  obtain ⟨⟨a0,a1,a2⟩,_⟩:=M8.out.a.cells
  obtain ⟨⟨r0,r1,r2⟩,rf0,rf1,rf2⟩:=M8.out.r.cells
  cases R with
  | false =>
   have HXs:Hid (ss'=ss):=qh (by rw [←HX0.out,if_neg (by rw [←HV.out];simp)])
   clear HV HX0
   go_wp2
   refine ret_place (RowP.put M8.out.r _ _ _) rfl rfl rfl ?_
   rw [HXs.out,H7.out,←HL1.out]
   refine down_of M8.out HH.out (fun b _ _ hb _=>?_) ?_ ((((Below.refl n₁ w8).setCell (p:=⟨h+1+1,0,none⟩) (by simp only;omega) _).setCell (p:=⟨h+1+1,1,none⟩) (by simp only;omega) _).setCell (p:=⟨h+1+1,2,none⟩) (by simp only;omega) _) ?_ ?_ hownp hap.out (fun g e=>.inl e)
   ·exact (Below.heap_setCell _ _ _ _ (by simp only;omega)).trans ((Below.heap_setCell _ _ _ _ (by simp only;omega)).trans (Below.heap_setCell _ _ _ _ (by simp only;omega)))
   ·exact Nat.le_of_eq (by rw [setCell_size,setCell_size,setCell_size])
   ·exact row_keep M8.out.s fun g e=>(Below.heap_setCell _ _ _ _ (by have:=howns g e;simp only;omega)).trans ((Below.heap_setCell _ _ _ _ (by have:=howns g e;simp only;omega)).trans (Below.heap_setCell _ _ _ _ (by have:=howns g e;simp only;omega)))
   ·exact row_keep M8.out.s fun g e=>(Below.heap_setCell _ _ _ _ (by have:=howns g e;simp only;omega)).trans ((Below.heap_setCell _ _ _ _ (by have:=howns g e;simp only;omega)).trans (Below.heap_setCell _ _ _ _ (by have:=howns g e;simp only;omega)))
  | true =>
   by_cases hil:i+1=len
   ·have hc:((i:Int)==(len:Int) - 1)=true:=by rw [beq_iff_eq];omega
    have HXs:Hid (ss'=ss++[s]):=qh (by rw [←HX0.out,if_pos (by rw [←HV.out,decide_eq_true hil];rfl)])
    have HIL:=qh hil
    clear HV HX0 hil
    have z8:h+1+1+1 < w8.heap.size+1:=by have:=M8.out.d.lt;have:=M8.out.z;omega
    have Z8:=qh z8
    clear z8
    go_wp2_with (at_builtin;refine wpList_append_two _ rfl _ _ 45 rfl n₁ 9 iS _ 16 Tryz.underlying45 hS hSz hSs hSb rfl (.slice ai ss.length ci) (ss.map Value.string) rfl (row_keep M8.out.s fun g e=>Below.heap_alloc _ _ _ (World.ownsRow.lt M8.out.s g e).2) _ _ (.string s) rfl (cells1 _ _ _ _ rfl) rfl (by simp only [List.length_map];unfold maxLen;omega) (by simp only [List.length_map];omega) (by have:=Z8.out;simp only [World.size_alloc];omega) ?_;intro g9 cap9 w9 Q9 P9 G9 hg9;have D9:=qh (show RowP w9 D _ _ _ from (G9.block D (by have:=M8.out.d.lt;simp only [World.size_alloc];omega) (fun e=>by have:=howns D e.symm;have:=M8.out.z;omega)).trans ((Below.heap_alloc _ _ _ M8.out.d.lt).trans M8.out.d));have R9:=qh (show RowP w9 (h+1+1) _ _ _ from (G9.block (h+1+1) (by have:=M8.out.r.lt;simp only [World.size_alloc];omega) (fun e=>by have:=howns _ e.symm;omega)).trans ((Below.heap_alloc _ _ _ M8.out.r.lt).trans M8.out.r));obtain ⟨⟨x0,x1,x2⟩,xf0,xf1,xf2⟩:=D9.out.cells;obtain ⟨⟨y0,y1,y2⟩,yf0,yf1,yf2⟩:=R9.out.cells;have hDh:D≠h+1+1:=by have:=M8.out.z;omega)
    have Q9':Hid (RowS n₁ w9 (.slice (some ⟨g9,0,none⟩) (ss++[s]).length cap9) (ss++[s])):=qh (rowS_snoc Q9)
    have P9':Hid (RowS n₁ w9 (.slice ai ss.length ci) ss):=qh P9
    have e9:ss.length+1=(ss++[s]).length:=by simp
    refine ret_place (RowP.put (show RowP (w9.setCell ⟨D,1,none⟩ _) (h+1+1) _ _ _ from (Below.heap_setCell _ _ _ _ (by simp only;omega)).trans R9.out) _ _ _) rfl rfl rfl ?_
    rw [HXs.out,H7.out,←HL1.out,e9]
    have far:∀ (F:World) (v9 u0 u1 u2:Value),F=((((w9.setCell ⟨D,1,none⟩ v9).setCell ⟨h+1+1,0,none⟩ u0).setCell ⟨h+1+1,1,none⟩ u1).setCell ⟨h+1+1,2,none⟩ u2)→∀ b,b≠D→b≠h+1+1→F.heap[b]?=w9.heap[b]?:=fun F v9 u0 u1 u2 e b h1 h2=>by
     rw [e]
     exact (Below.heap_setCell _ _ _ _ (by simp only;exact h2)).trans ((Below.heap_setCell _ _ _ _ (by simp only;exact h2)).trans ((Below.heap_setCell _ _ _ _ (by simp only;exact h2)).trans (Below.heap_setCell _ _ _ _ (by simp only;exact h1))))
    refine down_of M8.out HH.out (fun b hb h1 h2 h3=>(far _ _ _ _ _ rfl b h1 h2).trans ((G9.block b (by simp only [World.size_alloc];omega) (fun e=>h3 e.symm)).trans (Below.heap_alloc _ _ _ hb))) ?_ ((((((Below.refl n₁ w8).alloc (by have:=Z8.out;omega) _).grown G9 (by have:=Z8.out;simp only [World.size_alloc];omega) (fun k e=>(howns k e).1)).setCell (p:=⟨D,1,none⟩) (by have:=M8.out.z;simp only;omega) _).setCell (p:=⟨h+1+1,0,none⟩) (by simp only;omega) _).setCell (p:=⟨h+1+1,1,none⟩) (by simp only;omega) _ |>.setCell (p:=⟨h+1+1,2,none⟩) (by simp only;omega) _) ?_ ?_ hownp hap.out ?_
    ·have:=G9.size
     simp only [World.size_alloc] at this
     rw [setCell_size,setCell_size,setCell_size,setCell_size]
     omega
    ·exact row_keep Q9'.out fun g' e=>far _ _ _ _ _ rfl g' (rowS_not Q9'.out D9.out g' e) (rowS_not Q9'.out R9.out g' e)
    ·exact row_keep P9'.out fun g' e=>far _ _ _ _ _ rfl g' (rowS_not P9'.out D9.out g' e) (rowS_not P9'.out R9.out g' e)
    ·exact own_or hg9 (by rw [HH.out];simp only [World.size_alloc];have:=M8.out.r.lt;omega)
   ·have hc:((i:Int)==(len:Int) - 1)=false:=by rw [beq_eq_false_iff_ne];omega
    have HXs:Hid (ss'=ss):=qh (by rw [←HX0.out,if_neg (by rw [←HV.out,decide_eq_false hil];simp)])
    clear HV HX0 hil
    go_wp2
    refine ret_place (RowP.put M8.out.r _ _ _) rfl rfl rfl ?_
    rw [HXs.out,H7.out,←HL1.out]
    refine down_of M8.out HH.out (fun b _ _ hb _=>?_) ?_ ((((Below.refl n₁ w8).setCell (p:=⟨h+1+1,0,none⟩) (by simp only;omega) _).setCell (p:=⟨h+1+1,1,none⟩) (by simp only;omega) _).setCell (p:=⟨h+1+1,2,none⟩) (by simp only;omega) _) ?_ ?_ hownp hap.out (fun g e=>.inl e)
    ·exact (Below.heap_setCell _ _ _ _ (by simp only;omega)).trans ((Below.heap_setCell _ _ _ _ (by simp only;omega)).trans (Below.heap_setCell _ _ _ _ (by simp only;omega)))
    ·exact Nat.le_of_eq (by rw [setCell_size,setCell_size,setCell_size])
    ·exact row_keep M8.out.s fun g e=>(Below.heap_setCell _ _ _ _ (by have:=howns g e;simp only;omega)).trans ((Below.heap_setCell _ _ _ _ (by have:=howns g e;simp only;omega)).trans (Below.heap_setCell _ _ _ _ (by have:=howns g e;simp only;omega)))
    ·exact row_keep M8.out.s fun g e=>(Below.heap_setCell _ _ _ _ (by have:=howns g e;simp only;omega)).trans ((Below.heap_setCell _ _ _ _ (by have:=howns g e;simp only;omega)).trans (Below.heap_setCell _ _ _ _ (by have:=howns g e;simp only;omega)))
end Go.Proofs.YtgjijidlaghlmaaGreatDoor
namespace Go.Proofs.YtgjijidlaghlmaaGreatDoor
open Go.RowKit Go.Shelf
attribute [local go_sem] Oper.semAt_some
theorem row_of_cell {w:World} {b o:Nat} {v:Value} (h:w.cell? ⟨b,o,none⟩=some v):∃ c t z,w.heap[b]?=some (.cells c t z):=by
 unfold World.cell? at h
 split at h
 ·rename_i hh
  exact ⟨_,_,_,hh⟩
 ·simp at h
def Sup (w W:World):Prop:=∀ (b:Nat) (c:Array Value) (t:TypeId) (z:Nat×Nat),w.heap[b]?=some (Obj.cells c t z)→W.heap[b]?=some (Obj.cells c t z)
theorem Sup.cell {w W:World} (h:Sup w W) {b o:Nat} {v:Value} (hc:w.cell? ⟨b,o,none⟩=some v):W.cell? ⟨b,o,none⟩=some v:=by
 obtain ⟨c,t,z,e⟩:=row_of_cell hc
 rw [←hc]
 exact World.cell?_of_block (w:=w) ((h b c t z e).trans e.symm)
theorem NdR.sup {w W:World} (hs:Sup w W) {t:Nd} {v0 v1 v2:Value} (h:NdR w t v0 v1 v2):NdR W t v0 v1 v2:=by
 induction h with
 | mk k s l a cap b o f0 f1 f2 h1 hl hc ha h0 h1' h2 _ ih =>
  exact .mk k s l a cap b o f0 f1 f2 h1 hl hc ha (fun i hi=>hs.cell (h0 i hi)) (fun i hi=>hs.cell (h1' i hi)) (fun i hi=>hs.cell (h2 i hi)) ih
def Kc (O:World→Nat→Prop) (W W':World):Prop:=W.heap.size≤W'.heap.size∧(∀ (b:Nat) (c:Array Value) (t:TypeId) (z:Nat×Nat),¬ O W b→W.heap[b]?=some (Obj.cells c t z)→W'.heap[b]?=some (Obj.cells c t z))∧∀ b,O W' b→O W b∨W.heap.size≤b
def Kv (O:World→Nat→Prop) (vp vi:Value) (W W':World):Prop:=W.heap.size≤W'.heap.size∧(∀ (b:Nat) (c:Array Value) (t:TypeId) (z:Nat×Nat),¬ O W b→vp.ownBlock≠some b→vi.ownBlock≠some b→W.heap[b]?=some (Obj.cells c t z)→W'.heap[b]?=some (Obj.cells c t z))∧∀ b,O W' b→O W b∨W.heap.size≤b
def Off (O:World→Nat→Prop) (W:World) (v:Value):Prop:=∀ g,v.ownBlock=some g→¬ O W g
def yieldV (l:Nat):Value:=.func (.yield l) #[] #[]
abbrev visitV (yb vb:Nat):Value:=.func (.func 163) #[] #[.pointer (some ⟨yb,0,none⟩),.pointer (some ⟨vb,0,none⟩)]
structure Env (O:World→Nat→Prop) (n₁ yb vb l:Nat) (w₀ W:World):Prop where
 y:W.heap[yb]?=some (.cells #[yieldV l] 167 (0,0))
 v:W.heap[vb]?=some (.cells #[visitV yb vb] 167 (0,0))
 yl:yb < n₁
 vl:vb < n₁
 yx:¬ O W yb
 vx:¬ O W vb
 s:Sup w₀ W
 z0:w₀.heap.size≤n₁
 x0:∀ b,O W b→w₀.heap.size≤b
 z:n₁≤W.heap.size
section
variable {O:World→Nat→Prop} {n₁ yb vb l:Nat} {w₀ W W':World} {vp vi:Value}
theorem Off.kv (hO:Off O W vi) (hz:∀ g,vi.ownBlock=some g→g < W.heap.size) (h:∀ b,O W' b→O W b∨W.heap.size≤b):Off O W' vi:=fun g e hx=>by
 rcases h g hx with h1 | h1
 ·exact hO g e h1
 ·have:=hz g e;omega
theorem Env.kv (E:Env O n₁ yb vb l w₀ W) (hp:∀ g,vp.ownBlock=some g→n₁≤g) (hi:∀ g,vi.ownBlock=some g→n₁≤g) (h:Kv O vp vi W W'):Env O n₁ yb vb l w₀ W':=by
 have far:∀ b,b < n₁→vp.ownBlock≠some b∧vi.ownBlock≠some b:=fun b hb=>⟨fun e=>by have:=hp b e;omega,fun e=>by have:=hi b e;omega⟩
 have z0:=E.z
 have z1:=E.yl
 have z2:=E.vl
 have z3:=E.z0
 refine ⟨h.2.1 _ _ _ _ E.yx (far _ E.yl).1 (far _ E.yl).2 E.y,h.2.1 _ _ _ _ E.vx (far _ E.vl).1 (far _ E.vl).2 E.v,E.yl,E.vl,fun hx=>?_,fun hx=>?_,fun b c t z e=>?_,E.z0,fun b hx=>?_,Nat.le_trans E.z h.1⟩
 ·rcases h.2.2 _ hx with h1 | h1
  ·exact E.yx h1
  ·omega
 ·rcases h.2.2 _ hx with h1 | h1
  ·exact E.vx h1
  ·omega
 ·have hb:b < w₀.heap.size:=heap_lt e
  exact h.2.1 b c t z (fun hx=>by have:=E.x0 b hx;omega) (far b (by omega)).1 (far b (by omega)).2 (E.s b c t z e)
 ·rcases h.2.2 _ hx with h1 | h1
  ·exact E.x0 b h1
  ·omega
theorem Kc.kv (h:Kc O W W'):Kv O vp vi W W':=⟨h.1,fun b c t z h1 _ _ e=>h.2.1 b c t z h1 e,h.2.2⟩
theorem Kv.trans {W'':World} (a:Kv O vp vi W W') (b:Kv O vp vi W' W''):Kv O vp vi W W'':=⟨Nat.le_trans a.1 b.1,fun k c t z h1 h2 h3 e=>b.2.1 k c t z (fun hx=>by
  rcases a.2.2 k hx with h4 | h4
  ·exact h1 h4
  ·have:=heap_lt e;omega) h2 h3 (a.2.1 k c t z h1 h2 h3 e),fun k hx=>by
  have:=a.1
  rcases b.2.2 k hx with h4 | h4
  ·exact a.2.2 k h4
  ·exact .inr (by omega)⟩
theorem Kv.alloc (o:Obj) (hO:∀ b,O (W.alloc o) b→O W b):Kv O vp vi W (W.alloc o):=⟨by simp,fun b c t z _ _ _ e=>(Below.heap_alloc _ _ _ (heap_lt e)).trans e,fun b hx=>.inl (hO b hx)⟩
theorem Kv.drew (hO:∀ b,O W.drew b→O W b):Kv O vp vi W W.drew:=⟨Nat.le_refl _,fun _ _ _ _ _ _ _ e=>e,fun b hx=>.inl (hO b hx)⟩
end
structure Given (n₁:Nat) (W:World) (it:It) (vp vi v0 v1 v2:Value) (ps:List Value):Prop where
 d:it.d=ps.length
 p:RowI n₁ W vp ps
 i:RowS n₁ W vi it.ins
 t:NdR W it.t v0 v1 v2
theorem row_sup {w w':World} {base:Nat} {e:TypeId} {v:Value} {xs:List Value} (h:w.ownsRow base e 1 v xs.length xs) (hk:∀ (g:Nat) (c:Array Value) (t:TypeId) (z:Nat×Nat),v.ownBlock=some g→w.heap[g]?=some (Obj.cells c t z)→w'.heap[g]?=some (Obj.cells c t z)):w'.ownsRow base e 1 v xs.length xs:=by
 refine ⟨h.1,?_⟩
 rcases h.2 with hn | ⟨g,cap,cur,hv,hb,hg,rest⟩
 ·exact .inl hn
 ·exact .inr ⟨g,cap,cur,hv,hb,hk g _ _ _ (by rw [hv];rfl) hg,rest⟩
theorem row_back {w6 w7:World} {base:Nat} {e:TypeId} {v v':Value} {xs ys:List Value} (h6:w6.ownsRow base e 1 v xs.length xs) (h6':w6.ownsRow base e 1 v' (xs++ys).length (xs++ys)) (h7:w7.ownsRow base e 1 v' (xs++ys).length (xs++ys))
  (hk:∀ (g:Nat) (c:Array Value) (t:TypeId) (z:Nat×Nat),v.ownBlock=some g→v'.ownBlock≠some g→w6.heap[g]?=some (Obj.cells c t z)→w7.heap[g]?=some (Obj.cells c t z)):w7.ownsRow base e 1 v xs.length xs:=by
 rcases h6.2 with hn | ⟨g,cap,cur,rfl,hb,hg,hnn,hm,hs,htk⟩
 ·exact ⟨h6.1,.inl hn⟩
 ·by_cases hv:v'.ownBlock=some g
  ·rcases h6'.2 with ⟨rfl,_⟩ | ⟨g',cap',cur',rfl,hb',hg',hn',hm',hs',htk'⟩
   ·cases hv
   ·simp only [Value.ownBlock,Option.some.injEq] at hv
    subst hv
    rw [hg] at hg'
    obtain rfl:=(Obj.cells.inj (Option.some.inj hg')).1
    obtain rfl:cap=cap':=by omega
    exact row_less h6 h7
  ·exact row_sup h6 fun g2 c t z e1 e2=>by
    have:g2=g:=by simp only [Value.ownBlock,Option.some.injEq] at e1;exact e1.symm
    subst this
    exact hk g2 c t z rfl hv e2
theorem rowS_back {n₁:Nat} {w6 w7:World} {v v':Value} {ss ss' ys:List ByteArray} (hys:ss'=ss++ys) (h6:RowS n₁ w6 v ss) (h6':RowS n₁ w6 v' ss') (h7:RowS n₁ w7 v' ss')
  (hk:∀ (g:Nat) (c:Array Value) (t:TypeId) (z:Nat×Nat),v.ownBlock=some g→v'.ownBlock≠some g→w6.heap[g]?=some (Obj.cells c t z)→w7.heap[g]?=some (Obj.cells c t z)):RowS n₁ w7 v ss:=by
 subst hys
 unfold RowS at *
 rw [List.map_append] at h6' h7
 exact row_back h6 h6' h7 hk
structure Fr (O:World→Nat→Prop) (n₁ yb vb l:Nat) (w₀ W:World) (h:Nat) (vp vi:Value) (ps:List Value) (ss:List ByteArray) (wd:Bool) (k:Int) (s:ByteArray) (v2:Value) (w:World):Prop where
 e:Env O n₁ yb vb l w₀ w
 kv:Kv O vp vi W w
 a:RowP w h vp vi (.bool wd)
 n:Row3 w (h+1) (.int .i64 k) (.string s) v2
 p:RowI n₁ w vp ps
 i:RowS n₁ w vi ss
 op:Off O w vp
 oi:Off O w vi
 oh:¬ O w h
 on:¬ O w (h+1)
section
variable {O:World→Nat→Prop} {n₁ yb vb l:Nat} {w₀ W:World} {h:Nat} {vp vi:Value} {ps:List Value} {ss:List ByteArray} {wd:Bool} {k:Int} {s:ByteArray} {v2:Value} {w w':World}
theorem Fr.step (F:Fr O n₁ yb vb l w₀ W h vp vi ps ss wd k s v2 w) (_hh:n₁≤h) (hp:∀ g,vp.ownBlock=some g→n₁≤g∧g < h) (hi:∀ g,vi.ownBlock=some g→n₁≤g∧g < h) (hk:Kv O vp vi w w') (p:RowI n₁ w' vp ps) (i:RowS n₁ w' vi ss):Fr O n₁ yb vb l w₀ W h vp vi ps ss wd k s v2 w':=by
 have far:∀ b,h≤b→vp.ownBlock≠some b∧vi.ownBlock≠some b:=fun b hb=>⟨fun e=>by have:=hp b e;omega,fun e=>by have:=hi b e;omega⟩
 have f0:=far h (Nat.le_refl _)
 have f1:=far (h+1) (by omega)
 have l0:=F.a.lt
 have l1:=F.n.lt
 refine ⟨F.e.kv (fun g e=>(hp g e).1) (fun g e=>(hi g e).1) hk,F.kv.trans hk,hk.2.1 _ _ _ _ F.oh f0.1 f0.2 F.a,hk.2.1 _ _ _ _ F.on f1.1 f1.2 F.n,p,i,F.op.kv (fun g e=>by have:=hp g e;omega) hk.2.2,F.oi.kv (fun g e=>by have:=hi g e;omega) hk.2.2,fun hx=>?_,fun hx=>?_⟩
 ·rcases hk.2.2 _ hx with h1 | h1
  ·exact F.oh h1
  ·omega
 ·rcases hk.2.2 _ hx with h1 | h1
  ·exact F.on h1
  ·omega
theorem Fr.alloc (F:Fr O n₁ yb vb l w₀ W h vp vi ps ss wd k s v2 w) (hh:n₁≤h) (hp:∀ g,vp.ownBlock=some g→n₁≤g∧g < h) (hi:∀ g,vi.ownBlock=some g→n₁≤g∧g < h) (o:Obj) (hO:∀ b,O (w.alloc o) b→O w b):Fr O n₁ yb vb l w₀ W h vp vi ps ss wd k s v2 (w.alloc o) :=
 F.step hh hp hi (Kv.alloc o hO) (row_keep F.p fun g e=>Below.heap_alloc _ _ _ (World.ownsRow.lt F.p g e).2) (row_keep F.i fun g e=>Below.heap_alloc _ _ _ (World.ownsRow.lt F.i g e).2)
theorem Fr.drew (F:Fr O n₁ yb vb l w₀ W h vp vi ps ss wd k s v2 w) (hh:n₁≤h) (hp:∀ g,vp.ownBlock=some g→n₁≤g∧g < h) (hi:∀ g,vi.ownBlock=some g→n₁≤g∧g < h) (hO:∀ b,O w.drew b→O w b):Fr O n₁ yb vb l w₀ W h vp vi ps ss wd k s v2 w.drew :=
 F.step hh hp hi (Kv.drew hO) F.p F.i
theorem Fr.cells (F:Fr O n₁ yb vb l w₀ W h vp vi ps ss wd k s v2 w) {X:Nat} {u0 u1 u2:Value} (x:Row3 w X u0 u1 u2) :
  w.cell? ⟨vb,0,none⟩=some (visitV yb vb)∧w.cell? ⟨h,0,none⟩=some vp∧w.cell? ⟨h,1,none⟩=some vi∧w.cell? ⟨h,2,none⟩=some (.bool wd)∧w.cell? ⟨h+1,0,none⟩=some (.int .i64 k)∧w.cell? ⟨h+1,1,none⟩=some (.string s)∧w.cell? ⟨h+1,2,none⟩=some v2 ∧
   w.cell? ⟨X,0,none⟩=some u0∧w.cell? ⟨X,1,none⟩=some u1∧w.cell? ⟨X,2,none⟩=some u2 :=
 ⟨cell_of_row _ _ _ _ _ _ F.e.v,F.a.cells.1.1,F.a.cells.1.2.1,F.a.cells.1.2.2,F.n.cells.1.1,F.n.cells.1.2.1,F.n.cells.1.2.2,x.cells.1.1,x.cells.1.2.1,x.cells.1.2.2⟩
theorem Kv.down (hz:w.heap.size≤w'.heap.size) (hk:∀ b,b < w.heap.size→vp.ownBlock≠some b→vi.ownBlock≠some b→w'.heap[b]?=w.heap[b]?) (hO:∀ b,O w' b→O w b):Kv O vp vi w w' :=
 ⟨hz,fun b _ _ _ _ h1 h2 e=>(hk b (heap_lt e) h1 h2).trans e,fun b hx=>.inl (hO b hx)⟩
theorem Kv.up {w5 w6 w7:World} {vp' vi':Value} (h56:Kv O vp vi w5 w6) (h67:Kv O vp' vi' w6 w7) (hp:∀ g,vp'.ownBlock=some g→vp.ownBlock=some g∨w5.heap.size≤g) (hi:∀ g,vi'.ownBlock=some g→vi.ownBlock=some g∨w5.heap.size≤g):Kv O vp vi w5 w7 :=
 ⟨Nat.le_trans h56.1 h67.1,fun b c t z h1 h2 h3 e=>h67.2.1 b c t z (fun hx=>by
  rcases h56.2.2 b hx with h4 | h4
  ·exact h1 h4
  ·have:=heap_lt e;omega) (fun e2=>by
  rcases hp b e2 with h4 | h4
  ·exact h2 h4
  ·have:=heap_lt e;omega) (fun e2=>by
  rcases hi b e2 with h4 | h4
  ·exact h3 h4
  ·have:=heap_lt e;omega) (h56.2.1 b c t z h1 h2 h3 e),fun b hx=>by
  have:=h56.1
  rcases h67.2.2 b hx with h4 | h4
  ·exact h56.2.2 b h4
  ·exact .inr (by omega)⟩
end
set_option maxRecDepth 100000 in
set_option maxHeartbeats 2000000 in
theorem visit_any (all:List It) (O:World→Nat→Prop) (n₁ yb vb l:Nat) (w₀:World) (J Jx:List It→World→Prop)
  (hJN:∀ pre W,J pre W→pre.length≤90000)
  (hJ:∀ pre W W',J pre W→Below n₁ W W'→(∀ b,O W b→W'.heap[b]?=W.heap[b]?)→J pre W')
  (hO:∀ A B,Below n₁ A B→∀ b,O B b→O A b)
  (hJO:∀ pre W,J pre W→∀ b,O W b→b < W.heap.size)
  (hY:∀ m pre it W vp vi v0 v1 v2 ps,J pre W→pre++[it] <+: all→ps.length≤pre.length→Given n₁ W it vp vi v0 v1 v2 ps→YieldAt Fence.wide m Tryz.prog l #[.agg #[vp,vi,.bool it.wd],.agg #[v0,v1,v2]] W
   (fun e W'=>(e = .returned (.bool true)∧J (pre++[it]) W'∧Kc O W W')∨(e = .returned (.bool false)∧Jx (pre++[it]) W'∧Kc O W W')))
  (n:Nat):∀ (t:Nd) (W:World) (vp vi v0 v1 v2:Value) (ps:List Value) (ss:List ByteArray) (wd:Bool) (pre:List It),t.sz≤n→NdR w₀ t v0 v1 v2→Env O n₁ yb vb l w₀ W →
   RowI n₁ W vp ps→RowS n₁ W vi ss→ps.length≤pre.length→ss.length≤ps.length→J pre W→Off O W vp→Off O W vi→pre++preN ps.length ss wd t <+: all →
   Calls Tryz.prog 163 #[.agg #[vp,vi,.bool wd],.agg #[v0,v1,v2],.pointer (some ⟨yb,0,none⟩),.pointer (some ⟨vb,0,none⟩)] W fun e W' =>
    ∃ B:Bool,e = .returned (.bool B)∧Kv O vp vi W W'∧RowI n₁ W' vp ps∧RowS n₁ W' vi ss∧(if B=true then J (pre++preN ps.length ss wd t) W' else ∃ q,q <+: pre++preN ps.length ss wd t∧Jx q W'):=by
 induction n with
 | zero=>intro t W vp vi v0 v1 v2 ps ss wd pre h;cases t;simp only [Nd.sz] at h;omega
 | succ n ih =>
  intro t W vp vi v0 v1 v2 ps ss wd pre hsz ht E hp hi hd hsd hj hop hoi hall
  obtain ⟨k,s,l',a,cap,rfl,rfl,rfl,rfl,hs,hl⟩:=ht.form
  obtain ⟨ap,cp,rfl⟩:=row_shape hp
  obtain ⟨ai,ci,rfl⟩:=row_shape hi
  obtain ⟨L,hL⟩:∃ L,(ss.map Value.string).length=L:=⟨_,rfl⟩
  rw [hL] at hi hoi ⊢
  rw [List.length_map] at hL
  subst hL
  unfold maxLen at hl
  refine (callsIn_wide (n:=3)).1 ?_
  obtain ⟨h,hh⟩:∃ h,W.heap.size=h:=⟨_,rfl⟩
  obtain ⟨W2,hW2⟩:∃ W2,(W.alloc (.cells #[.slice ap ps.length cp,.slice ai ss.length ci,.bool wd] 108)).alloc (.cells #[.int .i64 k,.string s,.slice a l'.length cap] 25)=W2:=⟨_,rfl⟩
  have B1:Below n₁ W (W.alloc (.cells #[.slice ap ps.length cp,.slice ai ss.length ci,.bool wd] 108)):=(Below.refl _ W).alloc E.z _
  have B2:Below n₁ W W2:=by rw [←hW2];exact B1.alloc (by have:=E.z;simp only [World.size_alloc];omega) _
  have K2:Kv O (.slice ap ps.length cp) (.slice ai ss.length ci) W W2:=by
   rw [←hW2]
   exact (Kv.alloc _ (hO _ _ B1)).trans (Kv.alloc _ (hO _ _ ((Below.refl _ _).alloc (by have:=E.z;simp only [World.size_alloc];omega) _)))
  have hjo:=hJO pre W hj
  have O2:∀ b,O W2 b→b < h:=fun b hb=>by rw [←hh];exact hjo b (hO _ _ B2 b hb)
  have OP2:Off O W2 (.slice ap ps.length cp):=fun g e hx=>hop g e (hO _ _ B2 g hx)
  have OI2:Off O W2 (.slice ai ss.length ci):=fun g e hx=>hoi g e (hO _ _ B2 g hx)
  have OH2:¬ O W2 h:=fun hx=>by have:=O2 _ hx;omega
  have ON2:¬ O W2 (h+1):=fun hx=>by have:=O2 _ hx;omega
  have hownp:∀ g,(Value.slice ap ps.length cp).ownBlock=some g→n₁≤g∧g < h:=fun g e=>by rw [←hh];exact World.ownsRow.lt hp g e
  have howns:∀ g,(Value.slice ai ss.length ci).ownBlock=some g→n₁≤g∧g < h:=fun g e=>by rw [←hh];exact World.ownsRow.lt hi g e
  have E2:=E.kv (fun g e=>(hownp g e).1) (fun g e=>(howns g e).1) K2
  have old2:∀ b,b < h→W2.heap[b]?=W.heap[b]?:=fun b hb=>by rw [←hW2];exact (Below.heap_alloc _ _ _ (by simp only [World.size_alloc];omega)).trans (Below.heap_alloc _ _ _ (by omega))
  have P2:RowI n₁ W2 (.slice ap ps.length cp) ps:=row_keep hp fun g e=>old2 g (hownp g e).2
  have S2:RowS n₁ W2 (.slice ai ss.length ci) ss:=row_keep hi fun g e=>old2 g (howns g e).2
  have A2:RowP W2 h (.slice ap ps.length cp) (.slice ai ss.length ci) (.bool wd):=by rw [←hW2,←hh];exact (Below.heap_alloc _ _ _ (by simp only [World.size_alloc];omega)).trans (World.alloc_heap_new _ _)
  have N2:Row3 W2 (h+1) (.int .i64 k) (.string s) (.slice a l'.length cap):=by rw [←hW2,←hh];exact alloc_at (by simp)
  have J2:=hJ pre W W2 hj B2 (fun b hb=>old2 b (by have:=hjo b hb;omega))
  obtain ⟨fn,tmps,assign,body,hy,hR⟩:=hY 2 pre ⟨ps.length,ss,wd,.mk k s l'⟩ W2 (.slice ap ps.length cp) (.slice ai ss.length ci) (.int .i64 k) (.string s) (.slice a l'.length cap) ps J2 (List.IsPrefix.trans ⟨preL (ps.length+1) ss (if bindK k then ss++[s] else ss) (k==7) l',by simp only [preN];simp⟩ hall) hd ⟨rfl,P2,S2,ht.sup E2.s⟩
  have y2:W2.cell? ⟨yb,0,none⟩=some (yieldV l):=cell_of_row _ _ _ _ _ _ E2.y
  have v2:W2.cell? ⟨vb,0,none⟩=some (visitV yb vb):=cell_of_row _ _ _ _ _ _ E2.v
  obtain ⟨⟨a0,a1,a2⟩,_⟩:=A2.cells
  obtain ⟨⟨n0,n1,n2⟩,_⟩:=N2.cells
  unfold yieldV at y2
  have HPRE:Hid (preN ps.length ss wd (.mk k s l')=⟨ps.length,ss,wd,.mk k s l'⟩ :: preL (ps.length+1) ss (if bindK k then ss++[s] else ss) (k==7) l'):=qh (by simp only [preN])
  have HJN:=qh hJN
  have HJ:=qh hJ
  have HALL:=qh hall
  have HO:=qh hO
  have HJO:=qh hJO
  have HOP2:=qh OP2
  have HOI2:=qh OI2
  have HOH2:=qh OH2
  have HON2:=qh ON2
  have HIH:=qh ih
  have HT:=qh ht
  have HE2:=qh E2
  have HK2:=qh K2
  have HB2:=qh B2
  have HP2:=qh P2
  have HS2:=qh S2
  have HA2:=qh A2
  have HN2:=qh N2
  have HH:=qh hh
  have HSZ:=qh hsz
  have hnh:n₁≤h:=by rw [←hh];exact E.z
  clear hall hJN hJ hO hJO hjo O2 OP2 OI2 OH2 ON2 hop hoi B1 ih ht E E2 K2 B2 P2 S2 A2 N2 hp hi hY old2 J2 hj hsz
  refine callsIn_of_wp Tryz.func163 rfl trivial ?_ rfl
  simp only [Tryz.ntmps163,List.size_toArray,List.length_cons,List.length_nil,Nat.reduceAdd,Nat.reduceSub,Array.replicate_succ,Array.replicate_zero,List.push_toArray,List.append_toArray,List.nil_append,List.cons_append]
  gi_wp2_with fail
  refine hR.mono ?_
  clear hR hy
  rintro e W3 (⟨rfl,hJ3,hk3⟩ | ⟨rfl,hJx3,hk3⟩)
  ·have nb:=trivial
   have P3:=row_sup HP2.out fun g c t z e e2=>hk3.2.1 g c t z (HOP2.out g e) e2
   have S3:=row_sup HS2.out fun g c t z e e2=>hk3.2.1 g c t z (HOI2.out g e) e2
   have F3:=qh ((⟨HE2.out,HK2.out,HA2.out,HN2.out,HP2.out,HS2.out,HOP2.out,HOI2.out,HOH2.out,HON2.out⟩:Fr O n₁ yb vb l w₀ W h (.slice ap ps.length cp) (.slice ai ss.length ci) ps ss wd k s (.slice a l'.length cap) W2).step hnh hownp howns hk3.kv P3 S3)
   have J3:=qh hJ3
   clear hJ3 hk3 nb y2 v2 a0 a1 a2 n0 n1 n2 P3 S3
   obtain ⟨⟨n0,n1,n2⟩,_⟩:=F3.out.n.cells
   gi_wp2_with fail
   refine wpIn_wide.2 ?_
   obtain ⟨il,hil⟩:∃ il,(if bindK k then ss++[s] else ss)=il:=⟨_,rfl⟩
   rw [hil] at HPRE
   have HIL:=qh hil
   clear hil n0 n1 n2
   go_loopw [17] (fun v wr=>∃ (i:Nat) (pre':List It),i≤l'.length∧v = .int .i64 i∧Hid (pre'++preL (ps.length+1) ss il (k==7) (l'.drop i)=pre++preN ps.length ss wd (.mk k s l'))∧Hid (J pre' wr)∧Hid (ps.length+1≤pre'.length) ∧
    Hid (Fr O n₁ yb vb l w₀ W h (.slice ap ps.length cp) (.slice ai ss.length ci) ps ss wd k s (.slice a l'.length cap) wr)) (fun v _=>l'.length - (intOf v).toNat)
   case atStart=>exact ⟨0,_,Nat.zero_le _,rfl,qh (by rw [HPRE.out,List.drop_zero];simp),J3,qh (by simp;omega),F3⟩
   case round =>
    obtain ⟨i,pre',hi,rfl,hrun,hJr,hlen,hF⟩:=hrel
    by_cases hlt:i < l'.length
    ·have hlt':(i:Int) < (l'.length:Int):=by omega
     have hi0:(0:Int)≤(i:Int):=by omega
     obtain ⟨b,o,k1,s1,l1,a1,c1,rfl,e1,y0,y1,y2,r1⟩:=HT.out.kid i hlt
     have x0:=hF.out.e.s.cell y0
     have x1:=hF.out.e.s.cell y1
     have x2:=hF.out.e.s.cell y2
     have HE1:=qh e1
     have HR1:=qh r1
     clear e1 r1 y0 y1 y2
     go_upto_region 6 with fail
     have X5:=qh (Row3.new wr (.int .i64 k1) (.string s1) (.slice a1 l1.length c1))
     have F5:=qh (hF.out.alloc hnh hownp howns (.cells #[.int .i64 k1,.string s1,.slice a1 l1.length c1] 25) (HO.out _ _ ((Below.refl _ wr).alloc hF.out.e.z _)))
     have hj5:=HJO.out pre' wr hJr.out
     have B5:Hid (Below n₁ wr (wr.alloc (.cells #[.int .i64 k1,.string s1,.slice a1 l1.length c1] 25))):=qh ((Below.refl _ wr).alloc hF.out.e.z _)
     obtain ⟨X,hX⟩:∃ X,wr.heap.size=X:=⟨_,rfl⟩
     obtain ⟨w5,hw5⟩:∃ w5,wr.alloc (.cells #[.int .i64 k1,.string s1,.slice a1 l1.length c1] 25)=w5:=⟨_,rfl⟩
     have z5:w5.heap.size=X+1:=by rw [←hw5,←hX];simp
     have hXh:h≤X:=by have:=hF.out.a.lt;omega
     rw [hX] at X5 hj5
     rw [hw5] at F5 B5 X5
     have Z5:=qh z5
     rw [hX,hw5]
     have ho5:∀ b,O w5.drew b→b < X:=fun b hb=>hj5 b (HO.out _ _ (show Below n₁ wr w5.drew from B5.out.drew) b hb)
     have HO5:=qh ho5
     have HJ5:=qh hj5
     have HOLD5:Hid (∀ b,b < X→w5.drew.heap[b]?=wr.heap[b]?):=qh (fun b hb=>show w5.heap[b]?=wr.heap[b]? from by rw [←hw5];exact Below.heap_alloc _ _ _ (by rw [hX];exact hb))
     have HF5:=qh (F5.out.drew hnh hownp howns (fun b hb=>HO.out w5 w5.drew ((Below.refl _ w5).drew) b hb))
     have S5:=HF5.out.cells (show Row3 w5.drew X _ _ _ from X5.out)
     clear ho5 hj5
     have hdn:Hid (ps.length≤90000):=qh (by have:=HJN.out _ _ hJr.out;have:=hlen.out;omega)
     obtain ⟨ss',hss⟩:∃ ss',(if (bindK k && decide (i+1=l'.length))=true then ss++[s] else ss)=ss':=⟨_,rfl⟩
     obtain ⟨K7,h7⟩:∃ K7,(k==7)=K7:=⟨_,rfl⟩
     have CD0:=(fun w (h1:n₁≤w.heap.size) (h2:RowI n₁ w (.slice ap ps.length cp) ps) (h3:RowS n₁ w (.slice ai ss.length ci) ss)=>below_any n₁ k s (some ⟨b,o,none⟩) l'.length cap i ap ai cp ci ps ss wd w h1 h2 h3 (by have:=hdn.out;omega) (by have:=hdn.out;omega) (by unfold maxLen;omega) hlt _ rfl ss' hss)
     rw [h7] at CD0
     have CD:=qh CD0
     clear CD0
     obtain ⟨ys,hys⟩:∃ ys,ss'=ss++ys:=by
      rw [←hss]
      split
      ·exact ⟨[s],rfl⟩
      ·exact ⟨[],by simp⟩
     have hsl:ss'.length≤ps.length+1:=by
      rw [←hss]
      split
      ·simp;omega
      ·omega
     have hil2:(if i+1=l'.length then il else ss)=ss':=by
      rw [←hss,←HIL.out]
      by_cases h1:i+1=l'.length
      ·rw [if_pos h1,decide_eq_true h1,Bool.and_true]
      ·rw [if_neg h1,decide_eq_false h1,Bool.and_false,if_neg (by simp)]
     have HPL:=qh (preL_drop (d:=ps.length+1) (ins:=ss) (il:=il) (wd:=(k==7)) hlt)
     rw [hil2,h7] at HPL
     have HL1:Hid ((ps++[Value.int .i64 (i:Int)]).length=ps.length+1):=qh (by simp)
     have HPX:Hid (pre'++preN (ps++[Value.int .i64 (i:Int)]).length ss' K7 (.mk k1 s1 l1) <+: all):=qh (by
      have hr:=hrun.out
      have hpl:=HPL.out
      rw [h7,hpl,HE1.out] at hr
      rw [HL1.out]
      refine List.IsPrefix.trans ?_ HALL.out
      rw [←hr,←List.append_assoc]
      exact List.prefix_append _ _)
     have HYS:=qh hys
     have HSL:=qh hsl
     have HKL:=qh (Nd.kid_lt k s l' i hlt)
     have hnX:¬ O w5.drew X∧(Value.slice ap ps.length cp).ownBlock≠some X∧(Value.slice ai ss.length ci).ownBlock≠some X:=⟨fun hx=>by have:=HO5.out X hx;omega,fun e=>by have:=hownp X e;omega,fun e=>by have:=howns X e;omega⟩
     have HNX:=qh hnX
     have CVf:=qh (fun w7 vp' vi' (E6:Env O n₁ yb vb l w₀ w7) p6 s6 J6 op6 oi6=>HIH.out (.mk k1 s1 l1) w7 vp' vi' (.int .i64 k1) (.string s1) (.slice a1 l1.length c1) (ps++[Value.int .i64 (i:Int)]) ss' K7 pre' (by have:=HKL.out;rw [HE1.out] at this;have:=HSZ.out;omega) HR1.out E6 p6 s6 (by rw [HL1.out];exact hlen.out) (by rw [HL1.out];exact HSL.out) J6 op6 oi6 HPX.out)
     have H77:=qh h7
     clear h7 hX hw5 z5 hss hys hsl hil2 hnX x0 x1 x2
     go_cut [29] (fun v wx=>∃ B:Bool,v = .bool (!B)∧Hid (Fr O n₁ yb vb l w₀ W h (.slice ap ps.length cp) (.slice ai ss.length ci) ps ss wd k s (.slice (some ⟨b,o,none⟩) l'.length cap) wx) ∧
      Hid (if B=true then J (pre'++preN (ps.length+1) ss' K7 (.mk k1 s1 l1)) wx else ∃ q,q <+: pre'++preN (ps.length+1) ss' K7 (.mk k1 s1 l1)∧Jx q wx))
     case first =>
      go_region_held3 (fun w'=>w'.cell? ⟨vb,0,none⟩=some (.func (.func 163) #[] #[.pointer (some ⟨yb,0,none⟩),.pointer (some ⟨vb,0,none⟩)])∧w'.cell? ⟨h,0,none⟩=some (.slice ap ps.length cp)∧w'.cell? ⟨h,1,none⟩=some (.slice ai ss.length ci)∧w'.cell? ⟨h,2,none⟩=some (.bool wd)∧w'.cell? ⟨h+1,0,none⟩=some (.int .i64 k)∧w'.cell? ⟨h+1,1,none⟩=some (.string s)∧w'.cell? ⟨h+1,2,none⟩=some (.slice (some ⟨b,o,none⟩) l'.length cap)∧w'.cell? ⟨X,0,none⟩=some (.int .i64 k1)∧w'.cell? ⟨X,1,none⟩=some (.string s1)∧w'.cell? ⟨X,2,none⟩=some (.slice a1 l1.length c1))
       (first | with_reducible exact S5 | with_reducible exact SS6 | with_reducible exact SS7)
       (first
        | (go_at_call 164;refine (CD.out _ HF5.out.e.z HF5.out.p HF5.out.i).mono ?_;rintro e w6 ⟨ap',ai',cp',ci',rfl,p6,s6,pp6,ss6,z6,k6,b6,o6,oi6⟩;rw [HL1.out] at p6 o6;have O6':=qh (HO.out _ _ b6);have KD6:Hid (Kv O (.slice ap ps.length cp) (.slice ai ss.length ci) w5.drew w6):=qh (Kv.down z6 k6 O6'.out);have F6:=qh (HF5.out.step hnh hownp howns KD6.out pp6 ss6);have sz5:w5.drew.heap.size=X+1:=Z5.out;have PO6:Hid (Off O w6 (.slice ap' (ps++[Value.int .i64 (i:Int)]).length cp')):=qh (fun g e hx=>(o6 g (by rw [HL1.out] at e;exact e)).elim (fun e2=>F6.out.op g e2 hx) (fun h9=>by have:=HO5.out g (O6'.out g hx);omega));have IO6:Hid (Off O w6 (.slice ai' ss'.length ci')):=qh (fun g e hx=>(oi6 g e).elim (fun e2=>F6.out.oi g e2 hx) (fun h9=>by have:=HO5.out g (O6'.out g hx);omega));have X6:Row3 w6 X (.int .i64 k1) (.string s1) (.slice a1 l1.length c1):=(k6 X (show X < w5.heap.size by have:=Z5.out;omega) HNX.out.2.1 HNX.out.2.2).trans X5.out;have SS6:=F6.out.cells X6;have CV:=qh (CVf.out w6 _ _ F6.out.e p6 s6 (HJ.out pre' wr w6 hJr.out (B5.out.drew.trans b6) (fun b hb=>(k6 b (by have:=HJ5.out b hb;omega) (fun e=>hF.out.op b e hb) (fun e=>hF.out.oi b e hb)).trans (HOLD5.out b (HJ5.out b hb)))) (by have:=PO6.out;rw [HL1.out] at this;exact this) IO6.out);have Q6:=qh p6;have T6:=qh s6;have PP6:=qh pp6;have TT6:=qh ss6;have HK6:=qh k6;have HZ6:=qh z6;have O6:=qh o6;have OI6:=qh oi6;clear p6 s6 pp6 ss6 k6 b6 o6 oi6)
        | (go_at_call 163;refine CV.out.mono ?_;rintro e w7 ⟨B,rfl,kv7,p7,s7,h7⟩;have U7:Hid (Kv O (.slice ap ps.length cp) (.slice ai ss.length ci) w5.drew w7):=qh (Kv.up KD6.out kv7 O6.out OI6.out);have V7:Hid (RowI n₁ w7 (.slice ap ps.length cp) ps):=qh (row_back PP6.out Q6.out p7 fun g c t z e1 e2 e3=>kv7.2.1 g c t z (F6.out.op g e1) e2 (rows_apart PP6.out T6.out g e1) e3);have I7:Hid (RowS n₁ w7 (.slice ai ss.length ci) ss):=qh (rowS_back HYS.out TT6.out T6.out s7 fun g c t z e1 e2 e3=>kv7.2.1 g c t z (F6.out.oi g e1) (fun e4=>rows_apart Q6.out TT6.out g e4 e1) e2 e3);have F7:=qh (HF5.out.step hnh hownp howns U7.out V7.out I7.out);have SS7:=F7.out.cells (show Row3 w7 X _ _ _ from U7.out.2.1 X _ _ _ HNX.out.1 HNX.out.2.1 HNX.out.2.2 X5.out);have H7:=qh h7;clear h7 kv7 p7 s7))
      all_goals go_wp2
      all_goals go_meet
      all_goals exact ⟨B,rfl,F7,qh (by have:=H7.out;rw [HL1.out] at this;exact this)⟩
     case rest =>
      obtain ⟨B,rfl,F7,H7⟩:=hcut
      clear S5 CD CVf
      cases B with
      | true =>
       have J7:=qh (show J (pre'++preN (ps.length+1) ss' K7 (.mk k1 s1 l1)) _ from by have:=H7.out;rw [if_pos rfl] at this;exact this)
       clear H7
       go_wp2
       go_roundw
       case rel=>exact ⟨i+1,_,hlt,by push_cast;rfl,qh (by have hr:=hrun.out;rw [H77.out] at hr ⊢;rw [List.append_assoc,←HE1.out,←HPL.out];exact hr),J7,qh (by have:=hlen.out;simp;omega),F7⟩
       case measure=>simp [intOf];omega
      | false =>
       obtain ⟨q,hq,hjx⟩:=(show ∃ q,q <+: pre'++preN (ps.length+1) ss' K7 (.mk k1 s1 l1)∧Jx q _ from by have:=H7.out;rw [if_neg (by simp)] at this;exact this)
       have HQ:=qh hq
       have HX:=qh hjx
       clear H7 hq hjx
       go_wp2
       go_ret
       refine ⟨false,rfl,F7.out.kv,F7.out.p,F7.out.i,?_⟩
       rw [if_neg (by simp),←hrun.out,H77.out,HPL.out,HE1.out]
       exact ⟨q,by rw [←List.append_assoc];exact HQ.out.trans (List.prefix_append _ _),HX.out⟩
    ·have hlt':¬ ((i:Int) < (l'.length:Int)):=by omega
     go_wp2
     gi_wp2
     go_ret
     refine ⟨true,rfl,hF.out.kv,hF.out.p,hF.out.i,?_⟩
     rw [if_pos rfl,←hrun.out,List.drop_of_length_le (by omega)]
     simp only [preL,List.append_nil]
     exact hJr.out
  ·gi_wp2
   go_ret
   refine ⟨false,rfl,HK2.out.trans hk3.kv,row_sup HP2.out fun g c t z e e2=>hk3.2.1 g c t z (HOP2.out g e) e2,row_sup HS2.out fun g c t z e e2=>hk3.2.1 g c t z (HOI2.out g e) e2,?_⟩
   rw [if_neg (by simp),HPRE.out]
   exact ⟨_,⟨preL (ps.length+1) ss (if bindK k then ss++[s] else ss) (k==7) l',by simp⟩,hJx3⟩
end Go.Proofs.YtgjijidlaghlmaaGreatDoor
namespace Go.Proofs.YtgjijidlaghlmaaGreatDoor
open Go.RowKit Go.Shelf
attribute [local go_sem] Oper.semAt_some
set_option maxRecDepth 100000 in
set_option maxHeartbeats 400000 in
theorem walk_any (k:Int) (s:ByteArray) (a:Option Addr) (n cap:Nat) (w:World) :
  Calls Tryz.prog 99 #[.agg #[.int .i64 k,.string s,.slice a n cap]] w fun e w'=>e = .returned (.func (.func 162) #[] #[.pointer (some ⟨w.heap.size,0,none⟩)])∧w'=w.alloc (.cells #[.int .i64 k,.string s,.slice a n cap] 25):=by
 have hmf:∀ (fn:Fn) (first cap:Array Value) (w:World),(Instr.makeFunc fn first cap).run Tryz.prog w = .ok (.func fn first cap) w:=fun _ _ _ _=>rfl
 go_enter Tryz.func99,Tryz.ntmps99
 go_wp2
 go_ret
 exact ⟨rfl,rfl⟩
set_option maxRecDepth 100000 in
set_option maxHeartbeats 2000000 in
theorem walkI_any (O:World→Nat→Prop) (l nb:Nat) (w₀ W:World) (J Jx:List It→World→Prop) (k:Int) (s:ByteArray) (kids:List Nd) (a:Option Addr) (cap:Nat)
  (hJN:∀ pre W,J pre W→pre.length≤90000)
  (hJ:∀ pre A B,J pre A→Below W.heap.size A B→(∀ b,O A b→B.heap[b]?=A.heap[b]?)→J pre B)
  (hO:∀ A B,Below W.heap.size A B→∀ b,O B b→O A b)
  (hJO:∀ pre A,J pre A→∀ b,O A b→b < A.heap.size)
  (hY:∀ m pre it A vp vi v0 v1 v2 n₁ ps,W.heap.size≤n₁→J pre A→pre++[it] <+: preN 0 [] false (.mk k s kids)→ps.length≤pre.length→Given n₁ A it vp vi v0 v1 v2 ps→YieldAt Fence.wide m Tryz.prog l #[.agg #[vp,vi,.bool it.wd],.agg #[v0,v1,v2]] A
   (fun e W'=>(e = .returned (.bool true)∧J (pre++[it]) W'∧Kc O A W')∨(e = .returned (.bool false)∧Jx (pre++[it]) W'∧Kc O A W')))
  (ht:NdR w₀ (.mk k s kids) (.int .i64 k) (.string s) (.slice a kids.length cap)) (hn:Row3 W nb (.int .i64 k) (.string s) (.slice a kids.length cap)) (hs:Sup w₀ W) (hz:w₀.heap.size≤W.heap.size) (hx0:∀ b,O W b→w₀.heap.size≤b) (h0:J [] W) :
  Calls Tryz.prog 162 #[.func (.yield l) #[] #[],.pointer (some ⟨nb,0,none⟩)] W fun e w'=>(∃ v,e = .returned v)∧((J (preN 0 [] false (.mk k s kids)) w')∨∃ q,q <+: preN 0 [] false (.mk k s kids)∧Jx q w'):=by
 have hmf:∀ (fn:Fn) (first cap:Array Value) (w:World),(Instr.makeFunc fn first cap).run Tryz.prog w = .ok (.func fn first cap) w:=fun _ _ _ _=>rfl
 obtain ⟨h,hh⟩:∃ h,W.heap.size=h:=⟨_,rfl⟩
 rw [hh] at hz hJ hO hY
 obtain ⟨W3,hW3⟩:∃ W3,(W.alloc (.cells #[yieldV l] 167)).alloc (.cells #[visitV h (h+1)] 167)=W3:=⟨_,rfl⟩
 have z3:W3.heap.size=h+1+1:=by rw [←hW3];simp [hh]
 have old:∀ b,b < h→W3.heap[b]?=W.heap[b]?:=fun b hb=>by rw [←hW3];exact (Below.heap_alloc _ _ _ (by simp only [World.size_alloc];omega)).trans (Below.heap_alloc _ _ _ (by omega))
 have B3:Below h W W3:=by rw [←hW3];exact ((Below.refl _ W).alloc (by omega) _).alloc (by simp only [World.size_alloc];omega) _
 have O3:∀ b,O W3 b→O W b:=hO _ _ B3
 have hx1:∀ b,O W b→b < h:=fun b hb=>by rw [←hh];exact hJO [] W h0 b hb
 have E3:Env O (h+1+1) h (h+1) l w₀ W3:=by
  refine ⟨?_,?_,by omega,by omega,fun hx=>by have:=hx1 _ (O3 _ hx);omega,fun hx=>by have:=hx1 _ (O3 _ hx);omega,fun b c t z e=>(old b (by have:=heap_lt e;omega)).trans (hs b c t z e),by omega,fun b hx=>hx0 b (O3 b hx),by omega⟩
  ·rw [←hW3,←hh];exact (Below.heap_alloc _ _ _ (by simp only [World.size_alloc];omega)).trans (World.alloc_heap_new _ _)
  ·rw [←hW3];exact alloc_at (by simp [hh])
 have C:=visit_any (preN 0 [] false (.mk k s kids)) O (h+1+1) h (h+1) l w₀ J Jx hJN (fun pre A B hj hb hk=>hJ pre A B hj (hb.mono (by omega)) hk) (fun A B hb=>hO A B (hb.mono (by omega))) hJO (fun m pre it A vp vi v0 v1 v2 ps hj hal hd hg=>hY m pre it A vp vi v0 v1 v2 _ ps (by omega) hj hal hd hg) _ (.mk k s kids) W3 (.slice none 0 0) (.slice none 0 0) _ _ _ [] [] false [] (Nat.le_refl _) ht E3 (World.ownsRow_nil _ _ _ _) (World.ownsRow_nil _ _ _ _) (Nat.le_refl _) (Nat.le_refl _) (hJ [] W W3 h0 B3 (fun b hb=>old b (hx1 b hb))) (fun g e=>by cases e) (fun g e=>by cases e) (List.prefix_refl _)
 have HC:=qh C
 have N3:=(show Row3 W3 nb _ _ _ from (old nb (by have:=hn.lt;omega)).trans hn)
 have n00:=hn.lt
 rw [hh] at n00
 clear C hJN hJ hO hJO hY ht hs hx0 hx1 h0 O3
 obtain ⟨⟨n0,n1,n2⟩,_⟩:=N3.cells
 have v3:W3.cell? ⟨h+1,0,none⟩=some (.func (.func 163) #[] #[.pointer (some ⟨h,0,none⟩),.pointer (some ⟨h+1,0,none⟩)]):=cell_of_row _ _ _ _ _ _ E3.v
 have Z3:=qh z3
 clear E3 B3 old z3 hn N3
 go_enter Tryz.func162,Tryz.ntmps162
 go_upto_region 3 with fail
 have hW3':(W.alloc (.cells #[.func (.yield l) #[] #[]] 167)).alloc (.cells #[.func (.func 163) #[] #[.pointer (some ⟨h,0,none⟩),.pointer (some ⟨h+1,0,none⟩)]] 167)=W3:=hW3
 rw [hW3']
 clear hW3 hW3'
 go_wp2_with fail
 refine HC.out.mono ?_
 rintro e w7 ⟨B,rfl,_,_,_,h7⟩
 have H7:=qh h7
 clear h7 HC n0 n1 n2 v3
 go_wp2
 go_end0
 refine ⟨⟨_,rfl⟩,?_⟩
 have h7:=H7.out
 simp only [List.nil_append,List.length_nil] at h7
 cases B
 ·rw [if_neg (by simp)] at h7;exact .inr h7
 ·rw [if_pos rfl] at h7;exact .inl h7
end Go.Proofs.YtgjijidlaghlmaaGreatDoor
namespace Go.Proofs.YtgjijidlaghlmaaGreatDoor
open Go.RowKit Go.Shelf
attribute [local go_sem] Oper.semAt_some
structure JM (h T:Nat) (w:World) (nn lv:Nat) (rl:Loop) (W:World):Prop where
 b:Below h w W
 z:T+1+1 < W.heap.size
 d:W.heap[T+1]?=some (.deferred (some []))
 l:W.heap[T+1+1]?=some (.loop rl)
 n:W.heap[h+1]?=some (.cells #[.int .i64 nn] 3 (0,0))
 v:W.heap[h+1+1]?=some (.cells #[.int .i64 lv] 3 (0,0))
theorem JM.below {h T:Nat} {w A B:World} {nn lv:Nat} {rl:Loop} {N:Nat} (j:JM h T w nn lv rl A) (hb:Below N A B) (hN:T+1+1 < N) (hT:h+1+1 < T):JM h T w nn lv rl B :=
 ⟨j.b.trans (hb.mono (by omega)),Nat.lt_of_lt_of_le j.z hb.size,(hb.block _ (by omega)).trans j.d,(hb.block _ (by omega)).trans j.l,(hb.block _ (by omega)).trans j.n,(hb.block _ (by omega)).trans j.v⟩
set_option maxRecDepth 100000 in
set_option maxHeartbeats 2000000 in
theorem measure_any (t:Nd) (w:World) (v0 v1 v2:Value) (ht:NdR w t v0 v1 v2) :
  Calls Tryz.prog 74 #[.agg #[v0,v1,v2]] w fun e w'=>∃ lv:Nat,e = .returned (.tuple #[.int .i64 ((min t.sz 4001:Nat):Int),.int .i64 (lv:Int)])∧(t.sz≤4000→lv=t.dp)∧Below w.heap.size w w':=by
 obtain ⟨k,s,kids,a,cap,rfl,rfl,rfl,rfl,hs,hl⟩:=ht.form
 have eg:∀ args w,(callFunc 162 args).run Tryz.prog w = .ok (.enter 162 args) w:=enters_of Tryz.func162 (by kernel_rfl) rfl
 refine (callsIn_wide (n:=6)).1 ?_
 refine callsIn_of_wpAt Tryz.func74 rfl ?_
 simp only [Tryz.ntmps74,List.size_toArray,List.length_cons,List.length_nil,Nat.reduceAdd,Nat.reduceSub,Array.replicate_succ,Array.replicate_zero,List.push_toArray,List.append_toArray,List.nil_append,List.cons_append]
 refine wpAt_seq (wpAt_of_wpIn ?_)
 gi_wp2
 refine wpAt_seq (wpAt_seq (wpAt_of_wpIn ?_))
 gi_wp2_with fail
 refine ⟨trivial,((callsIn_wide (n:=5)).2 (walk_any k s a kids.length cap _)).mono ?_⟩
 rintro e w2 ⟨rfl,rfl⟩
 gi_wp2
 refine wpAt_block (wpAt_rangeFunc_fn (gf:=162) (lb:=#[.pointer (some ⟨w.heap.size+1+1+1,0,none⟩)]) rfl eg ?_)
 intro r hr
 have hr1:r.state = .ready:=by rw [hr]
 have hr2:r.pending=none:=by rw [hr]
 have hr3:r.params=#[7,8]:=by rw [hr]
 obtain ⟨h,hh⟩:∃ h,w.heap.size=h:=⟨_,rfl⟩
 rw [hh] at hr
 obtain ⟨w3,hw3⟩:∃ w3,(((w.alloc (Obj.cells #[Value.int IntKind.i64 k,Value.string s,Value.slice a kids.length cap] 25)).alloc (Obj.cells #[Value.int IntKind.i64 0] 3)).alloc (Obj.cells #[Value.int IntKind.i64 0] 3)).alloc (Obj.cells #[Value.int IntKind.i64 k,Value.string s,Value.slice a kids.length cap] 25)=w3:=⟨_,rfl⟩
 have z3:w3.heap.size=h+1+1+1+1:=by rw [←hw3];simp [hh]
 have hB3:Below h w w3:=by
  rw [←hw3,←hh];exact ((((Below.refl _ w).alloc (Nat.le_refl _) _).alloc (by simp) _).alloc (by simp only [World.size_alloc];omega) _).alloc (by simp only [World.size_alloc];omega) _
 have b1:w3.heap[h+1]?=some (.cells #[.int .i64 0] 3 (0,0)):=by
  rw [←hw3];exact (Below.heap_alloc _ _ _ (by simp only [World.size_alloc];omega)).trans ((Below.heap_alloc _ _ _ (by simp only [World.size_alloc];omega)).trans (alloc_at (by simp [hh])))
 have b2:w3.heap[h+1+1]?=some (.cells #[.int .i64 0] 3 (0,0)):=by
  rw [←hw3];exact (Below.heap_alloc _ _ _ (by simp only [World.size_alloc];omega)).trans (alloc_at (by simp [hh]))
 obtain ⟨T,hT⟩:∃ T,h+1+1+1=T:=⟨_,rfl⟩
 have b3:Row3 w3 T (.int .i64 k) (.string s) (.slice a kids.length cap):=by
  rw [←hw3,←hT];exact alloc_at (by simp [hh])
 rw [hw3,hh]
 rw [hT] at z3 ⊢
 have HT:=qh hT
 clear hw3
 obtain ⟨W1,hW1⟩:∃ W1,(w3.alloc (.deferred (some []))).alloc (.loop r)=W1:=⟨_,rfl⟩
 have old:∀ b,b < w3.heap.size→W1.heap[b]?=w3.heap[b]?:=fun b hb=>by rw [←hW1];exact (Below.heap_alloc _ _ _ (by simp only [World.size_alloc];omega)).trans (Below.heap_alloc _ _ _ hb)
 have zW1:W1.heap.size=T+1+1+1:=by rw [←hW1];simp [z3]
 have hd1:W1.heap[T+1]?=some (.deferred (some [])):=by rw [←hW1];exact (Below.heap_alloc _ _ _ (by simp only [World.size_alloc];omega)).trans (alloc_at (by omega))
 have hl1:W1.heap[T+1+1]?=some (.loop r):=by rw [←hW1];exact alloc_at (by simp only [World.size_alloc];omega)
 have hB1:Below h w W1:=by rw [←hW1];exact (hB3.alloc (by omega) _).alloc (by simp only [World.size_alloc];omega) _
 have j0:JM h T w 0 0 r W1:=⟨hB1,by omega,hd1,hl1,(old _ (by omega)).trans b1,(old _ (by omega)).trans b2⟩
 have hsup:Sup w W1:=fun b c t z e=>by
  have hb:=heap_lt e
  rw [hh] at hb
  exact (hB1.block b hb).trans e
 have hcall:CallsIn Fence.wide 5 Tryz.prog 162 #[.func (.yield (T+1+1)) #[] #[],.pointer (some ⟨T,0,none⟩)] W1
   (fun e w'=>(∃ v,e = .returned v)∧((((preN 0 [] false (.mk k s kids)).length≤4000∧lvs (preN 0 [] false (.mk k s kids))≤(preN 0 [] false (.mk k s kids)).length)∧JM h T w (preN 0 [] false (.mk k s kids)).length (lvs (preN 0 [] false (.mk k s kids))) r w')∨∃ q,q <+: preN 0 [] false (.mk k s kids)∧q.length=4001∧JM h T w 4001 (lvs q) { r with state:=.done,pending:=some (.exit 0) } w')):=by
  refine (callsIn_wide (n:=5)).2 ?_
  refine walkI_any (fun _ b=>b=h+1∨b=h+1+1) (T+1+1) T w W1 (fun pre W=>(pre.length≤4000∧lvs pre≤pre.length)∧JM h T w pre.length (lvs pre) r W) (fun q W=>q.length=4001∧JM h T w 4001 (lvs q) { r with state:=.done,pending:=some (.exit 0) } W) k s kids a cap
   (fun pre W hj=>by have:=hj.1.1;omega) (fun pre A B hj hb _=>⟨hj.1,hj.2.below hb (by omega) (by omega)⟩) (fun _ _ _ b hb=>hb) (fun pre A hj b hb=>by have:=hj.2.z;omega) ?_ ht ((old T (by omega)).trans b3) hsup (by omega) (fun b hb=>by omega) ⟨⟨by simp,by simp [lvs]⟩,j0⟩
  intro m pre it A vp vi u0 u1 u2 n₁ ps hn1 hj _ hpd hg
  obtain ⟨R,hR⟩:∃ R:Ending→World→Prop,(fun e W'=>(e = .returned (.bool true)∧((((pre++[it]).length≤4000∧lvs (pre++[it])≤(pre++[it]).length)∧JM h T w (pre++[it]).length (lvs (pre++[it])) r W'))∧Kc (fun _ b=>b=h+1∨b=h+1+1) A W')∨(e = .returned (.bool false)∧((pre++[it]).length=4001∧JM h T w 4001 (lvs (pre++[it])) { r with state:=.done,pending:=some (.exit 0) } W')∧Kc (fun _ b=>b=h+1∨b=h+1+1) A W'))=R:=⟨_,rfl⟩
  show YieldAt Fence.wide m Tryz.prog (T+1+1) _ A (fun e W'=>(e = .returned (.bool true)∧((((pre++[it]).length≤4000∧lvs (pre++[it])≤(pre++[it]).length)∧JM h T w (pre++[it]).length (lvs (pre++[it])) r W'))∧Kc (fun _ b=>b=h+1∨b=h+1+1) A W')∨(e = .returned (.bool false)∧((pre++[it]).length=4001∧JM h T w 4001 (lvs (pre++[it])) { r with state:=.done,pending:=some (.exit 0) } W')∧Kc (fun _ b=>b=h+1∨b=h+1+1) A W'))
  rw [hR]
  have HR:=qh hR;clear hR
  obtain ⟨⟨hpl,hlvp⟩,hjm⟩:=hj
  obtain ⟨hgd,hgp,hgi,hgt⟩:=hg
  obtain ⟨ap,cp,rfl⟩:=row_shape hgp
  obtain ⟨ai,ci,rfl⟩:=row_shape hgi
  obtain ⟨k1,s1,l1,a1,c1,ht1,rfl,rfl,rfl,_,_⟩:=hgt.form
  refine ⟨_,_,_,_,run_yield (P:=Tryz.prog) hjm.l (by rw [hr3];rfl),?_⟩
  have hr4:r.fn=74:=by rw [hr]
  rw [hr4]
  refine roundIn_of_wpIn_p trivial Tryz.func74 ?_
  have hrs:=hr1
  have HJ:=qh hjm
  have HRR:=qh hr
  have HGD:=qh hgd
  simp only [hr]
  clear hgp hgi hgt hjm hr hr1 hr2 hr3 hr4
  gi_wp2
  refine ⟨_,run_beginRound (r:=r) ((Below.heap_alloc _ _ _ (heap_lt HJ.out.l)).trans HJ.out.l) hrs,?_⟩
  obtain ⟨N,hN⟩:∃ N,A.heap.size=N:=⟨_,rfl⟩
  obtain ⟨W2,hW2⟩:∃ W2,(A.alloc (.cells #[.slice ap ps.length cp,.slice ai it.ins.length ci,.bool it.wd] 108)).putObj (T+1+1) (.loop { r with state:=.busy })=W2:=⟨_,rfl⟩
  have hTN:T+1+1 < N:=by have:=HJ.out.z;omega
  have ko:∀ b,b < N→b≠T+1+1→W2.heap[b]?=A.heap[b]?:=fun b hb1 hb2=>by
   rw [←hW2];exact (World.putObj_heap_other hb2).trans (Below.heap_alloc _ _ _ (by omega))
  have mz:W2.heap.size=N+1:=by rw [←hW2,World.putObj_size,World.size_alloc,hN]
  have m5:W2.heap[T+1+1]?=some (.loop { r with state:=.busy }):=by rw [←hW2];exact World.putObj_heap_same (by rw [World.size_alloc];omega)
  have mt:RowP W2 N (.slice ap ps.length cp) (.slice ai it.ins.length ci) (.bool it.wd):=by
   rw [←hW2,←hN];exact (World.putObj_heap_other (by omega)).trans (World.alloc_heap_new _ _)
  have mb:Below h w W2:=by rw [←hW2];exact below_put (HJ.out.b.alloc (by omega) _) _ _ (by omega)
  have mn:=(ko (h+1) (by omega) (by omega)).trans HJ.out.n
  have mv:=(ko (h+1+1) (by omega) (by omega)).trans HJ.out.v
  have md:=(ko (T+1) (by omega) (by omega)).trans HJ.out.d
  have mk:Kc (fun _ b=>b=h+1∨b=h+1+1) A W2:=⟨by omega,fun b c t z _ e=>(ko b (by have:=heap_lt e;omega) (by rintro rfl;rw [HJ.out.l] at e;cases e)).trans e,fun b hb=>.inl hb⟩
  rw [hW2,hN]
  have c1:W2.cell? ⟨h+1,0,none⟩=some (.int .i64 pre.length):=cell_of_row _ _ _ _ _ _ mn
  have c2:W2.cell? ⟨h+1+1,0,none⟩=some (.int .i64 (lvs pre)):=cell_of_row _ _ _ _ _ _ mv
  have g1:W2.frozen? ⟨h+1,0,none⟩=false:=frozen_of_row _ _ _ _ _ mn
  have g2:W2.frozen? ⟨h+1+1,0,none⟩=false:=frozen_of_row _ _ _ _ _ mv
  obtain ⟨⟨p0,p1,p2⟩,_⟩:=mt.cells
  have HM:=qh (show (Below h w W2∧W2.heap.size=N+1∧W2.heap[T+1+1]?=some (.loop { r with state:=.busy })∧W2.heap[T+1]?=some (.deferred (some []))∧W2.heap[h+1]?=some (.cells #[.int .i64 pre.length] 3 (0,0))∧W2.heap[h+1+1]?=some (.cells #[.int .i64 (lvs pre)] 3 (0,0))) from ⟨mb,mz,m5,md,mn,mv⟩)
  have HK:=qh mk
  have HN:=qh hN
  obtain ⟨LV,hLV⟩:∃ LV,lvs pre=LV:=⟨_,rfl⟩
  obtain ⟨PL,hPL⟩:∃ PL,pre.length=PL:=⟨_,rfl⟩
  obtain ⟨D,hD⟩:∃ D,ps.length=D:=⟨_,rfl⟩
  have hlv:LV≤PL:=by omega
  have hdd:D≤PL:=by omega
  rw [hLV] at c2 HM
  rw [hPL] at c1 hpl HM
  clear hlvp hpd
  rw [hD] at p0
  have HLV:=qh hLV
  have HPL:=qh hPL
  have HDD:=qh hD
  clear ko mz m5 mb mn mv md mk hW2 hN hLV hPL hD mt
  have eM:((max LV (D+1):Nat):Int)=max (LV:Int) ((D:Int)+1):=by omega
  have EM:=qh eM
  have fin:∀ rl:Loop,JM h T w (PL+1) (max LV (D+1)) rl (((W2.setCell ⟨h+1,0,none⟩ (.int .i64 ((PL:Int)+1))).setCell ⟨h+1+1,0,none⟩ (.int .i64 (max (LV:Int) ((D:Int)+1)))).putObj (T+1+1) (.loop rl)) ∧
    Kc (fun _ b=>b=h+1∨b=h+1+1) A (((W2.setCell ⟨h+1,0,none⟩ (.int .i64 ((PL:Int)+1))).setCell ⟨h+1+1,0,none⟩ (.int .i64 (max (LV:Int) ((D:Int)+1)))).putObj (T+1+1) (.loop rl)) ∧
    ((W2.setCell ⟨h+1,0,none⟩ (.int .i64 ((PL:Int)+1))).setCell ⟨h+1+1,0,none⟩ (.int .i64 (max (LV:Int) ((D:Int)+1)))).heap[T+1+1]?=some (.loop { r with state:=.busy }):=by
   intro rl
   obtain ⟨mb,mz,m5,md,mn,mv⟩:=HM.out
   have hT0:=HT.out
   obtain ⟨W5,hW5⟩:∃ W5,(W2.setCell ⟨h+1,0,none⟩ (.int .i64 ((PL:Int)+1))).setCell ⟨h+1+1,0,none⟩ (.int .i64 (max (LV:Int) ((D:Int)+1)))=W5:=⟨_,rfl⟩
   have far:∀ b,b≠h+1→b≠h+1+1→W5.heap[b]?=W2.heap[b]?:=fun b h1 h2=>by
    rw [←hW5];exact (Below.heap_setCell _ _ _ _ (by simp only;exact h2)).trans (Below.heap_setCell _ _ _ _ (by simp only;exact h1))
   have s1:W5.heap[h+1]?=some (.cells #[.int .i64 ((PL+1:Nat):Int)] 3 (0,0)):=by
    rw [←hW5];exact (Below.heap_setCell _ _ _ _ (by simp only;omega)).trans (heap_setCell_same _ _ 0 _ _ _ mn)
   have s2:W5.heap[h+1+1]?=some (.cells #[.int .i64 ((max LV (D+1):Nat):Int)] 3 (0,0)):=by
    rw [←hW5,EM.out];exact heap_setCell_same _ _ 0 _ _ _ ((Below.heap_setCell _ _ _ _ (by simp only;omega)).trans mv)
   have sz:W5.heap.size=W2.heap.size:=by rw [←hW5];simp
   have sb:Below h w W5:=by
    rw [←hW5];exact (mb.setCell (p:=⟨h+1,0,none⟩) (by simp only;omega) _).setCell (p:=⟨h+1+1,0,none⟩) (by simp only;omega) _
   have l5:W5.heap[T+1+1]?=some (.loop { r with state:=.busy }):=(far _ (by omega) (by omega)).trans m5
   have po:∀ b,b≠T+1+1→(W5.putObj (T+1+1) (.loop rl)).heap[b]?=W5.heap[b]?:=fun b hb=>World.putObj_heap_other hb
   rw [hW5]
   refine ⟨⟨below_put sb _ _ (by omega),by rw [World.putObj_size];omega,(po _ (by omega)).trans ((far _ (by omega) (by omega)).trans md),World.putObj_heap_same (by omega),(po _ (by omega)).trans s1,(po _ (by omega)).trans s2⟩,⟨by rw [World.putObj_size,sz];exact HK.out.1,fun b c t z hb e=>?_,fun b hb=>.inl hb⟩,l5⟩
   have hb1:b≠T+1+1:=by rintro rfl;rw [HJ.out.l] at e;cases e
   exact (po b hb1).trans ((far b (fun h1=>hb (.inl h1)) (fun h1=>hb (.inr h1))).trans (HK.out.2.1 b c t z hb e))
  have HF:=qh fin
  have e0:({ ({ r with state:=.busy }:Loop) with state:=.ready,pending:=none }:Loop)=r:=by rw [HRR.out]
  have E0:=qh e0
  have HLS:Hid (lvs (pre++[it])=max LV (D+1)):=qh (by rw [lvs_snoc,HLV.out,HGD.out,HDD.out])
  have HPS:Hid ((pre++[it]).length=PL+1):=qh (by rw [List.length_append,HPL.out];rfl)
  clear fin e0 eM
  by_cases hc:PL < 4000
  ·have hc':¬ (4000 < (PL:Int)+1):=by omega
   gi_wp2
   refine ⟨_,_,run_endRound none (HF.out r).2.2,?_⟩
   simp only [Option.isNone_none,if_true]
   rw [E0.out,←HR.out]
   exact .inl ⟨rfl,⟨⟨by rw [HPS.out];omega,by rw [HPS.out,HLS.out];omega⟩,by rw [HPS.out,HLS.out];exact (HF.out r).1⟩,(HF.out r).2.1⟩
  ·have hc':(4000 < (PL:Int)+1):=by omega
   gi_wp2
   refine ⟨_,_,run_endRound (some (.exit 0)) (HF.out r).2.2,?_⟩
   simp only [Option.isNone_some,Bool.false_eq_true,if_false]
   rw [←HR.out]
   have hp4:PL+1=4001:=by omega
   have hj:=(HF.out { r with state:=.done,pending:=some (.exit 0) }).1
   rw [hp4] at hj
   exact .inr ⟨rfl,⟨by rw [HPS.out];omega,by rw [HLS.out];exact hj⟩,(HF.out _).2.1⟩
 rw [z3,hW1]
 refine hcall.mono ?_
 clear hcall j0 hsup hd1 hl1 old b1 b2 b3 hB3 hB1
 have HSZ:=qh (preN_len 0 [] false (.mk k s kids))
 have HDP:=qh (lvs_preN 0 [] false (.mk k s kids))
 rintro e w' ⟨⟨v0,rfl⟩,⟨⟨hp4,_⟩,j⟩ | ⟨q,hq,hql,j⟩⟩
 ·refine ⟨none,w'.putObj (T+1+1) (.loop { r with state:=.exhausted }),?_,?_⟩
  ·refine (run_endLoop (P:=Tryz.prog) j.l (by rw [hr1];simp)).trans ?_
   rw [hr2]
  ·rw [HSZ.out] at hp4 j
   rw [HDP.out,Nat.zero_add] at j
   obtain ⟨NN,hNN⟩:∃ NN,(Nd.mk k s kids).sz=NN:=⟨_,rfl⟩
   obtain ⟨LL,hLL⟩:∃ LL,(Nd.mk k s kids).dp=LL:=⟨_,rfl⟩
   rw [hNN] at hp4 j
   rw [hLL] at j
   have HNN:=qh hNN
   have HLL:=qh hLL
   have HP4:=qh hp4
   clear hNN hLL hp4
   obtain ⟨W4,hW4⟩:∃ W4,w'.putObj (T+1+1) (.loop { r with state:=.exhausted })=W4:=⟨_,rfl⟩
   rw [hW4]
   dsimp only [Exit.inBlock,Exit.then]
   have n4:W4.heap[h+1]?=some (.cells #[.int .i64 (NN:Nat)] 3 (0,0)):=by rw [←hW4];exact (World.putObj_heap_other (by have:=HT.out;omega)).trans j.n
   have v4:W4.heap[h+1+1]?=some (.cells #[.int .i64 (LL:Nat)] 3 (0,0)):=by rw [←hW4];exact (World.putObj_heap_other (by have:=HT.out;omega)).trans j.v
   have d4:W4.heap[T+1]?=some (.deferred (some [])):=by rw [←hW4];exact (World.putObj_heap_other (by omega)).trans j.d
   have b4:Below h w W4:=by rw [←hW4];exact below_put j.b _ _ (by have:=HT.out;omega)
   have q1:W4.cell? ⟨h+1,0,none⟩=some (.int .i64 (NN:Nat)):=cell_of_row _ _ _ _ _ _ n4
   have q2:W4.cell? ⟨h+1+1,0,none⟩=some (.int .i64 (LL:Nat)):=cell_of_row _ _ _ _ _ _ v4
   have q3:W4.frozen? ⟨h+1,0,none⟩=false:=frozen_of_row _ _ _ _ _ n4
   have q4:W4.frozen? ⟨h+1+1,0,none⟩=false:=frozen_of_row _ _ _ _ _ v4
   have N4:=qh n4
   have V4:=qh v4
   have D4:=qh d4
   have B4:=qh b4
   clear n4 v4 d4 b4 hW4 j
   refine wpAt_of_wpIn (n:=6) ?_
   refine wpIn_wide.2 ?_
   go_wp2_with fail
   go_region
   all_goals go_wp2
   obtain ⟨W5,hW5⟩:∃ W5,((W4.setCell ⟨h+1,0,none⟩ (.int .i64 (NN:Nat))).setCell ⟨h+1+1,0,none⟩ (.int .i64 (LL:Nat))).drew=W5:=⟨_,rfl⟩
   have hT0:=HT.out
   have far:∀ b,b≠h+1→b≠h+1+1→W5.heap[b]?=W4.heap[b]?:=fun b h1 h2=>by
    rw [←hW5];exact (show ((W4.setCell ⟨h+1,0,none⟩ (.int .i64 (NN:Nat))).setCell ⟨h+1+1,0,none⟩ (.int .i64 (LL:Nat))).heap[b]?=W4.heap[b]? from (Below.heap_setCell _ _ _ _ (by simp only;exact h2)).trans (Below.heap_setCell _ _ _ _ (by simp only;exact h1)))
   have n5:W5.heap[h+1]?=some (.cells #[.int .i64 (NN:Nat)] 3 (0,0)):=by
    rw [←hW5];exact (show ((W4.setCell ⟨h+1,0,none⟩ (.int .i64 (NN:Nat))).setCell ⟨h+1+1,0,none⟩ (.int .i64 (LL:Nat))).heap[h+1]?=_ from (Below.heap_setCell _ _ _ _ (by simp only;omega)).trans (heap_setCell_same _ _ 0 _ _ _ N4.out))
   have v5:W5.heap[h+1+1]?=some (.cells #[.int .i64 (LL:Nat)] 3 (0,0)):=by
    rw [←hW5];exact (show ((W4.setCell ⟨h+1,0,none⟩ (.int .i64 (NN:Nat))).setCell ⟨h+1+1,0,none⟩ (.int .i64 (LL:Nat))).heap[h+1+1]?=_ from heap_setCell_same _ _ 0 _ _ _ ((Below.heap_setCell _ _ _ _ (by simp only;omega)).trans V4.out))
   have d5:W5.heap[T+1]?=some (.deferred (some [])):=(far _ (by omega) (by omega)).trans D4.out
   have b5:Below h w W5:=by
    rw [←hW5];exact ((B4.out.setCell (p:=⟨h+1,0,none⟩) (by simp only;omega) _).setCell (p:=⟨h+1+1,0,none⟩) (by simp only;omega) _).drew
   rw [hW5]
   refine ⟨by simp,.inl ⟨_,_,rfl,run_takeDeferred d5,?_⟩⟩
   have r1:(W5.putObj (T+1) (.deferred none)).cell? ⟨h+1,0,none⟩=some (.int .i64 (NN:Nat)):=cell_of_row _ _ _ _ _ _ ((World.putObj_heap_other (by omega)).trans n5)
   have r2:(W5.putObj (T+1) (.deferred none)).cell? ⟨h+1+1,0,none⟩=some (.int .i64 (LL:Nat)):=cell_of_row _ _ _ _ _ _ ((World.putObj_heap_other (by omega)).trans v5)
   refine ⟨.tuple #[.int .i64 (NN:Nat),.int .i64 (LL:Nat)],by simp [results,Tryz.results74,go_sem,r1,r2],LL,?_,?_,below_put b5 _ _ (by omega)⟩
   ·rw [HNN.out,Nat.min_eq_left (by have:=HP4.out;omega)]
   ·intro _;exact HLL.out.symm
 ·refine ⟨some (.exit 0),w'.putObj (T+1+1) (.loop { ({ r with state:=.done,pending:=some (.exit 0) }:Loop) with state:=.exhausted }),?_,?_⟩
  ·exact run_endLoop (P:=Tryz.prog) j.l (by simp)
  ·have h4001:4001≤(Nd.mk k s kids).sz:=by
    have:=hq.length_le
    rw [HSZ.out,hql] at this
    exact this
   obtain ⟨W4,hW4⟩:∃ W4,w'.putObj (T+1+1) (.loop { ({ r with state:=.done,pending:=some (.exit 0) }:Loop) with state:=.exhausted })=W4:=⟨_,rfl⟩
   rw [hW4]
   obtain ⟨NN,hNN⟩:∃ NN,4001=NN:=⟨_,rfl⟩
   obtain ⟨LL,hLL⟩:∃ LL,lvs q=LL:=⟨_,rfl⟩
   rw [hNN,hLL] at j
   have HNN:=qh hNN
   have H41:=qh h4001
   clear hLL hNN h4001 hq hql
   have n4:W4.heap[h+1]?=some (.cells #[.int .i64 (NN:Nat)] 3 (0,0)):=by rw [←hW4];exact (World.putObj_heap_other (by have:=HT.out;omega)).trans j.n
   have v4:W4.heap[h+1+1]?=some (.cells #[.int .i64 (LL:Nat)] 3 (0,0)):=by rw [←hW4];exact (World.putObj_heap_other (by have:=HT.out;omega)).trans j.v
   have d4:W4.heap[T+1]?=some (.deferred (some [])):=by rw [←hW4];exact (World.putObj_heap_other (by omega)).trans j.d
   have b4:Below h w W4:=by rw [←hW4];exact below_put j.b _ _ (by have:=HT.out;omega)
   have q1:W4.cell? ⟨h+1,0,none⟩=some (.int .i64 (NN:Nat)):=cell_of_row _ _ _ _ _ _ n4
   have q2:W4.cell? ⟨h+1+1,0,none⟩=some (.int .i64 (LL:Nat)):=cell_of_row _ _ _ _ _ _ v4
   have q3:W4.frozen? ⟨h+1,0,none⟩=false:=frozen_of_row _ _ _ _ _ n4
   have q4:W4.frozen? ⟨h+1+1,0,none⟩=false:=frozen_of_row _ _ _ _ _ v4
   clear hr hr1 hr2 hr3
   have N4:=qh n4
   have V4:=qh v4
   have D4:=qh d4
   have B4:=qh b4
   clear n4 v4 d4 b4 hW4 j
   gi_wp2
   refine wpAt_of_wpIn (n:=6) ?_
   refine wpIn_wide.2 ?_
   go_wp2_with fail
   go_region
   all_goals go_wp2
   obtain ⟨W5,hW5⟩:∃ W5,((W4.setCell ⟨h+1,0,none⟩ (.int .i64 (NN:Nat))).setCell ⟨h+1+1,0,none⟩ (.int .i64 (LL:Nat))).drew=W5:=⟨_,rfl⟩
   have hT0:=HT.out
   have far:∀ b,b≠h+1→b≠h+1+1→W5.heap[b]?=W4.heap[b]?:=fun b h1 h2=>by
    rw [←hW5];exact (show ((W4.setCell ⟨h+1,0,none⟩ (.int .i64 (NN:Nat))).setCell ⟨h+1+1,0,none⟩ (.int .i64 (LL:Nat))).heap[b]?=W4.heap[b]? from (Below.heap_setCell _ _ _ _ (by simp only;exact h2)).trans (Below.heap_setCell _ _ _ _ (by simp only;exact h1)))
   have n5:W5.heap[h+1]?=some (.cells #[.int .i64 (NN:Nat)] 3 (0,0)):=by
    rw [←hW5];exact (show ((W4.setCell ⟨h+1,0,none⟩ (.int .i64 (NN:Nat))).setCell ⟨h+1+1,0,none⟩ (.int .i64 (LL:Nat))).heap[h+1]?=_ from (Below.heap_setCell _ _ _ _ (by simp only;omega)).trans (heap_setCell_same _ _ 0 _ _ _ N4.out))
   have v5:W5.heap[h+1+1]?=some (.cells #[.int .i64 (LL:Nat)] 3 (0,0)):=by
    rw [←hW5];exact (show ((W4.setCell ⟨h+1,0,none⟩ (.int .i64 (NN:Nat))).setCell ⟨h+1+1,0,none⟩ (.int .i64 (LL:Nat))).heap[h+1+1]?=_ from heap_setCell_same _ _ 0 _ _ _ ((Below.heap_setCell _ _ _ _ (by simp only;omega)).trans V4.out))
   have d5:W5.heap[T+1]?=some (.deferred (some [])):=(far _ (by omega) (by omega)).trans D4.out
   have b5:Below h w W5:=by
    rw [←hW5];exact ((B4.out.setCell (p:=⟨h+1,0,none⟩) (by simp only;omega) _).setCell (p:=⟨h+1+1,0,none⟩) (by simp only;omega) _).drew
   rw [hW5]
   refine ⟨by simp,.inl ⟨_,_,rfl,run_takeDeferred d5,?_⟩⟩
   have r1:(W5.putObj (T+1) (.deferred none)).cell? ⟨h+1,0,none⟩=some (.int .i64 (NN:Nat)):=cell_of_row _ _ _ _ _ _ ((World.putObj_heap_other (by omega)).trans n5)
   have r2:(W5.putObj (T+1) (.deferred none)).cell? ⟨h+1+1,0,none⟩=some (.int .i64 (LL:Nat)):=cell_of_row _ _ _ _ _ _ ((World.putObj_heap_other (by omega)).trans v5)
   refine ⟨.tuple #[.int .i64 (NN:Nat),.int .i64 (LL:Nat)],by simp [results,Tryz.results74,go_sem,r1,r2],LL,?_,?_,below_put b5 _ _ (by omega)⟩
   ·rw [Nat.min_eq_right H41.out,HNN.out]
   ·intro hle;have:=H41.out;omega
end Go.Proofs.YtgjijidlaghlmaaGreatDoor
namespace Go.Proofs.YtgjijidlaghlmaaGreatDoor
namespace Lx
def headP (P:UInt8→Bool) (l:Bs):Bool:=(l[0]?.map P).getD false
theorem runLen_eq (l:Bs):runLen l=l.length↔l.all part=true:=by
 induction l with
 | nil=>simp [runLen]
 | cons c r ih =>
  rw [runLen_cons,List.all_cons]
  cases hc:part c
  ·simp
  ·simp only [if_true,List.length_cons,Bool.true_and]
   rw [←ih];omega
theorem runTo_zero (l:Bs):runTo l 0=runLen l:=by unfold runTo;rw [List.drop_zero,Nat.zero_add]
theorem part64:part 64=false:=by decide
theorem runLen_halt:∀ (l:Bs) (i:Nat) (c:UInt8),l[i]?=some c→part c=false→runLen l≤i
 | [],i,c,h,_=>by simp at h
 | a :: r,0,c,h,hp=>by
  simp at h;subst h;rw [runLen_cons,hp];simp
 | a :: r,i+1,c,h,hp=>by
  have:=runLen_halt r i c (by simpa using h) hp
  rw [runLen_cons];split <;> omega
theorem runLen_cut:∀ (l:Bs) (i:Nat) (c:UInt8),l[i]?=some c→part c=false→(runLen l=i↔(l.take i).all part=true)
 | [],i,c,h,_=>by simp at h
 | a :: r,0,c,h,hp=>by
  simp at h;subst h;rw [runLen_cons,hp];simp
 | a :: r,i+1,c,h,hp=>by
  have ih:=runLen_cut r i c (by simpa using h) hp
  rw [runLen_cons,List.take_succ_cons,List.all_cons]
  cases hc:part a
  ·simp
  ·simp only [if_true,Bool.true_and]
   rw [←ih];omega
theorem slice_all (l:Bs):slice l 0 l.length=l:=by unfold slice;simp
theorem tok_name (l:Bs):tokAt l 0=some (1,l.length)↔(headP small l=true∧nameTo l 0=l.length∧words.contains l=false):=by
 unfold headP tokAt
 cases hl:l[0]? with
 | none=>simp
 | some c =>
  simp only [Option.map_some,Option.getD_some]
  cases hs:small c
  ·simp only [Bool.false_eq_true,if_false,false_and,iff_false]
   split
   ·simp
   ·split
    ·simp
    ·split <;> simp
  ·simp only [if_true,true_and]
   by_cases hn:nameTo l 0=l.length
   ·rw [hn,slice_all]
    have h45:¬ (l=[111]∧l[l.length]?=some 45):=by
     rintro ⟨_,h⟩;rw [List.getElem?_eq_none (Nat.le_refl _)] at h;cases h
    rw [if_neg h45]
    cases words.contains l <;> simp
   ·constructor
    ·intro h
     split at h
     ·simp at h
     ·split at h
      ·simp at h
      ·simp at h;exact absurd h hn
    ·intro h;exact absurd h.1 hn
theorem tok_var (l:Bs):tokAt l 0=some (2,l.length)↔(headP capital l=true∧l.all part=true):=by
 unfold headP tokAt
 cases hl:l[0]? with
 | none=>simp
 | some c =>
  simp only [Option.map_some,Option.getD_some]
  cases hs:small c
  ·simp only [Bool.false_eq_true,if_false]
   cases hc:capital c
   ·simp only [Bool.false_eq_true,if_false,false_and,iff_false]
    split
    ·simp
    ·split <;> simp
   ·simp only [if_true,true_and]
    rw [runTo_zero,←runLen_eq];simp
  ·have hc:capital c=false:=by
    have:=(show small c=true from hs)
    simp only [small,Bool.and_eq_true,decide_eq_true_eq] at this
    simp only [capital,Bool.and_eq_false_iff,decide_eq_false_iff_not]
    omega
   simp only [if_true,hc,Bool.false_eq_true,false_and,iff_false]
   split
   ·simp
   ·split <;> simp
theorem name_miss {l:Bs} (h:Lib.indexByte l 64 = -1):nameTo l 0=l.length↔l.all part=true:=by
 have hn:=Lib.indexByte_none h
 unfold nameTo
 simp only
 rw [if_neg (fun hc=>hn _ hc.1),runTo_zero,runLen_eq]
theorem name_hit {l:Bs} {i:Nat} (h:Lib.indexByte l 64=i):nameTo l 0=l.length↔((l.take i).all part=true∧headP small (l.drop (i+1))=true∧(l.drop (i+1)).all part=true):=by
 obtain ⟨h64,hlow⟩:=Lib.indexByte_some h
 have hi:i < l.length:=(List.getElem?_eq_some_iff.1 h64).1
 have hst:=runLen_halt l i 64 h64 part64
 have hh:headP small (l.drop (i+1))=(l[i+1]?.map small).getD false:=by
  unfold headP;rw [List.getElem?_drop,Nat.add_zero]
 rw [hh,←runLen_cut l i 64 h64 part64,←runLen_eq]
 unfold nameTo
 simp only [runTo_zero]
 by_cases hr:runLen l=i
 ·rw [hr]
  cases hq:(l[i+1]?.map small) with
  | none=>simp [h64];omega
  | some b =>
   cases b
   ·simp [h64];omega
   ·have:runTo l (i+1)=i+1+runLen (l.drop (i+1)):=rfl
    simp [h64,this,List.length_drop]
    omega
 ·have hlt:runLen l < i:=by omega
  rw [if_neg (fun hc=>hlow _ hlt hc.1)]
  simp [hr];omega
theorem head_take {P:UInt8→Bool} {l:Bs} {i:Nat} (h:Lib.indexByte l 64=i) (hP:P 64=false):headP P (l.take i)=headP P l:=by
 obtain ⟨h64,hlow⟩:=Lib.indexByte_some h
 unfold headP
 cases i with
 | zero=>rw [h64];simp [hP]
 | succ i=>simp
end Lx
end Go.Proofs.YtgjijidlaghlmaaGreatDoor
namespace Go.Proofs.YtgjijidlaghlmaaGreatDoor
open Go.RowKit
theorem byte_forall {P:UInt8→Bool} (h:(List.range 256).all (fun n=>P n.toUInt8)=true) (c:UInt8):P c=true:=by
 have:=List.all_eq_true.1 h c.toNat (List.mem_range.2 c.toNat_lt)
 rwa [show c.toNat.toUInt8=c from by simp] at this
theorem first_byte {l:Lx.Bs} {c:UInt8} {k j:Nat} (hc:l[0]?=some c) (h:Lx.tokAt l 0=some (k,j)):Lx.blank c=false∧c.toNat≠37:=by
 have key:(Lx.small c || Lx.capital c || Lx.signB c || (c==45 || c==61 || c==60))=true:=by
  unfold Lx.tokAt at h
  rw [hc] at h
  simp only at h
  cases hs:Lx.small c
  ·cases hp:Lx.capital c
   ·cases hg:Lx.signB c
    ·rw [hs,hp,hg] at h
     simp only [Bool.false_eq_true,if_false] at h
     split at h
     ·rename_i hl
      have h0:∀ a b,Lx.pre l 0 [a,b]=true→c=a:=fun a b hab=>by
       have:=(Lx.pre_two hab).1
       rw [hc] at this;exact Option.some.inj this
      simp only [Lx.isLong,Bool.or_eq_true,Bool.and_eq_true] at hl
      rcases hl with ((⟨h1,_⟩ | h1) | h1) | h1 <;> (rw [h0 _ _ h1];decide)
     ·cases h
    ·simp
   ·simp
  ·simp
 have:=byte_forall (P:=fun c=>!(Lx.small c || Lx.capital c || Lx.signB c || (c==45 || c==61 || c==60)) || (!Lx.blank c && !decide (c.toNat=37))) (by decide +kernel) c
 simp only [key,Bool.not_true,Bool.false_or,Bool.and_eq_true,Bool.not_eq_true',decide_eq_false_iff_not] at this
 exact this
theorem refTok_iff (k:Nat) (s:ByteArray) (p:Int):refTok ⟨k,s,p⟩=true↔Lx.tokAt (bs s) 0=some (k,(bs s).length):=by
 unfold refTok
 simp only
 cases Lx.tokAt (bs s) 0 with
 | none=>simp
 | some x =>
  obtain ⟨k',j⟩:=x
  simp only [Bool.and_eq_true,decide_eq_true_eq,Option.some.injEq,Prod.mk.injEq,bs_len]
  omega
theorem check_iff (k:Nat) (s:ByteArray) (p:Int):checkB ⟨k,s,p⟩=true↔(s.size≤40∧Lx.tokAt (bs s) 0=some (k,(bs s).length)):=by
 rw [check_ref,←refTok_iff k s p]
 unfold refB
 simp only
 cases hc:(bs s)[0]? with
 | none =>
  constructor
  ·intro h;cases h
  ·rintro ⟨_,h⟩
   rw [refTok_iff] at h
   simp [Lx.tokAt,hc] at h
 | some c =>
  simp only [Bool.and_eq_true,decide_eq_true_eq]
  constructor
  ·rintro ⟨⟨⟨h1,_⟩,_⟩,h2⟩;exact ⟨h1,h2⟩
  ·rintro ⟨h1,h2⟩
   have:=first_byte hc ((refTok_iff k s p).1 h2)
   exact ⟨⟨⟨h1,by rw [this.1];rfl⟩,by simpa using this.2⟩,h2⟩
theorem check_name (s:ByteArray) (p:Int):checkB ⟨1,s,p⟩=(decide (s.size≤40) && (Lx.headP Lx.small (bs s) && (decide (Lx.nameTo (bs s) 0=(bs s).length) && !Lx.words.contains (bs s)))):=by
 rw [Bool.eq_iff_iff,show checkB ⟨1,s,p⟩=checkB ⟨((1:Nat):Int),s,p⟩ from rfl,check_iff,Lx.tok_name]
 simp only [Bool.and_eq_true,decide_eq_true_eq,Bool.not_eq_true']
theorem check_var (s:ByteArray) (p:Int):checkB ⟨2,s,p⟩=(decide (s.size≤40) && (Lx.headP Lx.capital (bs s) && (bs s).all Lx.part)):=by
 rw [Bool.eq_iff_iff,show checkB ⟨2,s,p⟩=checkB ⟨((2:Nat):Int),s,p⟩ from rfl,check_iff,Lx.tok_var]
 simp only [Bool.and_eq_true,decide_eq_true_eq]
theorem cut_cases (s:ByteArray):Lib.indexByte s.data.toList 64 = -1∨∃ i:Nat,i < s.size∧Lib.indexByte s.data.toList 64=i:=by
 have hge:=Lib.indexByte_ge s.data.toList 64
 by_cases h:Lib.indexByte s.data.toList 64 = -1
 ·exact .inl h
 ·obtain ⟨i,hi⟩:=Int.eq_ofNat_of_zero_le (show 0≤Lib.indexByte s.data.toList 64 from by omega)
  have:=(List.getElem?_eq_some_iff.1 (Lib.indexByte_some hi).1).1
  exact .inr ⟨i,this,hi⟩
theorem name_plain (s:ByteArray) (h:Lib.indexByte s.data.toList 64 = -1):checkB ⟨1,s,0⟩=(decide (s.size≤40) && (Lx.headP Lx.small (bs s) && ((bs s).all Lx.part && !Lx.words.contains (bs s)))):=by
 rw [check_name]
 congr 3
 rw [Bool.eq_iff_iff,decide_eq_true_eq]
 exact Lx.name_miss h
theorem name_linked (s:ByteArray) (i:Nat) (h:Lib.indexByte s.data.toList 64=i) :
  checkB ⟨1,s,0⟩=(decide (s.size≤40) && (Lx.headP Lx.small (bs (s.extract 0 i)) && ((bs (s.extract 0 i)).all Lx.part && (Lx.headP Lx.small (bs (s.extract (i+1) s.size)) && ((bs (s.extract (i+1) s.size)).all Lx.part && !Lx.words.contains (bs s)))))):=by
 have e1:bs (s.extract 0 i)=(bs s).take i:=by rw [bs_extract];unfold Lx.slice;simp
 have e2:bs (s.extract (i+1) s.size)=(bs s).drop (i+1):=by
  rw [bs_extract];unfold Lx.slice
  rw [List.take_of_length_le (by rw [List.length_drop,bs_len];omega)]
 rw [check_name,e1,e2,Lx.head_take (l:=bs s) h (by decide)]
 have:=Lx.name_hit (l:=bs s) h
 rw [Bool.eq_iff_iff]
 simp only [Bool.and_eq_true,decide_eq_true_eq,this]
 constructor
 ·rintro ⟨a,b,⟨c,d,e⟩,f⟩;exact ⟨a,b,c,d,e,f⟩
 ·rintro ⟨a,b,c,d,e,f⟩;exact ⟨a,b,⟨c,d,e⟩,f⟩
end Go.Proofs.YtgjijidlaghlmaaGreatDoor
namespace Go.Proofs.YtgjijidlaghlmaaGreatDoor
open Go.RowKit
def smallS:ByteArray:=⟨#[97,98,99,100,101,102,103,104,105,106,107,108,109,110,111,112,113,114,115,116,117,118,119,120,121,122]⟩
def capS:ByteArray:=⟨#[65,66,67,68,69,70,71,72,73,74,75,76,77,78,79,80,81,82,83,84,85,86,87,88,89,90]⟩
def partS:ByteArray:=⟨#[97,98,99,100,101,102,103,104,105,106,107,108,109,110,111,112,113,114,115,116,117,118,119,120,121,122,65,66,67,68,69,70,71,72,73,74,75,76,77,78,79,80,81,82,83,84,85,86,87,88,89,90,48,49,50,51,52,53,54,55,56,57,95,39]⟩
theorem in_small (c:UInt8):decide (0≤Lib.indexByte smallS.data.toList c)=Lx.small c:=by
 have:=byte_forall (P:=fun c=>decide (0≤Lib.indexByte smallS.data.toList c)==Lx.small c) (by decide +kernel) c
 exact beq_iff_eq.1 this
theorem in_cap (c:UInt8):decide (0≤Lib.indexByte capS.data.toList c)=Lx.capital c:=by
 have:=byte_forall (P:=fun c=>decide (0≤Lib.indexByte capS.data.toList c)==Lx.capital c) (by decide +kernel) c
 exact beq_iff_eq.1 this
theorem in_part (c:UInt8):decide (0≤Lib.indexByte partS.data.toList c)=Lx.part c:=by
 have:=byte_forall (P:=fun c=>decide (0≤Lib.indexByte partS.data.toList c)==Lx.part c) (by decide +kernel) c
 exact beq_iff_eq.1 this
set_option maxRecDepth 100000 in
set_option maxHeartbeats 400000 in
theorem nWords (w:World):Calls Tryz.prog 200 #[] w fun e w'=>e = .returned (.slice (some ⟨w.heap.size,0,none⟩) 17 17)∧w'=w.alloc (.cells (wordsB.map Value.string).toArray 9):=by
 go_enter Tryz.func200,Tryz.ntmps200
 go_wp2
 go_ret
 exact ⟨rfl,rfl⟩
set_option maxRecDepth 100000 in
set_option maxHeartbeats 400000 in
theorem begins_v (P:UInt8→Bool) (V:Bool) (s L:ByteArray) (w:World) (hP:∀ c,decide (0≤Lib.indexByte L.data.toList c)=P c) (hV:Lx.headP P (bs s)=V) :
  Calls Tryz.prog 160 #[.string s,.string L] w fun e w'=>e = .returned (.bool V)∧w'=w:=by
 by_cases h0:s.size=0
 ·obtain rfl:s=⟨#[]⟩:=by
   obtain ⟨⟨l⟩⟩:=s
   have:l=[]:=List.eq_nil_of_length_eq_zero (by simpa [ByteArray.size] using h0)
   rw [this]
  have hVf:V=false:=by rw [←hV];rfl
  subst hVf
  clear hV hP h0
  go_enter Tryz.func160,Tryz.ntmps160
  go_wp2
  go_ret
  exact ⟨rfl,rfl⟩
 ·have hpos:0 < s.size:=by omega
  have hne2:(s.toList==[])=false:=by
   rw [ByteArray.toList_eq,beq_eq_false_iff_ne]
   intro e
   have h1:s.data.toList.length=s.size:=rfl
   have h2:s.size=([]:List UInt8).length:=h1.symm.trans (congrArg List.length e)
   simp only [List.length_nil] at h2
   omega
  have hne:(!(s.toList==[]))=true:=by rw [hne2];rfl
  have hg:(bs s)[0]?=some s[0]:=by rw [List.getElem?_eq_getElem (by rw [bs_len];exact hpos),bs_get hpos]
  have hv:decide ((0:Int)≤Lib.indexByte L.data.toList s[0])=V:=by rw [←hV,hP];unfold Lx.headP;rw [hg];rfl
  have hlt:s[0].toNat < 256:=s[0].toNat_lt
  have C:=fun w=>Tryz.strings_IndexByte L (s[0].toNat:Int) w
  rw [show ((s[0].toNat:Int)).toNat.toUInt8=s[0] from by simp] at C
  obtain ⟨I,hI⟩:∃ I,Lib.indexByte L.data.toList s[0]=I:=⟨_,rfl⟩
  rw [hI] at C hv
  have HC:=qh C
  have HV:=qh hv
  clear C hV hP hg hI h0 hv
  go_enter Tryz.func160,Tryz.ntmps160
  go_wp2_with fail
  refine (HC.out _).mono ?_
  rintro e w1 ⟨rfl,rfl⟩
  go_wp2
  go_ret
  exact ⟨by rw [←HV.out];rfl,rfl⟩
theorem all_step {l:Lx.Bs} {k:Nat} (h:k < l.length):(l.drop k).all Lx.part=(Lx.part l[k] && (l.drop (k+1)).all Lx.part):=by
 rw [List.drop_eq_getElem_cons h,List.all_cons]
set_option maxRecDepth 100000 in
set_option maxHeartbeats 400000 in
theorem inName_v (V:Bool) (s:ByteArray) (w:World) (hs:s.size≤maxLen) (hV:(bs s).all Lx.part=V) :
  Calls Tryz.prog 161 #[.string s] w fun e w'=>e = .returned (.bool V)∧w'=w:=by
 unfold maxLen at hs
 have HV:=qh hV
 have HL:=qh (bs_len s)
 have hby:=byte_lt
 have HC:=qh (fun (c:UInt8) w=>Tryz.strings_IndexByte partS (c.toNat:Int) w)
 clear hV
 go_enter Tryz.func161,Tryz.ntmps161
 go_wp2
 go_loopw [6] (fun v wr=>∃ k:Nat,k≤s.size∧v = .int .i64 k∧Hid (((bs s).drop k).all Lx.part=V)∧wr=w) (fun v _=>s.size - (intOf v).toNat)
 case atStart=>exact ⟨0,Nat.zero_le _,rfl,qh (by rw [List.drop_zero];exact HV.out),rfl⟩
 case round =>
  obtain ⟨k,hk,rfl,hall,rfl⟩:=hrel
  by_cases hlt:k < s.size
  ·have hlt':(k:Int) < (s.size:Int):=by omega
   have hst:=all_step (l:=bs s) (k:=k) (by rw [bs_len];exact hlt)
   rw [bs_get hlt] at hst
   have C:=fun w=>HC.out s[k] w
   rw [show ((s[k].toNat:Int)).toNat.toUInt8=s[k] from by simp] at C
   have hin:=in_part s[k]
   obtain ⟨I,hI⟩:∃ I,Lib.indexByte partS.data.toList s[k]=I:=⟨_,rfl⟩
   rw [hI] at C hin
   have Hst:=qh hst
   have CC:=qh C
   have Hin:=qh hin
   clear hst C hI hin
   unfold partS at CC
   go_wp2_with fail
   refine (CC.out _).mono ?_
   rintro e w1 ⟨rfl,rfl⟩
   by_cases hi:I < 0
   ·go_wp2
    go_ret
    exact ⟨by rw [←hall.out,Hst.out,←Hin.out,decide_eq_false (by omega)];rfl,rfl⟩
   ·go_wp2
    go_roundw
    case rel=>exact ⟨k+1,by omega,by push_cast;rfl,qh (by rw [←hall.out,Hst.out,←Hin.out,decide_eq_true (by omega)];rfl),trivial⟩
    case measure=>simp [intOf];omega
  ·have hlt':¬ (k:Int) < (s.size:Int):=by omega
   have hVt:V=true:=by rw [←hall.out,List.drop_of_length_le (by rw [bs_len];omega)];rfl
   subst hVt
   go_wp2
   go_ret
   exact ⟨rfl,rfl⟩
set_option maxRecDepth 100000 in
set_option maxHeartbeats 400000 in
theorem liteCut_any (s:ByteArray) (w:World) (hs:s.size≤maxLen) :
  Calls Tryz.prog 235 #[.string s,.string ⟨#[64]⟩] w fun e w'=>Below w.heap.size w w' ∧
   ((Lib.indexByte s.data.toList 64 = -1∧e = .returned (.tuple #[.string s,.string ⟨#[]⟩,.bool false])) ∨
    ∃ i:Nat,i < s.size∧Lib.indexByte s.data.toList 64=i∧e = .returned (.tuple #[.string (s.extract 0 i),.string (s.extract (i+1) s.size),.bool true])):=by
 have hc:=cut_cases s
 unfold maxLen at hs
 have HC:=fun w=>Tryz.stringslite_Index_one s 64 w
 rcases hc with hm | ⟨i,hi,he⟩
 ·rw [hm] at HC
  have HM:=qh hm
  have C:=qh HC
  clear hm HC
  go_enter Tryz.func235,Tryz.ntmps235
  go_wp2_with fail
  refine (C.out _).mono ?_
  rintro e w1 ⟨rfl,rfl⟩
  go_wp2
  go_ret3
  exact ⟨Below.refl _ _,.inl ⟨HM.out,rfl⟩⟩
 ·rw [he] at HC
  have HM:=qh he
  have C:=qh HC
  clear he HC
  have c1:(0:Int)≤(i:Int):=by omega
  have c2:(i:Int)≤(s.size:Int):=by omega
  have c3:(0:Int)≤(i:Int)+1:=by omega
  have c4:(i:Int)+1≤(s.size:Int):=by omega
  go_enter Tryz.func235,Tryz.ntmps235
  go_wp2_with fail
  refine (C.out _).mono ?_
  rintro e w1 ⟨rfl,rfl⟩
  go_wp2_with fail
  go_quiet (fail)
  go_wp2
  go_ret3
  exact ⟨⟨rfl,rfl,rfl,Nat.le_refl _,fun _ _=>rfl⟩,.inr ⟨i,hi,HM.out,rfl⟩⟩
set_option maxRecDepth 100000 in
set_option maxHeartbeats 400000 in
theorem cut_any (s:ByteArray) (w:World) (hs:s.size≤maxLen) :
  Calls Tryz.prog 199 #[.string s,.string ⟨#[64]⟩] w fun e w'=>Below w.heap.size w w' ∧
   ((Lib.indexByte s.data.toList 64 = -1∧e = .returned (.tuple #[.string s,.string ⟨#[]⟩,.bool false])) ∨
    ∃ i:Nat,i < s.size∧Lib.indexByte s.data.toList 64=i∧e = .returned (.tuple #[.string (s.extract 0 i),.string (s.extract (i+1) s.size),.bool true])):=by
 have C:=qh (fun w=>liteCut_any s w hs)
 go_enter Tryz.func199,Tryz.ntmps199
 go_wp2_with fail
 refine (C.out _).mono ?_
 rintro e w1 ⟨hb,⟨hm,rfl⟩ | ⟨i,hi,he,rfl⟩⟩
 ·have HM:=qh hm
  clear hm
  go_wp2
  go_ret3
  exact ⟨hb,.inl ⟨HM.out,rfl⟩⟩
 ·have HM:=qh he
  clear he
  go_wp2
  go_ret3
  exact ⟨hb,.inr ⟨i,hi,HM.out,rfl⟩⟩
theorem words_in (x:ByteArray) (w:World) (b:Nat) (hb:∀ k,k < wordsB.length→w.cell? ⟨b,0+k,none⟩=some (.string (wordsB.getD k ByteArray.empty))) :
  Calls Tryz.prog 101 #[.slice (some ⟨b,0,none⟩) 17 17,.string x] w fun e w'=>e = .returned (.bool (Lx.words.contains (bs x)))∧w'=w:=by
 have:=Tryz.slices_Contains_string b 0 17 17 wordsB x w (by decide) (by omega) hb
 rwa [contains_words] at this
theorem lit_cells (w:World) (L:List ByteArray) (t:TypeId) (k:Nat) (hk:k < L.length):(w.alloc (.cells (L.map Value.string).toArray t)).cell? ⟨w.heap.size,0+k,none⟩=some (.string (L.getD k ByteArray.empty)):=by
 rw [World.cell?_alloc_at _ _ _ _ rfl]
 simp only [Nat.zero_add,List.getElem?_toArray,List.getElem?_map,List.getD_eq_getElem?_getD]
 rw [List.getElem?_eq_getElem hk]
 rfl
set_option maxRecDepth 100000 in
set_option maxHeartbeats 1000000 in
theorem isName_plain (V:Bool) (s:ByteArray) (w:World) (hs:s.size≤maxLen) (hm:Lib.indexByte s.data.toList 64 = -1) (hV:checkB ⟨1,s,0⟩=V) :
  Calls Tryz.prog 139 #[.string s] w fun e w'=>e = .returned (.bool V)∧Below w.heap.size w w':=by
 rw [name_plain s hm] at hV
 have C0:=qh (fun w=>cut_any s w hs)
 obtain ⟨p,hp⟩:∃ p,s=p:=⟨_,rfl⟩
 have hx1:p.size≤maxLen:=by rw [←hp];exact hs
 have CW:Hid (∀ w,Calls Tryz.prog 200 #[] w fun e w'=>e = .returned (.slice (some ⟨w.heap.size,0,none⟩) 17 17)∧w'=w.alloc (.cells (wordsB.map Value.string).toArray 9)):=qh nWords
 obtain ⟨VW,hW⟩:∃ v,Lx.words.contains (bs s)=v:=⟨_,rfl⟩
 have CC:=fun w b hb=>words_in s w b hb
 rw [hW] at CC
 rw [hp] at hV
 have hV:=hV
 rw [←hp] at hV
 rw [hW] at hV
 obtain ⟨B1,hB1⟩:∃ v,Lx.headP Lx.small (bs s)=v:=⟨_,rfl⟩
 obtain ⟨P1,hP1⟩:∃ v,(bs s).all Lx.part=v:=⟨_,rfl⟩
 rw [hB1,hP1] at hV
 have CB1:=qh (fun w=>begins_v Lx.small B1 s smallS w in_small hB1)
 have CP1:=qh (fun w=>inName_v P1 s w hs hP1)
 unfold smallS at CB1
 have CH:=qh CC
 have HM:=qh hm
 have HV:=qh hV
 have HPQ:=qh hp
 by_cases h40:(s.size:Int)≤40
 ·have HD:=qh (decide_eq_true (show s.size≤40 by omega))
  clear CC hW hm hV hp  hB1 hP1 hx1
  go_enter Tryz.func139,Tryz.ntmps139
  go_wp2_with fail
  refine (C0.out _).mono ?_
  rintro e w1 ⟨hb,⟨_,rfl⟩ | ⟨i,_,he,_⟩⟩
  case inr=>rw [HM.out] at he;omega
  clear C0
  have Hb:=qh hb
  clear hb
  go_wp2_with fail
  refine (CB1.out _).mono ?_
  rintro e w2 ⟨rfl,hw⟩
  obtain rfl:=hw.symm
  clear CB1
  cases B1
  ·go_wp2
   go_ret
   exact ⟨by rw [←HV.out,HD.out];rfl,Hb.out⟩
  ·skip
   go_wp2_with fail
   refine (CP1.out _).mono ?_
   rintro e w2 ⟨rfl,hw⟩
   obtain rfl:=hw.symm
   clear CP1
   cases P1
   ·go_wp2
    go_ret
    exact ⟨by rw [←HV.out,HD.out];rfl,Hb.out⟩
   ·skip
    go_wp2_with fail
    refine (CW.out _).mono ?_
    rintro e w2 ⟨rfl,rfl⟩
    have CI:=qh (CH.out _ _ (fun k hk=>lit_cells w1 wordsB 9 k hk))
    clear CW CH
    go_wp2_with fail
    refine CI.out.mono ?_
    rintro e w2 ⟨rfl,rfl⟩
    clear CI
    cases VW
    ·go_wp2
     go_ret
     exact ⟨by rw [←HV.out,HD.out];rfl,Hb.out.trans ((Below.refl _ _).alloc Hb.out.size _)⟩
    ·go_wp2
     go_ret
     exact ⟨by rw [←HV.out,HD.out];rfl,Hb.out.trans ((Below.refl _ _).alloc Hb.out.size _)⟩
 ·have HD:=qh (decide_eq_false (show ¬ s.size≤40 by omega))
  clear CC hW hm hV hp  hB1 hP1 hx1
  go_enter Tryz.func139,Tryz.ntmps139
  go_wp2_with fail
  refine (C0.out _).mono ?_
  rintro e w1 ⟨hb,⟨_,rfl⟩ | ⟨i,_,he,_⟩⟩
  case inr=>rw [HM.out] at he;omega
  clear C0
  have Hb:=qh hb
  clear hb
  go_wp2
  go_ret
  exact ⟨by rw [←HV.out,HD.out];rfl,Hb.out⟩
set_option maxRecDepth 100000 in
set_option maxHeartbeats 1000000 in
theorem isName_linked (V:Bool) (s:ByteArray) (w:World) (hs:s.size≤maxLen) (i:Nat) (hi:i < s.size) (hm:Lib.indexByte s.data.toList 64=i) (hV:checkB ⟨1,s,0⟩=V) :
  Calls Tryz.prog 139 #[.string s] w fun e w'=>e = .returned (.bool V)∧Below w.heap.size w w':=by
 rw [name_linked s i hm] at hV
 have hx1:(s.extract 0 i).size≤maxLen:=by rw [ByteArray.size_extract];unfold maxLen at *;omega
 have hx2:(s.extract (i+1) s.size).size≤maxLen:=by rw [ByteArray.size_extract];unfold maxLen at *;omega
 have C0:=qh (fun w=>cut_any s w hs)
 obtain ⟨p,hp⟩:∃ p,s.extract 0 i=p:=⟨_,rfl⟩
 obtain ⟨q,hq⟩:∃ q,s.extract (i+1) s.size=q:=⟨_,rfl⟩
 rw [hp] at hx1
 rw [hq] at hx2
 rw [hp,hq] at hV
 have CW:Hid (∀ w,Calls Tryz.prog 200 #[] w fun e w'=>e = .returned (.slice (some ⟨w.heap.size,0,none⟩) 17 17)∧w'=w.alloc (.cells (wordsB.map Value.string).toArray 9)):=qh nWords
 obtain ⟨VW,hW⟩:∃ v,Lx.words.contains (bs s)=v:=⟨_,rfl⟩
 have CC:=fun w b hb=>words_in s w b hb
 rw [hW] at CC
 rw [hW] at hV
 obtain ⟨B1,hB1⟩:∃ v,Lx.headP Lx.small (bs p)=v:=⟨_,rfl⟩
 obtain ⟨P1,hP1⟩:∃ v,(bs p).all Lx.part=v:=⟨_,rfl⟩
 rw [hB1,hP1] at hV
 obtain ⟨B2,hB2⟩:∃ v,Lx.headP Lx.small (bs q)=v:=⟨_,rfl⟩
 obtain ⟨P2,hP2⟩:∃ v,(bs q).all Lx.part=v:=⟨_,rfl⟩
 rw [hB2,hP2] at hV
 have CB1:=qh (fun w=>begins_v Lx.small B1 p smallS w in_small hB1)
 have CP1:=qh (fun w=>inName_v P1 p w hx1 hP1)
 unfold smallS at CB1
 have CB2:=qh (fun w=>begins_v Lx.small B2 q smallS w in_small hB2)
 have CP2:=qh (fun w=>inName_v P2 q w hx2 hP2)
 unfold smallS at CB2
 have CH:=qh CC
 have HM:=qh hm
 have HV:=qh hV
 have HPQ:=qh hp
 have HQQ:=qh hq
 by_cases h40:(s.size:Int)≤40
 ·have HD:=qh (decide_eq_true (show s.size≤40 by omega))
  clear CC hW hm hV hp hq hB2 hP2 hx2 hi  hB1 hP1 hx1
  go_enter Tryz.func139,Tryz.ntmps139
  go_wp2_with fail
  refine (C0.out _).mono ?_
  rintro e w1 ⟨hb,⟨hm,_⟩ | ⟨i',_,he,rfl⟩⟩
  ·rw [HM.out] at hm;omega
  obtain rfl:i'=i:=by rw [HM.out] at he;omega
  rw [HPQ.out,HQQ.out]
  clear C0
  have Hb:=qh hb
  clear hb
  go_wp2_with fail
  refine (CB1.out _).mono ?_
  rintro e w2 ⟨rfl,hw⟩
  obtain rfl:=hw.symm
  clear CB1
  cases B1
  ·go_wp2
   go_ret
   exact ⟨by rw [←HV.out,HD.out];rfl,Hb.out⟩
  ·skip
   go_wp2_with fail
   refine (CP1.out _).mono ?_
   rintro e w2 ⟨rfl,hw⟩
   obtain rfl:=hw.symm
   clear CP1
   cases P1
   ·go_wp2
    go_ret
    exact ⟨by rw [←HV.out,HD.out];rfl,Hb.out⟩
   ·skip
    go_wp2_with fail
    refine (CB2.out _).mono ?_
    rintro e w2 ⟨rfl,hw⟩
    obtain rfl:=hw.symm
    clear CB2
    cases B2
    ·go_wp2
     go_ret
     exact ⟨by rw [←HV.out,HD.out];rfl,Hb.out⟩
    ·skip
     go_wp2_with fail
     refine (CP2.out _).mono ?_
     rintro e w2 ⟨rfl,hw⟩
     obtain rfl:=hw.symm
     clear CP2
     cases P2
     ·go_wp2
      go_ret
      exact ⟨by rw [←HV.out,HD.out];rfl,Hb.out⟩
     ·skip
      go_wp2_with fail
      refine (CW.out _).mono ?_
      rintro e w2 ⟨rfl,rfl⟩
      have CI:=qh (CH.out _ _ (fun k hk=>lit_cells w1 wordsB 9 k hk))
      clear CW CH
      go_wp2_with fail
      refine CI.out.mono ?_
      rintro e w2 ⟨rfl,rfl⟩
      clear CI
      cases VW
      ·go_wp2
       go_ret
       exact ⟨by rw [←HV.out,HD.out];rfl,Hb.out.trans ((Below.refl _ _).alloc Hb.out.size _)⟩
      ·go_wp2
       go_ret
       exact ⟨by rw [←HV.out,HD.out];rfl,Hb.out.trans ((Below.refl _ _).alloc Hb.out.size _)⟩
 ·have HD:=qh (decide_eq_false (show ¬ s.size≤40 by omega))
  clear CC hW hm hV hp hq hB2 hP2 hx2 hi  hB1 hP1 hx1
  go_enter Tryz.func139,Tryz.ntmps139
  go_wp2_with fail
  refine (C0.out _).mono ?_
  rintro e w1 ⟨hb,⟨hm,_⟩ | ⟨i',_,he,rfl⟩⟩
  ·rw [HM.out] at hm;omega
  obtain rfl:i'=i:=by rw [HM.out] at he;omega
  rw [HPQ.out,HQQ.out]
  clear C0
  have Hb:=qh hb
  clear hb
  go_wp2
  go_ret
  exact ⟨by rw [←HV.out,HD.out];rfl,Hb.out⟩
theorem isName_v (V:Bool) (s:ByteArray) (w:World) (hs:s.size≤maxLen) (hV:checkB ⟨1,s,0⟩=V) :
  Calls Tryz.prog 139 #[.string s] w fun e w'=>e = .returned (.bool V)∧Below w.heap.size w w':=by
 rcases cut_cases s with hm | ⟨i,hi,he⟩
 ·exact isName_plain V s w hs hm hV
 ·exact isName_linked V s w hs i hi he hV
theorem isName_any (s:ByteArray) (w:World) (hs:s.size≤maxLen) :
  Calls Tryz.prog 139 #[.string s] w fun e w'=>e = .returned (.bool (checkB ⟨1,s,0⟩))∧Below w.heap.size w w':=isName_v _ s w hs rfl
set_option maxRecDepth 100000 in
set_option maxHeartbeats 400000 in
theorem isVar_v (V:Bool) (s:ByteArray) (w:World) (hs:s.size≤maxLen) (hV:checkB ⟨2,s,0⟩=V) :
  Calls Tryz.prog 98 #[.string s] w fun e w'=>e = .returned (.bool V)∧Below w.heap.size w w':=by
 rw [check_var] at hV
 obtain ⟨B1,hB1⟩:∃ v,Lx.headP Lx.capital (bs s)=v:=⟨_,rfl⟩
 obtain ⟨P1,hP1⟩:∃ v,(bs s).all Lx.part=v:=⟨_,rfl⟩
 rw [hB1,hP1] at hV
 have CB1:=qh (fun w=>begins_v Lx.capital B1 s capS w in_cap hB1)
 have CP1:=qh (fun w=>inName_v P1 s w hs hP1)
 unfold capS at CB1
 have HV:=qh hV
 by_cases h40:(s.size:Int)≤40
 ·have HD:=qh (decide_eq_true (show s.size≤40 by omega))
  clear hV hB1 hP1
  go_enter Tryz.func98,Tryz.ntmps98
  go_wp2_with fail
  refine (CB1.out _).mono ?_
  rintro e w1 ⟨rfl,rfl⟩
  clear CB1
  cases B1
  ·go_wp2
   go_ret
   exact ⟨by rw [←HV.out,HD.out];rfl,Below.refl _ _⟩
  ·go_wp2_with fail
   refine (CP1.out _).mono ?_
   rintro e w2 ⟨rfl,rfl⟩
   clear CP1
   cases P1
   ·go_wp2
    go_ret
    exact ⟨by rw [←HV.out,HD.out];rfl,Below.refl _ _⟩
   ·go_wp2
    go_ret
    exact ⟨by rw [←HV.out,HD.out];rfl,Below.refl _ _⟩
 ·have HD:=qh (decide_eq_false (show ¬ s.size≤40 by omega))
  clear hV hB1 hP1
  go_enter Tryz.func98,Tryz.ntmps98
  go_wp2
  go_ret
  exact ⟨by rw [←HV.out,HD.out];rfl,Below.refl _ _⟩
theorem isVar_any (s:ByteArray) (w:World) (hs:s.size≤maxLen) :
  Calls Tryz.prog 98 #[.string s] w fun e w'=>e = .returned (.bool (checkB ⟨2,s,0⟩))∧Below w.heap.size w w':=isVar_v _ s w hs rfl
end Go.Proofs.YtgjijidlaghlmaaGreatDoor
namespace Go.Proofs.YtgjijidlaghlmaaGreatDoor
open Go.RowKit Go.Shelf
def Says (g:Nat) (B:Nd→Bool) (t:Nd):Prop:=∀ (w:World) (v0 v1 v2:Value),NdR w t v0 v1 v2→Calls Tryz.prog g #[.agg #[v0,v1,v2]] w fun e w'=>e = .returned (.bool (B t))∧Below w.heap.size w w'
theorem all_drop {B:Nd→Bool} {l:List Nd} {i:Nat} (h:i < l.length):(l.drop i).all B=(B l[i] && (l.drop (i+1)).all B):=by
 rw [List.drop_eq_getElem_cons h,List.all_cons]
set_option maxRecDepth 100000 in
set_option maxHeartbeats 1000000 in
theorem every1_any (g c:Nat) (eg:∀ args w,(callFunc g args).run Tryz.prog w = .ok (.enter g args) w) (B:Nd→Bool) (t:Nd) (hB:Says g B t) (w:World) (v0 v1 v2:Value) (ht:NdR w t v0 v1 v2) (hc:w.cell? ⟨c,0,none⟩=some (.func (.func g) #[] #[])) :
  Calls Tryz.prog 198 #[.agg #[v0,v1,v2],.pointer (some ⟨c,0,none⟩)] w fun e w'=>e = .returned (.bool (!B t))∧Below w.heap.size w w':=by
 obtain ⟨k,s,l,a,cap,rfl,rfl,rfl,rfl,hs,hl⟩:=ht.form
 have hb0:=((Below.refl w.heap.size w).alloc (Nat.le_refl _) (.cells #[.int .i64 k,.string s,.slice a l.length cap] 25))
 have C:=qh (hB _ _ _ _ (ht.later hb0))
 have HB:=qh hb0
 have hc':=(World.cell?_alloc_past (w:=w) (.cells #[.int .i64 k,.string s,.slice a l.length cap] 25) c 0 (lt_of_cell hc)).trans hc
 obtain ⟨V,hV⟩:∃ V,B (.mk k s l)=V:=⟨_,rfl⟩
 rw [hV] at C ⊢
 clear hV hB ht hb0 hc
 go_enter Tryz.func198,Tryz.ntmps198
 go_wp2_with fail
 refine C.out.mono ?_
 rintro e w1 ⟨rfl,hb⟩
 have HB1:=qh (HB.out.trans (hb.mono HB.out.size))
 clear hb C hc'
 go_wp2
 go_ret
 exact ⟨rfl,HB1.out⟩
set_option maxRecDepth 100000 in
set_option maxHeartbeats 1000000 in
theorem indexFunc_any (g c:Nat) (eg:∀ args w,(callFunc g args).run Tryz.prog w = .ok (.enter g args) w) (B:Nd→Bool) (k:Int) (s:ByteArray) (l:List Nd) (a:Option Addr) (cap:Nat) (w:World) (hl:l.length≤maxLen)
  (hB:∀ i,(h:i < l.length)→Says g B l[i]) (ht:NdR w (.mk k s l) (.int .i64 k) (.string s) (.slice a l.length cap)) (hc:w.cell? ⟨c,0,none⟩=some (.func (.func g) #[] #[])) :
  Calls Tryz.prog 234 #[.slice a l.length cap,.func (.func 198) #[] #[.pointer (some ⟨c,0,none⟩)]] w fun e w'=>∃ x:Int,e = .returned (.int .i64 x)∧decide (0≤x)=(!l.all B)∧Below w.heap.size w w':=by
 unfold maxLen at hl
 have HB:=qh hB
 have HT:=qh ht
 have HC:=qh hc
 have L0:=lt_of_cell hc
 obtain ⟨A,hA⟩:∃ A,l.all B=A:=⟨_,rfl⟩
 have HA:=qh hA
 rw [hA]
 clear hB ht hc hA
 go_enter Tryz.func234,Tryz.ntmps234
 go_wp2
 go_loopw [8] (fun v wr=>∃ i:Nat,i≤l.length∧v = .int .i64 i∧Hid ((l.drop i).all B=A)∧Hid (Below w.heap.size w wr)) (fun v _=>l.length - (intOf v).toNat)
 case atStart=>exact ⟨0,Nat.zero_le _,rfl,qh (by rw [List.drop_zero];exact HA.out),Below.refl _ _⟩
 case round =>
  obtain ⟨i,hi,rfl,hrun,hbl⟩:=hrel
  by_cases hlt:i < l.length
  ·have hlt':(i:Int) < (l.length:Int):=by omega
   have hi0:(0:Int)≤(i:Int):=by omega
   obtain ⟨b,o,k1,s1,l1,a1,c1,rfl,e1,x0,x1,x2,r1⟩:=(HT.out.later hbl.out).kid i hlt
   obtain ⟨V,hV⟩:∃ V,B l[i]=V:=⟨_,rfl⟩
   have C:=every1_any g c eg B l[i] (HB.out i hlt) wr (.int .i64 k1) (.string s1) (.slice a1 l1.length c1) (by rw [e1];exact r1) ((hbl.out.cell (p:=⟨c,0,none⟩) L0).trans HC.out)
   have Hst:=qh (all_drop (B:=B) hlt)
   rw [hV] at C Hst
   have CC:=qh C
   clear C hV e1 r1
   go_wp2_with fail
   refine CC.out.mono ?_
   rintro e w5 ⟨rfl,hb5⟩
   have hbx:Hid (Below w.heap.size w w5):=qh (hbl.out.trans (hb5.mono hbl.out.size))
   clear hb5 CC x0 x1 x2
   cases V with
   | false =>
    go_wp2
    go_ret
    exact ⟨(i:Int),rfl,by rw [←hrun.out,Hst.out,decide_eq_true (by omega)];rfl,hbx.out⟩
   | true =>
    go_wp2
    go_roundw
    case rel=>exact ⟨i+1,hlt,by push_cast;rfl,qh (by rw [←hrun.out,Hst.out];rfl),hbx⟩
    case measure=>simp [intOf];omega
  ·have hlt':¬ ((i:Int) < (l.length:Int)):=by omega
   have hAt:A=true:=by rw [←hrun.out,List.drop_of_length_le (by omega)];rfl
   subst hAt
   go_wp2
   go_ret
   exact ⟨-1,rfl,by decide,hbl.out⟩
set_option maxRecDepth 100000 in
set_option maxHeartbeats 1000000 in
theorem containsFunc_any (g c:Nat) (eg:∀ args w,(callFunc g args).run Tryz.prog w = .ok (.enter g args) w) (B:Nd→Bool) (k:Int) (s:ByteArray) (l:List Nd) (a:Option Addr) (cap:Nat) (w:World) (hl:l.length≤maxLen)
  (hB:∀ i,(h:i < l.length)→Says g B l[i]) (ht:NdR w (.mk k s l) (.int .i64 k) (.string s) (.slice a l.length cap)) (hc:w.cell? ⟨c,0,none⟩=some (.func (.func g) #[] #[])) :
  Calls Tryz.prog 197 #[.slice a l.length cap,.func (.func 198) #[] #[.pointer (some ⟨c,0,none⟩)]] w fun e w'=>e = .returned (.bool (!l.all B))∧Below w.heap.size w w':=by
 have C:=qh (indexFunc_any g c eg B k s l a cap w hl hB ht hc)
 clear hB ht hc
 obtain ⟨A,hA⟩:∃ A,(!l.all B)=A:=⟨_,rfl⟩
 rw [hA] at C ⊢
 clear hA
 go_enter Tryz.func197,Tryz.ntmps197
 go_wp2_with fail
 refine C.out.mono ?_
 rintro e w1 ⟨x,rfl,hx,hb⟩
 have HX:=qh hx
 have HB:=qh hb
 clear hx hb C
 go_wp2
 go_ret
 exact ⟨by rw [←HX.out];rfl,HB.out⟩
set_option maxRecDepth 100000 in
set_option maxHeartbeats 1000000 in
theorem every_any (g:Nat) (eg:∀ args w,(callFunc g args).run Tryz.prog w = .ok (.enter g args) w) (B:Nd→Bool) (k:Int) (s:ByteArray) (l:List Nd) (a:Option Addr) (cap:Nat) (w:World) (hl:l.length≤maxLen)
  (hB:∀ i,(h:i < l.length)→Says g B l[i]) (ht:NdR w (.mk k s l) (.int .i64 k) (.string s) (.slice a l.length cap)) :
  Calls Tryz.prog 138 #[.slice a l.length cap,.func (.func g) #[] #[]] w fun e w'=>e = .returned (.bool (l.all B))∧Below w.heap.size w w':=by
 have hmf:∀ (fn:Fn) (first cap:Array Value) (w:World),(Instr.makeFunc fn first cap).run Tryz.prog w = .ok (.func fn first cap) w:=fun _ _ _ _=>rfl
 have hb0:=(Below.refl w.heap.size w).alloc (Nat.le_refl _) (.cells #[.func (.func g) #[] #[]] 36)
 have C:=qh (fun w'=>(show NdR w' _ _ _ _→_ from fun h1 hc=>containsFunc_any g w.heap.size eg B k s l a cap w' hl hB h1 hc))
 have HT:=qh (ht.later hb0)
 have HB:=qh hb0
 have HC:=qh (show (w.alloc (.cells #[.func (.func g) #[] #[]] 36)).cell? ⟨w.heap.size,0,none⟩=some (.func (.func g) #[] #[]) from (World.cell?_alloc_at _ _ _ _ rfl).trans rfl)
 obtain ⟨A,hA⟩:∃ A,l.all B=A:=⟨_,rfl⟩
 rw [hA] at C ⊢
 clear hA hB ht hb0
 go_enter Tryz.func138,Tryz.ntmps138
 go_wp2_with fail
 refine (C.out _ HT.out HC.out).mono ?_
 rintro e w1 ⟨rfl,hb⟩
 have HB1:=qh (HB.out.trans (hb.mono HB.out.size))
 clear hb C HT HC
 cases A
 ·go_wp2
  go_ret
  exact ⟨rfl,HB1.out⟩
 ·go_wp2
  go_ret
  exact ⟨rfl,HB1.out⟩
def SaysN (g:Nat) (N:ByteArray→Bool) (s:ByteArray):Prop:=∀ w:World,Calls Tryz.prog g #[.string s] w fun e w'=>e = .returned (.bool (N s))∧Below w.heap.size w w'
def hasB (N:ByteArray→Bool) (lo hi:Int) (B:Nd→Bool) (s:ByteArray) (l:List Nd):Bool:=decide (lo≤(l.length:Int)) && (decide ((l.length:Int)≤hi) && (N s && l.all B))
set_option maxRecDepth 100000 in
set_option maxHeartbeats 1000000 in
theorem has_any (gn g:Nat) (en:∀ args w,(callFunc gn args).run Tryz.prog w = .ok (.enter gn args) w) (eg:∀ args w,(callFunc g args).run Tryz.prog w = .ok (.enter g args) w) (N:ByteArray→Bool) (B:Nd→Bool) (lo hi:Int) (k:Int) (s:ByteArray) (l:List Nd) (a:Option Addr) (cap:Nat) (w:World) (hl:l.length≤maxLen)
  (hN:SaysN gn N s) (hB:∀ i,(h:i < l.length)→Says g B l[i]) (ht:NdR w (.mk k s l) (.int .i64 k) (.string s) (.slice a l.length cap)) :
  Calls Tryz.prog 135 #[.agg #[.int .i64 k,.string s,.slice a l.length cap],.func (.func gn) #[] #[],.int .i64 lo,.int .i64 hi,.func (.func g) #[] #[]] w fun e w'=>e = .returned (.bool (hasB N lo hi B s l))∧Below w.heap.size w w':=by
 have hb0:=(Below.refl w.heap.size w).alloc (Nat.le_refl _) (.cells #[.int .i64 k,.string s,.slice a l.length cap] 25)
 obtain ⟨W1,hW1⟩:∃ W1,w.alloc (.cells #[.int .i64 k,.string s,.slice a l.length cap] 25)=W1:=⟨_,rfl⟩
 obtain ⟨h,hh⟩:∃ h,w.heap.size=h:=⟨_,rfl⟩
 have R1:Row3 W1 h (.int .i64 k) (.string s) (.slice a l.length cap):=by rw [←hW1,←hh];exact Row3.new _ _ _ _
 have CN:=qh (hN W1)
 have CE:=qh (fun w' (hb:Below W1.heap.size W1 w')=>every_any g eg B k s l a cap w' hl hB (((by rw [←hW1];exact ht.later hb0:NdR W1 _ _ _ _)).later hb))
 obtain ⟨VN,hVN⟩:∃ V,N s=V:=⟨_,rfl⟩
 obtain ⟨VB,hVB⟩:∃ V,l.all B=V:=⟨_,rfl⟩
 obtain ⟨R,hR⟩:∃ R,hasB N lo hi B s l=R:=⟨_,rfl⟩
 have HR:Hid (R=(decide (lo≤(l.length:Int)) && (decide ((l.length:Int)≤hi) && (VN && VB)))):=qh (by rw [←hR,←hVN,←hVB];rfl)
 rw [hVN] at CN
 rw [hVB] at CE
 rw [hR]
 rw [hW1] at hb0
 have HB:=qh hb0
 have HR1:=qh R1
 obtain ⟨⟨n0,n1,n2⟩,_⟩:=R1.cells
 have HW:=qh hW1
 rw [hh] at HB
 clear hVN hVB hR hb0 hN hB ht R1 hW1
 by_cases h1:lo≤(l.length:Int)
 ·have hD1:=qh (decide_eq_true h1)
  by_cases h2:(l.length:Int)≤hi
  ·have hD2:=qh (decide_eq_true h2)
   rw [hD1.out,hD2.out,Bool.true_and,Bool.true_and] at HR
   go_enter Tryz.func135,Tryz.ntmps135
   go_upto_region 1 with fail
   rw [HW.out]
   go_wp2_with fail
   refine CN.out.mono ?_
   rintro e w2 ⟨rfl,hb2⟩
   have R2:=qh (HR1.out.below hb2 HR1.out.lt)
   have HB2:=qh hb2
   clear hb2 CN n0 n1 n2
   obtain ⟨⟨n0,n1,n2⟩,_⟩:=R2.out.cells
   cases VN with
   | false =>
    go_wp2
    go_ret
    exact ⟨by rw [HR.out];rfl,by first | exact HB.out.trans (HB2.out.mono (by have:=HB.out.size;have:=HR1.out.lt;omega)) | (rw [hh];exact HB.out.trans (HB2.out.mono (by have:=HB.out.size;have:=HR1.out.lt;omega)))⟩
   | true =>
    go_wp2_with fail
    refine (CE.out _ HB2.out).mono ?_
    rintro e w3 ⟨rfl,hb3⟩
    have HB3:=qh hb3
    clear hb3 CE n0 n1 n2
    cases VB
    ·go_wp2
     go_ret
     exact ⟨by rw [HR.out];rfl,by first | exact HB.out.trans ((HB2.out.trans (HB3.out.mono HB2.out.size)).mono (by have:=HR1.out.lt;omega)) | (rw [hh];exact HB.out.trans ((HB2.out.trans (HB3.out.mono HB2.out.size)).mono (by have:=HR1.out.lt;omega)))⟩
    ·go_wp2
     go_ret
     exact ⟨by rw [HR.out];rfl,by first | exact HB.out.trans ((HB2.out.trans (HB3.out.mono HB2.out.size)).mono (by have:=HR1.out.lt;omega)) | (rw [hh];exact HB.out.trans ((HB2.out.trans (HB3.out.mono HB2.out.size)).mono (by have:=HR1.out.lt;omega)))⟩
  ·have hD2:=qh (decide_eq_false h2)
   rw [hD1.out,hD2.out,Bool.true_and,Bool.false_and] at HR
   go_enter Tryz.func135,Tryz.ntmps135
   go_upto_region 1 with fail
   rw [HW.out]
   go_wp2
   go_ret
   exact ⟨by rw [HR.out];rfl,by first | exact HB.out | (rw [hh];exact HB.out)⟩
 ·have hD1:=qh (decide_eq_false h1)
  rw [hD1.out,Bool.false_and] at HR
  go_enter Tryz.func135,Tryz.ntmps135
  go_upto_region 1 with fail
  rw [HW.out]
  go_wp2
  go_ret
  exact ⟨by rw [HR.out];rfl,by first | exact HB.out | (rw [hh];exact HB.out)⟩
end Go.Proofs.YtgjijidlaghlmaaGreatDoor
namespace Go.Proofs.YtgjijidlaghlmaaGreatDoor
open Go.RowKit Go.Shelf
theorem ent_isNone:∀ args w,(callFunc 136 args).run Tryz.prog w = .ok (.enter 136 args) w:=enters_of Tryz.func136 (by kernel_rfl) rfl
theorem ent_isName:∀ args w,(callFunc 139 args).run Tryz.prog w = .ok (.enter 139 args) w:=enters_of Tryz.func139 (by kernel_rfl) rfl
theorem ent_isVar:∀ args w,(callFunc 98 args).run Tryz.prog w = .ok (.enter 98 args) w:=enters_of Tryz.func98 (by kernel_rfl) rfl
theorem ent_isLone:∀ args w,(callFunc 137 args).run Tryz.prog w = .ok (.enter 137 args) w:=enters_of Tryz.func137 (by kernel_rfl) rfl
theorem ent_isMode:∀ args w,(callFunc 140 args).run Tryz.prog w = .ok (.enter 140 args) w:=enters_of Tryz.func140 (by kernel_rfl) rfl
theorem ent_isType:∀ args w,(callFunc 79 args).run Tryz.prog w = .ok (.enter 79 args) w:=enters_of Tryz.func79 (by kernel_rfl) rfl
theorem ent_isTerm:∀ args w,(callFunc 78 args).run Tryz.prog w = .ok (.enter 78 args) w:=enters_of Tryz.func78 (by kernel_rfl) rfl
theorem ent_isForm:∀ args w,(callFunc 77 args).run Tryz.prog w = .ok (.enter 77 args) w:=enters_of Tryz.func77 (by kernel_rfl) rfl
theorem ent_isItem:∀ args w,(callFunc 76 args).run Tryz.prog w = .ok (.enter 76 args) w:=enters_of Tryz.func76 (by kernel_rfl) rfl
set_option maxRecDepth 100000 in
set_option maxHeartbeats 400000 in
theorem isNone_any (s:ByteArray):SaysN 136 noneB s:=by
 intro w
 have e:(s.toList==[])=noneB s:=by unfold noneB;cases s.toList <;> rfl
 obtain ⟨V,hV⟩:∃ V,noneB s=V:=⟨_,rfl⟩
 rw [hV] at e ⊢
 have HE:=qh e
 clear hV
 go_enter Tryz.func136,Tryz.ntmps136
 go_wp2
 go_ret
 first | exact ⟨rfl,Below.refl _ _⟩ | exact ⟨by rw [←HE.out];rfl,Below.refl _ _⟩
theorem name_says (s:ByteArray) (hs:s.size≤maxLen):SaysN 139 nameB s:=fun w=>isName_any s w hs
theorem var_says (s:ByteArray) (hs:s.size≤maxLen):SaysN 98 varB s:=fun w=>isVar_any s w hs
set_option maxRecDepth 100000 in
set_option maxHeartbeats 400000 in
theorem isAny_any (s:ByteArray) (hs:s.size≤maxLen):SaysN 97 (fun s=>nameB s || varB s) s:=by
 intro w
 have C1:=name_says s hs
 have C2:=var_says s hs
 unfold SaysN at C1 C2
 obtain ⟨V1,h1⟩:∃ V,nameB s=V:=⟨_,rfl⟩
 obtain ⟨V2,h2⟩:∃ V,varB s=V:=⟨_,rfl⟩
 simp only [h1,h2] at C1 C2 ⊢
 have D1:=qh C1
 have D2:=qh C2
 clear C1 C2 h1 h2
 go_enter Tryz.func97,Tryz.ntmps97
 go_wp2_with fail
 refine (D1.out _).mono ?_
 rintro e w1 ⟨rfl,hb1⟩
 have HB1:=qh hb1
 clear hb1 D1
 cases V1 with
 | true =>
  go_wp2
  go_ret
  exact ⟨rfl,HB1.out⟩
 | false =>
  go_wp2_with fail
  refine (D2.out _).mono ?_
  rintro e w2 ⟨rfl,hb2⟩
  have HB2:=qh (HB1.out.trans (hb2.mono HB1.out.size))
  clear hb2 D2
  cases V2
  ·go_wp2
   go_ret
   exact ⟨rfl,HB2.out⟩
  ·go_wp2
   go_ret
   exact ⟨rfl,HB2.out⟩
theorem all_iff {B:Nd→Bool} {l:List Nd}:l.all B=true↔∀ i,(h:i < l.length)→B l[i]=true:=by
 rw [List.all_eq_true]
 constructor
 ·intro h i hi;exact h _ (List.getElem_mem hi)
 ·intro h x hx
  obtain ⟨i,hi,rfl⟩:=List.getElem_of_mem hx
  exact h i hi
theorem typL_all (l:List Nd):typL l=l.all typB:=by rw [Bool.eq_iff_iff,typL_iff,all_iff]
theorem termL_all (l:List Nd):termL l=l.all termB:=by rw [Bool.eq_iff_iff,termL_iff,all_iff]
theorem nameL_all (l:List Nd):nameL l=l.all loneB:=by rw [Bool.eq_iff_iff,nameL_iff,all_iff]
theorem modeL_all (l:List Nd):modeL l=l.all modeB:=by rw [Bool.eq_iff_iff,modeL_iff,all_iff]
theorem itemL_all (l:List Nd):itemL l=l.all itemB:=by rw [Bool.eq_iff_iff,itemL_iff,all_iff]
theorem formL_all:∀ l:List Nd,formL l=l.all formB
 | []=>by simp [formL]
 | a :: l=>by simp only [formL,List.all_cons];rw [formL_all l]
theorem has_eq (N:ByteArray→Bool) (lo hi:Nat) (B:Nd→Bool) (s:ByteArray) (l:List Nd):hasB N lo hi B s l=(decide (lo≤l.length) && (decide (l.length≤hi) && (N s && l.all B))):=by
 unfold hasB
 congr 1
 ·by_cases h:lo≤l.length
  ·rw [decide_eq_true h,decide_eq_true (by omega)]
  ·rw [decide_eq_false h,decide_eq_false (by omega)]
 ·congr 1
  by_cases h:l.length≤hi
  ·rw [decide_eq_true h,decide_eq_true (by omega)]
  ·rw [decide_eq_false h,decide_eq_false (by omega)]
theorem has_zero (N:ByteArray→Bool) (B:Nd→Bool) (s:ByteArray) (l:List Nd):hasB N 0 0 B s l=(decide (l.length=0) && N s):=by
 rw [show hasB N 0 0 B s l=hasB N ((0:Nat):Int) ((0:Nat):Int) B s l from rfl,has_eq]
 cases l with
 | nil=>simp
 | cons a l=>simp
set_option maxRecDepth 100000 in
set_option maxHeartbeats 2000000 in
theorem isLone_any (n:Nat):∀ t:Nd,t.sz≤n→Says 137 loneB t:=by
 induction n with
 | zero=>intro t h;cases t;simp only [Nd.sz] at h;omega
 | succ n ih =>
  intro t hsz w v0 v1 v2 ht
  obtain ⟨k,s,l,a,cap,rfl,rfl,rfl,rfl,hs,hl⟩:=ht.form
  have hb0:=(Below.refl w.heap.size w).alloc (Nat.le_refl _) (.cells #[.int .i64 k,.string s,.slice a l.length cap] 25)
  obtain ⟨h,hh⟩:∃ h,w.heap.size=h:=⟨_,rfl⟩
  obtain ⟨W1,hW1⟩:∃ W1,w.alloc (.cells #[.int .i64 k,.string s,.slice a l.length cap] 25)=W1:=⟨_,rfl⟩
  have R1:Row3 W1 h (.int .i64 k) (.string s) (.slice a l.length cap):=by rw [←hW1,←hh];exact Row3.new _ _ _ _
  have T1:=ht.later hb0
  rw [hW1] at hb0 T1
  rw [hh] at hb0
  have HB:=qh hb0
  have HT1:=qh T1
  have HR1:=qh R1
  have HW:=qh hW1
  obtain ⟨⟨n0,n1,n2⟩,_⟩:=R1.cells
  have CH_x:=fun w' (hb:Below W1.heap.size W1 w')=>has_any 139 137 ent_isName ent_isLone nameB loneB 0 0 k s l a cap w' hl (name_says s hs) (fun i hi=>ih l[i] (Nat.le_of_lt_succ (Nat.lt_of_lt_of_le (Nd.kid_lt _ s l i hi) hsz))) (HT1.out.later hb)
  obtain ⟨V,hV⟩:∃ V,hasB nameB 0 0 loneB s l=V:=⟨_,rfl⟩
  rw [hV] at CH_x
  have CC:=qh CH_x
  have HS:Hid (loneB (.mk k s l)=(decide (k=15) && V)):=qh (by rw [loneB,←hV,has_zero])
  clear CH_x hV ih ht hb0 T1 R1 hW1 hsz
  by_cases hk:k=15
  ·subst hk
   go_enter Tryz.func137,Tryz.ntmps137
   go_upto_region 1 with fail
   rw [HW.out]
   go_wp2_with fail
   refine (CC.out _ (Below.refl _ _)).mono ?_
   rintro e w2 ⟨rfl,hb2⟩
   have HB2:=qh hb2
   clear hb2 CC n0 n1 n2
   cases V
   ·skip
    go_wp2
    go_ret
    exact ⟨by rw [HS.out];rfl,by first | exact HB.out.trans (HB2.out.mono (by have:=HR1.out.lt;omega)) | (rw [hh];exact HB.out.trans (HB2.out.mono (by have:=HR1.out.lt;omega)))⟩
   ·skip
    go_wp2
    go_ret
    exact ⟨by rw [HS.out];rfl,by first | exact HB.out.trans (HB2.out.mono (by have:=HR1.out.lt;omega)) | (rw [hh];exact HB.out.trans (HB2.out.mono (by have:=HR1.out.lt;omega)))⟩
  ·have e1:(k==15)=false:=by rw [beq_eq_false_iff_ne];exact hk
   have HS2:Hid (loneB (.mk k s l)=false):=qh (by rw [HS.out,decide_eq_false hk];rfl)
   clear hk
   go_enter Tryz.func137,Tryz.ntmps137
   go_upto_region 1 with fail
   rw [HW.out]
   go_wp2
   go_ret
   exact ⟨by rw [HS2.out];rfl,by first | exact HB.out | (rw [hh];exact HB.out)⟩
set_option maxRecDepth 100000 in
set_option maxHeartbeats 2000000 in
theorem isMode_any (t:Nd):Says 140 modeB t:=by
 intro w v0 v1 v2 ht
 obtain ⟨k,s,l,a,cap,rfl,rfl,rfl,rfl,hs,hl⟩:=ht.form
 have hb0:=(Below.refl w.heap.size w).alloc (Nat.le_refl _) (.cells #[.int .i64 k,.string s,.slice a l.length cap] 25)
 obtain ⟨h,hh⟩:∃ h,w.heap.size=h:=⟨_,rfl⟩
 obtain ⟨W1,hW1⟩:∃ W1,w.alloc (.cells #[.int .i64 k,.string s,.slice a l.length cap] 25)=W1:=⟨_,rfl⟩
 have R1:Row3 W1 h (.int .i64 k) (.string s) (.slice a l.length cap):=by rw [←hW1,←hh];exact Row3.new _ _ _ _
 have T1:=ht.later hb0
 rw [hW1] at hb0 T1
 rw [hh] at hb0
 have HB:=qh hb0
 have HT1:=qh T1
 have HR1:=qh R1
 have HW:=qh hW1
 obtain ⟨⟨n0,n1,n2⟩,_⟩:=R1.cells
 have CL:=isLone_any _ (.mk k s l) (Nat.le_refl _) W1 _ _ _ HT1.out
 obtain ⟨V,hV⟩:∃ V,loneB (.mk k s l)=V:=⟨_,rfl⟩
 rw [hV] at CL
 have CC:=qh CL
 have key:modeB (.mk k s l)=(V && (s.toList==[105,110] || (s.toList==[111,117,116] || s.toList==[97,110,121]))):=by
  have e:∀ x:List UInt8,decide (s=⟨x.toArray⟩)=(s.toList==x):=fun x=>by
   rw [ByteArray.toList_eq,Bool.eq_iff_iff,decide_eq_true_eq,beq_iff_eq]
   constructor
   ·intro h;rw [h]
   ·intro h;obtain ⟨⟨d⟩⟩:=s;simp only at h;rw [h]
  have m1:nameB ⟨#[105,110]⟩=true:=by decide +kernel
  have m2:nameB ⟨#[111,117,116]⟩=true:=by decide +kernel
  have m3:nameB ⟨#[97,110,121]⟩=true:=by decide +kernel
  rw [modeB,←hV,loneB]
  rw [show (s.toList==[105,110])=decide (s=⟨#[105,110]⟩) from (e _).symm,show (s.toList==[111,117,116])=decide (s=⟨#[111,117,116]⟩) from (e _).symm,show (s.toList==[97,110,121])=decide (s=⟨#[97,110,121]⟩) from (e _).symm]
  by_cases h1:s=⟨#[105,110]⟩
  ·subst h1;rw [m1];simp
  ·by_cases h2:s=⟨#[111,117,116]⟩
   ·subst h2;rw [m2];simp
   ·by_cases h3:s=⟨#[97,110,121]⟩
    ·subst h3;rw [m3];simp
    ·simp [h1,h2,h3]
 obtain ⟨B1,hB1⟩:∃ B,(s.toList==[105,110])=B:=⟨_,rfl⟩
 obtain ⟨B2,hB2⟩:∃ B,(s.toList==[111,117,116])=B:=⟨_,rfl⟩
 obtain ⟨B3,hB3⟩:∃ B,(s.toList==[97,110,121])=B:=⟨_,rfl⟩
 rw [hB1,hB2,hB3] at key
 have HS:=qh key
 clear CL hV ht hb0 T1 R1 hW1 key
 go_enter Tryz.func140,Tryz.ntmps140
 go_upto_region 1 with fail
 rw [HW.out]
 go_wp2_with fail
 refine CC.out.mono ?_
 rintro e w2 ⟨rfl,hb2⟩
 have R2:=qh (HR1.out.below hb2 HR1.out.lt)
 have HB2:=qh hb2
 clear hb2 n0 n1 n2
 obtain ⟨⟨n0,n1,n2⟩,_⟩:=R2.out.cells
 clear CC
 cases V with
 | false =>
  go_wp2
  go_ret
  exact ⟨by rw [HS.out];rfl,by first | exact HB.out.trans (HB2.out.mono (by have:=HR1.out.lt;omega)) | (rw [hh];exact HB.out.trans (HB2.out.mono (by have:=HR1.out.lt;omega)))⟩
 | true =>
  cases B1 with
  | true =>
   go_wp2
   go_ret
   exact ⟨by rw [HS.out];rfl,by first | exact HB.out.trans (HB2.out.mono (by have:=HR1.out.lt;omega)) | (rw [hh];exact HB.out.trans (HB2.out.mono (by have:=HR1.out.lt;omega)))⟩
  | false =>
   cases B2 with
   | true =>
    go_wp2
    go_ret
    exact ⟨by rw [HS.out];rfl,by first | exact HB.out.trans (HB2.out.mono (by have:=HR1.out.lt;omega)) | (rw [hh];exact HB.out.trans (HB2.out.mono (by have:=HR1.out.lt;omega)))⟩
   | false =>
    cases B3 with
    | true =>
     go_wp2
     go_ret
     exact ⟨by rw [HS.out];rfl,by first | exact HB.out.trans (HB2.out.mono (by have:=HR1.out.lt;omega)) | (rw [hh];exact HB.out.trans (HB2.out.mono (by have:=HR1.out.lt;omega)))⟩
    | false =>
     go_wp2
     go_ret
     exact ⟨by rw [HS.out];rfl,by first | exact HB.out.trans (HB2.out.mono (by have:=HR1.out.lt;omega)) | (rw [hh];exact HB.out.trans (HB2.out.mono (by have:=HR1.out.lt;omega)))⟩
set_option maxRecDepth 100000 in
set_option maxHeartbeats 2000000 in
theorem isType_any (n:Nat):∀ t:Nd,t.sz≤n→Says 79 typB t:=by
 induction n with
 | zero=>intro t h;cases t;simp only [Nd.sz] at h;omega
 | succ n ih =>
  intro t hsz w v0 v1 v2 ht
  obtain ⟨k,s,l,a,cap,rfl,rfl,rfl,rfl,hs,hl⟩:=ht.form
  have hb0:=(Below.refl w.heap.size w).alloc (Nat.le_refl _) (.cells #[.int .i64 k,.string s,.slice a l.length cap] 25)
  obtain ⟨h,hh⟩:∃ h,w.heap.size=h:=⟨_,rfl⟩
  obtain ⟨W1,hW1⟩:∃ W1,w.alloc (.cells #[.int .i64 k,.string s,.slice a l.length cap] 25)=W1:=⟨_,rfl⟩
  have R1:Row3 W1 h (.int .i64 k) (.string s) (.slice a l.length cap):=by rw [←hW1,←hh];exact Row3.new _ _ _ _
  have T1:=ht.later hb0
  rw [hW1] at hb0 T1
  rw [hh] at hb0
  have HB:=qh hb0
  have HT1:=qh T1
  have HR1:=qh R1
  have HW:=qh hW1
  obtain ⟨⟨n0,n1,n2⟩,_⟩:=R1.cells
  have CL:=qh (isLone_any _ (.mk k s l) (Nat.le_refl _) W1 _ _ _ HT1.out)
  have CH_x:=fun w' (hb:Below W1.heap.size W1 w')=>has_any 136 79 ent_isNone ent_isType noneB typB 2 2 k s l a cap w' hl (isNone_any s) (fun i hi=>ih l[i] (Nat.le_of_lt_succ (Nat.lt_of_lt_of_le (Nd.kid_lt _ s l i hi) hsz))) (HT1.out.later hb)
  obtain ⟨V,hV⟩:∃ V,hasB noneB 2 2 typB s l=V:=⟨_,rfl⟩
  rw [hV] at CH_x
  have CC:=qh CH_x
  by_cases hk:k=31
  ·subst hk
   have HS:Hid (typB (.mk 31 s l)=V):=qh (by
    rw [typB,if_pos rfl,←hV,show hasB noneB 2 2 typB s l=hasB noneB ((2:Nat):Int) ((2:Nat):Int) typB s l from rfl,has_eq,typL_all]
    by_cases h2:l.length=2
    ·rw [decide_eq_true h2,decide_eq_true (by omega:2≤l.length),decide_eq_true (by omega:l.length≤2)];rfl
    ·rw [decide_eq_false h2]
     by_cases h3:2≤l.length
     ·rw [decide_eq_false (by omega:¬ l.length≤2)];simp
     ·rw [decide_eq_false h3];simp)
   have HL:Hid (loneB (.mk 31 s l)=false):=qh (by rw [loneB];rfl)
   rw [HL.out] at CL
   clear CH_x hV ih ht hb0 T1 R1 hW1 hsz
   go_enter Tryz.func79,Tryz.ntmps79
   go_upto_region 1 with fail
   rw [HW.out]
   go_wp2_with fail
   refine CL.out.mono ?_
   rintro e w2 ⟨rfl,hb2⟩
   have R2:=qh (HR1.out.below hb2 HR1.out.lt)
   have HB2:=qh hb2
   clear hb2 n0 n1 n2
   obtain ⟨⟨n0,n1,n2⟩,_⟩:=R2.out.cells
   clear CL
   go_wp2_with fail
   refine (CC.out _ HB2.out).mono ?_
   rintro e w3 ⟨rfl,hb3⟩
   have HB3:=qh (HB2.out.trans (hb3.mono HB2.out.size))
   clear hb3 CC n0 n1 n2
   cases V
   ·go_wp2
    go_ret
    exact ⟨by rw [HS.out];rfl,by first | exact HB.out.trans (HB3.out.mono (by have:=HR1.out.lt;omega)) | (rw [hh];exact HB.out.trans (HB3.out.mono (by have:=HR1.out.lt;omega)))⟩
   ·go_wp2
    go_ret
    exact ⟨by rw [HS.out];rfl,by first | exact HB.out.trans (HB3.out.mono (by have:=HR1.out.lt;omega)) | (rw [hh];exact HB.out.trans (HB3.out.mono (by have:=HR1.out.lt;omega)))⟩
  ·obtain ⟨V2,hV2⟩:∃ V,loneB (.mk k s l)=V:=⟨_,rfl⟩
   rw [hV2] at CL
   have HS:Hid (typB (.mk k s l)=V2):=qh (by rw [typB,if_neg hk,←hV2,loneB])
   have e1:(k==31)=false:=by rw [beq_eq_false_iff_ne];exact hk
   clear CH_x CC hV hV2 ih ht hb0 T1 R1 hW1 hsz hk
   go_enter Tryz.func79,Tryz.ntmps79
   go_upto_region 1 with fail
   rw [HW.out]
   go_wp2_with fail
   refine CL.out.mono ?_
   rintro e w2 ⟨rfl,hb2⟩
   have R2:=qh (HR1.out.below hb2 HR1.out.lt)
   have HB2:=qh hb2
   clear hb2 n0 n1 n2
   obtain ⟨⟨n0,n1,n2⟩,_⟩:=R2.out.cells
   clear CL
   cases V2
   ·go_wp2
    go_ret
    exact ⟨by rw [HS.out];rfl,by first | exact HB.out.trans (HB2.out.mono (by have:=HR1.out.lt;omega)) | (rw [hh];exact HB.out.trans (HB2.out.mono (by have:=HR1.out.lt;omega)))⟩
   ·go_wp2
    go_ret
    exact ⟨by rw [HS.out];rfl,by first | exact HB.out.trans (HB2.out.mono (by have:=HR1.out.lt;omega)) | (rw [hh];exact HB.out.trans (HB2.out.mono (by have:=HR1.out.lt;omega)))⟩
end Go.Proofs.YtgjijidlaghlmaaGreatDoor
