/- A part of the proof, packed: see the last text of this claim. -/
import Derived.Test.YtkckddojlignpaaGreatDoorRows
import Derived.Test.YtkckddojlignpaaGreatDoorProg
import Derived.WalkKit
import Derived.WalkSpells
import Derived.WalkLawsBesides
import Derived.Lib.Hide
import Derived.Below
import Derived.Deep.QuietTactic
import Derived.Deep.DeepCutAuto
import Derived.Deep.RegionWith
import Derived.Deep.RegionHeld3
import Derived.Deep.DeepFit
import Derived.BigQuiet
import Derived.Shelf.Strings.Builder1
import Derived.Shelf.Strings.Builder2
import Derived.Shelf.Strings.OnBuilder
import Derived.Shelf.Small.Strs
import Derived.Shelf.Strings.BuilderF
import Derived.Shelf.Strings.BuilderK
import Derived.Shelf.Utf8.RuneCount
import Derived.Shelf.LaysM
import Derived.Shelf.Strconv.Clone
import Derived.Shelf.Strings.Search1
import Derived.Shelf.Strings.Search2
import Derived.Shelf.Strings.Search3
import Derived.Shelf.Strings.Cut
import Derived.Shelf.Strings.Count
import Derived.Shelf.Strings.Shaped
import Derived.Shelf.Strings.Prefix
import Derived.Shelf.Strings.Split
import Derived.Shelf.Strings.SplitShaped
import Derived.Shelf.Strings.RuneCount
import Derived.Shelf.Unicode.DecodeSlow
import Derived.Shelf.Slices.Turned
import Derived.Deep.WholeRow
import Derived.Laws.EntriesVeiled
import Derived.RangeFuncRecord
import Derived.RangeFuncNested
import Derived.RangeFuncCalls
import Derived.RangeFuncLeaves
import Derived.RecoverIn
import Derived.OwnWalkIn
import Derived.TacticsInMore
import Derived.LoopNIn
import Derived.LoopIn
import Derived.Deep.AppendLies
import Derived.Test.YtkckddojlignpaaGreatDoorChecked
import Derived.ProofKit
import Derived.LaidMore
import Derived.OpenShut
import Derived.Stop.Joined
import Derived.Lay
import Derived.Maps.OwnSet
import Derived.StillTailTactics
import Derived.WalkSmall
import Derived.Carry
import Derived.Recover
import Derived.Defers
import Derived.RegionDies
set_option maxHeartbeats 20000000
set_option maxRecDepth 100000
namespace Go.Proofs.YtkckddojlignpaaGreatDoor
abbrev q5:=@Nat.le_refl
abbrev q6:=@World.size_alloc
abbrev q7:=@if_neg
abbrev q9:=@beq_eq_false_iff_ne
abbrev qa:=@if_pos
abbrev qc:=@List.length_append
abbrev qd:=@Bool.and_eq_true
abbrev qe:=@List.append_assoc
abbrev qf:=@decide_eq_true_eq
abbrev qi:=@List.length_cons
abbrev qj:=@List.getElem?_eq_getElem
abbrev qk:=@cell_of_row
abbrev ql:=@Nat.le_trans
abbrev qm:=@World.alloc_heap_new
abbrev qo:=@List.length_nil
abbrev qp:=@Nat.zero_le
abbrev qs:=@Nat.lt_of_lt_of_le
abbrev qt:=@List.take_of_length_le
abbrev qv:=@List.length_map
abbrev qw:=@List.take_succ_eq_append_getElem
abbrev qx:=@List.flatMap_append
abbrev zb:=@Lib.cell_of_heap
abbrev zc:=@Option.some.inj
abbrev ze:=@Nat.le_of_lt_succ
abbrev zo:=@List.getElem_cons_zero
abbrev zy:=@List.getElem_cons_succ
abbrev vn:=@Nat.le_of_lt
end Go.Proofs.YtkckddojlignpaaGreatDoor
namespace Go.Proofs.YtkckddojlignpaaGreatDoor
theorem qh{p : Prop}(h : p) : RowKit.Hid p := Lib.hid h
end Go.Proofs.YtkckddojlignpaaGreatDoor
namespace Go.Proofs.YtkckddojlignpaaGreatDoor
open Go.RowKit
inductive Nd where
 |mk (k:Int) (s:ByteArray) (l:List Nd)
mutual
def Nd.sz:Nd->Nat
 | .mk _ _ l=>1+Nd.szL l
def Nd.szL:List Nd->Nat
 |[]=>0
 |a :: l=>Nd.sz a+Nd.szL l
end
theorem q3w:∀ (l:List Nd) (i:Nat) (h:i < l.length),(l[i]).sz<=Nd.szL l
 |a :: l,0,_=>by simp only[zo,Nd.szL];omega
 |a :: l,i+1,h=>by
  simp only[zy,Nd.szL];have:=q3w l i (by simpa using h);omega
theorem Nd.kid_lt(k:Int)(s:ByteArray)(l:List Nd)(i:Nat)(h:i < l.length):(l[i]).sz < (Nd.mk k s l).sz:=by
 have:=q3w l i h;simp only[Nd.sz];omega
inductive NdR (w:World):Nd->Value->Value->Value->Prop
 |mk (k:Int) (s:ByteArray) (l:List Nd) (a:Option Addr) (cap b o:Nat) (f0 f1 f2:Nat->Value) (hs:s.size<=maxLen) (hl:l.length<=maxLen) (hc:l.length<=cap)
   (ha:l≠[]->a=some ⟨b,o,none⟩)
   (h0:∀ i,i < l.length->w.cell? ⟨b,o+i*3,none⟩=some (f0 i))
   (h1:∀ i,i < l.length->w.cell? ⟨b,o+i*3+1,none⟩=some (f1 i))
   (h2:∀ i,i < l.length->w.cell? ⟨b,o+i*3+2,none⟩=some (f2 i))
   (hr:∀ i (hi:i < l.length),NdR w l[i] (f0 i) (f1 i) (f2 i)):NdR w (.mk k s l) (.int .i64 k) (.string s) (.slice a l.length cap)
theorem qg{w:World}{b o:Nat}{v:Value}(h:w.cell? ⟨b,o,none⟩=some v):b < w.heap.size:=by
 have:=World.block_lt_of_cell? w ⟨b,o,none⟩ h;exact this
theorem NdR.later{w w':World}(hb:Below w.heap.size w w'){t:Nd}{v0 v1 v2:Value}(h:NdR w t v0 v1 v2):NdR w' t v0 v1 v2:=by
 induction h with
 |mk k s l a cap b o f0 f1 f2 hs hl hc ha h0 h1 h2 _ ih =>
  exact .mk k s l a cap b o f0 f1 f2 hs hl hc ha
   (fun i hi=>(hb.cell (p:=⟨b,o+i*3,none⟩) (qg (h0 i hi))).trans (h0 i hi))
   (fun i hi=>(hb.cell (p:=⟨b,o+i*3+1,none⟩) (qg (h1 i hi))).trans (h1 i hi))
   (fun i hi=>(hb.cell (p:=⟨b,o+i*3+2,none⟩) (qg (h2 i hi))).trans (h2 i hi)) ih
theorem NdR.form{w:World}{t:Nd}{v0 v1 v2:Value}(h:NdR w t v0 v1 v2):∃ k s l a cap,t = .mk k s l/\v0 = .int .i64 k/\v1 = .string s/\v2 = .slice a l.length cap/\s.size<=maxLen/\l.length<=maxLen:=by
 cases h with
 |mk k s l a cap b o f0 f1 f2 hs hl hc ha h0 h1 h2 hr=>exact⟨k,s,l,a,cap,rfl,rfl,rfl,rfl,hs,hl⟩
theorem NdR.cap{w:World}{k:Int}{s:ByteArray}{l:List Nd}{v0 v1:Value}{a:Option Addr}{n cap:Nat}(h:NdR w (.mk k s l) v0 v1 (.slice a n cap)):l.length<=cap:=by
 cases h with
 |mk k s l a cap b o f0 f1 f2 hs hl hc ha h0 h1 h2 hr=>exact hc
theorem NdR.kid{w:World}{k:Int}{s:ByteArray}{l:List Nd}{v0 v1:Value}{a:Option Addr}{n cap:Nat}(h:NdR w (.mk k s l) v0 v1 (.slice a n cap))(i:Nat)(hi:i < l.length) :
  ∃ (b o:Nat) (k':Int) (s':ByteArray) (l':List Nd) (a':Option Addr) (cap':Nat),a=some ⟨b,o,none⟩/\l[i] = .mk k' s' l' /\
   w.cell? ⟨b,o+i*3,none⟩=some (.int .i64 k')/\w.cell? ⟨b,o+i*3+1,none⟩=some (.string s')/\w.cell? ⟨b,o+i*3+2,none⟩=some (.slice a' l'.length cap') /\
   NdR w (.mk k' s' l') (.int .i64 k') (.string s') (.slice a' l'.length cap'):=by
 cases h with
 |mk _ _ _ _ _ b o f0 f1 f2 hs hl hc ha h0 h1 h2 hr =>
  have hk:=hr i hi;obtain⟨k',s',l',a',cap',e,e0,e1,e2,_,_⟩:=hk.form;rw[e,e0,e1,e2]at hk;exact⟨b,o,k',s',l',a',cap',ha (by rintro rfl;simp at hi),e,(h0 i hi).trans (congrArg some e0),(h1 i hi).trans (congrArg some e1),(h2 i hi).trans (congrArg some e2),hk⟩
mutual
def ki:Nd->Nd->Bool
 | .mk k s l,.mk k' s' l'=>(k==k' && s.toList==s'.toList) && ju l l'
def ju:List Nd->List Nd->Bool
 |[],[]=>true
 |a :: l,b :: m=>ki a b && ju l m
 |_,_=>false
end
theorem q69:∀ (l m:List Nd),l.length≠m.length->ju l m=false
 |[],[],h=>absurd rfl h
 |[],_ :: _,_=>by simp[ju]
 |_ :: _,[],_=>by simp[ju]
 |a :: l,b :: m,h=>by simp only[ju];rw[q69 l m (by simpa using h),Bool.and_false]
theorem q94{l m:List Nd}{k:Nat}(h:k < l.length)(h2:k < m.length):ju (l.drop k) (m.drop k)=(ki l[k] m[k] && ju (l.drop (k+1)) (m.drop (k+1))):=by
 rw[List.drop_eq_getElem_cons h,List.drop_eq_getElem_cons h2];simp only[ju]
theorem qba{l m:List Nd}{k:Nat}(h:l.length<=k)(h2:m.length<=k):ju (l.drop k) (m.drop k)=true:=by
 rw[List.drop_of_length_le h,List.drop_of_length_le h2];simp only[ju]
end Go.Proofs.YtkckddojlignpaaGreatDoor
namespace Go.Proofs.YtkckddojlignpaaGreatDoor
namespace Lx
abbrev Bs:=List UInt8
def small(c:UInt8):Bool:=decide (97<=c.toNat) && decide (c.toNat<=122)
def capital(c:UInt8):Bool:=decide (65<=c.toNat) && decide (c.toNat<=90)
def part(c:UInt8):Bool:=small c||capital c||(decide (48<=c.toNat) && decide (c.toNat<=57))||decide (c.toNat=95)||decide (c.toNat=39)
def signB(c:UInt8):Bool:=[42,38,43,33,123,125,40,41,46,44,58,92].contains c
def blank(c:UInt8):Bool:=decide (c.toNat=32)||decide (c.toNat=9)||decide (c.toNat=10)
def words:List Bs:=[
 [116,121,112,101],[99,111,110,115,116],[112,114,101,100],[102,97,99,116],[108,97,115,116,105,110,103],[109,111,100,101],
 [114,117,108,101],[111,110,99,101],[109,111,115,116],[113,117,101,114,121],[109,111,100,117,108,101],[117,115,101],
 [101,120,112,111,114,116],[97,108,108],[101,120],[111,110,101],[116,111,112]]
def runLen(r:Bs):Nat:=(r.takeWhile part).length
def runTo(l:Bs)(i:Nat):Nat:=i+runLen (l.drop i)
def skipC:Bool->Bs->Nat
 |_,[]=>0
 |true,c :: r=>if c.toNat=10 then 1+skipC false r else 1+skipC true r
 |false,c :: r=>if blank c then 1+skipC false r else if c.toNat=37 then 1+skipC true r else 0
def skipTo(l:Bs)(i:Nat):Nat:=i+skipC false (l.drop i)
def lineTo(l:Bs)(i:Nat):Nat:=i+((l.drop i).takeWhile (fun c=>decide (c.toNat≠10))).length
def nameTo(l:Bs)(i:Nat):Nat :=
 let j:=runTo l i
 if l[j]?=some 64/\(l[j+1]?.map small)=some true then runTo l (j+1) else j
def slice(l:Bs)(i j:Nat):Bs:=(l.drop i).take (j - i)
def pre(l:Bs)(i:Nat)(p:Bs):Bool:=p.isPrefixOf (l.drop i)
def isLong(l:Bs)(i:Nat):Bool :=
 (pre l i [45,111] && runTo l (i+1)==i+2)||pre l i [45,62]||pre l i [61,62]||pre l i [60,61]
theorem pre_two{l:Bs}{i:Nat}{a b:UInt8}(h:pre l i [a,b]=true):l[i]?=some a/\l[i+1]?=some b:=by
 unfold pre at h;rw[List.isPrefixOf_iff_prefix]at h;obtain⟨r,hr⟩:=h;have h0:(l.drop i)[0]?=some a:=by rw[<-hr];rfl
 have h1:(l.drop i)[1]?=some b:=by rw[<-hr];rfl
 rw[List.getElem?_drop]at h0 h1;exact⟨by simpa using h0,h1⟩
def tokAt(l:Bs)(i:Nat):Option (Nat×Nat) :=
 match l[i]? with
 |none=>none
 |some c =>
  if small c then
   let j:=nameTo l i
   if slice l i j=[111]/\l[j]?=some 45 then some (3,j+1)
   else if words.contains (slice l i j) then some (4,j) else some (1,j)
  else if capital c then some (2,runTo l i)
  else if signB c then some (3,i+1)
  else if isLong l i then some (3,i+2) else none
structure Tok where
 kind:Nat
 text:Bs
 pos:Nat
 deriving DecidableEq,Repr
inductive Res where
 |toks (l:List Tok)
 |bad (pos:Nat) (err:Nat)
 deriving DecidableEq,Repr
def scanT(l:Bs):Nat->List Tok->Nat->Res
 |0,pre,_=>.toks pre
 |f+1,pre,i =>
  if l.length<=i then .toks pre
  else match tokAt l i with
   |none=>.bad i 10
   |some (k,j) =>
    if pre.length=6000 then .bad i 2
    else if 40 < j - i then .bad i 11
    else scanT l f (pre++[⟨k,slice l i j,i⟩]) (skipTo l j)
def scan(l:Bs):Res:=if 20000 < l.length then .bad 0 2 else scanT l (l.length+1) [] (skipTo l 0)
theorem runLen_le(r:Bs):runLen r<=r.length:=by
 unfold runLen;exact(List.takeWhile_prefix _).length_le
theorem runTo_le{l:Bs}{i:Nat}(h:i<=l.length):i<=runTo l i/\runTo l i<=l.length:=by
 unfold runTo;have:=runLen_le (l.drop i);simp at this;omega
theorem runLen_cons(c:UInt8)(r:Bs):runLen (c :: r)=if part c then 1+runLen r else 0:=by
 unfold runLen;rw[List.takeWhile_cons];split <;> simp[Nat.add_comm]
theorem runTo_step{l:Bs}{k:Nat}(h:k < l.length):runTo l k=if part l[k] then runTo l (k+1) else k:=by
 unfold runTo;rw[List.drop_eq_getElem_cons h,runLen_cons];split <;> omega
theorem runTo_end{l:Bs}{k:Nat}(h:l.length<=k):runTo l k=k:=by
 unfold runTo;rw[List.drop_of_length_le h];rfl
theorem skipC_le(b:Bool)(r:Bs):skipC b r<=r.length:=by
 induction r generalizing b with
 |nil=>simp[skipC]
 |cons c r ih =>
  cases b
  ·simp only[skipC,qi]
   split
   ·have:=ih false;omega
   ·split
    ·have:=ih true;omega
    ·omega
  ·simp only[skipC,qi]
   split
   ·have:=ih false;omega
   ·have:=ih true;omega
theorem skipTo_le{l:Bs}{i:Nat}(h:i<=l.length):i<=skipTo l i/\skipTo l i<=l.length:=by
 unfold skipTo;have:=skipC_le false (l.drop i);simp at this;omega
theorem skipTo_blank{l:Bs}{k:Nat}(h:k < l.length)(hb:blank l[k]=true):skipTo l k=skipTo l (k+1):=by
 unfold skipTo;rw[List.drop_eq_getElem_cons h];simp only[skipC,hb,if_true];omega
theorem skipTo_stop{l:Bs}{k:Nat}(h:k < l.length)(hb:blank l[k]=false)(hp:l[k].toNat≠37):skipTo l k=k:=by
 unfold skipTo;rw[List.drop_eq_getElem_cons h];simp[skipC,hb,hp]
theorem skipTo_end{l:Bs}{k:Nat}(h:l.length<=k):skipTo l k=k:=by
 unfold skipTo;rw[List.drop_of_length_le h];rfl
theorem skipC_true(r:Bs):skipC true r=(r.takeWhile (fun c=>decide (c.toNat≠10))).length+skipC false (r.drop (r.takeWhile (fun c=>decide (c.toNat≠10))).length):=by
 induction r with
 |nil=>simp[skipC]
 |cons c r ih =>
  by_cases h:c.toNat=10
  ·simp[skipC,h,blank]
  ·have e:(c :: r).takeWhile (fun c=>decide (c.toNat≠10))=c :: r.takeWhile (fun c=>decide (c.toNat≠10)):=by
    rw[List.takeWhile_cons,qa (by simp[h])]
   rw[e];simp only[skipC,qi,List.drop_succ_cons];rw[q7 h,ih];omega
theorem lineTo_le{l:Bs}{i:Nat}(h:i<=l.length):i<=lineTo l i/\lineTo l i<=l.length:=by
 unfold lineTo;have:=(List.takeWhile_prefix (p:=fun c:UInt8=>decide (c.toNat≠10)) (l:=l.drop i)).length_le;simp at this ⊢;omega
theorem skipTo_comment{l:Bs}{k:Nat}(h:k < l.length)(hp:l[k].toNat=37):skipTo l k=skipTo l (lineTo l k)/\k < lineTo l k:=by
 have e:lineTo l k=k+1+((l.drop (k+1)).takeWhile (fun c=>decide (c.toNat≠10))).length:=by
  unfold lineTo;rw[List.drop_eq_getElem_cons h,List.takeWhile_cons];simp[hp];omega
 refine⟨?_,by omega⟩;have hb:blank l[k]=false:=by simp[blank,hp]
 have:skipTo l k=k+(1+skipC true (l.drop (k+1))):=by
  unfold skipTo;rw[List.drop_eq_getElem_cons h];simp[skipC,hb,hp]
 rw[this,skipC_true];unfold skipTo;rw[e,List.drop_drop];omega
theorem nameTo_le{l:Bs}{i:Nat}(h:i<=l.length):i<=nameTo l i/\nameTo l i<=l.length:=by
 unfold nameTo;have h1:=runTo_le h;simp only
 split
 ·rename_i hc
  have:runTo l i < l.length:=by
   rcases Nat.lt_or_ge (runTo l i) l.length with h|h
   ·exact h
   ·rw[List.getElem?_eq_none h]at hc;simp at hc
  have:=runTo_le (l:=l) (i:=runTo l i+1) (by omega);omega
 ·exact h1
theorem nameTo_lt{l:Bs}{i:Nat}(h:i < l.length)(hp:part l[i]=true):i < nameTo l i:=by
 have h0:i < runTo l i:=by rw[runTo_step h,qa hp];have:=runTo_le (l:=l) (i:=i+1) (by omega);omega
 unfold nameTo;simp only
 split
 ·rename_i hc
  have:runTo l i < l.length:=by
   rcases Nat.lt_or_ge (runTo l i) l.length with h|h
   ·exact h
   ·rw[List.getElem?_eq_none h]at hc;simp at hc
  have:=runTo_le (l:=l) (i:=runTo l i+1) (by omega);omega
 ·exact h0
theorem small_part{c:UInt8}(h:small c=true):part c=true:=by simp[part,h]
theorem capital_part{c:UInt8}(h:capital c=true):part c=true:=by simp[part,h]
theorem tokAt_lt{l:Bs}{i k j:Nat}(h:tokAt l i=some (k,j)):i < j/\j<=l.length:=by
 have hi:i < l.length:=by
  rcases Nat.lt_or_ge i l.length with h'|h'
  ·exact h'
  ·simp[tokAt,List.getElem?_eq_none h']at h
 have hlen:∀ {j:Nat} {c:UInt8},l[j]?=some c->j < l.length:=fun {j c} h=>(List.getElem?_eq_some_iff.1 h).1
 simp only[tokAt,qj hi]at h
 split at h
 ·rename_i hs
  have h1:=nameTo_lt hi (small_part hs);have h2:=nameTo_le (l:=l) (i:=i) (by omega)
  split at h
  ·rename_i hc;have:=hlen hc.2;simp at h;omega
  ·split at h <;> (simp at h;omega)
 ·split at h
  ·rename_i hc
   have:i < runTo l i:=by rw[runTo_step hi,qa (capital_part hc)];have:=runTo_le (l:=l) (i:=i+1) (by omega);omega
   have:=runTo_le (l:=l) (i:=i) (by omega);simp at h;omega
  ·split at h
   ·simp at h;omega
   ·split at h
    ·rename_i hl
     have:i+1 < l.length:=by
      simp only[isLong,Bool.or_eq_true,qd,beq_iff_eq]at hl;rcases hl with ((⟨h2,_⟩|h2)|h2)|h2 <;> exact hlen (pre_two h2).2
     simp at h;omega
    ·simp at h
end Lx
end Go.Proofs.YtkckddojlignpaaGreatDoor
namespace Go.Proofs
open Go.Shelf
def Tryz.lays156_ren:Go.Shelf.Ren:=⟨fun|156=>53|165=>112|166=>111|169=>98|240=>177|241=>178|276=>211|277=>212|n=>n,fun|31=>42|9=>9|3=>3|4=>4|0=>0|20=>20|72=>122|76=>136|70=>119|37=>120|75=>134|127=>170|164=>196|5=>5|80=>126|n=>n,fun|n=>n⟩
theorem Tryz.lays156:Go.Proofs.Lays.n156 Tryz.prog Tryz.lays156_ren:={
 mixed:=by kernel_rfl
 f156:=Tryz.func53.trans (congrArg some (by kernel_rfl))
 f165:=Tryz.func112.trans (congrArg some (by kernel_rfl))
 f166:=Tryz.func111.trans (congrArg some (by kernel_rfl))
 f169:=Tryz.func98.trans (congrArg some (by kernel_rfl))
 f240:=Tryz.func177.trans (congrArg some (by kernel_rfl))
 f241:=Tryz.func178.trans (congrArg some (by kernel_rfl))
 f276:=Tryz.func211.trans (congrArg some (by kernel_rfl))
 f277:=Tryz.func212.trans (congrArg some (by kernel_rfl))
 t0:=Tryz.underlying0
 a0:=Tryz.isAgg0
 z0:=Tryz.sizeOf0
 v0:=Tryz.zeroValue0
 t3:=Tryz.underlying3
 a3:=Tryz.isAgg3
 z3:=Tryz.sizeOf3
 v3:=Tryz.zeroValue3
 t4:=Tryz.underlying4
 a4:=Tryz.isAgg4
 z4:=Tryz.sizeOf4
 v4:=Tryz.zeroValue4
 t9:=Tryz.underlying9
 a9:=Tryz.isAgg9
 z9:=Tryz.sizeOf9
 v9:=Tryz.zeroValue9
 t20:=Tryz.underlying20
 a20:=Tryz.isAgg20
 z20:=Tryz.sizeOf20
 v20:=Tryz.zeroValue20
 t31:=Tryz.underlying42
 a31:=Tryz.isAgg42
 z31:=Tryz.sizeOf42
 v31:=Tryz.zeroValue42
 t37:=Tryz.underlying120
 a37:=Tryz.isAgg120
 z37:=Tryz.sizeOf120
 v37:=Tryz.zeroValue120
 t70:=Tryz.underlying119
 a70:=Tryz.isAgg119
 z70:=Tryz.sizeOf119
 v70:=Tryz.zeroValue119
 t72:=Tryz.underlying122
 a72:=Tryz.isAgg122
 z72:=Tryz.sizeOf122
 v72:=Tryz.zeroValue122
 t75:=Tryz.underlying134
 a75:=Tryz.isAgg134
 z75:=Tryz.sizeOf134
 v75:=Tryz.zeroValue134
 t76:=Tryz.underlying136
 a76:=Tryz.isAgg136
 z76:=Tryz.sizeOf136
 v76:=Tryz.zeroValue136
 t127:=Tryz.underlying170
 a127:=Tryz.isAgg170
 z127:=Tryz.sizeOf170
 v127:=Tryz.zeroValue170
 t164:=Tryz.underlying196
 a164:=Tryz.isAgg196
 z164:=Tryz.sizeOf196
 v164:=Tryz.zeroValue196 }
theorem Tryz.Builder_Extra_156:Builder.Extra Tryz.prog Tryz.lays156_ren:={
 sizeBuilder:=by kernel_rfl
 liesBuilder:=by kernel_rfl
 t5:=Tryz.underlying5
 a5:=Tryz.isAgg5
 z5:=Tryz.sizeOf5
 v5:=Tryz.zeroValue5
 infoByte:=by kernel_rfl
 cellsByte:=by kernel_rfl
 sizeByte:=by kernel_rfl
 neB5:=by decide }
open Go.RowKit in
theorem Tryz.strings_Join(bk o c:Nat)(xs:List ByteArray)(sep:ByteArray)(w:World)(hcells:∀ (j:Nat) x,xs[j]?=some x->w.cell? ⟨bk,o+j,none⟩=some (.string x))(hbk:bk < w.heap.size)(hN:xs.length<=140737488355328)(hcap:xs.length<=c)(hlen:(Lib.join (xs.map (·.data.toList)) sep.data.toList).length<=140737488355328) :
  Calls Tryz.prog 53 #[.slice (some ⟨bk,o,none⟩) xs.length c,.string sep] w fun e w'=>e = .returned (.string ⟨(Lib.join (xs.map (·.data.toList)) sep.data.toList).toArray⟩)/\Below w.heap.size w w':=Any.strings_Join Tryz.lays156 Tryz.Builder_Extra_156 bk o c xs sep w hcells hbk hN hcap hlen
def Tryz.lays137_ren:Go.Shelf.Ren:=⟨fun|137=>182|217=>214|266=>233|n=>n,fun|9=>9|5=>5|3=>3|n=>n,fun|n=>n⟩
theorem Tryz.lays137:Go.Proofs.Lays.n137 Tryz.prog Tryz.lays137_ren:={
 mixed:=by kernel_rfl
 f137:=Tryz.func182.trans (congrArg some (by kernel_rfl))
 f217:=Tryz.func214.trans (congrArg some (by kernel_rfl))
 f266:=Tryz.func233.trans (congrArg some (by kernel_rfl))
 t3:=Tryz.underlying3
 a3:=Tryz.isAgg3
 z3:=Tryz.sizeOf3
 v3:=Tryz.zeroValue3
 t5:=Tryz.underlying5
 a5:=Tryz.isAgg5
 z5:=Tryz.sizeOf5
 v5:=Tryz.zeroValue5
 t9:=Tryz.underlying9
 a9:=Tryz.isAgg9
 z9:=Tryz.sizeOf9
 v9:=Tryz.zeroValue9 }
open Go.RowKit in
theorem Tryz.strings_IndexByte(s:ByteArray)(c:Int)(w:World) :
  Calls Tryz.prog 182 #[.string s,.int .u8 c] w fun e w'=>e = .returned (.int .i64 (Lib.indexByte s.data.toList c.toNat.toUInt8))/\w'=w:=Any.strings_IndexByte Tryz.lays137 s c w
def Tryz.laysM316_ren:Go.Shelf.Ren:=⟨fun|316=>179|n=>n,fun|9=>9|3=>3|4=>4|37=>120|0=>0|127=>170|5=>5|n=>n,fun|n=>n⟩
theorem Tryz.laysM316:Go.Proofs.LaysM.n316 Tryz.prog Tryz.laysM316_ren:={
 mixed:=by kernel_rfl
 f316:=Tryz.func179.trans (congrArg some (by kernel_rfl))
 t0:=Tryz.underlying0
 a0:=Tryz.isAgg0
 z0:=Tryz.sizeOf0
 v0:=Tryz.zeroValue0
 t3:=Tryz.underlying3
 a3:=Tryz.isAgg3
 z3:=Tryz.sizeOf3
 v3:=Tryz.zeroValue3
 t4:=Tryz.underlying4
 a4:=Tryz.isAgg4
 z4:=Tryz.sizeOf4
 v4:=Tryz.zeroValue4
 t9:=Tryz.underlying9
 a9:=Tryz.isAgg9
 z9:=Tryz.sizeOf9
 v9:=Tryz.zeroValue9
 t37:=Tryz.underlying120
 a37:=Tryz.isAgg120
 z37:=Tryz.sizeOf120
 v37:=Tryz.zeroValue120
 t127:=Tryz.underlying170
 a127:=Tryz.isAgg170
 z127:=Tryz.sizeOf170
 v127:=Tryz.zeroValue170
 t5:=Tryz.underlying5
 a5:=Tryz.isAgg5
 z5:=Tryz.sizeOf5
 v5:=Tryz.zeroValue5
 i0:=by kernel_rfl
 i3:=by kernel_rfl
 i4:=by kernel_rfl
 i5:=by kernel_rfl
 i9:=by kernel_rfl
 i37:=by kernel_rfl
 i127:=by kernel_rfl }
open Go.RowKit in
theorem Tryz.stringslite_Clone(s:ByteArray)(w:World)(hlim:s.size<=281474976710656) :
  Calls Tryz.prog 179 #[.string s] w fun e w'=>e = .returned (.string s)/\Below w.heap.size w w':=Any.stringslite_Clone Tryz.laysM316 s w hlim
def Tryz.lays219_ren:Go.Shelf.Ren:=⟨fun|219=>210|217=>214|225=>230|224=>231|267=>232|266=>233|314=>236|n=>n,fun|9=>9|3=>3|4=>4|5=>5|46=>205|146=>211|51=>210|n=>n,fun|1=>2|n=>n⟩
theorem Tryz.lays219:Go.Proofs.Lays.n219 Tryz.prog Tryz.lays219_ren:={
 mixed:=by kernel_rfl
 f217:=Tryz.func214.trans (congrArg some (by kernel_rfl))
 f219:=Tryz.func210.trans (congrArg some (by kernel_rfl))
 f224:=Tryz.func231.trans (congrArg some (by kernel_rfl))
 f225:=Tryz.func230.trans (congrArg some (by kernel_rfl))
 f266:=Tryz.func233.trans (congrArg some (by kernel_rfl))
 f267:=Tryz.func232.trans (congrArg some (by kernel_rfl))
 f314:=Tryz.func236.trans (congrArg some (by kernel_rfl))
 t3:=Tryz.underlying3
 a3:=Tryz.isAgg3
 z3:=Tryz.sizeOf3
 v3:=Tryz.zeroValue3
 t4:=Tryz.underlying4
 a4:=Tryz.isAgg4
 z4:=Tryz.sizeOf4
 v4:=Tryz.zeroValue4
 t5:=Tryz.underlying5
 a5:=Tryz.isAgg5
 z5:=Tryz.sizeOf5
 v5:=Tryz.zeroValue5
 t9:=Tryz.underlying9
 a9:=Tryz.isAgg9
 z9:=Tryz.sizeOf9
 v9:=Tryz.zeroValue9
 t46:=Tryz.underlying205
 a46:=Tryz.isAgg205
 z46:=Tryz.sizeOf205
 v46:=Tryz.zeroValue205
 t51:=Tryz.underlying210
 a51:=Tryz.isAgg210
 z51:=Tryz.sizeOf210
 v51:=Tryz.zeroValue210
 t146:=Tryz.underlying211
 a146:=Tryz.isAgg211
 z146:=Tryz.sizeOf211
 v146:=Tryz.zeroValue211
 g1:=by kernel_rfl }
open Go.RowKit Go.Lib in
theorem Tryz.stringslite_Index_one(s:ByteArray)(c:UInt8)(w:World) :
  Calls Tryz.prog 210 #[.string s,.string ⟨#[c]⟩] w fun e w'=>e = .returned (.int .i64 (Lib.indexByte s.data.toList c))/\w'=w:=Any.stringslite_Index_one Tryz.lays219 s c w
def Tryz.lays206_ren:Go.Shelf.Ren:=⟨fun|206=>234|n=>n,fun|9=>9|4=>4|3=>3|n=>n,fun|n=>n⟩
def Tryz.lays99_ren:Go.Shelf.Ren:=⟨fun|99=>218|206=>234|n=>n,fun|9=>9|4=>4|3=>3|n=>n,fun|n=>n⟩
theorem Tryz.lays99:Go.Proofs.Lays.n99 Tryz.prog Tryz.lays99_ren:={
 mixed:=by kernel_rfl
 f99:=Tryz.func218.trans (congrArg some (by kernel_rfl))
 f206:=Tryz.func234.trans (congrArg some (by kernel_rfl))
 t3:=Tryz.underlying3
 a3:=Tryz.isAgg3
 z3:=Tryz.sizeOf3
 v3:=Tryz.zeroValue3
 t4:=Tryz.underlying4
 a4:=Tryz.isAgg4
 z4:=Tryz.sizeOf4
 v4:=Tryz.zeroValue4
 t9:=Tryz.underlying9
 a9:=Tryz.isAgg9
 z9:=Tryz.sizeOf9
 v9:=Tryz.zeroValue9 }
open Go.RowKit Go.Lib in
theorem Tryz.strings_HasPrefix(s p:ByteArray)(w:World) :
  Calls Tryz.prog 218 #[.string s,.string p] w fun e w'=>e = .returned (.bool (Lib.hasPrefix s.data.toList p.data.toList))/\w'=w:=Any.strings_HasPrefix Tryz.lays99 s p w
def Tryz.lays221_ren:Go.Shelf.Ren:=⟨fun|221=>109|268=>174|138=>175|143=>176|195=>207|197=>208|218=>209|219=>210|260=>229|217=>214|225=>230|224=>231|267=>232|266=>233|314=>236|n=>n,fun|9=>9|3=>3|31=>42|4=>4|0=>0|105=>194|21=>21|5=>5|46=>205|119=>206|139=>209|138=>208|146=>211|51=>210|n=>n,fun|1=>2|3=>3|4=>4|n=>n⟩
def Tryz.lays146_ren:Go.Shelf.Ren:=⟨fun|146=>51|221=>109|268=>174|138=>175|143=>176|195=>207|197=>208|218=>209|219=>210|260=>229|217=>214|225=>230|224=>231|267=>232|266=>233|314=>236|n=>n,fun|9=>9|31=>42|3=>3|4=>4|0=>0|105=>194|21=>21|5=>5|46=>205|119=>206|139=>209|138=>208|146=>211|51=>210|n=>n,fun|1=>2|3=>3|4=>4|n=>n⟩
theorem Tryz.lays146:Go.Proofs.Lays.n146 Tryz.prog Tryz.lays146_ren:={
 mixed:=by kernel_rfl
 f138:=Tryz.func175.trans (congrArg some (by kernel_rfl))
 f143:=Tryz.func176.trans (congrArg some (by kernel_rfl))
 f146:=Tryz.func51.trans (congrArg some (by kernel_rfl))
 f195:=Tryz.func207.trans (congrArg some (by kernel_rfl))
 f197:=Tryz.func208.trans (congrArg some (by kernel_rfl))
 f217:=Tryz.func214.trans (congrArg some (by kernel_rfl))
 f218:=Tryz.func209.trans (congrArg some (by kernel_rfl))
 f219:=Tryz.func210.trans (congrArg some (by kernel_rfl))
 f221:=Tryz.func109.trans (congrArg some (by kernel_rfl))
 f224:=Tryz.func231.trans (congrArg some (by kernel_rfl))
 f225:=Tryz.func230.trans (congrArg some (by kernel_rfl))
 f260:=Tryz.func229.trans (congrArg some (by kernel_rfl))
 f266:=Tryz.func233.trans (congrArg some (by kernel_rfl))
 f267:=Tryz.func232.trans (congrArg some (by kernel_rfl))
 f268:=Tryz.func174.trans (congrArg some (by kernel_rfl))
 f314:=Tryz.func236.trans (congrArg some (by kernel_rfl))
 t0:=Tryz.underlying0
 a0:=Tryz.isAgg0
 z0:=Tryz.sizeOf0
 v0:=Tryz.zeroValue0
 t3:=Tryz.underlying3
 a3:=Tryz.isAgg3
 z3:=Tryz.sizeOf3
 v3:=Tryz.zeroValue3
 t4:=Tryz.underlying4
 a4:=Tryz.isAgg4
 z4:=Tryz.sizeOf4
 v4:=Tryz.zeroValue4
 t5:=Tryz.underlying5
 a5:=Tryz.isAgg5
 z5:=Tryz.sizeOf5
 v5:=Tryz.zeroValue5
 t9:=Tryz.underlying9
 a9:=Tryz.isAgg9
 z9:=Tryz.sizeOf9
 v9:=Tryz.zeroValue9
 t21:=Tryz.underlying21
 a21:=Tryz.isAgg21
 z21:=Tryz.sizeOf21
 v21:=Tryz.zeroValue21
 t31:=Tryz.underlying42
 a31:=Tryz.isAgg42
 z31:=Tryz.sizeOf42
 v31:=Tryz.zeroValue42
 t46:=Tryz.underlying205
 a46:=Tryz.isAgg205
 z46:=Tryz.sizeOf205
 v46:=Tryz.zeroValue205
 t51:=Tryz.underlying210
 a51:=Tryz.isAgg210
 z51:=Tryz.sizeOf210
 v51:=Tryz.zeroValue210
 t105:=Tryz.underlying194
 a105:=Tryz.isAgg194
 z105:=Tryz.sizeOf194
 v105:=Tryz.zeroValue194
 t119:=Tryz.underlying206
 a119:=Tryz.isAgg206
 z119:=Tryz.sizeOf206
 t138:=Tryz.underlying208
 a138:=Tryz.isAgg208
 z138:=Tryz.sizeOf208
 v138:=Tryz.zeroValue208
 t139:=Tryz.underlying209
 a139:=Tryz.isAgg209
 z139:=Tryz.sizeOf209
 v139:=Tryz.zeroValue209
 t146:=Tryz.underlying211
 a146:=Tryz.isAgg211
 z146:=Tryz.sizeOf211
 v146:=Tryz.zeroValue211
 g1:=by kernel_rfl
 g3:=by kernel_rfl
 g4:=by kernel_rfl }
def Tryz.lays110_ren:Go.Shelf.Ren:=⟨fun|110=>61|109=>123|n=>n,fun|31=>42|9=>9|4=>4|3=>3|0=>0|n=>n,fun|n=>n⟩
theorem Tryz.lays110:Go.Proofs.Lays.n110 Tryz.prog Tryz.lays110_ren:={
 mixed:=by kernel_rfl
 f109:=Tryz.func123.trans (congrArg some (by kernel_rfl))
 f110:=Tryz.func61.trans (congrArg some (by kernel_rfl))
 t0:=Tryz.underlying0
 a0:=Tryz.isAgg0
 z0:=Tryz.sizeOf0
 v0:=Tryz.zeroValue0
 t3:=Tryz.underlying3
 a3:=Tryz.isAgg3
 z3:=Tryz.sizeOf3
 v3:=Tryz.zeroValue3
 t4:=Tryz.underlying4
 a4:=Tryz.isAgg4
 z4:=Tryz.sizeOf4
 v4:=Tryz.zeroValue4
 t9:=Tryz.underlying9
 a9:=Tryz.isAgg9
 z9:=Tryz.sizeOf9
 v9:=Tryz.zeroValue9
 t31:=Tryz.underlying42
 a31:=Tryz.isAgg42
 z31:=Tryz.sizeOf42
 v31:=Tryz.zeroValue42 }
open Go.Lib in
theorem Tryz.slices_Contains_string(b off n c:Nat)(zs:List ByteArray)(x:ByteArray)(w:World)(hz:n<=zs.length)(hbig:n<=9223372036854775807)(hc:∀ j,j < zs.length->w.cell? ⟨b,off+j,none⟩=some (.string (zs.getD j ByteArray.empty))) :
  Calls Tryz.prog 61 #[.slice (some ⟨b,off,none⟩) n c,.string x] w fun e w'=>e = .returned (.bool (Lib.containsS (zs.take n) x))/\w'=w:=Any.slices_Contains_string Tryz.lays110 b off n c zs x w hz hbig hc
open Go.Lib in
theorem Tryz.slices_Contains_string_empty(a:Option Addr)(c:Nat)(x:ByteArray)(w:World) :
  Calls Tryz.prog 61 #[.slice a 0 c,.string x] w fun e w'=>e = .returned (.bool false)/\w'=w:=Any.slices_Contains_string_empty Tryz.lays110 a c x w
end Go.Proofs
namespace Go.Proofs.YtkckddojlignpaaGreatDoor
open Go.RowKit
def bs(s:ByteArray):Lx.Bs:=s.data.toList
theorem xu{s:ByteArray}{k:Nat}(h:k < s.size):(bs s)[k]'(by simpa[bs]using h)=s[k]:=by simp[bs];rfl
theorem q16{k:IntKind}{a b:Int}(h:a=b):Ending.returned (.int k a)=Ending.returned (.int k b):=by rw[h]
theorem xh(c:UInt8):(c.toNat:Int) < 256:=by have:=c.toNat_lt;omega
theorem qr(s:ByteArray):(bs s).length=s.size:=by simp[bs]
theorem qf5(s:ByteArray)(bT bN:Nat)(i:Nat)(w:World)(hs:s.size<=maxLen)(hi:i<=s.size)
  (hT:w.cell? ⟨bT,0,none⟩=some (.string s))
  (hN:∀ c:UInt8,w.cell? ⟨bN,c.toNat,none⟩=some (.bool (Lx.part c))) :
  Calls Tryz.prog 219 #[.int .i64 i,.pointer (some ⟨bT,0,none⟩),.pointer (some ⟨bN,0,none⟩)] w fun e w'=>e = .returned (.int .i64 (Lx.runTo (bs s) i))/\w=w':=by
 unfold maxLen at hs;go_enter Tryz.func219,Tryz.ntmps219;go_wp2
 go_loop [0] (fun a=>∃ k:Nat,k<=s.size/\a = .int .i64 k/\Lx.runTo (bs s) i=Lx.runTo (bs s) k) (fun a=>s.size - (intOf a).toNat)
 case atStart=>exact⟨i,hi,rfl,rfl⟩
 case round =>
  obtain⟨k,hk,rfl,hrun⟩:=hrel;have Hrun:=qh hrun;clear hrun;have hby:=xh
  by_cases hlt:k < s.size
  ·go_wp2
   ·have hp:Lx.part s[k]=true:=by assumption
    go_round
    case rel=>exact⟨k+1,by omega,by go_num,by rw[Hrun.out,Lx.runTo_step (by rw[qr];exact hlt),xu hlt,qa hp]⟩
    case measure=>simp[intOf];omega
   ·have hp:Lx.part s[k]=false:=by assumption
    go_ret;exact⟨q16 (by rw[Hrun.out,Lx.runTo_step (by rw[qr];exact hlt),xu hlt,hp];simp),rfl⟩
  ·go_wp2
   go_ret;exact⟨q16 (by rw[Hrun.out,Lx.runTo_end (by rw[qr];omega)]),rfl⟩
theorem jp(s:ByteArray)(bT bN:Nat)(i:Int)(w:World)(hs:s.size<=maxLen)(h0:0<=i)(hi:i<=s.size)
  (hT:w.cell? ⟨bT,0,none⟩=some (.string s))
  (hN:∀ c:UInt8,w.cell? ⟨bN,c.toNat,none⟩=some (.bool (Lx.part c))) :
  Calls Tryz.prog 219 #[.int .i64 i,.pointer (some ⟨bT,0,none⟩),.pointer (some ⟨bN,0,none⟩)] w fun e w'=>e = .returned (.int .i64 (Lx.runTo (bs s) i.toNat))/\w=w':=by
 obtain⟨n,rfl⟩:=Int.eq_ofNat_of_zero_le h0;exact qf5 s bT bN n w hs (by omega) hT hN
theorem yv(s:ByteArray)(i j:Nat):bs (s.extract i j)=Lx.slice (bs s) i j:=by
 simp[bs,Lx.slice,ByteArray.data_extract,List.extract_eq_take_drop]
theorem q21(s:ByteArray)(i:Nat):bs (s.extract i s.size)=(bs s).drop i:=by
 rw[yv,Lx.slice,qt (by simp[qr])]
theorem qb0(s:ByteArray)(t:Nat)(kd:Int)(i j:Nat)(w:World)(_hs:s.size<=maxLen)(hi:i<=j)(hj:j<=s.size)
  (hT:w.cell? ⟨t,0,none⟩=some (.string s)) :
  Calls Tryz.prog 216 #[.int .i64 kd,.int .i64 i,.int .i64 j,.pointer (some ⟨t,0,none⟩)] w fun e w' =>
   e = .returned (.agg #[.int .i64 kd,.string (s.extract i j),.int .i64 i])/\w'=w.alloc (.cells #[.int .i64 kd,.string (s.extract i j),.int .i64 i] 111):=by
 unfold maxLen at _hs;have ht:=block_lt_of_cell hT;simp only at ht;go_enter Tryz.func216,Tryz.ntmps216;go_wp2;refine bodyPost_ret (v:=.agg #[.int .i64 kd,.string (s.extract i j),.int .i64 i]) (by simp[results,Tryz.results216,go_sem]) rfl ⟨rfl,rfl⟩
theorem q2d(s:ByteArray)(t:Nat)(kd:Int)(i j:Int)(w:World)(hs:s.size<=maxLen)(h0:0<=i)(hi:i<=j)(hj:j<=s.size)
  (hT:w.cell? ⟨t,0,none⟩=some (.string s)) :
  Calls Tryz.prog 216 #[.int .i64 kd,.int .i64 i,.int .i64 j,.pointer (some ⟨t,0,none⟩)] w fun e w' =>
   e = .returned (.agg #[.int .i64 kd,.string (s.extract i.toNat j.toNat),.int .i64 i])/\w'=w.alloc (.cells #[.int .i64 kd,.string (s.extract i.toNat j.toNat),.int .i64 i] 111):=by
 obtain⟨n,rfl⟩:=Int.eq_ofNat_of_zero_le h0;obtain⟨m,rfl⟩:=Int.eq_ofNat_of_zero_le (show 0<=j by omega);exact qb0 s t kd n m w hs (by omega) (by omega) hT
theorem qfg(s p:ByteArray)(t:Nat)(i:Nat)(w:World)(_hs:s.size<=maxLen)(hi:i<=s.size)
  (hT:w.cell? ⟨t,0,none⟩=some (.string s)) :
  Calls Tryz.prog 217 #[.int .i64 i,.string p,.pointer (some ⟨t,0,none⟩)] w fun e w' =>
   e = .returned (.bool (Lx.pre (bs s) i (bs p)))/\w=w':=by
 unfold maxLen at _hs;go_enter Tryz.func217,Tryz.ntmps217
 go_wp2_with (go_at_call 218;refine(Tryz.strings_HasPrefix _ _ _).mono ?_;rintro e w' ⟨rfl,rfl⟩)
 go_ret;have e1:List.take (s.size - i) (List.drop i s.data.toList)=(bs s).drop i:=qt (by simp);exact⟨congrArg (fun x=>Ending.returned (.bool (Lib.hasPrefix x (bs p)))) e1,rfl⟩
theorem ja(s p:ByteArray)(t:Nat)(i:Int)(w:World)(hs:s.size<=maxLen)(h0:0<=i)(hi:i<=s.size)
  (hT:w.cell? ⟨t,0,none⟩=some (.string s)) :
  Calls Tryz.prog 217 #[.int .i64 i,.string p,.pointer (some ⟨t,0,none⟩)] w fun e w' =>
   e = .returned (.bool (Lx.pre (bs s) i.toNat (bs p)))/\w=w':=by
 obtain⟨n,rfl⟩:=Int.eq_ofNat_of_zero_le h0;exact qfg s p t n w hs (by omega) hT
theorem jt{n:Nat}(h:n<=20000):n<=maxLen:=by unfold maxLen;omega
theorem qni(s:ByteArray)(t fo ne nm:Nat)(i:Nat)(w:World)(hs:s.size<=20000)(hi:i < s.size)
  (hT:w.cell? ⟨t,0,none⟩=some (.string s))
  (hN:∀ c:UInt8,w.cell? ⟨nm,c.toNat,none⟩=some (.bool (Lx.part c)))
  (hFo:w.cell? ⟨fo,0,none⟩=some (.func (.func 217) #[] #[.pointer (some ⟨t,0,none⟩)]))
  (hNe:w.cell? ⟨ne,0,none⟩=some (.func (.func 219) #[] #[.pointer (some ⟨t,0,none⟩),.pointer (some ⟨nm,0,none⟩)]))
  (h1:Lx.pre (bs s) i (bs ⟨#[45,111]⟩)=true) (h2:(((Lx.runTo (bs s) (i+1):Nat):Int)==(i:Int)+2)=true) :
  Calls Tryz.prog 221 #[.int .i64 i,.pointer (some ⟨fo,0,none⟩),.pointer (some ⟨ne,0,none⟩)] w fun e w' =>
   e = .returned (.bool true)/\w=w':=by
 have hm:=jt hs;go_enter Tryz.func221,Tryz.ntmps221
 go_wp2_with (first
  |(go_at_call 217;refine(ja s _ t i w hm (by omega) (by omega) hT).mono ?_;rintro e w' ⟨rfl,rfl⟩)
  |(go_at_call 219;refine(jp s t nm (i+1) w hm (by omega) (by omega) hT hN).mono ?_;rintro e w' ⟨rfl,rfl⟩))
 go_ret;exact⟨rfl,rfl⟩
theorem qlb(s:ByteArray)(t fo ne nm:Nat)(i:Nat)(w:World)(hs:s.size<=20000)(hi:i < s.size)
  (hT:w.cell? ⟨t,0,none⟩=some (.string s))
  (hN:∀ c:UInt8,w.cell? ⟨nm,c.toNat,none⟩=some (.bool (Lx.part c)))
  (hFo:w.cell? ⟨fo,0,none⟩=some (.func (.func 217) #[] #[.pointer (some ⟨t,0,none⟩)]))
  (hNe:w.cell? ⟨ne,0,none⟩=some (.func (.func 219) #[] #[.pointer (some ⟨t,0,none⟩),.pointer (some ⟨nm,0,none⟩)]))
  (h1:Lx.pre (bs s) i (bs ⟨#[45,111]⟩)=true) (h2:(((Lx.runTo (bs s) (i+1):Nat):Int)==(i:Int)+2)=false) (h3:Lx.pre (bs s) i (bs ⟨#[45,62]⟩)=true) :
  Calls Tryz.prog 221 #[.int .i64 i,.pointer (some ⟨fo,0,none⟩),.pointer (some ⟨ne,0,none⟩)] w fun e w' =>
   e = .returned (.bool true)/\w=w':=by
 have hm:=jt hs;go_enter Tryz.func221,Tryz.ntmps221
 go_wp2_with (first
  |(go_at_call 217;refine(ja s _ t i w hm (by omega) (by omega) hT).mono ?_;rintro e w' ⟨rfl,rfl⟩)
  |(go_at_call 219;refine(jp s t nm (i+1) w hm (by omega) (by omega) hT hN).mono ?_;rintro e w' ⟨rfl,rfl⟩))
 go_ret;exact⟨rfl,rfl⟩
theorem qla(s:ByteArray)(t fo ne nm:Nat)(i:Nat)(w:World)(hs:s.size<=20000)(hi:i < s.size)
  (hT:w.cell? ⟨t,0,none⟩=some (.string s))
  (hN:∀ c:UInt8,w.cell? ⟨nm,c.toNat,none⟩=some (.bool (Lx.part c)))
  (hFo:w.cell? ⟨fo,0,none⟩=some (.func (.func 217) #[] #[.pointer (some ⟨t,0,none⟩)]))
  (hNe:w.cell? ⟨ne,0,none⟩=some (.func (.func 219) #[] #[.pointer (some ⟨t,0,none⟩),.pointer (some ⟨nm,0,none⟩)]))
  (h1:Lx.pre (bs s) i (bs ⟨#[45,111]⟩)=true) (h2:(((Lx.runTo (bs s) (i+1):Nat):Int)==(i:Int)+2)=false) (h3:Lx.pre (bs s) i (bs ⟨#[45,62]⟩)=false) (h4:Lx.pre (bs s) i (bs ⟨#[61,62]⟩)=true) :
  Calls Tryz.prog 221 #[.int .i64 i,.pointer (some ⟨fo,0,none⟩),.pointer (some ⟨ne,0,none⟩)] w fun e w' =>
   e = .returned (.bool true)/\w=w':=by
 have hm:=jt hs;go_enter Tryz.func221,Tryz.ntmps221
 go_wp2_with (first
  |(go_at_call 217;refine(ja s _ t i w hm (by omega) (by omega) hT).mono ?_;rintro e w' ⟨rfl,rfl⟩)
  |(go_at_call 219;refine(jp s t nm (i+1) w hm (by omega) (by omega) hT hN).mono ?_;rintro e w' ⟨rfl,rfl⟩))
 go_ret;exact⟨rfl,rfl⟩
theorem ql9(s:ByteArray)(t fo ne nm:Nat)(i:Nat)(w:World)(hs:s.size<=20000)(hi:i < s.size)
  (hT:w.cell? ⟨t,0,none⟩=some (.string s))
  (hN:∀ c:UInt8,w.cell? ⟨nm,c.toNat,none⟩=some (.bool (Lx.part c)))
  (hFo:w.cell? ⟨fo,0,none⟩=some (.func (.func 217) #[] #[.pointer (some ⟨t,0,none⟩)]))
  (hNe:w.cell? ⟨ne,0,none⟩=some (.func (.func 219) #[] #[.pointer (some ⟨t,0,none⟩),.pointer (some ⟨nm,0,none⟩)]))
  (h1:Lx.pre (bs s) i (bs ⟨#[45,111]⟩)=true) (h2:(((Lx.runTo (bs s) (i+1):Nat):Int)==(i:Int)+2)=false) (h3:Lx.pre (bs s) i (bs ⟨#[45,62]⟩)=false) (h4:Lx.pre (bs s) i (bs ⟨#[61,62]⟩)=false) :
  Calls Tryz.prog 221 #[.int .i64 i,.pointer (some ⟨fo,0,none⟩),.pointer (some ⟨ne,0,none⟩)] w fun e w' =>
   e = .returned (.bool (Lx.pre (bs s) i (bs ⟨#[60,61]⟩)))/\w=w':=by
 have hm:=jt hs;go_enter Tryz.func221,Tryz.ntmps221
 go_wp2_with (first
  |(go_at_call 217;refine(ja s _ t i w hm (by omega) (by omega) hT).mono ?_;rintro e w' ⟨rfl,rfl⟩)
  |(go_at_call 219;refine(jp s t nm (i+1) w hm (by omega) (by omega) hT hN).mono ?_;rintro e w' ⟨rfl,rfl⟩))
 go_ret;exact⟨rfl,rfl⟩
theorem ql8(s:ByteArray)(t fo ne nm:Nat)(i:Nat)(w:World)(hs:s.size<=20000)(hi:i < s.size)
  (hT:w.cell? ⟨t,0,none⟩=some (.string s))
  (_hN:∀ c:UInt8,w.cell? ⟨nm,c.toNat,none⟩=some (.bool (Lx.part c)))
  (hFo:w.cell? ⟨fo,0,none⟩=some (.func (.func 217) #[] #[.pointer (some ⟨t,0,none⟩)]))
  (_hNe:w.cell? ⟨ne,0,none⟩=some (.func (.func 219) #[] #[.pointer (some ⟨t,0,none⟩),.pointer (some ⟨nm,0,none⟩)]))
  (h1:Lx.pre (bs s) i (bs ⟨#[45,111]⟩)=false) (h3:Lx.pre (bs s) i (bs ⟨#[45,62]⟩)=true) :
  Calls Tryz.prog 221 #[.int .i64 i,.pointer (some ⟨fo,0,none⟩),.pointer (some ⟨ne,0,none⟩)] w fun e w' =>
   e = .returned (.bool true)/\w=w':=by
 have hm:=jt hs;go_enter Tryz.func221,Tryz.ntmps221
 go_wp2_with (first
  |(go_at_call 217;refine(ja s _ t i w hm (by omega) (by omega) hT).mono ?_;rintro e w' ⟨rfl,rfl⟩)
  |(go_at_call 219;refine(jp s t nm (i+1) w hm (by omega) (by omega) hT hN).mono ?_;rintro e w' ⟨rfl,rfl⟩))
 go_ret;exact⟨rfl,rfl⟩
theorem ql7(s:ByteArray)(t fo ne nm:Nat)(i:Nat)(w:World)(hs:s.size<=20000)(hi:i < s.size)
  (hT:w.cell? ⟨t,0,none⟩=some (.string s))
  (_hN:∀ c:UInt8,w.cell? ⟨nm,c.toNat,none⟩=some (.bool (Lx.part c)))
  (hFo:w.cell? ⟨fo,0,none⟩=some (.func (.func 217) #[] #[.pointer (some ⟨t,0,none⟩)]))
  (_hNe:w.cell? ⟨ne,0,none⟩=some (.func (.func 219) #[] #[.pointer (some ⟨t,0,none⟩),.pointer (some ⟨nm,0,none⟩)]))
  (h1:Lx.pre (bs s) i (bs ⟨#[45,111]⟩)=false) (h3:Lx.pre (bs s) i (bs ⟨#[45,62]⟩)=false) (h4:Lx.pre (bs s) i (bs ⟨#[61,62]⟩)=true) :
  Calls Tryz.prog 221 #[.int .i64 i,.pointer (some ⟨fo,0,none⟩),.pointer (some ⟨ne,0,none⟩)] w fun e w' =>
   e = .returned (.bool true)/\w=w':=by
 have hm:=jt hs;go_enter Tryz.func221,Tryz.ntmps221
 go_wp2_with (first
  |(go_at_call 217;refine(ja s _ t i w hm (by omega) (by omega) hT).mono ?_;rintro e w' ⟨rfl,rfl⟩)
  |(go_at_call 219;refine(jp s t nm (i+1) w hm (by omega) (by omega) hT hN).mono ?_;rintro e w' ⟨rfl,rfl⟩))
 go_ret;exact⟨rfl,rfl⟩
theorem ql6(s:ByteArray)(t fo ne nm:Nat)(i:Nat)(w:World)(hs:s.size<=20000)(hi:i < s.size)
  (hT:w.cell? ⟨t,0,none⟩=some (.string s))
  (_hN:∀ c:UInt8,w.cell? ⟨nm,c.toNat,none⟩=some (.bool (Lx.part c)))
  (hFo:w.cell? ⟨fo,0,none⟩=some (.func (.func 217) #[] #[.pointer (some ⟨t,0,none⟩)]))
  (_hNe:w.cell? ⟨ne,0,none⟩=some (.func (.func 219) #[] #[.pointer (some ⟨t,0,none⟩),.pointer (some ⟨nm,0,none⟩)]))
  (h1:Lx.pre (bs s) i (bs ⟨#[45,111]⟩)=false) (h3:Lx.pre (bs s) i (bs ⟨#[45,62]⟩)=false) (h4:Lx.pre (bs s) i (bs ⟨#[61,62]⟩)=false) :
  Calls Tryz.prog 221 #[.int .i64 i,.pointer (some ⟨fo,0,none⟩),.pointer (some ⟨ne,0,none⟩)] w fun e w' =>
   e = .returned (.bool (Lx.pre (bs s) i (bs ⟨#[60,61]⟩)))/\w=w':=by
 have hm:=jt hs;go_enter Tryz.func221,Tryz.ntmps221
 go_wp2_with (first
  |(go_at_call 217;refine(ja s _ t i w hm (by omega) (by omega) hT).mono ?_;rintro e w' ⟨rfl,rfl⟩)
  |(go_at_call 219;refine(jp s t nm (i+1) w hm (by omega) (by omega) hT hN).mono ?_;rintro e w' ⟨rfl,rfl⟩))
 go_ret;exact⟨rfl,rfl⟩
theorem q9n(s:ByteArray)(t fo ne nm:Nat)(i:Nat)(w:World)(hs:s.size<=20000)(hi:i < s.size)
  (hT:w.cell? ⟨t,0,none⟩=some (.string s))
  (hN:∀ c:UInt8,w.cell? ⟨nm,c.toNat,none⟩=some (.bool (Lx.part c)))
  (hFo:w.cell? ⟨fo,0,none⟩=some (.func (.func 217) #[] #[.pointer (some ⟨t,0,none⟩)]))
  (hNe:w.cell? ⟨ne,0,none⟩=some (.func (.func 219) #[] #[.pointer (some ⟨t,0,none⟩),.pointer (some ⟨nm,0,none⟩)])) :
  Calls Tryz.prog 221 #[.int .i64 i,.pointer (some ⟨fo,0,none⟩),.pointer (some ⟨ne,0,none⟩)] w fun e w' =>
   e = .returned (.bool (Lx.isLong (bs s) i))/\w=w':=by
 have hd:Lx.isLong (bs s) i=((Lx.pre (bs s) i (bs ⟨#[45,111]⟩) && (((Lx.runTo (bs s) (i+1):Nat):Int)==(i:Int)+2))||Lx.pre (bs s) i (bs ⟨#[45,62]⟩)||Lx.pre (bs s) i (bs ⟨#[61,62]⟩)||Lx.pre (bs s) i (bs ⟨#[60,61]⟩)):=by
  have e2:(((Lx.runTo (bs s) (i+1):Nat):Int)==(i:Int)+2)=(Lx.runTo (bs s) (i+1)==i+2):=by
   rw[Bool.eq_iff_iff,beq_iff_eq,beq_iff_eq];omega
  rw[e2];rfl
 rw[hd];rcases Bool.eq_false_or_eq_true (Lx.pre (bs s) i (bs ⟨#[45,111]⟩))with h1|h1
 ·rcases Bool.eq_false_or_eq_true (((Lx.runTo (bs s) (i+1):Nat):Int)==(i:Int)+2)with h2|h2
  ·refine(qni s t fo ne nm i w hs hi hT hN hFo hNe h1 h2).mono ?_;rintro e w' ⟨rfl,h⟩;exact⟨by rw[h1,h2];rfl,h⟩
  ·rcases Bool.eq_false_or_eq_true (Lx.pre (bs s) i (bs ⟨#[45,62]⟩))with h3|h3
   ·refine(qlb s t fo ne nm i w hs hi hT hN hFo hNe h1 h2 h3).mono ?_;rintro e w' ⟨rfl,h⟩;exact⟨by rw[h1,h2,h3];rfl,h⟩
   ·rcases Bool.eq_false_or_eq_true (Lx.pre (bs s) i (bs ⟨#[61,62]⟩))with h4|h4
    ·refine(qla s t fo ne nm i w hs hi hT hN hFo hNe h1 h2 h3 h4).mono ?_;rintro e w' ⟨rfl,h⟩;exact⟨by rw[h1,h2,h3,h4];rfl,h⟩
    ·refine(ql9 s t fo ne nm i w hs hi hT hN hFo hNe h1 h2 h3 h4).mono ?_;rintro e w' ⟨rfl,h⟩;exact⟨by rw[h1,h2,h3,h4];rfl,h⟩
 ·rcases Bool.eq_false_or_eq_true (Lx.pre (bs s) i (bs ⟨#[45,62]⟩))with h3|h3
  ·refine(ql8 s t fo ne nm i w hs hi hT hN hFo hNe h1 h3).mono ?_;rintro e w' ⟨rfl,h⟩;exact⟨by rw[h1,h3];rfl,h⟩
  ·rcases Bool.eq_false_or_eq_true (Lx.pre (bs s) i (bs ⟨#[61,62]⟩))with h4|h4
   ·refine(ql7 s t fo ne nm i w hs hi hT hN hFo hNe h1 h3 h4).mono ?_;rintro e w' ⟨rfl,h⟩;exact⟨by rw[h1,h3,h4];rfl,h⟩
   ·refine(ql6 s t fo ne nm i w hs hi hT hN hFo hNe h1 h3 h4).mono ?_;rintro e w' ⟨rfl,h⟩;exact⟨by rw[h1,h3,h4];rfl,h⟩
def kr(s:ByteArray)(kd i j:Nat):Value:=.agg #[.int .i64 kd,.string (s.extract i j),.int .i64 i]
def q14(s:ByteArray)(i:Nat)(w:World)(e:Ending)(w':World):Prop :=
 ∃ kd j,Lx.tokAt (bs s) i=some (kd,j)/\e = .returned (kr s kd i j)/\Below w.heap.size w w'
def wordsB:List ByteArray:=Lx.words.map fun l=>⟨l.toArray⟩
theorem qee{a b:ByteArray}(h:bs a=bs b):a=b:=by
 cases a;cases b;simp only[bs]at h;congr;exact Array.toList_inj.1 h
theorem q0o(x:ByteArray):Lib.containsS (wordsB.take 17) x=Lx.words.contains (bs x):=by
 rw[Bool.eq_iff_iff,Lib.containsS_iff,List.contains_iff_mem];rw[qt (by simp[wordsB,Lx.words])];simp only[wordsB,List.mem_map]
 constructor
 ·rintro⟨l,hl,rfl⟩;simpa[bs]using hl
 ·intro h;exact⟨_,h,qee (by simp[bs])⟩
theorem qb1{s:ByteArray}{i e:Nat}(hi:i < s.size)(hsm:Lx.small s[i]=true)(hE:Lx.nameTo (bs s) i=e) :
  Lx.tokAt (bs s) i=if bs (s.extract i e)=[111]/\(bs s)[e]?=some 45 then some (3,e+1) else if Lx.words.contains (bs (s.extract i e)) then some (4,e) else some (1,e):=by
 have h0:(bs s)[i]?=some s[i]:=by rw[qj (by rw[qr];exact hi),xu hi]
 simp only[Lx.tokAt,h0,hsm,if_true,hE,yv]
def q2p(l:Lx.Bs)(j:Nat):Bool:=Lx.pre l j [64] && (l[j+1]?.map Lx.small).getD false
theorem qpl{s:ByteArray}{j:Nat}(h:¬ Lx.pre (bs s) j (bs ⟨#[64]⟩)=true):q2p (bs s) j=false:=by
 have h':Lx.pre (bs s) j [64]=false:=by simpa[bs]using h
 simp[q2p,h']
theorem qpk{s:ByteArray}{j:Nat}(h:¬ (j:Int)+1 < s.size):q2p (bs s) j=false:=by
 have:(bs s)[j+1]?=none:=List.getElem?_eq_none (by rw[qr];omega);simp[q2p,this]
theorem qpj{s:ByteArray}{j:Nat}(h:Lx.pre (bs s) j (bs ⟨#[64]⟩)=true)(h2:j+1 < s.size):q2p (bs s) j=Lx.small s[j+1]:=by
 have h':Lx.pre (bs s) j [64]=true:=h;have:(bs s)[j+1]?=some s[j+1]:=by rw[qj (by rw[qr];exact h2),xu h2]
 simp[q2p,this,h']
theorem q43{l:Lx.Bs}{i:Nat}{a:UInt8}:Lx.pre l i [a]=true↔l[i]?=some a:=by
 unfold Lx.pre;rw[List.isPrefixOf_iff_prefix];have e:(l.drop i)[0]?=l[i]?:=by rw[List.getElem?_drop];simp
 constructor
 ·rintro⟨r,hr⟩
  have h0:(l.drop i)[0]?=some a:=by rw[<-hr];rfl
  exact e.symm.trans h0
 ·intro h
  rw[<-e]at h
  cases hd:l.drop i with
  |nil=>rw[hd]at h;simp at h
  |cons b r=>rw[hd]at h;simp at h;subst h;exact⟨r,rfl⟩
theorem qhz{l:Lx.Bs}{i j:Nat}(hj:Lx.runTo l i=j)(h:q2p l j=true):Lx.nameTo l i=Lx.runTo l (j+1)/\j+1 < l.length:=by
 simp only[q2p,qd]at h;have h1:=q43.1 h.1
 have hlt:j+1 < l.length:=by
  rcases Nat.lt_or_ge (j+1) l.length with h'|h'
  ·exact h'
  ·rw[List.getElem?_eq_none h']at h;simp at h
 refine⟨?_,hlt⟩;unfold Lx.nameTo;simp only[hj]
 have hg:(l[j+1]?.map Lx.small)=some true:=by
  cases hq:l[j+1]? with
  |none=>rw[hq]at h;simp at h
  |some c=>rw[hq]at h;simpa using h.2
 rw[qa ⟨h1,hg⟩]
theorem qhy{l:Lx.Bs}{i j:Nat}(hj:Lx.runTo l i=j)(h:q2p l j=false):Lx.nameTo l i=j:=by
 unfold Lx.nameTo;simp only[hj];rw[q7];rintro⟨h1,h2⟩;have h1':=q43.2 h1;simp only[q2p,h1',Bool.true_and]at h
 cases hq:l[j+1]? with
 |none=>rw[hq]at h2;simp at h2
 |some c=>rw[hq]at h h2;simp at h h2;simp[h]at h2
theorem qjp(s:ByteArray)(t fo ne nm sm tk wd wl:Nat)(i:Nat)(w:World)(hs:s.size<=20000)(hi:i < s.size)
  (hT:w.cell? ⟨t,0,none⟩=some (.string s))
  (hN:∀ c:UInt8,w.cell? ⟨nm,c.toNat,none⟩=some (.bool (Lx.part c)))
  (hS:∀ c:UInt8,w.cell? ⟨sm,c.toNat,none⟩=some (.bool (Lx.small c)))
  (hFo:w.cell? ⟨fo,0,none⟩=some (.func (.func 217) #[] #[.pointer (some ⟨t,0,none⟩)]))
  (hTk:w.cell? ⟨tk,0,none⟩=some (.func (.func 216) #[] #[.pointer (some ⟨t,0,none⟩)]))
  (hWd:w.cell? ⟨wd,0,none⟩=some (.slice (some ⟨wl,0,none⟩) 17 17))
  (hWl:∀ k,k < wordsB.length->w.cell? ⟨wl,0+k,none⟩=some (.string (wordsB.getD k ByteArray.empty)))
  (hsm:Lx.small (s[i]'hi)=true)
  (hNe:w.cell? ⟨ne,0,none⟩=some (.func (.func 219) #[] #[.pointer (some ⟨t,0,none⟩),.pointer (some ⟨nm,0,none⟩)])) :
  Calls Tryz.prog 220 #[.int .i64 i,.pointer (some ⟨ne,0,none⟩),.pointer (some ⟨fo,0,none⟩),.pointer (some ⟨t,0,none⟩),.pointer (some ⟨sm,0,none⟩),.pointer (some ⟨tk,0,none⟩),.pointer (some ⟨wd,0,none⟩)] w (q14 s i w):=by
 have hm:=jt hs;have b1:=block_lt_of_cell hT;have b2:=block_lt_of_cell hFo;have b3:=block_lt_of_cell hTk;have b4:=block_lt_of_cell hNe;have b5:=block_lt_of_cell (hN 0);have b6:=block_lt_of_cell (hS 0);have b7:=block_lt_of_cell hWd;have b8:=block_lt_of_cell (hWl 0 (by decide));simp only at b1 b2 b3 b4 b5 b6 b7 b8;have hr:=Lx.runTo_le (l:=bs s) (i:=i) (by rw[qr];omega);rw[qr]at hr;obtain⟨j,hj⟩:∃ j,Lx.runTo (bs s) i=j:=⟨_,rfl⟩;rw[hj]at hr;have Hj:=qh hj;clear hj;have hby:=xh;have hT':=fun o=>(World.cell?_alloc_past (w:=w) o t 0 b1).trans hT
 have hN':=fun o (c:UInt8)=>(World.cell?_alloc_past (w:=w) o nm c.toNat b5).trans (hN c)
 go_enter Tryz.func220,Tryz.ntmps220
 go_upto_region 2 with (first
  |(go_at_call 219;refine(jp s t nm i _ hm (by omega) (by omega) (hT' _) (hN' _)).mono ?_;rintro e w' ⟨rfl,rfl⟩;rw[Int.toNat_natCast,Hj.out]))
 go_cut [31] (fun v wx=>v = .bool (q2p (bs s) j)/\wx=w.alloc (.cells #[.int .i64 0,.string ⟨#[]⟩,.int .i64 0] 111))
 case first =>
  go_wp2_with (first
   |(go_at_call 217;refine(ja s _ t j _ hm (by omega) (by omega) (hT' _)).mono ?_;rintro e w' ⟨rfl,rfl⟩))
  ·have h1:Lx.pre (bs s) j (bs ⟨#[64]⟩)=true:=by assumption
   have h2:(j:Int)+1 < s.size:=by assumption
   go_meet
   exact⟨congrArg Value.bool (qpj h1 (by omega)).symm,rfl⟩
  ·have h2:¬ (j:Int)+1 < s.size:=by omega
   go_meet
   exact⟨congrArg Value.bool (qpk h2).symm,rfl⟩
  ·have h1:¬ Lx.pre (bs s) j (bs ⟨#[64]⟩)=true:=by assumption
   go_meet
   exact⟨congrArg Value.bool (qpl h1).symm,rfl⟩
 case rest =>
  obtain⟨rfl,rfl⟩:=hcut
  go_upto_if 31 with fail
  go_cut [9] (fun v wx=>v = .int .i64 (Lx.nameTo (bs s) i)/\wx=w.alloc (.cells #[.int .i64 0,.string ⟨#[]⟩,.int .i64 0] 111))
  case first =>
   cases h:q2p (bs s) j
   ·have Hn:=qh (qhy Hj.out h)
    clear h;go_wp2
    go_meet
    exact⟨by rw[Hn.out],rfl⟩
   ·obtain⟨hn,hlt⟩:=qhz Hj.out h
    clear h;rw[qr]at hlt;have Hn:=qh hn;clear hn
    go_wp2_with (first
     |(go_at_call 219;refine(jp s t nm (j+1) _ hm (by omega) (by omega) (hT' _) (hN' _)).mono ?_;rintro e w' ⟨rfl,rfl⟩))
    go_meet
    exact⟨by rw[Hn.out],rfl⟩
  case rest =>
   obtain⟨rfl,rfl⟩:=hcut;have he:=Lx.nameTo_le (l:=bs s) (i:=i) (by rw[qr];omega);rw[qr]at he;obtain⟨e,hE⟩:∃ e,Lx.nameTo (bs s) i=e:=⟨_,rfl⟩;rw[hE]at he ⊢;have HE:=qh hE;clear hE;have hWd':=fun o=>(World.cell?_alloc_past (w:=w) o wd 0 b7).trans hWd
   have hWl':=fun o k hk=>(World.cell?_alloc_past (w:=w) o wl (0+k) b8).trans (hWl k hk)
   have HT:=qh (qb1 hi hsm HE.out)
   by_cases h5:(s.extract i e).toList=[111]
   ·cases h6:Lx.pre (bs s) e (bs ⟨#[45]⟩)
    ·have H6:=qh h6
     go_wp2_with (first
      |(go_at_call 217;refine(ja s _ t e _ hm (by omega) (by omega) (hT' _)).mono ?_;rintro e w' ⟨rfl,rfl⟩)
      |(go_at_call 61;refine(Tryz.slices_Contains_string wl 0 17 17 wordsB _ _ (by decide) (by omega) (hWl' _)).mono ?_;rintro e w' ⟨rfl,hw⟩;obtain rfl:=hw.symm;rw[q0o])
      |(go_at_call 216;refine(q2d s t _ i e _ hm (by omega) (by omega) (by omega) (hT' _)).mono ?_;rintro e w' ⟨rfl,rfl⟩))
     ·refine bodyPost_ret (v:=kr s 4 i e) (by simp[results,Tryz.results220,go_sem,kr]) rfl ⟨4,e,?_,rfl,?_⟩
      ·have hw:bs (s.extract i e)∈Lx.words:=by assumption
       rw[HT.out,q7 (by intro h;have:=q43.2 h.2;rw[show([45]:Lx.Bs)=bs ⟨#[45]⟩ from rfl,H6.out]at this;cases this),qa (by rw[List.contains_iff_mem];exact hw)]
      ·exact(((Below.refl _ w).alloc (q5 _) _).alloc (by simp) _)
     ·refine bodyPost_ret (v:=kr s 1 i e) (by simp[results,Tryz.results220,go_sem,kr]) rfl ⟨1,e,?_,rfl,?_⟩
      ·have hw:¬ bs (s.extract i e)∈Lx.words:=by assumption
       rw[HT.out,q7 (by intro h;have:=q43.2 h.2;rw[show([45]:Lx.Bs)=bs ⟨#[45]⟩ from rfl,H6.out]at this;cases this),q7 (by rw[List.contains_iff_mem];exact hw)]
      ·exact(((Below.refl _ w).alloc (q5 _) _).alloc (by simp) _)
    ·have H6:=qh h6
     have h45:=q43.1 (show Lx.pre (bs s) e [45]=true from h6);have hlt:e < s.size:=by rw[<-qr];exact(List.getElem?_eq_some_iff.1 h45).1
     have H45:=qh h45;clear h45
     go_wp2_with (first
      |(go_at_call 217;refine(ja s _ t e _ hm (by omega) (by omega) (hT' _)).mono ?_;rintro e w' ⟨rfl,rfl⟩)
      |(go_at_call 61;refine(Tryz.slices_Contains_string wl 0 17 17 wordsB _ _ (by decide) (by omega) (hWl' _)).mono ?_;rintro e w' ⟨rfl,hw⟩;obtain rfl:=hw.symm;rw[q0o])
      |(go_at_call 216;refine(q2d s t _ i (e+1) _ hm (by omega) (by omega) (by omega) (hT' _)).mono ?_;rintro e w' ⟨rfl,rfl⟩))
     refine bodyPost_ret (v:=kr s 3 i (e+1)) (by simp[results,Tryz.results220,go_sem,kr]) rfl ⟨3,e+1,?_,rfl,?_⟩
     ·rw[HT.out,qa ⟨by rw[bs,<-ByteArray.toList_eq];exact h5,H45.out⟩]
     ·exact(((Below.refl _ w).alloc (q5 _) _).alloc (by simp) _)
   ·go_wp2_with (first
      |(go_at_call 217;refine(ja s _ t e _ hm (by omega) (by omega) (hT' _)).mono ?_;rintro e w' ⟨rfl,rfl⟩)
      |(go_at_call 61;refine(Tryz.slices_Contains_string wl 0 17 17 wordsB _ _ (by decide) (by omega) (hWl' _)).mono ?_;rintro e w' ⟨rfl,hw⟩;obtain rfl:=hw.symm;rw[q0o])
      |(go_at_call 216;refine(q2d s t _ i e _ hm (by omega) (by omega) (by omega) (hT' _)).mono ?_;rintro e w' ⟨rfl,rfl⟩))
    ·refine bodyPost_ret (v:=kr s 4 i e) (by simp[results,Tryz.results220,go_sem,kr]) rfl ⟨4,e,?_,rfl,?_⟩
     ·have hw:bs (s.extract i e)∈Lx.words:=by assumption
      rw[HT.out,q7 (by intro h;exact h5 (by rw[ByteArray.toList_eq];exact h.1)),qa (by rw[List.contains_iff_mem];exact hw)]
     ·exact(((Below.refl _ w).alloc (q5 _) _).alloc (by simp) _)
    ·refine bodyPost_ret (v:=kr s 1 i e) (by simp[results,Tryz.results220,go_sem,kr]) rfl ⟨1,e,?_,rfl,?_⟩
     ·have hw:¬ bs (s.extract i e)∈Lx.words:=by assumption
      rw[HT.out,q7 (by intro h;exact h5 (by rw[ByteArray.toList_eq];exact h.1)),q7 (by rw[List.contains_iff_mem];exact hw)]
     ·exact(((Below.refl _ w).alloc (q5 _) _).alloc (by simp) _)
structure FA where
 (t sm ca sg nm wd wl tk fo ne sc lo:Nat)
structure FEnv(q:FA)(s:ByteArray)(w:World):Prop where
 hT:w.cell? ⟨q.t,0,none⟩=some (.string s)
 hS:∀ c:UInt8,w.cell? ⟨q.sm,c.toNat,none⟩=some (.bool (Lx.small c))
 hC:∀ c:UInt8,w.cell? ⟨q.ca,c.toNat,none⟩=some (.bool (Lx.capital c))
 hG:∀ c:UInt8,w.cell? ⟨q.sg,c.toNat,none⟩=some (.bool (Lx.signB c))
 hN:∀ c:UInt8,w.cell? ⟨q.nm,c.toNat,none⟩=some (.bool (Lx.part c))
 hWd:w.cell? ⟨q.wd,0,none⟩=some (.slice (some ⟨q.wl,0,none⟩) 17 17)
 hWl:∀ k,k < wordsB.length->w.cell? ⟨q.wl,0+k,none⟩=some (.string (wordsB.getD k ByteArray.empty))
 hTk:w.cell? ⟨q.tk,0,none⟩=some (.func (.func 216) #[] #[.pointer (some ⟨q.t,0,none⟩)])
 hFo:w.cell? ⟨q.fo,0,none⟩=some (.func (.func 217) #[] #[.pointer (some ⟨q.t,0,none⟩)])
 hNe:w.cell? ⟨q.ne,0,none⟩=some (.func (.func 219) #[] #[.pointer (some ⟨q.t,0,none⟩),.pointer (some ⟨q.nm,0,none⟩)])
 hSc:w.cell? ⟨q.sc,0,none⟩=some (.func (.func 220) #[] #[.pointer (some ⟨q.ne,0,none⟩),.pointer (some ⟨q.fo,0,none⟩),.pointer (some ⟨q.t,0,none⟩),.pointer (some ⟨q.sm,0,none⟩),.pointer (some ⟨q.tk,0,none⟩),.pointer (some ⟨q.wd,0,none⟩)])
 hLo:w.cell? ⟨q.lo,0,none⟩=some (.func (.func 221) #[] #[.pointer (some ⟨q.fo,0,none⟩),.pointer (some ⟨q.ne,0,none⟩)])
structure FA.lt(q:FA)(n:Nat):Prop where
 t:q.t < n
 sm:q.sm < n
 ca:q.ca < n
 sg:q.sg < n
 nm:q.nm < n
 wd:q.wd < n
 wl:q.wl < n
 tk:q.tk < n
 fo:q.fo < n
 ne:q.ne < n
 sc:q.sc < n
 lo:q.lo < n
theorem FEnv.lt{q:FA}{s:ByteArray}{w:World}(h:FEnv q s w):q.lt w.heap.size :=
 ⟨block_lt_of_cell h.hT,block_lt_of_cell (h.hS 0),block_lt_of_cell (h.hC 0),block_lt_of_cell (h.hG 0),block_lt_of_cell (h.hN 0),block_lt_of_cell h.hWd,block_lt_of_cell (h.hWl 0 (by decide)),
  block_lt_of_cell h.hTk,block_lt_of_cell h.hFo,block_lt_of_cell h.hNe,block_lt_of_cell h.hSc,block_lt_of_cell h.hLo⟩
theorem FEnv.below{q:FA}{s:ByteArray}{w w':World}{n:Nat}(h:FEnv q s w)(hl:q.lt n)(hb:Below n w w'):FEnv q s w' :=
 ⟨(hb.cell (p:=⟨q.t,0,none⟩) hl.t).trans h.hT,fun c=>(hb.cell (p:=⟨q.sm,c.toNat,none⟩) hl.sm).trans (h.hS c),fun c=>(hb.cell (p:=⟨q.ca,c.toNat,none⟩) hl.ca).trans (h.hC c),
  fun c=>(hb.cell (p:=⟨q.sg,c.toNat,none⟩) hl.sg).trans (h.hG c),fun c=>(hb.cell (p:=⟨q.nm,c.toNat,none⟩) hl.nm).trans (h.hN c),(hb.cell (p:=⟨q.wd,0,none⟩) hl.wd).trans h.hWd,
  fun k hk=>(hb.cell (p:=⟨q.wl,0+k,none⟩) hl.wl).trans (h.hWl k hk),(hb.cell (p:=⟨q.tk,0,none⟩) hl.tk).trans h.hTk,(hb.cell (p:=⟨q.fo,0,none⟩) hl.fo).trans h.hFo,
  (hb.cell (p:=⟨q.ne,0,none⟩) hl.ne).trans h.hNe,(hb.cell (p:=⟨q.sc,0,none⟩) hl.sc).trans h.hSc,(hb.cell (p:=⟨q.lo,0,none⟩) hl.lo).trans h.hLo⟩
theorem FEnv.alloc{q:FA}{s:ByteArray}{w:World}(h:FEnv q s w)(o:Obj):FEnv q s (w.alloc o):=h.below h.lt ((Below.refl _ w).alloc (q5 _) o)
theorem FEnv.drew{q:FA}{s:ByteArray}{w:World}(h:FEnv q s w):FEnv q s w.drew:=h.below h.lt ((Below.refl _ w).drew)
def q37(i er:Nat):Value:=.iface 150 (.agg #[.int .i64 i,.int .i64 er])
def qpw(s:ByteArray)(i:Nat)(w:World)(e:Ending)(w':World):Prop :=
 q14 s i w e w'\/(Lx.tokAt (bs s) i=none/\e = .panicked [{ v:=q37 i 10,recovered:=false }]/\Below w.heap.size w w')
def vm(q:FA)(i:Int):Array Value :=
 #[.int .i64 i,.pointer (some ⟨q.t,0,none⟩),.pointer (some ⟨q.sm,0,none⟩),.pointer (some ⟨q.sc,0,none⟩),.pointer (some ⟨q.ca,0,none⟩),.pointer (some ⟨q.tk,0,none⟩),.pointer (some ⟨q.ne,0,none⟩),.pointer (some ⟨q.sg,0,none⟩),.pointer (some ⟨q.lo,0,none⟩)]
theorem q3e{s:ByteArray}{i:Nat}(hi:i < s.size)(h1:Lx.small s[i]=false) :
  Lx.tokAt (bs s) i=if Lx.capital s[i] then some (2,Lx.runTo (bs s) i) else if Lx.signB s[i] then some (3,i+1) else if Lx.isLong (bs s) i then some (3,i+2) else none:=by
 have h0:(bs s)[i]?=some s[i]:=by rw[qj (by rw[qr];exact hi),xu hi]
 simp only[Lx.tokAt,h0,h1,Bool.false_eq_true,if_false]
theorem qjo{q:FA}{s:ByteArray}{i:Nat}{w:World}(hs:s.size<=20000)(hi:i < s.size)(h:FEnv q s w)(hsm:Lx.small (s[i]'hi)=true) :
  Calls Tryz.prog 220 #[.int .i64 i,.pointer (some ⟨q.ne,0,none⟩),.pointer (some ⟨q.fo,0,none⟩),.pointer (some ⟨q.t,0,none⟩),.pointer (some ⟨q.sm,0,none⟩),.pointer (some ⟨q.tk,0,none⟩),.pointer (some ⟨q.wd,0,none⟩)] w (q14 s i w) :=
 qjp s q.t q.fo q.ne q.nm q.sm q.tk q.wd q.wl i w hs hi h.hT h.hN h.hS h.hFo h.hTk h.hWd h.hWl hsm h.hNe
theorem qkt{w w1:World}{a b c:Value}{t:TypeId}(hb:Below (w.alloc (.cells #[a,b,c] t)).heap.size (w.alloc (.cells #[a,b,c] t)) w1) :
  (w1.cell? ⟨w.heap.size,0,none⟩=some a/\w1.cell? ⟨w.heap.size,1,none⟩=some b/\w1.cell? ⟨w.heap.size,2,none⟩=some c) /\
  (w1.frozen? ⟨w.heap.size,0,none⟩=false/\w1.frozen? ⟨w.heap.size,1,none⟩=false/\w1.frozen? ⟨w.heap.size,2,none⟩=false):=by
 have hc:=fun j=>hb.cell (p:=⟨w.heap.size,j,none⟩) (by simp)
 have hf:=fun j=>hb.frozen (p:=⟨w.heap.size,j,none⟩) (by simp)
 refine⟨⟨(hc 0).trans ?_,(hc 1).trans ?_,(hc 2).trans ?_⟩,(hf 0).trans ?_,(hf 1).trans ?_,(hf 2).trans ?_⟩ <;> simp[World.cell?_alloc_at,World.frozen?_alloc_at]
theorem qfo{w w1:World}{o:Obj}(hb:Below (w.alloc o).heap.size (w.alloc o) w1):Below w.heap.size w w1 :=
 ((Below.refl _ w).alloc (q5 _) o).trans (hb.mono (by simp))
theorem qir(q:FA)(s:ByteArray)(i:Nat)(w:World)(hs:s.size<=20000)(hi:i < s.size)(h:FEnv q s w)(h1:Lx.small (s[i]'hi)=true) :
  Calls Tryz.prog 222 (vm q i) w (q14 s i w):=by
 unfold vm;have hby:=xh;have hE:=qh (fun o=>h.alloc o);have l:=h.lt;have b1:=l.t;have b2:=l.sm;have b3:=l.sc;have hT:=h.hT;have hS:=h.hS;have hSc:=h.hSc;clear l h;go_enter Tryz.func222,Tryz.ntmps222
 go_wp2_with fail
 refine(qjo hs hi (hE.out _) h1).mono ?_;rintro e w1⟨kd,j,htok,rfl,hb⟩;have Htok:=qh htok;have Hb:=qh (qfo hb);obtain⟨⟨c0,c1,c2⟩,f0,f1,f2⟩:=qkt hb;clear htok hb hE hT hS hSc h1;unfold kr;go_wp2;refine bodyPost_ret (v:=kr s kd i j) (by simp[results,Tryz.results222,go_sem,kr,c0,c1,c2]) rfl ⟨kd,j,Htok.out,rfl,?_⟩;exact((Hb.out.setCell (p:=⟨w.heap.size,0,none⟩) (q5 _) _).setCell (p:=⟨w.heap.size,1,none⟩) (q5 _) _).setCell (p:=⟨w.heap.size,2,none⟩) (q5 _) _
theorem qln(q:FA)(s:ByteArray)(i:Nat)(w:World)(hs:s.size<=20000)(hi:i < s.size)(h:FEnv q s w)
  (h1:Lx.small (s[i]'hi)=false) (h2:Lx.capital (s[i]'hi)=false) (h3:Lx.signB (s[i]'hi)=true) :
  Calls Tryz.prog 222 (vm q i) w (q14 s i w):=by
 unfold vm;have htok:Lx.tokAt (bs s) i=some (3,i+1):=by rw[q3e hi h1];simp[h2,h3]
 have Htok:=qh htok;clear htok;have hby:=xh;have hE:=qh (fun o=>h.alloc o);have l:=h.lt;have b1:=l.t;have b2:=l.sm;have b3:=l.ca;have b4:=l.sg;have b5:=l.tk;have hT:=h.hT;have hS:=h.hS;have hC:=h.hC;have hG:=h.hG;have hTk:=h.hTk;have hm:=jt hs;clear l h;go_enter Tryz.func222,Tryz.ntmps222
 go_wp2_with (go_at_call 216;refine(q2d s q.t _ i (i+1) _ hm (by omega) (by omega) (by omega) ((hE.out _).hT)).mono ?_;rintro e w' ⟨rfl,rfl⟩)
 refine bodyPost_ret (v:=kr s 3 i (i+1)) (by simp[results,Tryz.results222,go_sem,kr]) rfl ⟨3,i+1,Htok.out,rfl,?_⟩;exact(((Below.refl _ w).alloc (q5 _) _).alloc (by simp) _)
theorem qlp(q:FA)(s:ByteArray)(i:Nat)(w:World)(hs:s.size<=20000)(hi:i < s.size)(h:FEnv q s w)
  (h1:Lx.small (s[i]'hi)=false) (h2:Lx.capital (s[i]'hi)=false) (h3:Lx.signB (s[i]'hi)=false) (h4:Lx.isLong (bs s) i=true) :
  Calls Tryz.prog 222 (vm q i) w (q14 s i w):=by
 unfold vm;have htok:Lx.tokAt (bs s) i=some (3,i+2):=by rw[q3e hi h1];simp[h2,h3,h4]
 have hlt:=(Lx.tokAt_lt htok).2;rw[qr]at hlt;have Htok:=qh htok;clear htok;have H4:=qh h4;clear h4;have hby:=xh;have hE:=qh (fun o=>h.alloc o);have l:=h.lt;have b1:=l.t;have b2:=l.sm;have b3:=l.ca;have b4:=l.sg;have b5:=l.tk;have b6:=l.lo;have hT:=h.hT;have hS:=h.hS;have hC:=h.hC;have hG:=h.hG;have hTk:=h.hTk;have hLo:=h.hLo;have hm:=jt hs;clear l h;go_enter Tryz.func222,Tryz.ntmps222
 go_wp2_with (first
  |(go_at_call 221;refine(q9n s q.t q.fo q.ne q.nm i _ hs hi ((hE.out _).hT) ((hE.out _).hN) ((hE.out _).hFo) ((hE.out _).hNe)).mono ?_;rintro e w' ⟨rfl,rfl⟩;rw[H4.out])
  |(go_at_call 216;refine(q2d s q.t _ i (i+2) _ hm (by omega) (by omega) (by omega) ((hE.out _).hT)).mono ?_;rintro e w' ⟨rfl,rfl⟩))
 refine bodyPost_ret (v:=kr s 3 i (i+2)) (by simp[results,Tryz.results222,go_sem,kr]) rfl ⟨3,i+2,Htok.out,rfl,?_⟩;exact(((Below.refl _ w).alloc (q5 _) _).alloc (by simp) _)
theorem qlo(q:FA)(s:ByteArray)(i:Nat)(w:World)(hs:s.size<=20000)(hi:i < s.size)(h:FEnv q s w)
  (h1:Lx.small (s[i]'hi)=false) (h2:Lx.capital (s[i]'hi)=false) (h3:Lx.signB (s[i]'hi)=false) (h4:Lx.isLong (bs s) i=false) :
  Calls Tryz.prog 222 (vm q i) w fun e w'=>e = .panicked [{ v:=q37 i 10,recovered:=false }]/\Below w.heap.size w w':=by
 unfold vm;have H4:=qh h4;clear h4;have hby:=xh;have hE:=qh (fun o=>h.alloc o);have l:=h.lt;have b1:=l.t;have b2:=l.sm;have b3:=l.ca;have b4:=l.sg;have b6:=l.lo;have hT:=h.hT;have hS:=h.hS;have hC:=h.hC;have hG:=h.hG;have hLo:=h.hLo;clear l h;go_enter Tryz.func222,Tryz.ntmps222
 go_wp2_with (first
  |(go_at_call 221;refine(q9n s q.t q.fo q.ne q.nm i _ hs hi ((hE.out _).hT) ((hE.out _).hN) ((hE.out _).hFo) ((hE.out _).hNe)).mono ?_;rintro e w' ⟨rfl,rfl⟩;rw[H4.out]))
 exact⟨rfl,rfl,(Below.refl _ w).alloc (q5 _) _⟩
theorem qe5(q:FA)(s:ByteArray)(i:Nat)(w:World)(hs:s.size<=20000)(hi:i < s.size)(h:FEnv q s w)
  (h1:Lx.small (s[i]'hi)=false) (h2:Lx.capital (s[i]'hi)=true) :
  Calls Tryz.prog 222 (vm q i) w (q14 s i w):=by
 unfold vm;have htok:Lx.tokAt (bs s) i=some (2,Lx.runTo (bs s) i):=by rw[q3e hi h1];simp[h2]
 have hlt:=Lx.tokAt_lt htok;rw[qr]at hlt;obtain⟨j,hj⟩:∃ j,Lx.runTo (bs s) i=j:=⟨_,rfl⟩;rw[hj]at htok hlt;have Hj:=qh hj;clear hj;have Htok:=qh htok;clear htok;have hby:=xh;have hE:=qh (fun o=>h.alloc o);have l:=h.lt;have b1:=l.t;have b2:=l.sm;have b3:=l.ca;have b4:=l.ne;have b5:=l.tk;have hT:=h.hT;have hS:=h.hS;have hC:=h.hC;have hTk:=h.hTk;have hNe:=h.hNe;have hm:=jt hs;clear l h;have e0:(i:Int).toNat=i:=Int.toNat_natCast i
 have HN:Hid (Calls Tryz.prog 219 #[.int .i64 i,.pointer (some ⟨q.t,0,none⟩),.pointer (some ⟨q.nm,0,none⟩)] (w.alloc (.cells #[.int .i64 0,.string ⟨#[]⟩,.int .i64 0] 111)).drew
   fun e w'=>e = .returned (.int .i64 j)/\(w.alloc (.cells #[.int .i64 0,.string ⟨#[]⟩,.int .i64 0] 111)).drew=w'):=by
  have:=jp s q.t q.nm i (w.alloc (.cells #[.int .i64 0,.string ⟨#[]⟩,.int .i64 0] 111)).drew hm (by omega) (by omega) (hE.out _).drew.hT (hE.out _).drew.hN;rw[e0,Hj.out]at this;exact qh this
 have HK:Hid (Calls Tryz.prog 216 #[.int .i64 2,.int .i64 i,.int .i64 j,.pointer (some ⟨q.t,0,none⟩)] (w.alloc (.cells #[.int .i64 0,.string ⟨#[]⟩,.int .i64 0] 111)).drew
   fun e w'=>e = .returned (kr s 2 i j)/\w'=(w.alloc (.cells #[.int .i64 0,.string ⟨#[]⟩,.int .i64 0] 111)).drew.alloc (.cells #[.int .i64 2,.string (s.extract i j),.int .i64 i] 111)) :=
  qh (qb0 s q.t 2 i j (w.alloc (.cells #[.int .i64 0,.string ⟨#[]⟩,.int .i64 0] 111)).drew hm (by omega) (by omega) (hE.out _).drew.hT)
 clear hE e0;go_enter Tryz.func222,Tryz.ntmps222
 go_upto_region 5 with fail
 go_region_with (first
  |(go_at_call 219;refine HN.out.mono ?_;rintro e w' ⟨rfl,rfl⟩)
  |(go_at_call 216;refine HK.out.mono ?_;rintro e w' ⟨rfl,rfl⟩;unfold kr))
 all_goals
  go_wp2;refine bodyPost_ret (v:=kr s 2 i j) (by simp[results,Tryz.results222,go_sem,kr]) rfl ⟨2,j,Htok.out,rfl,?_⟩;exact((((Below.refl _ w).alloc (q5 _) _).alloc (by simp) _).drew)
theorem qnu(q:FA)(s:ByteArray)(i:Nat)(w:World)(hs:s.size<=20000)(hi:i < s.size)(h:FEnv q s w) :
  Calls Tryz.prog 222 (vm q i) w (qpw s i w):=by
 cases h1:Lx.small s[i]
 ·cases h2:Lx.capital s[i]
  ·cases h3:Lx.signB s[i]
   ·cases h4:Lx.isLong (bs s) i
    ·exact(qlo q s i w hs hi h h1 h2 h3 h4).mono fun e w' r=>.inr ⟨by rw[q3e hi h1];simp[h2,h3,h4],r.1,r.2⟩
    ·exact(qlp q s i w hs hi h h1 h2 h3 h4).mono fun e w' r=>.inl r
   ·exact(qln q s i w hs hi h h1 h2 h3).mono fun e w' r=>.inl r
  ·exact(qe5 q s i w hs hi h h1 h2).mono fun e w' r=>.inl r
 ·exact(qir q s i w hs hi h h1).mono fun e w' r=>.inl r
def zn(l:Lx.Bs):Array Value:=Array.ofFn (n:=256) fun i=>.bool (l.any fun c=>decide (c.toNat=i.val))
theorem ya(l:Lx.Bs):(zn l).size=256:=by simp[zn]
theorem q1m(l:Lx.Bs)(c:UInt8):(zn l)[c.toNat]?=some (.bool (l.any fun d=>decide (d.toNat=c.toNat))):=by
 have:=c.toNat_lt;simp[zn,this]
theorem qfj(l:Lx.Bs)(c:UInt8):zn (l++[c])=(zn l).setIfInBounds c.toNat (.bool true):=by
 have:=c.toNat_lt;apply Array.ext
 ·simp[zn]
 ·intro i h1 h2
  simp only[ya]at h1
  by_cases e:c.toNat=i
  ·subst e;simp[zn]
  ·rw[Array.getElem_setIfInBounds_ne (by simpa[zn]using h1) (by simpa using e)]
   simp[zn,e]
theorem q6z(l:Lx.Bs):(zn l).all (·.oneCell')=true:=by
 rw[Array.all_eq_true];intro i hi;simp[zn,Value.oneCell']
theorem q5i:zn []=Tryz.zeroCells199:=by kernel_rfl
theorem qjk(s:ByteArray)(k:Nat)(h:k < s.size):(bs s).take (k+1)=(bs s).take k++[s[k]]:=by
 rw[qw (by rw[qr];exact h),xu h]
theorem qgg:(Tryz.prog.info? 199).map (·.size)=some 256:=by kernel_rfl
theorem q3p(s:ByteArray)(w:World)(hs:s.size<=maxLen) :
  Calls Tryz.prog 215 #[.string s] w fun e w'=>e = .returned (.agg (zn (bs s)))/\Below w.heap.size w w':=by
 unfold maxLen at hs;have hg:=q1m;have hby:=xh;go_enter Tryz.func215,Tryz.ntmps215;go_wp2
 go_loopw [7] (fun v wr=>∃ k:Nat,k<=s.size/\v = .int .i64 k/\wr=(w.alloc (.cells Tryz.zeroCells199 199)).alloc (.cells (zn ((bs s).take k)) 199)) (fun v _=>s.size - (intOf v).toNat)
 case atStart=>exact⟨0,qp _,rfl,by rw[List.take_zero,q5i]⟩
 case round =>
  obtain⟨k,hk,rfl,rfl⟩:=hrel
  by_cases hlt:k < s.size
  ·go_wp2
   go_roundw
   case rel=>exact⟨k+1,by omega,by go_num,by rw[qjk s k hlt,qfj]⟩
   case measure=>simp[intOf];omega
  ·obtain rfl:k=s.size:=by omega
   have hta:List.take s.size (bs s)=bs s:=qt (by rw[qr];exact q5 _);rw[hta];have HH:=qh (heap_alloc2_new w (.cells Tryz.zeroCells199 199) (.cells (zn (bs s)) 199));have HO:=qh (heap_alloc2_old w (.cells Tryz.zeroCells199 199) (.cells (zn (bs s)) 199));have HI:Hid ((Tryz.prog.info? 199).map (·.size)=some (zn (bs s)).size):=by rw[ya];exact qgg
   have HZ:Hid (Tryz.zeroCells199.size=(zn (bs s)).size):=by rw[ya,<-q5i,ya];rfl
   have HC:=qh (q6z (bs s));clear hta hg
   go_wp2_with fail
   refine wp_load_row 199 (.tmp 3) rfl (w.heap.size+1) rfl 199 (zn (bs s)) (0,0) (.array 256 4) HH.out Tryz.underlying199 rfl HI.out ?_
   rename_i hK
   refine hK _ _ ?_;clear hK;refine wpList_store_row rfl 199 (.tmp 2) (.tmp 15) rfl w.heap.size (zn (bs s)) rfl rfl 199 Tryz.zeroCells199 HO.out HI.out HZ.out HC.out ?_;go_wp2;refine bodyPost_ret (v:=.agg (zn (bs s))) (results_cell_row rfl _ _ w.heap.size 199 (zn (bs s)) (0,0) (.array 256 4) rfl (setRow_heap _ _ _ _ _ _ HO.out) Tryz.underlying199 rfl HI.out) rfl ⟨rfl,?_⟩;refine((((Below.refl _ w).alloc (q5 _) _).alloc (by simp) _)).trans ⟨rfl,rfl,rfl,by simp,fun i hi=>setRow_other _ _ _ _ (by omega)⟩
def q4c:Array Value:=(wordsB.map Value.string).toArray
theorem qje(w:World) :
  Calls Tryz.prog 181 #[] w fun e w'=>e = .returned (.slice (some ⟨w.heap.size,0,none⟩) 17 17)/\w'=w.alloc (.cells q4c 9):=by
 go_enter Tryz.func181,Tryz.ntmps181;go_wp2;go_ret;exact⟨rfl,rfl⟩
theorem q0y(W:World)(g:Nat)(c:Array Value)(o:Obj)(h:g < W.heap.size):(W.alloc o).setRow g c=(W.setRow g c).alloc o:=by
 simp only[World.setRow,World.alloc]
 congr 1
 apply Array.ext_getElem?;intro i;rw[Array.getElem?_modify,Array.getElem?_push,Array.getElem?_push,Array.size_modify,Array.getElem?_modify]
 by_cases e:i=W.heap.size
 ·subst e
  rw[qa rfl,qa rfl,q7 (by omega)]
 ·rw[q7 e,q7 e]
def sml:ByteArray:=⟨#[97,98,99,100,101,102,103,104,105,106,107,108,109,110,111,112,113,114,115,116,117,118,119,120,121,122]⟩
def cpt:ByteArray:=⟨#[65,66,67,68,69,70,71,72,73,74,75,76,77,78,79,80,81,82,83,84,85,86,87,88,89,90]⟩
def sgn:ByteArray:=⟨#[42,38,43,33,123,125,40,41,46,44,58,92]⟩
theorem qq5(W:World)(z c:Array Value)(t:TypeId)(o1 o2:Obj):(((W.alloc (.cells z t)).alloc o1).alloc o2).setRow W.heap.size c=((W.alloc (.cells c t)).alloc o1).alloc o2:=by
 rw[q0y _ _ _ _ (by simp;omega),q0y _ _ _ _ (by simp),World.setRow_alloc_new]
theorem qq4(W:World)(z c:Array Value)(t:TypeId)(o1 o2:Obj):(((W.alloc o1).alloc (.cells z t)).alloc o2).setRow (W.heap.size+1) c=((W.alloc o1).alloc (.cells c t)).alloc o2:=by
 have e:W.heap.size+1=(W.alloc o1).heap.size:=by simp
 rw[e,q0y _ _ _ _ (by simp),World.setRow_alloc_new]
theorem qq3(W:World)(z c:Array Value)(t:TypeId)(o1 o2:Obj):(((W.alloc o1).alloc o2).alloc (.cells z t)).setRow (W.heap.size+2) c=((W.alloc o1).alloc o2).alloc (.cells c t):=by
 have e:W.heap.size+2=((W.alloc o1).alloc o2).heap.size:=by simp
 rw[e,World.setRow_alloc_new]
theorem q1f(W:World)(a b c:Obj):(((W.alloc a).alloc b).alloc c).heap[W.heap.size]?=some a:=by
 rw[Below.heap_alloc _ _ _ (by simp;omega),Below.heap_alloc _ _ _ (by simp)];exact qm W a
theorem q0m(W:World)(a b c:Obj):(((W.alloc a).alloc b).alloc c).heap[W.heap.size+1]?=some b:=by
 rw[Below.heap_alloc _ _ _ (by simp)];exact heap_alloc2_new W a b
theorem q0l(W:World)(a b c:Obj):(((W.alloc a).alloc b).alloc c).heap[W.heap.size+2]?=some c:=by
 have:=qm ((W.alloc a).alloc b) c;simpa using this
def nmc:ByteArray:=⟨#[97,98,99,100,101,102,103,104,105,106,107,108,109,110,111,112,113,114,115,116,117,118,119,120,121,122,65,66,67,68,69,70,71,72,73,74,75,76,77,78,79,80,81,82,83,84,85,86,87,88,89,90,48,49,50,51,52,53,54,55,56,57,95,39]⟩
def qod(q:FA):Value:=.func (.func 222) #[] #[.pointer (some ⟨q.t,0,none⟩),.pointer (some ⟨q.sm,0,none⟩),.pointer (some ⟨q.sc,0,none⟩),.pointer (some ⟨q.ca,0,none⟩),.pointer (some ⟨q.tk,0,none⟩),.pointer (some ⟨q.ne,0,none⟩),.pointer (some ⟨q.sg,0,none⟩),.pointer (some ⟨q.lo,0,none⟩)]
def FA.ge(q:FA)(n:Nat):Prop:=n<=q.t/\n<=q.sm/\n<=q.ca/\n<=q.sg/\n<=q.nm/\n<=q.wd/\n<=q.wl/\n<=q.tk/\n<=q.fo/\n<=q.ne/\n<=q.sc/\n<=q.lo
def qm8(s:ByteArray)(w:World)(e:Ending)(w':World):Prop:=∃ q:FA,e = .returned (qod q)/\FEnv q s w'/\Below w.heap.size w w'/\q.ge w.heap.size
theorem q75{p:Nat->Bool}(h:∀ n,n < 256->p n=true)(c:UInt8):p c.toNat=true:=h _ c.toNat_lt
theorem qjn(c:UInt8):(bs sml).any (fun d=>decide (d.toNat=c.toNat))=Lx.small c:=by
 have:=q75 (p:=fun n=>(bs sml).any (fun d=>decide (d.toNat=n))==(decide (97<=n) && decide (n<=122))) (by decide +kernel) c;simpa[Lx.small]using this
theorem qfh(c:UInt8):(bs cpt).any (fun d=>decide (d.toNat=c.toNat))=Lx.capital c:=by
 have:=q75 (p:=fun n=>(bs cpt).any (fun d=>decide (d.toNat=n))==(decide (65<=n) && decide (n<=90))) (by decide +kernel) c;simpa[Lx.capital]using this
theorem qml(c:UInt8):(bs sgn).any (fun d=>decide (d.toNat=c.toNat))=Lx.signB c:=by
 have h:∀ d:UInt8,decide (d.toNat=c.toNat)=(c==d):=fun d=>by
  rw[Bool.eq_iff_iff,qf,beq_iff_eq,<-UInt8.toNat_inj];exact eq_comm
 simp only[h];simp only[bs,sgn,Lx.signB,List.contains_eq_any_beq]
theorem qn4(c:UInt8):(bs nmc).any (fun d=>decide (d.toNat=c.toNat))=Lx.part c:=by
 have:=q75 (p:=fun n=>(bs nmc).any (fun d=>decide (d.toNat=n))==((decide (97<=n) && decide (n<=122))||(decide (65<=n) && decide (n<=90))||(decide (48<=n) && decide (n<=57))||decide (n=95)||decide (n=39))) (by decide +kernel) c;simpa[Lx.part,Lx.small,Lx.capital]using this
theorem q1c(X:World)(v:Value)(t:TypeId)(F:World)(hb:Below (X.alloc (.cells #[v] t)).heap.size (X.alloc (.cells #[v] t)) F)(n:Nat)(hn:n=X.heap.size):F.cell? ⟨n,0,none⟩=some v:=by
 subst hn;exact(hb.cell (p:=⟨X.heap.size,0,none⟩) (by simp)).trans (by simp[World.cell?_alloc_at])
theorem qr5(s:ByteArray)(w w1 w2 w3 w4 w5 F:World)(o1 o2 o3 o4 o5 o6:Obj)
  (hb1:Below (w.alloc (.cells #[.string s] 9)).heap.size (w.alloc (.cells #[.string s] 9)) w1) (hb2:Below w1.heap.size w1 w2) (hb3:Below w2.heap.size w2 w3)
  (hb4:Below (((w3.alloc (.cells (zn (bs sml)) 199)).alloc (.cells (zn (bs cpt)) 199)).alloc (.cells (zn (bs sgn)) 199)).heap.size
   (((w3.alloc (.cells (zn (bs sml)) 199)).alloc (.cells (zn (bs cpt)) 199)).alloc (.cells (zn (bs sgn)) 199)) w4)
  (hw5:w5=(w4.alloc (.cells (zn (bs nmc)) 199)).alloc (.cells q4c 9))
  (hF:F=(((((w5.alloc o1).alloc o2).alloc o3).alloc o4).alloc o5).alloc o6)
  (h1:o1 = .cells #[.slice (some ⟨w4.heap.size+1,0,none⟩) 17 17] 42)
  (h2:∃ t,o2 = .cells #[.func (.func 216) #[] #[.pointer (some ⟨w.heap.size,0,none⟩)]] t)
  (h3:∃ t,o3 = .cells #[.func (.func 217) #[] #[.pointer (some ⟨w.heap.size,0,none⟩)]] t)
  (h4:∃ t,o4 = .cells #[.func (.func 219) #[] #[.pointer (some ⟨w.heap.size,0,none⟩),.pointer (some ⟨w4.heap.size,0,none⟩)]] t)
  (h5:∃ t,o5 = .cells #[.func (.func 220) #[] #[.pointer (some ⟨w5.heap.size+1+1+1,0,none⟩),.pointer (some ⟨w5.heap.size+1+1,0,none⟩),.pointer (some ⟨w.heap.size,0,none⟩),.pointer (some ⟨w3.heap.size,0,none⟩),.pointer (some ⟨w5.heap.size+1,0,none⟩),.pointer (some ⟨w5.heap.size,0,none⟩)]] t)
  (h6:∃ t,o6 = .cells #[.func (.func 221) #[] #[.pointer (some ⟨w5.heap.size+1+1,0,none⟩),.pointer (some ⟨w5.heap.size+1+1+1,0,none⟩)]] t) :
  FEnv ⟨w.heap.size,w3.heap.size,w3.heap.size+1,w3.heap.size+1+1,w4.heap.size,w5.heap.size,w4.heap.size+1,w5.heap.size+1,w5.heap.size+1+1,w5.heap.size+1+1+1,w5.heap.size+1+1+1+1,w5.heap.size+1+1+1+1+1⟩ s F /\
   Below w.heap.size w F:=by
 obtain⟨t2,rfl⟩:=h2;obtain⟨t3,rfl⟩:=h3;obtain⟨t4,rfl⟩:=h4;obtain⟨t5,rfl⟩:=h5;obtain⟨t6,rfl⟩:=h6;have z1:=hb1.size;have z2:=hb2.size;have z3:=hb3.size;have z4:=hb4.size;simp only[q6]at z1 z4;have hz5:w5.heap.size=w4.heap.size+1+1:=by rw[hw5];simp
 have b5:Below w5.heap.size w5 F:=by
  rw[hF];exact(((((((Below.refl _ w5).alloc (q5 _) _).alloc (by simp) _).alloc (by simp;omega) _).alloc (by simp;omega) _).alloc (by simp;omega) _).alloc (by simp;omega) _)
 have b4:Below w4.heap.size w4 F:=by
  have:Below w4.heap.size w4 w5:=by rw[hw5];exact((Below.refl _ w4).alloc (q5 _) _).alloc (by simp) _
  exact this.trans (b5.mono (by omega))
 have b3:=hb4.trans (b4.mono (by simp only[q6];omega));have b3':Below w3.heap.size w3 F:=(((((Below.refl _ w3).alloc (q5 _) _).alloc (by simp) _).alloc (by simp;omega) _)).trans (b3.mono (by simp;omega));have b0:=hb1.trans ((hb2.trans ((hb3.trans (b3'.mono z3)).mono z2)).mono (by simp only[q6];omega));refine⟨⟨?_,?_,?_,?_,?_,?_,?_,?_,?_,?_,?_,?_⟩,((Below.refl _ w).alloc (q5 _) _).trans (b0.mono (by simp))⟩
 ·exact(b0.cell (p:=⟨w.heap.size,0,none⟩) (by simp)).trans (by simp[World.cell?_alloc_at])
 ·intro c
  refine(b3.cell (p:=⟨w3.heap.size,c.toNat,none⟩) (by simp;omega)).trans ?_;rw[qk _ _ _ _ _ _ (q1f w3 _ _ _),q1m,qjn]
 ·intro c
  refine(b3.cell (p:=⟨w3.heap.size+1,c.toNat,none⟩) (by simp)).trans ?_;rw[qk _ _ _ _ _ _ (q0m w3 _ _ _),q1m,qfh]
 ·intro c
  refine(b3.cell (p:=⟨w3.heap.size+1+1,c.toNat,none⟩) (by simp)).trans ?_;rw[qk _ _ _ _ _ _ (q0l w3 _ _ _),q1m,qml]
 ·intro c
  refine(b5.cell (p:=⟨w4.heap.size,c.toNat,none⟩) (by simp;omega)).trans ?_;have hh:w5.heap[w4.heap.size]?=some (.cells (zn (bs nmc)) 199):=by rw[hw5];exact heap_alloc2_old w4 _ _
  rw[qk _ _ _ _ _ _ hh,q1m,qn4]
 ·rw[hF,h1];exact q1c w5 _ _ _ ((((((Below.refl _ _).alloc (by simp only[q6];omega) _).alloc (by simp only[q6];omega) _).alloc (by simp only[q6];omega) _).alloc (by simp only[q6];omega) _).alloc (by simp only[q6];omega) _) _ rfl
 ·intro k hk
  refine(b5.cell (p:=⟨w4.heap.size+1,0+k,none⟩) (by simp;omega)).trans ?_;have hh:w5.heap[w4.heap.size+1]?=some (.cells q4c 9):=by rw[hw5];exact heap_alloc2_new w4 _ _
  rw[qk _ _ _ _ _ _ hh,Nat.zero_add,q4c];simp[hk,List.getD_eq_getElem?_getD]
 ·rw[hF];exact q1c _ _ _ _ (((((Below.refl _ _).alloc (by simp only[q6];omega) _).alloc (by simp only[q6];omega) _).alloc (by simp only[q6];omega) _).alloc (by simp only[q6];omega) _) _ (by simp only[q6])
 ·rw[hF];exact q1c _ _ _ _ ((((Below.refl _ _).alloc (by simp only[q6];omega) _).alloc (by simp only[q6];omega) _).alloc (by simp only[q6];omega) _) _ (by simp only[q6])
 ·rw[hF];exact q1c _ _ _ _ (((Below.refl _ _).alloc (by simp only[q6];omega) _).alloc (by simp only[q6];omega) _) _ (by simp only[q6])
 ·rw[hF];exact q1c _ _ _ _ ((Below.refl _ _).alloc (by simp only[q6];omega) _) _ (by simp only[q6])
 ·rw[hF];exact q1c _ _ _ _ (Below.refl _ _) _ (by simp only[q6])
theorem qiq(s:ByteArray)(w:World)(_hs:s.size<=20000) :
  Calls Tryz.prog 185 #[.string s] w (qm8 s w):=by
 have hmf:∀ (fn:Fn) (first cap:Array Value) (w:World),(Instr.makeFunc fn first cap).run Tryz.prog w = .ok (.func fn first cap) w:=fun _ _ _ _=>rfl
 have HI:∀ b,Hid ((Tryz.prog.info? 199).map (·.size)=some (zn (bs b)).size):=fun b=>by rw[ya];exact qgg
 have HZ:∀ b,Hid (Tryz.zeroCells199.size=(zn (bs b)).size):=fun b=>by rw[ya,<-q5i,ya];rfl
 have HC:=fun b=>qh (q6z (bs b))
 go_enter Tryz.func185,Tryz.ntmps185
 go_wp2_with fail
 refine(q3p sml _ (by unfold maxLen;decide)).mono ?_;rintro e w1⟨rfl,hb1⟩;have Hb1:=qh hb1;clear hb1
 go_wp2_with fail
 refine(q3p cpt _ (by unfold maxLen;decide)).mono ?_;rintro e w2⟨rfl,hb2⟩;have Hb2:=qh hb2;clear hb2
 go_wp2_with fail
 refine(q3p sgn _ (by unfold maxLen;decide)).mono ?_;rintro e w3⟨rfl,hb3⟩;have Hb3:=qh hb3;clear hb3
 go_wp2_with (first
  |(refine wpList_store_row (o:=⟨none,.store 199 (.tmp 3) (.tmp 13),_,_,_,_⟩) rfl 199 (.tmp 3) (.tmp 13) rfl w3.heap.size (zn (bs sml)) rfl rfl 199 Tryz.zeroCells199 (q1f _ _ _ _) (HI _).out (HZ _).out (HC _).out ?_;rw[qq5])
  |(refine wpList_store_row (o:=⟨none,.store 199 (.tmp 4) (.tmp 14),_,_,_,_⟩) rfl 199 (.tmp 4) (.tmp 14) rfl (w3.heap.size+1) (zn (bs cpt)) rfl rfl 199 Tryz.zeroCells199 (q0m _ _ _ _) (HI _).out (HZ _).out (HC _).out ?_;rw[qq4])
  |(refine wpList_store_row (o:=⟨none,.store 199 (.tmp 5) (.tmp 15),_,_,_,_⟩) rfl 199 (.tmp 5) (.tmp 15) rfl (w3.heap.size+2) (zn (bs sgn)) rfl rfl 199 Tryz.zeroCells199 (q0l _ _ _ _) (HI _).out (HZ _).out (HC _).out ?_;rw[qq3]))
 refine(q3p nmc _ (by unfold maxLen;decide)).mono ?_;rintro e w4⟨rfl,hb4⟩;have Hb4:=qh hb4;clear hb4
 go_wp2_with (first
  |(refine wpList_store_row (o:=⟨none,.store 199 (.tmp 6) (.tmp 16),_,_,_,_⟩) rfl 199 (.tmp 6) (.tmp 16) rfl w4.heap.size (zn (bs nmc)) rfl rfl 199 Tryz.zeroCells199 (qm _ _) (HI _).out (HZ _).out (HC _).out ?_;rw[World.setRow_alloc_new]))
 refine(qje _).mono ?_;rintro e w5⟨rfl,hw5⟩;have hz:w5.heap.size=w4.heap.size+2:=by rw[hw5];simp
 have Hw5:=qh hw5;clear hw5;have Hz:=qh hz;clear hz;go_wp2;obtain⟨hE,hB⟩:=qr5 s w w1 w2 w3 w4 w5 _ _ _ _ _ _ _ Hb1.out Hb2.out Hb3.out Hb4.out Hw5.out rfl rfl ⟨_,rfl⟩ ⟨_,rfl⟩ ⟨_,rfl⟩ ⟨_,rfl⟩ ⟨_,rfl⟩;go_ret;refine⟨_,rfl,hE,hB,?_⟩;have z1:=Hb1.out.size;have z2:=Hb2.out.size;have z3:=Hb3.out.size;have z4:=Hb4.out.size;have z5:=Hz.out;simp only[q6]at z1 z4;refine⟨?_,?_,?_,?_,?_,?_,?_,?_,?_,?_,?_,?_⟩ <;> simp only <;> omega
theorem qnn(r:Lx.Bs):(Lib.indexByte r 10 = -1/\(r.takeWhile fun c=>decide (c.toNat≠10)).length=r.length) \/
  (0<=Lib.indexByte r 10/\Lib.indexByte r 10=(r.takeWhile fun c=>decide (c.toNat≠10)).length):=by
 induction r with
 |nil=>left;exact⟨rfl,rfl⟩
 |cons b r ih =>
  unfold Lib.indexByte
  by_cases h:b=10
  ·subst h;right;simp
  ·have hn:b.toNat≠10:=fun e=>h (by rw[<-UInt8.toNat_inj];exact e)
   have hb:(b==(10:UInt8))=false:=by simpa using h
   have e:(b :: r).takeWhile (fun c=>decide (c.toNat≠10))=b :: r.takeWhile (fun c=>decide (c.toNat≠10)):=by
    rw[List.takeWhile_cons,qa (by simpa using hn)]
   rw[hb,e];simp only[Bool.false_eq_true,if_false,qi];rcases ih with ⟨h1,h2⟩|⟨h1,h2⟩
   ·left;rw[h1,h2];exact⟨rfl,rfl⟩
   ·right
    have h3:(Lib.indexByte r 10 == -1)=false:=by rw[q9];omega
    rw[h3];simp only[Bool.false_eq_true,if_false];omega
theorem qfd(s:ByteArray)(i:Nat)(w:World)(hs:s.size<=maxLen)(hi:i<=s.size) :
  Calls Tryz.prog 223 #[.string s,.int .i64 i] w fun e w'=>e = .returned (.int .i64 (Lx.lineTo (bs s) i))/\w=w':=by
 unfold maxLen at hs;have hx:=qnn ((bs s).drop i);have hl:=Lx.lineTo_le (l:=bs s) (i:=i) (by rw[qr];omega);have hd:((bs s).drop i).length=s.size - i:=by simp[bs]
 have e1:List.take (s.size - i) (List.drop i s.data.toList)=(bs s).drop i:=qt (by simp);have E1:=qh e1;clear e1;have hL:Lx.lineTo (bs s) i=i+(((bs s).drop i).takeWhile fun c=>decide (c.toNat≠10)).length:=rfl;rw[qr]at hl;rw[hd]at hx;obtain⟨n,hn⟩:∃ n,Lib.indexByte ((bs s).drop i) 10=n:=⟨_,rfl⟩;rw[hn]at hx;have Hn:=qh hn;clear hn hd;rw[hL]at hl ⊢;obtain⟨m,hm⟩:∃ m,(((bs s).drop i).takeWhile fun c=>decide (c.toNat≠10)).length=m:=⟨_,rfl⟩;rw[hm]at hx hl ⊢;clear hm hL;rcases hx with ⟨h1,h2⟩|⟨h1,h2⟩
 ·have H2:=qh h2;clear h2
  subst h1;go_enter Tryz.func223,Tryz.ntmps223
  go_wp2_with (go_at_call 182;refine(Tryz.strings_IndexByte _ _ _).mono ?_;rintro e w' ⟨rfl,hw⟩;obtain rfl:=hw.symm;rw[show(10:Int).toNat.toUInt8=(10:UInt8) from rfl,show(s.extract i s.size).data.toList=(bs s).drop i from(q21 s i),Hn.out])
  go_ret;exact⟨q16 (by have:=H2.out;omega),rfl⟩
 ·subst h2
  go_enter Tryz.func223,Tryz.ntmps223
  go_wp2_with (go_at_call 182;refine(Tryz.strings_IndexByte _ _ _).mono ?_;rintro e w' ⟨rfl,hw⟩;obtain rfl:=hw.symm;rw[show(10:Int).toNat.toUInt8=(10:UInt8) from rfl,show(s.extract i s.size).data.toList=(bs s).drop i from(q21 s i),Hn.out])
  go_ret;exact⟨q16 (by omega),rfl⟩
theorem qfc(s:ByteArray)(i:Int)(w:World)(hs:s.size<=maxLen)(h0:0<=i)(hi:i<=s.size) :
  Calls Tryz.prog 223 #[.string s,.int .i64 i] w fun e w'=>e = .returned (.int .i64 (Lx.lineTo (bs s) i.toNat))/\w=w':=by
 obtain⟨n,rfl⟩:=Int.eq_ofNat_of_zero_le h0;exact qfd s n w hs (by omega)
theorem qqx{c:UInt8}{n:Nat}(h:((c.toNat:Int)==(n:Int))=true):c.toNat=n:=by rw[beq_iff_eq]at h;omega
theorem qoy{c:UInt8}{n:Nat}(h:((c.toNat:Int)==(n:Int))=false):c.toNat≠n:=by rw[q9]at h;omega
theorem q8m{c:UInt8}(h:((c.toNat:Int)==32)=true\/((c.toNat:Int)==9)=true\/((c.toNat:Int)==10)=true):Lx.blank c=true:=by
 simp only[beq_iff_eq]at h;simp only[Lx.blank,Bool.or_eq_true,qf];omega
theorem qht{c:UInt8}(h1:((c.toNat:Int)==32)=false)(h2:((c.toNat:Int)==9)=false)(h3:((c.toNat:Int)==10)=false):Lx.blank c=false:=by
 simp only[q9,ne_eq]at h1 h2 h3;simp only[Lx.blank,Bool.or_eq_false_iff,decide_eq_false_iff_not];omega
theorem qmk(s:ByteArray)(i:Nat)(w:World)(hs:s.size<=maxLen)(hi:i<=s.size) :
  Calls Tryz.prog 186 #[.string s,.int .i64 i] w fun e w'=>e = .returned (.int .i64 (Lx.skipTo (bs s) i))/\w=w':=by
 have hm:=hs;unfold maxLen at hs;go_enter Tryz.func186,Tryz.ntmps186;go_wp2
 go_loop [1] (fun a=>∃ k:Nat,k<=s.size/\a = .int .i64 k/\Lx.skipTo (bs s) i=Lx.skipTo (bs s) k) (fun a=>s.size - (intOf a).toNat)
 case atStart=>exact⟨i,hi,rfl,rfl⟩
 case round =>
  obtain⟨k,hk,rfl,hrun⟩:=hrel;have Hrun:=qh hrun;clear hrun
  by_cases hlt:k < s.size
  ·go_wp2_with (go_at_call 223;refine(qfc s k _ hm (by omega) (by omega)).mono ?_;rintro e w' ⟨rfl,rfl⟩)
   ·have h:((s[k].toNat:Int)==32)=true:=by assumption
    go_round
    case rel=>exact⟨k+1,by omega,by go_num,Hrun.out.trans (Lx.skipTo_blank (by rw[qr];exact hlt) (by rw[xu hlt];exact q8m (.inl h)))⟩
    case measure=>simp[intOf];omega
   ·have h:((s[k].toNat:Int)==9)=true:=by assumption
    go_round
    case rel=>exact⟨k+1,by omega,by go_num,Hrun.out.trans (Lx.skipTo_blank (by rw[qr];exact hlt) (by rw[xu hlt];exact q8m (.inr (.inl h))))⟩
    case measure=>simp[intOf];omega
   ·have h:((s[k].toNat:Int)==10)=true:=by assumption
    go_round
    case rel=>exact⟨k+1,by omega,by go_num,Hrun.out.trans (Lx.skipTo_blank (by rw[qr];exact hlt) (by rw[xu hlt];exact q8m (.inr (.inr h))))⟩
    case measure=>simp[intOf];omega
   ·have h:((s[k].toNat:Int)==37)=true:=by assumption
    have hc:=Lx.skipTo_comment (l:=bs s) (k:=k) (by rw[qr];exact hlt) (by rw[xu hlt];exact qqx h);have hl:=Lx.lineTo_le (l:=bs s) (i:=k) (by rw[qr];omega);rw[qr]at hl
    go_round
    case rel=>exact⟨Lx.lineTo (bs s) k,by omega,rfl,Hrun.out.trans hc.1⟩
    case measure=>simp[intOf];omega
   ·have h1:((s[k].toNat:Int)==32)=false:=by assumption
    have h2:((s[k].toNat:Int)==9)=false:=by assumption
    have h3:((s[k].toNat:Int)==10)=false:=by assumption
    have h4:((s[k].toNat:Int)==37)=false:=by assumption
    go_ret;exact⟨q16 (by rw[Hrun.out,Lx.skipTo_stop (by rw[qr];exact hlt) (by rw[xu hlt];exact qht h1 h2 h3) (by rw[xu hlt];exact qoy h4)]),rfl⟩
  ·go_wp2
   go_ret;exact⟨q16 (by rw[Hrun.out,Lx.skipTo_end (by rw[qr];omega)]),rfl⟩
theorem qct(s:ByteArray)(i:Int)(w:World)(hs:s.size<=maxLen)(h0:0<=i)(hi:i<=s.size) :
  Calls Tryz.prog 186 #[.string s,.int .i64 i] w fun e w'=>e = .returned (.int .i64 (Lx.skipTo (bs s) i.toNat))/\w=w':=by
 obtain⟨n,rfl⟩:=Int.eq_ofNat_of_zero_le h0;exact qmk s n w hs (by omega)
variable {F:Fence} {n:Nat} {P:Program}
def q09(P:Program)(l:Nat)(R:Ending->World->Prop):Exit->Act->World->Prop
 | .normal,_,w=>∃ v w',(Instr.endRound l none).run P w = .ok v w'/\R (.returned v) w'
 | .ret,_,w=>∃ v w',(Instr.endRound l (some .ret)).run P w = .ok v w'/\R (.returned v) w'
 | .exit id,_,w=>∃ v w',(Instr.endRound l (some (.exit id))).run P w = .ok v w'/\R (.returned v) w'
 | .goto t,_,w=>∃ v w',(Instr.endRound l (some (.goto t))).run P w = .ok v w'/\R (.returned v) w'
 | .panic chain,a,w=>a.defers=[]/\R (.panicked chain) w
 | .outgrown,_,_=>False
theorem q0r{l:Nat}{f:FuncId}{fn:Func}{tmps:Array Value}{assign body:Code}{w:World}{R:Ending->World->Prop}(hF:F.fn f)(hfn:P.funcs[f]?=some fn)
  (h:assign.wpIn (F.inRound l) n P (Exit.then (fun a₁ w₁=>∃ w₂,(Instr.beginRound l).run P w₁ = .ok () w₂/\body.wpIn (F.inRound l) n P (q09 P l R) a₁ w₂) (fun _ _ _=>False))
   { tmps:=tmps,defers:=[] } w) :
  RoundIn F n P l f tmps assign body w R:=by
 refine⟨hF,fun c cs hr=>?_⟩
 let b:Frame:={ (default:Frame)with fn:=f,kind:=.normal,roundOf:=some l }
 have hb0:Frame.round l f tmps assign body .normal=b.atR { tmps:=tmps,defers:=[] } [.code assign,.beginRound,.code body]:=by
  simp[Frame.round,Frame.atR,b]
 have hr':(F.inRound l).room ((c :: cs).length+1+n):=hr;have hF':(F.inRound l).fn b.fn:=hF;obtain⟨e,a₁,w₁,hq,harr⟩:=h b [.beginRound,.code body] (c :: cs) rfl hF' hr';rw[<-hb0]at harr
 cases e with
 |normal =>
  obtain⟨w₂,hbr,hbody⟩:=hq
  have s1:StepsIn (Machine.fenced P (F.inRound l)) P (lone (b.atR a₁ [.beginRound,.code body]) (c :: cs) w₁) (lone (b.atR a₁ [.code body]) (c :: cs) w₂) :=
   .one (fenced_calm (fr:=b.atR a₁ [.beginRound,.code body]) hF' hr' rfl) (stepR_beginRound rfl hbr)
  obtain⟨e₂,a₂,w₃,hq₂,harr₂⟩:=hbody b [] (c :: cs) rfl hF' hr'
  cases e₂ with
  |normal =>
   obtain⟨v,w₄,hend,hR⟩:=hq₂;exact⟨.returned v,w₄,hR,(StepsIn.trans harr s1).trans (StepsIn.trans harr₂ (.one (fenced_calm (fr:=b.atR a₂ []) hF' hr' rfl) (stepR_round_end rfl rfl hend)))⟩
  |ret =>
   obtain⟨v,w₄,hend,hR⟩:=hq₂;obtain⟨k₁,hs⟩:=harr₂.2 rfl;exact⟨.returned v,w₄,hR,(StepsIn.trans harr s1).trans (StepsIn.trans hs (.one (fenced_calm (fr:=b.atR a₂ (.code .ret :: k₁)) hF' hr' rfl) (stepR_round_ret rfl rfl hend)))⟩
  |exit id =>
   obtain⟨v,w₄,hend,hR⟩:=hq₂;obtain⟨k₁,hk,hs⟩:=harr₂.2 rfl rfl;exact⟨.returned v,w₄,hR,(StepsIn.trans harr s1).trans (StepsIn.trans hs (.one (fenced_calm (fr:=b.atR a₂ (.code (.exit id) :: k₁)) hF' hr' rfl) (stepR_round_exit rfl rfl hk hend)))⟩
  |goto t =>
   obtain⟨v,w₄,hend,hR⟩:=hq₂;obtain⟨k₁,hk,hs⟩:=harr₂.2 rfl rfl;exact⟨.returned v,w₄,hR,(StepsIn.trans harr s1).trans (StepsIn.trans hs (.one (fenced_calm (fr:=b.atR a₂ (.code (.goto t) :: k₁)) hF' hr' rfl) (stepR_round_goto rfl rfl hk hend)))⟩
  |panic chain =>
   obtain⟨hd,hR⟩:=hq₂;obtain⟨todo,hs⟩:=harr₂;have hl:({ b.atR a₂ todo with mode:=.panicking chain }:Frame).leaving P w₃ (.panicked chain):=⟨rfl,hd,fn,hfn⟩;have hfen:(lone { b.atR a₂ todo with mode:=.panicking chain } (c :: cs) w₃).fenced P F:=fenced_leaving (n:=n) hF hr hl;exact⟨.panicked chain,w₃,hR,(StepsIn.trans harr s1).trans (StepsIn.trans hs (.one hfen (step_leave_panicked hl)))⟩
  |outgrown=>exact hq₂.elim
 |exit id=>exact hq.elim
 |goto t=>exact hq.elim
 |ret=>exact hq.elim
 |panic chain=>exact hq.elim
 |outgrown=>exact hq.elim
def q4a(f0:FuncId)(_n:Nat)(P:Program)(c:Code)(Q:Exit->Act->World->Prop)(a:Act)(w:World):Prop :=
 ∀ (b:Frame) (k:List Item) (cs:List Frame),b.roundOf=none->b.fn=f0 ->
  ∃ e a' w',Q e a' w'/\ArrivesIn (Machine.fenced P Fence.wide) P (lone (b.atR a (.code c :: k)) cs w) b k cs e a' w'
section
variable {f0:FuncId} {Q:Exit->Act->World->Prop} {a:Act} {w:World}
theorem zz{c:Code}(h:c.wpIn Fence.wide n P Q a w):q4a f0 n P c Q a w:=fun b k cs hro _=>h b k cs hro trivial (room_wide _)
theorem jq{x y:Code}(h:q4a f0 n P x (Exit.then (q4a f0 n P y Q) Q) a w):q4a f0 n P (Code.seq x y) Q a w:=by
 intro b k cs hro hb;have h0:(lone (b.atR a (.code (.seq x y) :: k)) cs w).fenced P Fence.wide:=fenced_wide P _;obtain⟨e,a₁,w₁,hq,harr⟩:=h b (.code y :: k) cs hro hb
 cases e with
 |normal =>
  obtain⟨e₂,a₂,w₂,hq₂,harr₂⟩:=hq b k cs hro hb;exact⟨e₂,a₂,w₂,hq₂,.of_steps (.head h0 stepR_seq harr) harr₂⟩
 |exit id=>exact⟨_,a₁,w₁,hq,.of_steps (.one h0 stepR_seq) (.pass (x:=.code y) rfl (fun _ _=>.inl (by simp)) harr)⟩
 |goto l=>exact⟨_,a₁,w₁,hq,.of_steps (.one h0 stepR_seq) (.pass (x:=.code y) rfl (fun _ _=>.inl (by simp)) harr)⟩
 |ret=>exact⟨_,a₁,w₁,hq,.of_steps (.one h0 stepR_seq) (.pass (x:=.code y) rfl (fun _ _=>.inl (by simp)) harr)⟩
 |panic ch=>exact⟨_,a₁,w₁,hq,.of_steps (.one h0 stepR_seq) (.pass (x:=.code y) rfl (fun _ _=>.inl (by simp)) harr)⟩
 |outgrown=>exact⟨_,a₁,w₁,hq,.of_steps (.one h0 stepR_seq) (.pass (x:=.code y) rfl (fun _ _=>.inl (by simp)) harr)⟩
theorem q49{id:Nat}{c:Code}(h:q4a f0 n P c (Exit.inBlock id Q) a w):q4a f0 n P (Code.block id c) Q a w:=by
 intro b k cs hro hb;have h0:(lone (b.atR a (.code (.block id c) :: k)) cs w).fenced P Fence.wide:=fenced_wide P _;obtain⟨e,a₁,w₁,hq,harr⟩:=h b (.inBlock id :: k) cs hro hb
 cases e with
 |normal=>exact⟨.normal,a₁,w₁,hq,.head h0 stepR_block (StepsIn.trans harr (.one (fenced_wide P _) stepR_inBlock))⟩
 |exit id' =>
  by_cases hid:id'=id
  ·simp only[Exit.inBlock,hid,if_true]at hq
   exact⟨.normal,a₁,w₁,hq,.head h0 stepR_block (harr.1 k (by simp[exitTo,hid]))⟩
  ·simp only[Exit.inBlock,hid,if_false]at hq
   have this:(id==id')=false:=by simp;exact fun h=>hid h.symm
   have hx:exitTo id' (.inBlock id :: k)=exitTo id' k:=by simp[exitTo,this]
   exact⟨.exit id',a₁,w₁,hq,fun k' hk=>.head h0 stepR_block (harr.1 k' (by rw[hx];exact hk)),
    fun hr' hk=>let ⟨k₁,h1,h2⟩:=harr.2 hr' (by rw[hx];exact hk);⟨k₁,h1,.head h0 stepR_block h2⟩⟩
 |goto l =>
  have hx:gotoIn l (.inBlock id :: k)=gotoIn l k:=by simp[gotoIn]
  exact⟨_,a₁,w₁,hq,fun k' hk=>.head h0 stepR_block (harr.1 k' (by rw[hx];exact hk)),
   fun hr' hk=>let ⟨k₁,h1,h2⟩:=harr.2 hr' (by rw[hx];exact hk);⟨k₁,h1,.head h0 stepR_block h2⟩⟩
 |ret=>exact⟨_,a₁,w₁,hq,.of_steps (.one h0 stepR_block) harr⟩
 |panic ch=>exact⟨_,a₁,w₁,hq,.of_steps (.one h0 stepR_block) harr⟩
 |outgrown=>exact⟨_,a₁,w₁,hq,.of_steps (.one h0 stepR_block) harr⟩
theorem qa8{g:Operand}{ps:Array Tmp}{assign body:Code}
  (h:∃ (l:Nat) (mark:List Deferred) (w₁:World) (d:Deferred) (w₁':World) (f:FuncId) (args:Array Value) (w₂:World),
   (Instr.enterLoop f0 a.tmps ps assign body none).run P w = .ok (l,mark) w₁ /\
   (resolve a.eval (rangeCall g l) 0).run P w₁ = .ok d w₁' /\
   (invoke d.target d.args).run P w₁' = .ok (.enter f args) w₂ /\
   CallsIn Fence.wide (n - 1) P f args w₂ (rangePost Fence.wide n P l Q { a with defers:=mark++a.defers })) :
  q4a f0 n P (Code.rangeFunc g ps assign body) Q a w:=by
 intro b k cs hro hb;obtain⟨l,mark,w₁,d,w₁',f,args,w₂,he,hres,hinv,hF,hcall⟩:=h;rw[<-hro,<-hb]at he;have h0:(lone (b.atR a (.code (.rangeFunc g ps assign body) :: k)) cs w).fenced P Fence.wide:=fenced_wide P _;have henter:=stepR_rangeFunc (P:=P) (b:=b) (a:=a) (k:=k) (cs:=cs) (w:=w) he hres hinv;obtain⟨e,w₃,fr,hR,hsteps,hfn,hleave⟩:=hcall (b.atR { a with defers:=mark++a.defers } (.inRangeFunc l :: k) :: cs) (room_wide _)
 cases e with
 |outgrown =>
  obtain⟨a₀,w₀,hq⟩:=hR;exact⟨.outgrown,a₀,w₀,hq,.inr (Outgrown.of_steps (.one henter) hsteps)⟩
 |returned v =>
  have hl:(lone fr (b.atR { a with defers:=mark++a.defers } (.inRangeFunc l :: k) :: cs) w₃).fenced P Fence.wide:=fenced_wide P _;obtain⟨jump,w₄,hend,hj⟩:=hR
  have sback:StepsIn (Machine.fenced P Fence.wide) P (lone (b.atR a (.code (.rangeFunc g ps assign body) :: k)) cs w) (lone (b.atR { a with defers:=mark++a.defers } ((jump.map Item.code).toList++k)) cs w₄):=by
   refine .head h0 henter (StepsIn.trans hsteps (.head hl ?_ (.one (fenced_wide P _) (stepR_endRangeFunc hend))));rw[<-finish_atR_inRangeFunc l v];exact step_leave_returned hleave
  cases jump with
  |none=>exact⟨.normal,_,w₄,hj,sback⟩
  |some c =>
   obtain⟨e',a'',w₅,hq,harr⟩:=hj b k cs hro trivial (room_wide _);exact⟨e',a'',w₅,hq,.of_steps sback harr⟩
 |panicked chain =>
  have hl:(lone fr (b.atR { a with defers:=mark++a.defers } (.inRangeFunc l :: k) :: cs) w₃).fenced P Fence.wide:=fenced_wide P _;refine⟨.panic chain,_,w₃,hR,.inRangeFunc l :: k,.head h0 henter (StepsIn.trans hsteps (.one hl ?_))⟩;rw[<-Frame.raise_atR];exact step_leave_panicked hleave
theorem q0q{g:Operand}{ps:Array Tmp}{assign body:Code}{gf:Nat}{lb:Array Value}(hg:a.eval g = .func (.func gf) #[] lb)(eg:∀ args w,(callFunc gf args).run P w = .ok (.enter gf args) w)
  (h:∀ r:Loop,r = { state:=.ready,pending:=none,fn:=f0,tmps:=a.tmps,params:=ps,assign,body,defers:=w.heap.size } ->
   CallsIn Fence.wide (n - 1) P gf (#[.func (.yield (w.heap.size+1)) #[] #[]]++lb) ((w.alloc (.deferred (some []))).alloc (.loop r))
    (rangePost Fence.wide n P (w.heap.size+1) Q { a with defers:=[{ target:=.collected w.heap.size,args:=#[] }]++a.defers })) :
  q4a f0 n P (Code.rangeFunc g ps assign body) Q a w:=by
 obtain⟨r,hr⟩:∃ r:Loop,r = { state:=.ready,pending:=none,fn:=f0,tmps:=a.tmps,params:=ps,assign,body,defers:=w.heap.size }:=⟨_,rfl⟩;obtain⟨W1,hW1⟩:∃ W1,(w.alloc (.deferred (some []))).alloc (.loop r)=W1:=⟨_,rfl⟩;have hc:=h r hr;rw[hW1]at hc
 have e1:(Instr.enterLoop f0 a.tmps ps assign body none).run P w = .ok (w.heap.size+1,[{ target:=.collected w.heap.size,args:=#[] }]) W1:=by
  rw[<-hW1,hr];exact run_enterLoop_outer _ _ _ _ _
 have e2:(resolve a.eval (rangeCall g (w.heap.size+1)) 0).run P W1 = .ok { target:=.fn (.func gf) lb,args:=#[.func (.yield (w.heap.size+1)) #[] #[]] } W1:=by
  simp only[resolve,hg];simp[go_sem]
 have e3:(invoke (.fn (.func gf) lb) #[.func (.yield (w.heap.size+1)) #[] #[]]).run P W1 = .ok (.enter gf (#[.func (.yield (w.heap.size+1)) #[] #[]]++lb)) W1:=by
  simp[invoke,go_sem,eg]
 exact qa8 ⟨w.heap.size+1,[{ target:=.collected w.heap.size,args:=#[] }],W1,_,W1,gf,_,W1,e1,e2,e3,hc⟩
theorem q1o{fn:Func}{c:Code}{args:Array Value}{R:Ending->World->Prop}(hf:P.funcs[f0]?=some fn)(hb:fn.body=some c)
  (h:q4a f0 n P c (bodyPostM Fence.wide n P fn R) { tmps:=args++Array.replicate (fn.ntmps - args.size) undef,defers:=[] } w):CallsIn Fence.wide n P f0 args w R:=by
 refine⟨trivial,fun cs hr=>?_⟩
 let b:Frame:={ (default:Frame)with fn:=f0,kind:=.normal,roundOf:=none }
 have henter:Frame.enter P f0 args .normal =
   b.atR { tmps:=args++Array.replicate (fn.ntmps - args.size) undef,defers:=[] } [.code c]:=by
  simp[Frame.enter,Frame.atR,hf,hb,b]
 obtain⟨e,a',w',hq,harr⟩:=h b [] cs rfl rfl;rw[<-henter]at harr
 cases e with
 |normal =>
  obtain⟨e',w'',fr',hR,hs,hfn,hl⟩:=leaves_stepsInM a'.defers .returning w' { b.atR a' [] with mode:=.returning } cs rfl rfl rfl hf rfl trivial hr hq;exact⟨e',w'',fr',hR,ComesIn.of_steps (StepsIn.trans harr (.one (fenced_wide P _) (stepR_end rfl))) hs,hfn,hl⟩
 |ret =>
  obtain⟨todo,hs₀⟩:=harr.1 rfl;obtain⟨e',w'',fr',hR,hs,hfn,hl⟩:=leaves_stepsInM a'.defers .returning w' { b.atR a' todo with mode:=.returning } cs rfl rfl rfl hf rfl trivial hr hq;exact⟨e',w'',fr',hR,ComesIn.of_steps hs₀ hs,hfn,hl⟩
 |panic chain =>
  obtain⟨todo,hs₀⟩:=harr;obtain⟨e',w'',fr',hR,hs,hfn,hl⟩:=leaves_stepsInM a'.defers (.panicking chain) w' { b.atR a' todo with mode:=.panicking chain } cs rfl rfl rfl hf rfl trivial hr hq;exact⟨e',w'',fr',hR,ComesIn.of_steps hs₀ hs,hfn,hl⟩
 |exit id=>exact hq.elim
 |goto l=>exact hq.elim
 |outgrown=>exact⟨.outgrown,w',b,hq,harr.resolve_left (by simp[b]),rfl,trivial⟩
end
attribute [local go_sem] Oper.semAt_some
def q52(l:Lx.Bs)(k i j:Nat):Lx.Tok:=⟨k,Lx.slice l i j,i⟩
def qgu(s:ByteArray)(J:Nat->List Lx.Tok->World->Prop)(Jx:World->Prop)(e:Ending)(w':World):Prop :=
 (∃ v E pre,e = .returned v/\Lx.scan (bs s) = .toks pre/\J E pre w')\/(∃ i er,e = .panicked [{ v:=q37 i er,recovered:=false }]/\Lx.scan (bs s) = .bad i er/\Jx w')
theorem qh9{s:ByteArray}(hs:s.size<=20000):Lx.scan (bs s)=Lx.scanT (bs s) (s.size+1) [] (Lx.skipTo (bs s) 0):=by
 unfold Lx.scan;rw[q7 (by rw[qr];omega),qr]
theorem qjr{l:Lx.Bs}{f i k j:Nat}{pre:List Lx.Tok}(hi:i < l.length)(h:Lx.tokAt l i=some (k,j))(h6:pre.length≠6000)(h4:¬ 40 < j - i) :
  Lx.scanT l (f+1) pre i=Lx.scanT l f (pre++[q52 l k i j]) (Lx.skipTo l j):=by
 simp only[Lx.scanT,h,q52];rw[q7 (by omega),q7 h6,q7 h4]
theorem qmp{l:Lx.Bs}{f i k j er:Nat}{pre:List Lx.Tok}(hi:i < l.length)(h:Lx.tokAt l i=some (k,j))(hc:pre.length=6000/\er=2\/pre.length≠6000/\40 < j - i/\er=11) :
  Lx.scanT l (f+1) pre i = .bad i er:=by
 simp only[Lx.scanT,h];rw[q7 (by omega)];rcases hc with ⟨h1,rfl⟩|⟨h1,h2,rfl⟩
 ·rw[qa h1]
 ·rw[q7 h1,qa h2]
theorem qjs{l:Lx.Bs}{f i:Nat}{pre:List Lx.Tok}(hi:i < l.length)(h:Lx.tokAt l i=none):Lx.scanT l (f+1) pre i = .bad i 10:=by
 simp only[Lx.scanT,h];rw[q7 (by omega)]
theorem qmn{l:Lx.Bs}{f i:Nat}{pre:List Lx.Tok}(hi:l.length<=i):Lx.scanT l f pre i = .toks pre:=by
 cases f with
 |zero=>rfl
 |succ f=>simp only[Lx.scanT];rw[qa hi]
def qra(X:Nat->Prop)(E b:Nat)(w w':World):Prop:=w.heap.size<=w'.heap.size/\∀ k,k < w.heap.size->(k < E\/b<=k)->¬ X k->w'.heap[k]?=w.heap[k]?
def qem(s:ByteArray)(J:Nat->List Lx.Tok->World->Prop)(Jx:World->Prop)(X:Nat->Prop)(E b:Nat)(pre:List Lx.Tok)(k i j:Nat)(w:World)(e:Ending)(w':World):Prop :=
 (e = .returned (.bool true)/\J E (pre++[q52 (bs s) k i j]) w'/\qra X E b w w'/\pre.length≠6000/\¬ 40 < j - i) \/
 (∃ er,e = .panicked [{ v:=q37 i er,recovered:=false }]/\Jx w'/\(pre.length=6000/\er=2\/pre.length≠6000/\40 < j - i/\er=11))
theorem FEnv.kept{q:FA}{s:ByteArray}{w w':World}{X:Nat->Prop}{E b n:Nat}(h:FEnv q s w)(hl:q.lt E)(hg:q.ge n)(hX:∀ k,X k->k < n)(hk:qra X E b w w'):FEnv q s w':=by
 have hw:=h.lt;obtain⟨g1,g2,g3,g4,g5,g6,g7,g8,g9,g10,g11,g12⟩:=hg
 have cl:∀ a o,a < w.heap.size->a < E->n<=a->w'.cell? ⟨a,o,none⟩=w.cell? ⟨a,o,none⟩:=fun a o h1 h2 h3 =>
  World.cell?_of_block (w:=w) (hk.2 a h1 (.inl h2) (fun hx=>by have:=hX a hx;omega))
 exact⟨(cl _ _ hw.t hl.t g1).trans h.hT,fun c=>(cl _ _ hw.sm hl.sm g2).trans (h.hS c),fun c=>(cl _ _ hw.ca hl.ca g3).trans (h.hC c),fun c=>(cl _ _ hw.sg hl.sg g4).trans (h.hG c),
  fun c=>(cl _ _ hw.nm hl.nm g5).trans (h.hN c),(cl _ _ hw.wd hl.wd g6).trans h.hWd,fun k hk=>(cl _ _ hw.wl hl.wl g7).trans (h.hWl k hk),(cl _ _ hw.tk hl.tk g8).trans h.hTk,
  (cl _ _ hw.fo hl.fo g9).trans h.hFo,(cl _ _ hw.ne hl.ne g10).trans h.hNe,(cl _ _ hw.sc hl.sc g11).trans h.hSc,(cl _ _ hw.lo hl.lo g12).trans h.hLo⟩
theorem qp8(n:Nat)(hn:1<=n)(s:ByteArray)(T l:Nat)(hs:s.size<=20000)(J:Nat->List Lx.Tok->World->Prop)(Jx:World->Prop)(X:Nat->Prop)(W:World)
  (hX:∀ k,X k->k < W.heap.size) (hXT:¬ X T)
  (hJ:∀ E pre w w',J E pre w->Below w.heap.size w w'->J E pre w') (hJx:∀ E pre w w',J E pre w->Below w.heap.size w w'->Jx w')
  (hY:∀ E pre w0 w k i j,J E pre w0->W.heap.size<=E->E<=w0.heap.size->Below w0.heap.size w0 w->Lx.tokAt (bs s) i=some (k,j)->YieldAt Fence.wide (n - 1) Tryz.prog l #[kr s k i j] w (qem s J Jx X E w0.heap.size pre k i j w))
  (hT:W.cell? ⟨T,0,none⟩=some (.string s)) (h0:∀ w',Below W.heap.size W w'->J w'.heap.size [] w') :
  CallsIn Fence.wide n Tryz.prog 184 #[.func (.yield l) #[] #[],.pointer (some ⟨T,0,none⟩)] W (qgu s J Jx):=by
 have hm:=jt hs;have hTl:=block_lt_of_cell hT;simp only at hTl;refine callsIn_of_wp Tryz.func184 rfl trivial ?_ rfl;simp only[Tryz.ntmps184,List.size_toArray,qi,qo,Nat.reduceAdd,Nat.reduceSub,Array.replicate_succ,Array.replicate_zero,List.push_toArray,List.append_toArray,List.nil_append,List.cons_append]
 gi_wp2_with fail
 refine⟨trivial,((callsIn_wide (n:=n - 1)).2 (qiq s _ hs)).mono ?_⟩;rintro e w1⟨q,rfl,hE,hb,hg⟩;have hT1:w1.cell? ⟨T,0,none⟩=some (.string s):=(hb.cell (p:=⟨T,0,none⟩) hTl).trans hT;unfold qod
 gi_wp2_with fail
 refine⟨trivial,((callsIn_wide (n:=n - 1)).2 (qct s 0 _ hm (by omega) (by omega))).mono ?_⟩;rintro e w2⟨rfl,rfl⟩
 gi_wp2_with fail
 obtain⟨E,hEq⟩:∃ E,w1.heap.size=E:=⟨_,rfl⟩;have hqE:q.lt E:=hEq▸hE.lt;have hWE:W.heap.size<=E:=hEq▸hb.size;have hJ0:J E [] w1:=hEq▸h0 w1 hb;have hE1:E<=w1.heap.size:=by omega
 clear hEq;have hlen:=qr s;have hsk:=Lx.skipTo_le (l:=bs s) (i:=0) (qp _);rw[hlen]at hsk;have Hscan:=qh (qh9 hs);have Hlen:=qh hlen;clear hlen
 gi_loopw [4] (fun a wr=>∃ (f:Nat) (pre:List Lx.Tok) (i:Nat),a = .int .i64 i/\i<=s.size/\s.size+1<=i+f/\Hid (Lx.scan (bs s)=Lx.scanT (bs s) f pre i)/\J E pre wr/\FEnv q s wr/\wr.cell? ⟨T,0,none⟩=some (.string s)/\E<=wr.heap.size)
  (fun a _=>s.size - (intOf a).toNat)
 case atStart =>
  exact⟨s.size+1,[],_,rfl,hsk.2,by omega,Hscan,hJ0,hE,hT1,hE1⟩
 case round =>
  obtain⟨f,pre,i,rfl,hi,hf,hsc,hJr,hEr,hTr,hle⟩:=hrel;clear hE hT1 hE1 hJ0 hb
  by_cases hlt:i < s.size
  ·obtain⟨f,rfl⟩:∃ f',f=f'+1:=⟨f - 1,by omega⟩
   gi_wp2_with fail
   refine⟨trivial,((callsIn_wide (n:=n - 1)).2 (qnu q s i wr hs hlt hEr)).mono ?_⟩;rintro e w2 (⟨k,j,htok,rfl,hb2⟩|⟨hnone,rfl,hb2⟩)
   ·obtain⟨hij,hj⟩:=Lx.tokAt_lt htok
    rw[Hlen.out]at hj;have hJ2:=hJ E pre wr w2 hJr hb2;have hE2:=hEr.below hEr.lt hb2;have hT2:w2.cell? ⟨T,0,none⟩=some (.string s):=(hb2.cell (p:=⟨T,0,none⟩) (by simp only;omega)).trans hTr;have hs2:=hb2.size;have hz2:∀ o,E<=(w2.alloc o).heap.size:=fun o=>by rw[q6];omega
    obtain⟨fn,tmps,assign,body,hy,hR⟩:=hY E pre w2 (w2.alloc (.cells #[.int .i64 k,.string (s.extract i j),.int .i64 i] 111)) k i j hJ2 hWE (by omega) ((Below.refl _ _).alloc (q5 _) _) htok;unfold kr at hy ⊢;have Htok:=qh htok;clear htok hb2 hJr hEr hTr
    gi_wp2_with fail
    refine hR.mono ?_;clear hy hR;rintro e w3 (⟨rfl,hJ3,hk3,h6,h40⟩|⟨er,rfl,hx,hc⟩)
    ·have hE3:=FEnv.kept (n:=W.heap.size) (hE2.alloc _) hqE hg hX hk3
     have hT3:w3.cell? ⟨T,0,none⟩=some (.string s) :=
      (World.cell?_of_block (w:=w2.alloc _) (hk3.2 T (by rw[q6];omega) (.inl (by omega)) hXT)).trans ((World.cell?_alloc_past _ _ _ (by omega)).trans hT2)
     have hc3:w3.cell? ⟨w2.heap.size,1,none⟩=some (.string (s.extract i j)) :=
      (World.cell?_of_block (w:=w2.alloc _) (hk3.2 w2.heap.size (by rw[q6];omega) (.inr (q5 _)) (fun hx=>by have:=hX _ hx;omega))).trans (by simp[World.cell?_alloc_at])
     have hl3:E<=w3.heap.size:=ql (hz2 _) hk3.1;have Hst:=qh (hsc.out.trans (qjr (by rw[Hlen.out];exact hlt) Htok.out h6 h40));clear hE2 hT2 hk3 h6 h40 hz2;have hsj:=Lx.skipTo_le (l:=bs s) (i:=j) (by rw[Hlen.out];exact hj);rw[Hlen.out]at hsj
     gi_wp2_with fail
     refine⟨trivial,((callsIn_wide (n:=n - 1)).2 (qct s _ _ hm (by omega) (by omega))).mono ?_⟩;rintro e w4⟨rfl,rfl⟩;rw[show((i:Int)+((j - i:Nat):Int)).toNat=j from by omega]
     gi_wp2_with fail
     go_roundw
     case rel=>exact⟨f,pre++[q52 (bs s) k i j],Lx.skipTo (bs s) j,rfl,hsj.2,by omega,Hst,hJ3,hE3,hT3,hl3⟩
     case measure=>simp[intOf];omega
    ·exact⟨rfl,.inr ⟨i,er,rfl,hsc.out.trans (qmp (by rw[Hlen.out];exact hlt) Htok.out hc),hx⟩⟩
   ·exact⟨rfl,.inr ⟨i,10,rfl,hsc.out.trans (qjs (by rw[Hlen.out];exact hlt) hnone),hJx E pre wr w2 hJr hb2⟩⟩
  ·gi_wp2
   refine bodyPost_ret (results_none rfl _ _ _) rfl ?_;exact .inl ⟨_,E,pre,rfl,hsc.out.trans (qmn (by rw[Hlen.out];omega)),hJr⟩
theorem qbw(s:ByteArray)(w:World)(hs:s.size<=20000) :
  Calls Tryz.prog 113 #[.string s] w fun e w'=>e = .returned (.string s)/\Below w.heap.size w w':=by
 go_enter Tryz.func113,Tryz.ntmps113
 go_wp2_with (go_at_call 179;refine(Tryz.stringslite_Clone s _ (by omega)).mono ?_;rintro e w' ⟨rfl,hb⟩)
 go_ret;exact⟨rfl,hb⟩
theorem qh1(s:ByteArray)(w:World) :
  Calls Tryz.prog 130 #[.string s] w fun e w'=>e = .returned (.func (.func 184) #[] #[.pointer (some ⟨w.heap.size,0,none⟩)])/\w'=w.alloc (.cells #[.string s] 9):=by
 have hmf:∀ (fn:Fn) (first cap:Array Value) (w:World),(Instr.makeFunc fn first cap).run Tryz.prog w = .ok (.func fn first cap) w:=fun _ _ _ _=>rfl
 go_enter Tryz.func130,Tryz.ntmps130;go_wp2;go_ret;exact⟨rfl,rfl⟩
theorem qj7(w:World):(Instr.typeAssert Value.nilIface 20 150 true).run Tryz.prog w = .ok (.tuple #[.agg #[.int .i64 0,.int .i64 0],.bool false]) w:=by kernel_rfl
theorem qj6(v:Value)(w:World):(Instr.typeAssert (.iface 150 v) 20 150 true).run Tryz.prog w = .ok (.tuple #[v,.bool true]) w:=by kernel_rfl
theorem qix(n h:Nat)(w:World) :
  CallsDIn Fence.wide n Tryz.prog 129 #[.pointer (some ⟨h,0,none⟩),.pointer (some ⟨h+1,0,none⟩),.pointer (some ⟨h+1+1,0,none⟩)] .returning w fun e u' w' =>
   e = .returned (.tuple #[])/\u' = .returning/\w'=w.alloc (.cells #[.int .i64 0,.int .i64 0] 150):=by
 have hta:=qj7;have hwd:∀ x,Fence.wide.fn x:=fun _=>trivial
 refine callsDIn_of_wpSIn Tryz.func129 rfl trivial fun c₀ cs hu=>?_
 apply wpSIn_seq;apply wpSIn_region;simp[wpOpsSIn,go_sem,recoverD,hu,Tryz.ntmps129,Exit.thenS,hta,hwd];refine wpSIn_of_wpIn rfl (wpIn_wide.2 ?_);simp only[Array.replicate_succ,Array.replicate_zero,List.push_toArray,List.nil_append,List.cons_append,List.append_toArray,List.setIfInBounds_toArray,List.set_cons_succ,List.set_cons_zero];go_wp2;refine⟨rfl,.returning,by cases c₀;simp_all,.tuple #[],by simp[results,Tryz.results129],rfl,rfl,rfl⟩
theorem qfl(n h i er:Nat)(older:List PanicEntry)(lv:Value)(x y:Int)(w:World)
  (c0:w.cell? ⟨h,0,none⟩=some lv) (c1:w.cell? ⟨h+1,0,none⟩=some (.int .i64 x)) (c2:w.cell? ⟨h+1+1,0,none⟩=some (.int .i64 y))
  (f0:w.frozen? ⟨h,0,none⟩=false) (f1:w.frozen? ⟨h+1,0,none⟩=false) (f2:w.frozen? ⟨h+1+1,0,none⟩=false) (_hlv:lv.oneCell'=true) :
  CallsDIn Fence.wide n Tryz.prog 129 #[.pointer (some ⟨h,0,none⟩),.pointer (some ⟨h+1,0,none⟩),.pointer (some ⟨h+1+1,0,none⟩)] (.panicking ({ v:=q37 i er,recovered:=false } :: older)) w fun e u' w' =>
   e = .returned (.tuple #[])/\u' = .panicking ({ v:=q37 i er,recovered:=true } :: older)/\Below h w w'/\w'.cell? ⟨h,0,none⟩=some (.slice none 0 0)/\w'.cell? ⟨h+1,0,none⟩=some (.int .i64 i)/\w'.cell? ⟨h+1+1,0,none⟩=some (.int .i64 er):=by
 have b0:=block_lt_of_cell c0;have b1:=block_lt_of_cell c1;have b2:=block_lt_of_cell c2;simp only at b0 b1 b2;have hta:=qj6;have hwd:∀ x,Fence.wide.fn x:=fun _=>trivial
 unfold q37;refine callsDIn_of_wpSIn Tryz.func129 rfl trivial fun c₀ cs hu=>?_
 apply wpSIn_seq;apply wpSIn_region;simp[wpOpsSIn,go_sem,recoverD,hu,Tryz.ntmps129,Exit.thenS,hta,hwd];refine wpSIn_of_wpIn rfl (wpIn_wide.2 ?_);simp only[Array.replicate_succ,Array.replicate_zero,List.push_toArray,List.nil_append,List.cons_append,List.append_toArray,List.setIfInBounds_toArray,List.set_cons_succ,List.set_cons_zero];clear hwd hta;go_wp2
 go_region
 refine⟨rfl,.panicking ({ v:=.iface 150 (.agg #[.int .i64 i,.int .i64 er]),recovered:=true } :: older),rfl,.tuple #[],by simp[results,Tryz.results129],rfl,rfl,?_,?_,?_,?_⟩
 ·exact(((((Below.refl h w).setCell (p:=⟨h,0,none⟩) (q5 _) _).setCell (p:=⟨h+1,0,none⟩) (by simp) _).setCell (p:=⟨h+1+1,0,none⟩) (by simp only;omega) _).alloc (by simp[World.setCell];omega) _).drew
 ·simp[go_sem,b0,c0]
 ·simp[go_sem,b1,c1]
 ·simp[go_sem,b2,c2]
attribute [local go_sem] Oper.semAt_some
def q13(l:List Lx.Tok):List Value:=l.flatMap fun t=>[.int .i64 t.kind,.string ⟨t.text.toArray⟩,.int .i64 t.pos]
theorem qet(s:ByteArray)(i j:Nat):(⟨(Lx.slice (bs s) i j).toArray⟩:ByteArray)=s.extract i j:=by
 rw[<-yv];exact qee (by simp[bs])
theorem qlm(s:ByteArray)(pre:List Lx.Tok)(k i j:Nat):q13 (pre++[q52 (bs s) k i j])=q13 pre++[.int .i64 k,.string (s.extract i j),.int .i64 i]:=by
 rw[q13,qx];simp only[q13,q52,List.flatMap_cons,List.flatMap_nil,List.append_nil,qet]
def Toks(B:Nat)(v:Value)(l:List Lx.Tok)(w:World):Prop:=w.ownsRow B 111 3 v l.length (q13 l)
def q7d(s:ByteArray)(w:World)(e:Ending)(w':World):Prop :=
 Below w.heap.size w w'/\match Lx.scan (bs s)with
  | .toks l=>∃ v,e = .returned (.tuple #[v,.int .i64 0,.int .i64 0])/\Toks w.heap.size v l w'
  | .bad i er=>e = .returned (.tuple #[.slice none 0 0,.int .i64 i,.int .i64 er])
theorem qmo(n:Nat)(s:ByteArray)(w:World)(hs:s.size<=maxLen)(hb:20000 < s.size):CallsIn Fence.wide n Tryz.prog 77 #[.string s] w (q7d s w):=by
 have Hsc:Lx.scan (bs s) = .bad 0 2:=by unfold Lx.scan;rw[qa (by rw[qr];exact hb)]
 have HS:=qh Hsc;clear Hsc;unfold maxLen at hs;refine callsIn_wide.2 ?_;go_enter Tryz.func77,Tryz.ntmps77;go_wp2;refine bodyPost_ret (v:=.tuple #[.slice none 0 0,.int .i64 0,.int .i64 2]) (by simp[results,Tryz.results77,go_sem]) rfl ⟨?_,?_⟩
 ·exact((((Below.refl _ w).alloc (q5 _) _).alloc (by simp) _).alloc (by simp;omega) _)
 ·rw[HS.out];rfl
def JS(w:World)(h D L:Nat)(r:Loop)(E:Nat)(pre:List Lx.Tok)(W:World):Prop :=
 Below h w W/\E<=W.heap.size/\(L < E/\pre.length<=6000)/\Boxed W (h+1) 3 (.int .i64 0)/\Boxed W (h+1+1) 26 (.int .i64 0)/\W.heap[D]?=some (.deferred (some []))/\W.heap[L]?=some (.loop r)/\∃ v,Boxed W h 71 v/\Toks E v pre W
def JX(w:World)(h D:Nat)(W:World):Prop :=
 Below h w W/\Boxed W (h+1) 3 (.int .i64 0)/\Boxed W (h+1+1) 26 (.int .i64 0)/\W.heap[D]?=some (.deferred (some []))/\∃ v,Boxed W h 71 v/\v.oneCell'=true
theorem za{W:World}{k:Nat}{o:Obj}(h:W.heap[k]?=some o):k < W.heap.size:=(Array.getElem?_eq_some_iff.1 h).1
theorem q29{W W':World}{B:Nat}{t:TypeId}{v:Value}{n:Nat}(h:Boxed W B t v)(hb:Below n W W')(hn:B < n):Boxed W' B t v:=(hb.block B hn).trans h
theorem zi{W W':World}{base e size n:Nat}{v:Value}{xs:List Value}(h:W.ownsRow base e size v n xs)(hk:∀ k,base<=k->k < W.heap.size->v.ownBlock=some k->W'.heap[k]?=W.heap[k]?):W'.ownsRow base e size v n xs:=by
 obtain⟨h1,h2⟩:=h;refine⟨h1,?_⟩;rcases h2 with h2|⟨g,cap,cur,rfl,hg,hh,r⟩
 ·exact .inl h2
 ·exact .inr ⟨g,cap,cur,rfl,hg,(hk g hg (za hh) rfl).trans hh,r⟩
theorem zt{W W':World}{base e size n:Nat}{v:Value}{xs:List Value}(h:W.ownsRow base e size v n xs)(hb:Below W.heap.size W W'):W'.ownsRow base e size v n xs :=
 zi h fun k _ hk _=>hb.block k hk
theorem ku{W:World}{base e size n:Nat}{v:Value}{xs:List Value}(h:W.ownsRow base e size v n xs):∃ a cap,v = .slice a n cap:=by
 rcases h.2 with ⟨rfl,rfl⟩|⟨g,cap,_,rfl,_⟩
 ·exact⟨none,0,rfl⟩
 ·exact⟨_,_,rfl⟩
theorem JS.later{w:World}{h D L:Nat}{r:Loop}{E:Nat}{pre:List Lx.Tok}{W W':World}(hDL:D < L)(hh:h+1+1 < L)(hj:JS w h D L r E pre W)(hb:Below W.heap.size W W'):JS w h D L r E pre W':=by
 obtain⟨j1,j2,j3,j4,j5,j6,j7,v,j8,j9⟩:=hj;exact⟨j1.trans (hb.mono (by omega)),ql j2 hb.size,j3,q29 j4 hb (by omega),q29 j5 hb (by omega),(hb.block D (by omega)).trans j6,(hb.block L (by omega)).trans j7,v,q29 j8 hb (by omega),zt j9 hb⟩
theorem JS.jx{w:World}{h D L:Nat}{r:Loop}{E:Nat}{pre:List Lx.Tok}{W:World}(hj:JS w h D L r E pre W):JX w h D W:=by
 obtain⟨j1,j2,j3,j4,j5,j6,j7,v,j8,j9⟩:=hj;obtain⟨a,cap,rfl⟩:=ku j9;exact⟨j1,j4,j5,j6,_,j8,rfl⟩
theorem vd{W:World}{B:Nat}{t:TypeId}{v:Value}(h:Boxed W B t v)(o:Obj):Boxed (W.alloc o) B t v:=h.alloc o
theorem q04{W:World}{B b':Nat}{t:TypeId}{v:Value}{o:Obj}(h:Boxed W B t v)(hne:B≠b'):Boxed (W.putObj b' o) B t v:=(World.putObj_heap_other hne).trans h
theorem wn{W:World}{B B':Nat}{t:TypeId}{v u:Value}(h:Boxed W B t v)(hne:B≠B'):Boxed (W.setCell ⟨B',0,none⟩ u) B t v:=(Below.heap_setCell _ _ _ _ (by simp only;omega)).trans h
theorem jo{w W:World}{n:Nat}(h:Below n w W)(b:Nat)(o:Obj)(hb:n<=b):Below n w (W.putObj b o) :=
 ⟨h.os,h.tape,h.output,by rw[World.putObj_size];exact h.size,fun k hk=>(World.putObj_heap_other (by omega)).trans (h.block k hk)⟩
theorem vj{W:World}{base base' e size n:Nat}{v:Value}{xs:List Value}(h:W.ownsRow base e size v n xs)(hb:base'<=base):W.ownsRow base' e size v n xs:=by
 obtain⟨h1,h2⟩:=h;refine⟨h1,?_⟩;rcases h2 with h2|⟨g,cap,cur,rfl,hg,hh,r⟩
 ·exact .inl h2
 ·exact .inr ⟨g,cap,cur,rfl,by omega,hh,r⟩
theorem qpc:(Tryz.prog.info? 111).map (fun i=>(i.zero,i.size,i.bytes))=some (some (.agg #[.int .i64 0,.string ⟨#[]⟩,.int .i64 0]),3,32):=by kernel_rfl
theorem vz(W:World)(a b c:Value)(t:TypeId)(n:Nat)(hn:n=W.heap.size):∀ (j:Nat) (u:Value),[a,b,c][j]?=some u->(W.alloc (.cells #[a,b,c] t)).cell? ((⟨n,0,none⟩:Addr).add j)=some u:=by
 intro j u hj;subst hn;have hadd:(⟨W.heap.size,0,none⟩:Addr).add j=⟨W.heap.size,j,none⟩:=by unfold Addr.add;split <;> simp_all
 rw[hadd,World.cell?_alloc_at _ _ _ _ rfl];simpa using hj
theorem qf2{W:World}{base e size n:Nat}{v:Value}{xs:List Value}(h:W.ownsRow base e size v n xs):∀ g,v.ownBlock=some g->base<=g/\g < W.heap.size:=by
 intro g hg;rcases h.2 with ⟨rfl,_⟩|⟨g',cap,cur,rfl,hb,hh,_⟩
 ·simp[Value.ownBlock]at hg
 ·obtain rfl:g'=g:=by simpa[Value.ownBlock]using hg
  exact⟨hb,za hh⟩
theorem qha(n:Nat)(hn:3<=n)(s:ByteArray)(w:World)(hs:s.size<=20000):CallsIn Fence.wide n Tryz.prog 77 #[.string s] w (q7d s w):=by
 have hmf:∀ (fn:Fn) (first cap:Array Value) (w:World),(Instr.makeFunc fn first cap).run Tryz.prog w = .ok (.func fn first cap) w:=fun _ _ _ _=>rfl
 have eg:∀ args w,(callFunc 184 args).run Tryz.prog w = .ok (.enter 184 args) w:=enters_of Tryz.func184 (by kernel_rfl) rfl;have eg2:∀ args w,(callFunc 129 args).run Tryz.prog w = .ok (.enter 129 args) w:=enters_of Tryz.func129 (by kernel_rfl) rfl;have hn1:1<=n:=by omega
 refine q1o Tryz.func77 rfl ?_;simp only[Tryz.ntmps77,List.size_toArray,qi,qo,Nat.reduceAdd,Nat.reduceSub,Array.replicate_succ,Array.replicate_zero,List.push_toArray,List.append_toArray,List.nil_append,List.cons_append];refine jq (zz ?_)
 gi_wp2
 refine jq (zz ?_)
 gi_wp2
 refine jq (zz ?_)
 gi_wp2
 refine jq (jq (zz ?_))
 gi_wp2_with fail
 refine⟨trivial,((callsIn_wide (n:=n - 1)).2 (qbw s _ hs)).mono ?_⟩;rintro e w1⟨rfl,hb1⟩;have Hb1:=qh hb1;clear hb1
 gi_wp2_with fail
 refine⟨trivial,((callsIn_wide (n:=n - 1)).2 (qh1 s _)).mono ?_⟩;rintro e w2⟨rfl,rfl⟩
 gi_wp2
 refine q49 (q0q (gf:=184) (lb:=#[.pointer (some ⟨w1.heap.size,0,none⟩)]) rfl eg ?_);intro r hr;have hr1:r.state = .ready:=by rw[hr]
 have hr2:r.pending=none:=by rw[hr]
 have hr3:r.params=#[13]:=by rw[hr]
 have z1:=Hb1.out.size;simp only[q6]at z1;have hB1:Below w.heap.size w w1:=((((Below.refl _ w).alloc (q5 _) _).alloc (by simp) _).alloc (by simp;omega) _).trans (Hb1.out.mono (by simp;omega));obtain⟨h,hh⟩:∃ h,w.heap.size=h:=⟨_,rfl⟩;have bx0:Boxed w1 h 71 (.slice none 0 0):=(Hb1.out.block h (by simp;omega)).trans (by rw[<-hh];exact q1f w _ _ _);have bx1:Boxed w1 (h+1) 3 (.int .i64 0):=(Hb1.out.block (h+1) (by simp;omega)).trans (by rw[<-hh];exact q0m w _ _ _);have bx2:Boxed w1 (h+1+1) 26 (.int .i64 0):=(Hb1.out.block (h+1+1) (by simp;omega)).trans (by rw[<-hh];exact q0l w _ _ _);obtain⟨T,hT⟩:∃ T,w1.heap.size=T:=⟨_,rfl⟩;have hD:(w1.alloc (.cells #[.string s] 9)).heap.size=T+1:=by simp[hT]
 have hcall:CallsIn Fence.wide (n - 1) Tryz.prog 184 #[.func (.yield (T+1+1)) #[] #[],.pointer (some ⟨T,0,none⟩)] (((w1.alloc (.cells #[.string s] 9)).alloc (.deferred (some []))).alloc (.loop r))
   (qgu s (JS w h (T+1) (T+1+1) r) (JX w h (T+1))):=by
  refine qp8 (n - 1) (by omega) s T (T+1+1) hs (JS w h (T+1) (T+1+1) r) (JX w h (T+1)) (fun k=>k=h\/k=T+1+1) _ ?_ ?_ ?_ ?_ ?_ ?_ ?_
  ·rintro k (rfl|rfl) <;> simp[hT];omega
  ·rintro(e|e) <;> omega
  ·exact fun E pre w w' hj hb=>hj.later (by omega) (by omega) hb
  ·exact fun E pre w w' hj hb=>(hj.later (by omega) (by omega) hb).jx
  ·intro E pre w0 W k i j hj hWE hE0 hb htok
   have hJ:=hj.later (by omega) (by omega) hb;obtain⟨R,hR⟩:∃ R,qem s (JS w h (T+1) (T+1+1) r) (JX w h (T+1)) (fun k=>k=h\/k=T+1+1) E w0.heap.size pre k i j W=R:=⟨_,rfl⟩;rw[hR];have HR:=qh hR;clear hR;obtain⟨j1,j2,⟨j3,jlen⟩,j4,j5,j6,j7,_⟩:=hJ;obtain⟨_,_,_,_,_,_,_,v,i8,i9⟩:=hj;obtain⟨a,cap,rfl⟩:=ku i9;have j8:=q29 i8 hb i8.lt;have j9:Toks E (.slice a pre.length cap) pre W:=zt i9 hb;have hrow0:=qf2 i9;have hkp:=hb.size;refine⟨_,_,_,_,run_yield (P:=Tryz.prog) j7 (by rw[hr3];rfl),?_⟩;have hr4:r.fn=77:=by rw[hr]
   have hrs:=hr1;rw[hr4];refine q0r trivial Tryz.func77 ?_;simp only[hr];have HRQ:=qh (show({ r with state:=.ready,pending:=none }:Loop)=r from by rw[hr]);clear hr hr1 hr2 hr3 hr4;unfold kr
   gi_wp2
   refine⟨_,run_beginRound (r:=r) ((Below.heap_alloc _ _ _ (za j7)).trans j7) hrs,?_⟩;obtain⟨W2,hW2⟩:∃ W2,(W.alloc (.cells #[.int .i64 k,.string (s.extract i j),.int .i64 i] 111)).putObj (T+1+1) (.loop { r with state:=.busy })=W2:=⟨_,rfl⟩;have ltL:=za j7;have m7:W2.heap[T+1+1]?=some (.loop { r with state:=.busy }):=by rw[<-hW2];exact World.putObj_heap_same (by rw[q6];omega)
   have ko:∀ b,b < W.heap.size->b≠T+1+1->W2.heap[b]?=W.heap[b]?:=fun b hb1 hb2=>by
    rw[<-hW2];exact(World.putObj_heap_other hb2).trans (Below.heap_alloc _ _ _ hb1)
   have mz:W2.heap.size=W.heap.size+1:=by rw[<-hW2,World.putObj_size,q6]
   have mt:W2.heap[W.heap.size]?=some (.cells #[.int .i64 k,.string (s.extract i j),.int .i64 i] 111 (0,0)):=by
    rw[<-hW2];exact(World.putObj_heap_other (by omega)).trans (qm _ _)
   have mb:Below h w W2:=by rw[<-hW2];exact jo (j1.alloc (by have:=j1.size;omega) _) _ _ (by omega)
   rw[hW2];have m4:Boxed W2 (h+1) 3 (.int .i64 0):=(ko _ (by omega) (by omega)).trans j4;have m5:Boxed W2 (h+1+1) 26 (.int .i64 0):=(ko _ (by omega) (by omega)).trans j5;have m6:=(ko (T+1) (by omega) (by omega)).trans j6;have m8:Boxed W2 h 71 (.slice a pre.length cap):=(ko _ (by omega) (by omega)).trans j8;have m9:Toks E (.slice a pre.length cap) pre W2:=zi j9 fun b hb1 hb2 _=>ko b hb2 (by omega)
   have t0:W2.cell? ⟨W.heap.size,0,none⟩=some (.int .i64 k):=qk _ _ _ _ _ _ mt;have t1:W2.cell? ⟨W.heap.size,1,none⟩=some (.string (s.extract i j)):=qk _ _ _ _ _ _ mt;have t2:W2.cell? ⟨W.heap.size,2,none⟩=some (.int .i64 i):=qk _ _ _ _ _ _ mt;have c0:=m8.cell;have f0:=m8.frozen;have koH:=qh ko;clear hW2 ko mt;have hij:=Lx.tokAt_lt htok;rw[qr]at hij;have Htok:=qh htok;clear htok hb hE0 hWE hD i8 i9
   by_cases h6:pre.length=6000
   ·have h6':((pre.length:Int)==6000)=true:=by rw[h6];rfl
    have H6:=qh h6;clear h6
    gi_wp2
    refine⟨rfl,?_⟩;rw[<-HR.out];exact .inr ⟨2,rfl,⟨mb,m4,m5,m6,_,m8,rfl⟩,.inl ⟨H6.out,rfl⟩⟩
   ·have h6':((pre.length:Int)==6000)=false:=by rw[q9];omega
    by_cases h40:40 < j - i
    ·have h40':(40:Int) < ((j - i:Nat):Int):=by omega
     gi_wp2
     refine⟨rfl,?_⟩;rw[<-HR.out];exact .inr ⟨11,rfl,⟨mb,m4,m5,m6,_,m8,rfl⟩,.inr ⟨h6,h40,rfl⟩⟩
    ·have h40':¬ (40:Int) < ((j - i:Nat):Int):=by omega
     obtain⟨i0,hi0,hz0,hz1,hz2⟩:=info_parts qpc;have m9':Hid (W2.ownsRow E 111 3 (.slice a pre.length cap) pre.length (q13 pre)):=m9;have hz3:=qh mz;clear mz
     gi_wp2_with (gi_at_builtin;refine wpListIn_append_own _ rfl _ _ 71 rfl E 111 i0 _ 3 32 Tryz.underlying71 hi0 hz0 hz1 hz2 rfl (by decide) _ _ _ rfl (m9'.out.alloc _) ⟨W2.heap.size,0,none⟩ 1 1 [.int .i64 k,.string (s.extract i j),.int .i64 i] (by rw[hz3.out];rfl) rfl (vz W2 _ _ _ _ _ rfl) (by simp[Value.oneCell']) (by unfold maxLen;omega) (by omega) (by simp only[q6];have:=hz3.out;omega) ?_;intro v' w3 hown' hgrow _;obtain⟨g,cap',rfl⟩:=ownsRow_succ hown';have hv1:Boxed w3 h 71 (.slice a pre.length cap):=(vd m8 _).kept hgrow (m8.not_row (by decide) m9);have hvc:=hv1.cell;have hvf:=hv1.frozen;have Hown:=qh hown';have Hgrow:Hid ((W2.alloc (.cells #[.int .i64 k,.string (s.extract i j),.int .i64 i] 111)).grownBy w3 (Value.slice a pre.length cap).ownBlock):=hgrow;clear hown' hgrow)
     have hsz:=hz3.out
     have gl:∀ b,b < W2.heap.size->(∀ g0,(Value.slice a pre.length cap).ownBlock=some g0->b≠g0)->w3.heap[b]?=W2.heap[b]?:=fun b hb1 hb2 =>
      (Hgrow.out.block b (by rw[q6];omega) (fun e=>hb2 b e.symm rfl)).trans (Below.heap_alloc _ _ _ hb1)
     have gE:∀ b,b < E->∀ g0,(Value.slice a pre.length cap).ownBlock=some g0->b≠g0:=fun b hb1 g0 hg0=>by have:=(hrow0 g0 hg0).1;omega
     have l3:w3.heap[T+1+1]?=some (.loop { r with state:=.busy }):=(gl _ (by omega) (gE _ (by omega))).trans m7;obtain⟨W5,hW5⟩:∃ W5,w3.setCell ⟨h,0,none⟩ (.slice (some ⟨g,0,none⟩) (pre.length+1) cap')=W5:=⟨_,rfl⟩;have so:∀ b,b≠h->W5.heap[b]?=w3.heap[b]?:=fun b hb1=>by rw[<-hW5];exact Below.heap_setCell _ _ _ _ hb1
     have sz:W5.heap.size=w3.heap.size:=by rw[<-hW5];simp[World.setCell]
     have gz:W2.heap.size+1<=w3.heap.size:=by have:=Hgrow.out.size;rwa [q6]at this
     have l5:W5.heap[T+1+1]?=some (.loop { r with state:=.busy }):=(so _ (by omega)).trans l3;have b5:Boxed W5 h 71 (.slice (some ⟨g,0,none⟩) (pre.length+1) cap'):=by rw[<-hW5];exact hv1.set _
     have o5:W5.ownsRow E 111 3 (.slice (some ⟨g,0,none⟩) (pre.length+1) cap') (pre.length+1) (q13 pre++[.int .i64 k,.string (s.extract i j),.int .i64 i]):=by
      rw[<-hW5];exact Hown.out.kept (grownBy_setCell' w3 h _) (.inr (hv1.not_row (by decide) Hown.out).symm)
     have bl5:Below h w W5:=by
      rw[<-hW5];exact((mb.alloc (by have:=mb.size;omega) _).grown Hgrow.out (by rw[q6];omega) (fun b hb1=>by have:=(hrow0 b hb1).1;omega)).setCell (p:=⟨h,0,none⟩) (q5 _) _
     rw[hW5];refine⟨_,_,run_endRound none l5,?_⟩;have HQ:=HRQ.out;have e0:({ ({ r with state:=.busy }:Loop)with state:=.ready,pending:=none }:Loop)=r:=HQ;simp only[Option.isNone_none,if_true];rw[e0,<-HR.out];have po:∀ b,b≠T+1+1->(W5.putObj (T+1+1) (.loop r)).heap[b]?=W5.heap[b]?:=fun b hb1=>World.putObj_heap_other hb1
     refine .inl ⟨rfl,⟨jo bl5 _ _ (by omega),by rw[World.putObj_size];omega,⟨j3,by rw[qc];simp only[List.length_singleton];omega⟩,?_,?_,?_,World.putObj_heap_same (by omega),_,q04 b5 (by omega),?_⟩,⟨by rw[World.putObj_size];omega,fun b hb1 hb2 hb3=>?_⟩,h6,h40⟩
     ·exact(po _ (by omega)).trans ((so _ (by omega)).trans ((gl _ (by omega) (gE _ (by omega))).trans m4))
     ·exact(po _ (by omega)).trans ((so _ (by omega)).trans ((gl _ (by omega) (gE _ (by omega))).trans m5))
     ·exact(po _ (by omega)).trans ((so _ (by omega)).trans ((gl _ (by omega) (gE _ (by omega))).trans m6))
     ·have ht:q13 (pre++[q52 (bs s) k i j])=q13 pre++[.int .i64 k,.string (s.extract i j),.int .i64 i]:=qlm s pre k i j
      unfold Toks;rw[ht,qc];exact zi o5 fun b hb1 hb2 _=>po b (by omega)
     ·have n1:b≠T+1+1:=fun e=>hb3 (.inr e)
      have n2:b≠h:=fun e=>hb3 (.inl e)
      refine(po _ n1).trans ((so _ n2).trans ((gl _ (by omega) ?_).trans (koH.out b hb1 n1)));rcases hb2 with hb2|hb2
      ·exact gE b hb2
      ·exact fun g0 hg0=>by have:=(hrow0 g0 hg0).2;omega
  ·exact(World.cell?_alloc_past _ _ _ (by simp[hT];omega)).trans ((World.cell?_alloc_past _ _ _ (by simp[hT])).trans ((World.cell?_alloc_at _ _ _ _ hT.symm).trans rfl))
  ·intro W' hb
   have hb':Below h w W':=by rw[<-hh];exact hB1.trans ((((((Below.refl _ w1).alloc (q5 _) _).alloc (by simp only[q6];omega) _).alloc (by simp only[q6];omega) _).mono (by omega)).trans (hb.mono (by simp only[q6];omega)))
   have hk:∀ k o,w1.heap[k]?=some o->W'.heap[k]?=some o:=fun k o hko=>(hb.block k (by have:=za hko;simp only[q6];omega)).trans
    (((Below.heap_alloc _ _ k (by have:=za hko;simp only[q6];omega)).trans ((Below.heap_alloc _ _ k (by have:=za hko;simp only[q6];omega)).trans (Below.heap_alloc _ _ k (za hko)))).trans hko)
   have hz:=hb.size;simp only[q6,hT]at hz;exact⟨hb',q5 _,⟨by omega,by simp⟩,hk _ _ bx1,hk _ _ bx2,(hb.block (T+1) (by simp only[q6,hT];omega)).trans (by rw[<-hT];exact q0m w1 _ _ _),(hb.block (T+1+1) (by simp only[q6,hT];omega)).trans (by rw[<-hT];exact q0l w1 _ _ _),_,hk _ _ bx0,World.ownsRow_nil _ _ _ _⟩
 rw[hD,hT,hh];refine hcall.mono ?_;rintro e w' (⟨v,E,pre,rfl,hsc,hJ⟩|⟨i,er,rfl,hsc,hx⟩)
 ·obtain⟨j1,j2,⟨j3,jlen⟩,j4,j5,j6,j7,v,j8,j9⟩:=hJ
  refine⟨none,w'.putObj (T+1+1) (.loop { r with state:=.exhausted }),?_,?_⟩
  ·refine(run_endLoop (P:=Tryz.prog) j7 (by rw[hr1];simp)).trans ?_
   rw[hr2]
  ·obtain⟨W4,hW4⟩:∃ W4,w'.putObj (T+1+1) (.loop { r with state:=.exhausted })=W4:=⟨_,rfl⟩
   have ko:∀ k,k≠T+1+1->W4.heap[k]?=w'.heap[k]?:=fun k hk=>by rw[<-hW4];exact World.putObj_heap_other hk
   have kz:W4.heap.size=w'.heap.size:=by rw[<-hW4];exact World.putObj_size
   have kb:Below h w W4:=by rw[<-hW4];exact⟨j1.os,j1.tape,j1.output,by rw[World.putObj_size];exact j1.size,fun k hk=>(World.putObj_heap_other (by omega)).trans (j1.block k hk)⟩
   rw[hW4];clear hW4;have k4:Boxed W4 (h+1) 3 (.int .i64 0):=(ko _ (by omega)).trans j4;have k5:Boxed W4 (h+1+1) 26 (.int .i64 0):=(ko _ (by omega)).trans j5;have k8:Boxed W4 h 71 v:=(ko _ (by omega)).trans j8;have k9:Toks E v pre W4:=zi j9 fun k hk _ _=>ko k (by omega)
   have k6:=(ko (T+1) (by omega)).trans j6;obtain⟨a,cap,rfl⟩:=ku k9;have c0:=k8.cell;have c1:=k4.cell;have c2:=k5.cell;have f0:=k8.frozen;have f1:=k4.frozen;have f2:=k5.frozen;clear hcall ko j1 j2 j4 j5 j6 j7 j8 j9 bx0 bx1 bx2 hB1;refine zz (n:=n) ?_;dsimp only[List.cons_append,List.nil_append]
   gi_wp2
   refine⟨by simp,.inl ⟨_,_,rfl,run_takeDeferred (((Below.heap_setCell _ _ _ _ (by simp only;omega)).trans ((Below.heap_setCell _ _ _ _ (by simp only;omega)).trans (Below.heap_setCell _ _ _ _ (by simp only;omega)))).trans k6),?_⟩⟩;refine⟨by simp,.inr ⟨fun _=>hn1,_,_,_,_,rfl,by simp[invoke,go_sem,eg2],fun _ _=>trivial,(qix (n - 1) h _).mono ?_⟩⟩;rintro e u' F⟨rfl,rfl,hF⟩
   have q0:Boxed F h 71 (.slice a pre.length cap):=by
    rw[hF];exact vd (q04 (wn (wn (k8.set _) (by omega)) (by omega)) (by omega)) _
   have q1:Boxed F (h+1) 3 (.int .i64 0):=by
    rw[hF];exact vd (q04 (wn (Boxed.set _ (wn k4 (by omega))) (by omega)) (by omega)) _
   have q2:Boxed F (h+1+1) 26 (.int .i64 0):=by
    rw[hF];exact vd (q04 (Boxed.set _ (wn (wn k5 (by omega)) (by omega))) (by omega)) _
   have q3:Toks E (.slice a pre.length cap) pre F:=by
    rw[hF];refine zi k9 fun k hk hl _=>?_
    exact(Below.heap_alloc _ _ k (by simpa[World.setCell]using hl)).trans ((World.putObj_heap_other (by omega)).trans ((Below.heap_setCell _ _ _ _ (by simp only;omega)).trans ((Below.heap_setCell _ _ _ _ (by simp only;omega)).trans (Below.heap_setCell _ _ _ _ (by simp only;omega)))))
   have q4:Below h w F:=by
    rw[hF];have kbs:=kb.size;refine Below.alloc ?_ (by simp[World.setCell];omega) _;exact jo (((kb.setCell (p:=⟨h,0,none⟩) (q5 _) _).setCell (p:=⟨h+1,0,none⟩) (by simp) _).setCell (p:=⟨h+1+1,0,none⟩) (by simp only;omega) _) _ _ (by omega)
   have c0':=q0.cell;have c1':=q1.cell;have c2':=q2.cell;refine⟨.tuple #[.slice a pre.length cap,.int .i64 0,.int .i64 0],by simp[results,Tryz.results77,go_sem,c0',c1',c2'],?_⟩;refine⟨hh▸q4,?_⟩;rw[hsc];exact⟨_,rfl,vj q3 (by omega)⟩
 ·obtain⟨j1,k4,k5,k6,v,k8,hv⟩:=hx
  have lt5:=k5.lt;refine⟨by simp,.inl ⟨_,_,rfl,run_takeDeferred k6,?_⟩⟩;have k4':=q04 (b':=T+1) (o:=.deferred none) k4 (by omega);have k5':=q04 (b':=T+1) (o:=.deferred none) k5 (by omega);have k8':=q04 (b':=T+1) (o:=.deferred none) k8 (by omega);refine⟨by simp,.inr ⟨fun _=>hn1,_,_,_,_,rfl,by simp[invoke,go_sem,eg2],fun _ _=>trivial,(qfl (n - 1) h i er [] v 0 0 _ k8'.cell k4'.cell k5'.cell k8'.frozen k4'.frozen k5'.frozen hv).mono ?_⟩⟩;rintro e u' F⟨rfl,rfl,hb,c0,c1,c2⟩;refine⟨.tuple #[.slice none 0 0,.int .i64 i,.int .i64 er],by simp[results,Tryz.results77,go_sem,c0,c1,c2],?_⟩;refine⟨hh▸(jo j1 _ _ (by omega)).trans hb,?_⟩;rw[hsc]
theorem q86(s:ByteArray)(w:World)(hs:s.size<=maxLen):Calls Tryz.prog 77 #[.string s] w (q7d s w):=by
 refine(callsIn_wide (n:=3)).1 ?_
 by_cases h:20000 < s.size
 ·exact qmo 3 s w hs h
 ·exact qha 3 (by omega) s w (by omega)
inductive NdS (S:Nat->Prop) (w:World):Nd->Value->Value->Value->Prop
 |mk (k:Int) (s:ByteArray) (l:List Nd) (a:Option Addr) (cap b o:Nat) (f0 f1 f2:Nat->Value) (hs:s.size<=maxLen) (hl:l.length<=maxLen) (hc:l.length<=cap)
   (ha:l≠[]->a=some ⟨b,o,none⟩) (hS:l≠[]->S b)
   (h0:∀ i,i < l.length->w.cell? ⟨b,o+i*3,none⟩=some (f0 i))
   (h1:∀ i,i < l.length->w.cell? ⟨b,o+i*3+1,none⟩=some (f1 i))
   (h2:∀ i,i < l.length->w.cell? ⟨b,o+i*3+2,none⟩=some (f2 i))
   (hr:∀ i (hi:i < l.length),NdS S w l[i] (f0 i) (f1 i) (f2 i)):NdS S w (.mk k s l) (.int .i64 k) (.string s) (.slice a l.length cap)
theorem NdS.toR{S:Nat->Prop}{w:World}{t:Nd}{v0 v1 v2:Value}(h:NdS S w t v0 v1 v2):NdR w t v0 v1 v2:=by
 induction h with
 |mk k s l a cap b o f0 f1 f2 hs hl hc ha hS h0 h1 h2 _ ih=>exact .mk k s l a cap b o f0 f1 f2 hs hl hc ha h0 h1 h2 ih
theorem NdS.keep{S S':Nat->Prop}{w w':World}(hk:∀ b,S b->b < w.heap.size->w'.heap[b]?=w.heap[b]?/\S' b){t:Nd}{v0 v1 v2:Value}(h:NdS S w t v0 v1 v2):NdS S' w' t v0 v1 v2:=by
 induction h with
 |mk k s l a cap b o f0 f1 f2 hs hl hc ha hS h0 h1 h2 _ ih =>
  have hlt:∀ i,i < l.length->b < w.heap.size:=fun i hi=>qg (h0 i hi)
  have hne:∀ i,i < l.length->l≠[]:=fun i hi e=>by rw[e]at hi;simp at hi
  have hcell:∀ i,i < l.length->∀ p,w'.cell? ⟨b,p,none⟩=w.cell? ⟨b,p,none⟩:=fun i hi p=>World.cell?_of_block (w:=w) (hk b (hS (hne i hi)) (hlt i hi)).1
  refine .mk k s l a cap b o f0 f1 f2 hs hl hc ha (fun e=>?_) (fun i hi=>(hcell i hi _).trans (h0 i hi)) (fun i hi=>(hcell i hi _).trans (h1 i hi)) (fun i hi=>(hcell i hi _).trans (h2 i hi)) ih;have hpos:0 < l.length:=by cases l with|nil=>exact absurd rfl e|cons _ _=>simp
  exact(hk b (hS e) (hlt 0 hpos)).2
theorem NdS.mono{S S':Nat->Prop}{w:World}(hk:∀ b,S b->b < w.heap.size->S' b){t:Nd}{v0 v1 v2:Value}(h:NdS S w t v0 v1 v2):NdS S' w t v0 v1 v2:=h.keep fun b h1 h2=>⟨rfl,hk b h1 h2⟩
theorem NdS.leaf(S:Nat->Prop)(w:World)(k:Int)(s:ByteArray)(hs:s.size<=maxLen)(a:Option Addr)(cap:Nat):NdS S w (.mk k s []) (.int .i64 k) (.string s) (.slice a 0 cap) :=
 .mk k s [] a cap 0 0 (fun _=>undef) (fun _=>undef) (fun _=>undef) hs (qp _) (qp _) (fun e=>absurd rfl e) (fun e=>absurd rfl e) (fun i hi=>absurd hi (Nat.not_lt_zero i)) (fun i hi=>absurd hi (Nat.not_lt_zero i)) (fun i hi=>absurd hi (Nat.not_lt_zero i)) (fun i hi=>absurd hi (Nat.not_lt_zero i))
theorem NdS.form{S:Nat->Prop}{w:World}{t:Nd}{v0 v1 v2:Value}(h:NdS S w t v0 v1 v2):∃ k s l a cap,t = .mk k s l/\v0 = .int .i64 k/\v1 = .string s/\v2 = .slice a l.length cap/\s.size<=maxLen/\l.length<=maxLen:=h.toR.form
theorem NdS.ones{S:Nat->Prop}{w:World}{t:Nd}{v0 v1 v2:Value}(h:NdS S w t v0 v1 v2):∀ u∈[v0,v1,v2],u.oneCell'=true:=by
 obtain⟨k,s,l,a,cap,rfl,rfl,rfl,rfl,_,_⟩:=h.form;intro u hu;simp only[List.mem_cons,List.not_mem_nil,or_false]at hu;rcases hu with rfl|rfl|rfl <;> rfl
def Kids(h:Nat)(w:World)(v:Value)(l:List Nd):Prop :=
 ∃ xs,w.ownsRow h 25 3 v l.length xs/\∀ i (hi:i < l.length),∃ v0 v1 v2,xs[i*3]?=some v0/\xs[i*3+1]?=some v1/\xs[i*3+2]?=some v2/\NdS (fun b=>h<=b/\v.ownBlock≠some b) w l[i] v0 v1 v2
theorem Kids.nil(h:Nat)(w:World):Kids h w (.slice none 0 0) []:=⟨[],World.ownsRow_nil _ _ _ _,fun i hi=>absurd hi (Nat.not_lt_zero i)⟩
theorem Kids.shape{h:Nat}{w:World}{v:Value}{l:List Nd}(hk:Kids h w v l):∃ a cap,v = .slice a l.length cap/\l.length<=cap:=by
 obtain⟨xs,h1,_⟩:=hk;rcases h1.2 with ⟨rfl,h0⟩|⟨g,cap,cur,rfl,hg,hh,hle,_⟩
 ·exact⟨none,0,by rw[h0],by omega⟩
 ·exact⟨_,_,rfl,hle⟩
theorem Kids.own{h:Nat}{w:World}{v:Value}{l:List Nd}(hk:Kids h w v l):∀ g,v.ownBlock=some g->h<=g/\g < w.heap.size:=by
 obtain⟨xs,h1,_⟩:=hk;exact h1.lt
theorem Kids.keep{h:Nat}{w w':World}{v:Value}{l:List Nd}(hk:Kids h w v l)(he:∀ b,h<=b->b < w.heap.size->w'.heap[b]?=w.heap[b]?):Kids h w' v l:=by
 obtain⟨xs,h1,h2⟩:=hk;refine⟨xs,zi h1 fun k hk hl _=>he k hk hl,fun i hi=>?_⟩;obtain⟨v0,v1,v2,e0,e1,e2,hn⟩:=h2 i hi;exact⟨v0,v1,v2,e0,e1,e2,hn.keep fun b hb hl=>⟨he b hb.1 hl,hb⟩⟩
theorem Kids.base{h h':Nat}{w:World}{v:Value}{l:List Nd}(hk:Kids h w v l)(hh:h'<=h):Kids h' w v l:=by
 obtain⟨xs,h1,h2⟩:=hk;refine⟨xs,vj h1 hh,fun i hi=>?_⟩;obtain⟨v0,v1,v2,e0,e1,e2,hn⟩:=h2 i hi;exact⟨v0,v1,v2,e0,e1,e2,hn.mono fun b hb _=>⟨ql hh hb.1,hb.2⟩⟩
theorem Kids.node{h:Nat}{w:World}{v:Value}{l:List Nd}(hk:Kids h w v l)(k:Int)(s:ByteArray)(hs:s.size<=maxLen)(hl:l.length<=maxLen):NdS (fun b=>h<=b) w (.mk k s l) (.int .i64 k) (.string s) v:=by
 obtain⟨xs,h1,h2⟩:=hk;rcases h1.2 with ⟨rfl,h0⟩|⟨g,cap,cur,rfl,hg,hh,hle,_,_,htake⟩
 ·obtain rfl:l=[]:=List.eq_nil_of_length_eq_zero h0
  exact .leaf _ _ _ _ hs _ _
 ·have hx:∀ j u,xs[j]?=some u->w.cell? ⟨g,j,none⟩=some u:=fun j u hj=>by
   have:=h1.cells (g:=g) rfl j u hj;have hadd:(⟨g,0,none⟩:Addr).add j=⟨g,j,none⟩:=by unfold Addr.add;split <;> simp_all
   rwa [hadd]at this
  refine .mk k s l (some ⟨g,0,none⟩) cap g 0 (fun i=>(xs[i*3]?).getD undef) (fun i=>(xs[i*3+1]?).getD undef) (fun i=>(xs[i*3+2]?).getD undef) hs hl hle (fun _=>rfl) (fun _=>hg) ?_ ?_ ?_ ?_
  ·intro i hi
   obtain⟨v0,v1,v2,e0,e1,e2,hn⟩:=h2 i hi;rw[Nat.zero_add,e0];exact hx _ _ e0
  ·intro i hi
   obtain⟨v0,v1,v2,e0,e1,e2,hn⟩:=h2 i hi;rw[Nat.zero_add,e1];exact hx _ _ e1
  ·intro i hi
   obtain⟨v0,v1,v2,e0,e1,e2,hn⟩:=h2 i hi;rw[Nat.zero_add,e2];exact hx _ _ e2
  ·intro i hi
   obtain⟨v0,v1,v2,e0,e1,e2,hn⟩:=h2 i hi;simp only[e0,e1,e2,Option.getD_some];exact hn.mono fun b hb _=>hb.1
theorem q8h:(Tryz.prog.info? 25).map (fun i=>(i.zero,i.size,i.bytes))=some (some (.agg #[.int .i64 0,.string ⟨#[]⟩,.slice none 0 0]),3,48):=by kernel_rfl
theorem Kids.snoc{h:Nat}{w w':World}{v:Value}{l:List Nd}{xs:List Value}{v0 v1 v2:Value}{x:Nd}{g cap:Nat}
  (h1:w.ownsRow h 25 3 v l.length xs) (h2:∀ i (hi:i < l.length),∃ v0 v1 v2,xs[i*3]?=some v0/\xs[i*3+1]?=some v1/\xs[i*3+2]?=some v2/\NdS (fun b=>h<=b/\v.ownBlock≠some b) w l[i] v0 v1 v2)
  (hx:NdS (fun b=>h<=b/\v.ownBlock≠some b) w x v0 v1 v2)
  (ho:w'.ownsRow h 25 3 (.slice (some ⟨g,0,none⟩) (l.length+1) cap) (l.length+1) (xs++[v0,v1,v2])) (hg:w.grownBy w' v.ownBlock) (hw:v.ownBlock=some g\/g=w.heap.size) :
  Kids h w' (.slice (some ⟨g,0,none⟩) (l.length+1) cap) (l++[x]):=by
 have hk:∀ b,(h<=b/\v.ownBlock≠some b)->b < w.heap.size->w'.heap[b]?=w.heap[b]?/\(h<=b/\(Value.slice (some ⟨g,0,none⟩) (l.length+1) cap).ownBlock≠some b):=by
  rintro b⟨hb1,hb2⟩hb3;refine⟨hg.block b hb3 (fun e=>hb2 e.symm),hb1,?_⟩;intro e;have e':g=b:=by simpa[Value.ownBlock]using e
  rcases hw with hw|hw
  ·exact hb2 (by rw[hw,e'])
  ·omega
 have hxl:xs.length=l.length*3:=h1.1;refine⟨xs++[v0,v1,v2],by rw[qc];exact ho,fun i hi=>?_⟩
 by_cases hlt:i < l.length
 ·obtain⟨u0,u1,u2,e0,e1,e2,hn⟩:=h2 i hlt
  refine⟨u0,u1,u2,?_,?_,?_,?_⟩
  ·rw[List.getElem?_append_left (by omega)];exact e0
  ·rw[List.getElem?_append_left (by omega)];exact e1
  ·rw[List.getElem?_append_left (by omega)];exact e2
  ·rw[List.getElem_append_left hlt]
   exact hn.keep hk
 ·have hi':i=l.length:=by simp only[qc,List.length_singleton]at hi;omega
  subst hi';refine⟨v0,v1,v2,?_,?_,?_,?_⟩
  ·rw[List.getElem?_append_right (by omega),show l.length*3 - xs.length=0 from by omega];rfl
  ·rw[List.getElem?_append_right (by omega),show l.length*3+1 - xs.length=1 from by omega];rfl
  ·rw[List.getElem?_append_right (by omega),show l.length*3+2 - xs.length=2 from by omega];rfl
  ·simp only[List.getElem_append_right (q5 _),Nat.sub_self,zo]
   exact hx.keep hk
section
variable {ops:Array Oper} {rest:List Oper} {o:Oper} {a:Act} {Q:Exit->Act->World->Prop} {w:World}
theorem q2t(hgd:o.guard=none)(s x:Operand)
  (ho:o.op = .call { callee:=.builtin .append,args:=#[s,x],argTypes:=#[23,23] })
  (h:Nat) (v:Value) (l:List Nd) (hs:a.eval s=v) (hk:Kids h w v l) (ad:Addr) (c:Nat) (hx:a.eval x = .slice (some ad) 1 c) (t:Nd) (v0 v1 v2:Value)
  (hnews:∀ j u,[v0,v1,v2][j]?=some u->w.cell? (ad.add j)=some u) (hn:NdS (fun b=>h<=b/\v.ownBlock≠some b) w t v0 v1 v2) (hlen:l.length<=1000000) (hbase:h<=w.heap.size) (H:Nat) (hH:w.heap.size=H)
  (hK:∀ g cap w',Kids h w' (.slice (some ⟨g,0,none⟩) (l.length+1) cap) (l++[t])->w.grownBy w' v.ownBlock->(v.ownBlock=some g\/g=H)->g < w'.heap.size->wpList Tryz.prog ops Q rest (a.put o.dst (.slice (some ⟨g,0,none⟩) (l.length+1) cap)) w') :
  wpList Tryz.prog ops Q (o :: rest) a w:=by
 obtain⟨i0,hi0,hz0,hz1,hz2⟩:=info_parts q8h;obtain⟨xs,h1,h2⟩:=hk;refine wpList_append_lies w hgd s x 23 ho h 25 i0 _ 3 48 Tryz.underlying23 hi0 hz0 hz1 hz2 rfl (by decide) v l.length xs hs h1 ad 1 c [v0,v1,v2] hx rfl hnews hn.ones (by decide) (by unfold maxLen;omega) (by omega) hbase H hH ?_;intro g cap w' h3 h4 h5 h6;exact hK g cap w' (Kids.snoc h1 h2 hn h3 h4 (by rw[hH];exact h5)) h4 h5 h6
end
end Go.Proofs.YtkckddojlignpaaGreatDoor
namespace Go.Proofs.YtkckddojlignpaaGreatDoor
namespace Sx
open Lx (Bs Tok)
def txt(ts:List Tok)(p:Nat):Bs:=match ts[p]? with|some t=>t.text|none=>[]
def knd(ts:List Tok)(p:Nat):Nat:=match ts[p]? with|some t=>t.kind|none=>0
inductive PR (α:Type) where
 |ok (a:α) (p:Nat)
 |bad (p:Nat)
def noS:ByteArray:=⟨#[]⟩
def str(l:Bs):ByteArray:=⟨l.toArray⟩
def leaf(k:Int)(l:Bs):Nd:=.mk k (str l) []
def small(ts:List Tok)(p:Nat):PR Nd:=if knd ts p=1 then .ok (leaf 15 (txt ts p)) (p+1) else .bad p
def nameA(ts:List Tok)(p:Nat):PR Nd:=if knd ts p=1 then .ok (leaf 15 (txt ts p)) (p+1) else if knd ts p=2 then .ok (leaf 16 (txt ts p)) (p+1) else .bad p
mutual
def typed(ts:List Tok):Nat->Nat->PR Nd
 |0,p=>.bad p
 |f+1,p=>match simple ts f p with
  | .bad q=>.bad q
  | .ok a q=>if txt ts q=[45,62] then(match typed ts f (q+1)with
   | .bad r=>.bad r
   | .ok b r=>.ok (.mk 31 noS [a,b]) r) else .ok a q
def simple(ts:List Tok):Nat->Nat->PR Nd
 |0,p=>.bad p
 |f+1,p=>if txt ts p=[40] then(match typed ts f (p+1)with
   | .bad q=>.bad q
   | .ok a q=>if txt ts q=[41] then .ok a (q+1) else .bad q) else small ts p
end
def binder(ty body:Nat->PR Nd)(ts:List Tok)(k:Int)(p:Nat):PR Nd :=
 match nameA ts p with
 | .bad q=>.bad q
 | .ok (.mk _ s _) q =>
  if txt ts q=[58] then(match ty (q+1)with
   | .bad r=>.bad r
   | .ok t r=>if txt ts r=[46] then(match body (r+1)with
    | .bad u=>.bad u
    | .ok b u=>.ok (.mk k s [t,b]) u) else .bad r)
  else if txt ts q=[46] then(match body (q+1)with
   | .bad u=>.bad u
   | .ok b u=>.ok (.mk k s [b]) u) else .bad q
mutual
def term(ts:List Tok):Nat->Nat->PR Nd
 |0,p=>.bad p
 |f+1,p =>
  if txt ts p=[92] then binder (typed ts f) (term ts f) ts 17 (p+1)
  else if txt ts p=[40] then(match term ts f (p+1)with
   | .bad q=>.bad q
   | .ok a q=>if txt ts q=[41] then .ok a (q+1) else .bad q)
  else(match nameA ts p with
   | .bad q=>.bad q
   | .ok (.mk k s _) q=>(match args ts f [] q with
    | .bad r=>.bad r
    | .ok l r=>.ok (.mk k s l) r))
def args(ts:List Tok):Nat->List Nd->Nat->PR (List Nd)
 |0,_,p=>.bad p
 |f+1,acc,p =>
  if txt ts p=[40] then(match term ts f (p+1)with
   | .bad q=>.bad q
   | .ok a q=>if txt ts q=[41] then args ts f (acc++[a]) (q+1) else .bad q)
  else(match nameA ts p with
   | .bad _=>.ok acc p
   | .ok a q=>args ts f (acc++[a]) q)
end
def applied(ts:List Tok)(f:Nat)(p:Nat):PR Nd :=
 match nameA ts p with
 | .bad q=>.bad q
 | .ok (.mk k s _) q=>(match args ts f [] q with
  | .bad r=>.bad r
  | .ok l r=>.ok (.mk k s l) r)
def sgn(ts:List Tok)(b:Nat)(p:Nat):Option Int :=
 if b=0 then(if txt ts p=[111,45] then some 27 else if txt ts p=[60,61] then some 28 else none)
 else if b=1 then(if txt ts p=[45,111] then some 25 else if txt ts p=[61,62] then some 26 else none)
 else if b=2 then(if txt ts p=[43] then some 24 else none)
 else if b=3 then(if txt ts p=[38] then some 23 else none)
 else if b=4 then(if txt ts p=[42] then some 22 else none)
 else none
mutual
def part(ts:List Tok):Nat->Nat->PR Nd
 |0,p=>.bad p
 |f+1,p =>
  if knd ts p=1 then applied ts f p
  else if txt ts p=[33] then(match part ts f (p+1)with
   | .bad q=>.bad q
   | .ok a q=>.ok (.mk 29 noS [a]) q)
  else if txt ts p=[97,108,108] then binder (typed ts f) (form ts f) ts 18 (p+1)
  else if txt ts p=[101,120] then binder (typed ts f) (form ts f) ts 19 (p+1)
  else if txt ts p=[111,110,101] then .ok (.mk 20 noS []) (p+1)
  else if txt ts p=[116,111,112] then .ok (.mk 21 noS []) (p+1)
  else if txt ts p=[123] then(match form ts f (p+1)with
   | .bad q=>.bad q
   | .ok a q=>if txt ts q=[125] then .ok (.mk 30 noS [a]) (q+1) else .bad q)
  else if txt ts p=[40] then(match form ts f (p+1)with
   | .bad q=>.bad q
   | .ok a q=>if txt ts q=[41] then .ok a (q+1) else .bad q)
  else .bad p
def right(ts:List Tok):Nat->Nat->Nat->PR Nd
 |0,_,p=>.bad p
 |f+1,b,p =>
  if 5<=b then part ts f p
  else(match right ts f (b+1) p with
   | .bad q=>.bad q
   | .ok a q=>(match sgn ts b q with
    |none=>.ok a q
    |some k=>(match right ts f b (q+1)with
     | .bad r=>.bad r
     | .ok c r=>.ok (.mk k noS [a,c]) r)))
def form(ts:List Tok):Nat->Nat->PR Nd
 |0,p=>.bad p
 |f+1,p=>match right ts f 1 p with
  | .bad q=>.bad q
  | .ok a q=>formR ts f a q
def formR(ts:List Tok):Nat->Nd->Nat->PR Nd
 |0,_,p=>.bad p
 |f+1,a,q=>match sgn ts 0 q with
  |none=>.ok a q
  |some k=>(match right ts f 1 (q+1)with
   | .bad r=>.bad r
   | .ok c r=>formR ts f (.mk k noS [a,c]) r)
end
def namesR(ts:List Tok):Nat->List Nd->Nat->PR (List Nd)
 |0,_,p=>.bad p
 |f+1,acc,p=>if txt ts p=[44] then(match small ts (p+1)with
   | .bad q=>.bad q
   | .ok a q=>namesR ts f (acc++[a]) q) else .ok acc p
def names(ts:List Tok)(f:Nat)(p:Nat):PR (List Nd) :=
 match small ts p with
 | .bad q=>.bad q
 | .ok a q=>namesR ts f [a] q
def simples(ts:List Tok):Nat->List Nd->Nat->PR (List Nd)
 |0,_,p=>.bad p
 |f+1,acc,p=>if txt ts p=[40]\/knd ts p=1 then(match simple ts f p with
   | .bad q=>.bad q
   | .ok a q=>simples ts f (acc++[a]) q) else .ok acc p
def smalls(ts:List Tok):Nat->List Nd->Nat->PR (List Nd)
 |0,_,p=>.bad p
 |f+1,acc,p=>if knd ts p=1 then smalls ts f (acc++[leaf 15 (txt ts p)]) (p+1) else .ok acc p
def kindOf(s:Bs):Int :=
 if s=[116,121,112,101] then 2
 else if s=[99,111,110,115,116] then 3
 else if s=[112,114,101,100] then 4
 else if s=[102,97,99,116] then 5
 else if s=[108,97,115,116,105,110,103] then 6
 else if s=[109,111,100,101] then 7
 else if s=[114,117,108,101] then 8
 else if s=[111,110,99,101] then 9
 else if s=[109,111,115,116] then 10
 else if s=[113,117,101,114,121] then 11
 else if s=[109,111,100,117,108,101] then 12
 else if s=[117,115,101] then 13
 else if s=[101,120,112,111,114,116] then 14
 else 0
def behind(ts:List Tok)(f:Nat)(k:Int)(s:ByteArray)(p:Nat):PR Nd :=
 if k=4\/k=5\/k=6 then(match simples ts f [] p with
  | .bad q=>.bad q
  | .ok l q=>.ok (.mk k s l) q)
 else if k=7 then(match smalls ts f [] p with
  | .bad q=>.bad q
  | .ok l q=>.ok (.mk k s l) q)
 else if k=8\/k=9\/k=10\/k=11 then(if txt ts p=[58] then(match form ts f (p+1)with
  | .bad q=>.bad q
  | .ok a q=>.ok (.mk k s [a]) q) else .bad p)
 else .ok (.mk k s []) p
def itemB(ts:List Tok)(f:Nat)(k:Int)(p:Nat):PR Nd :=
 if k=2\/k=14 then(match names ts f p with
  | .bad q=>.bad q
  | .ok l q=>.ok (.mk k noS l) q)
 else if k=3 then(match names ts f p with
  | .bad q=>.bad q
  | .ok l q=>if txt ts q=[58] then(match typed ts f (q+1)with
   | .bad r=>.bad r
   | .ok t r=>.ok (.mk 3 noS (l++[t])) r) else .bad q)
 else(match small ts p with
  | .bad q=>.bad q
  | .ok (.mk _ s _) q=>behind ts f k s q)
def item(ts:List Tok)(f:Nat)(p:Nat):PR Nd :=
 if kindOf (txt ts p)=0 then .bad p
 else(match itemB ts f (kindOf (txt ts p)) (p+1)with
  | .bad q=>.bad q
  | .ok a q=>if txt ts q=[46] then .ok a (q+1) else .bad q)
def items(ts:List Tok):Nat->List Nd->Nat->PR (List Nd)
 |0,_,p=>.bad p
 |f+1,acc,p=>if p < ts.length then(match item ts f p with
   | .bad q=>.bad q
   | .ok a q=>items ts f (acc++[a]) q) else .ok acc p
def whole(ts:List Tok)(f:Nat)(what:Int):PR Nd :=
 if what=18 then form ts f 0
 else if what=17 then term ts f 0
 else if what=31 then typed ts f 0
 else(match items ts f [] 0 with
  | .bad q=>.bad q
  | .ok l q=>.ok (.mk 1 noS l) q)
def fuel(ts:List Tok):Nat:=16*ts.length+16
theorem txt_lt{ts:List Tok}{p:Nat}(h:txt ts p≠[]):p < ts.length:=by
 by_cases hp:p < ts.length
 ·exact hp
 ·exact absurd (by unfold txt;rw[List.getElem?_eq_none (by omega)]) h
theorem knd_lt{ts:List Tok}{p:Nat}(h:knd ts p≠0):p < ts.length:=by
 by_cases hp:p < ts.length
 ·exact hp
 ·exact absurd (by unfold knd;rw[List.getElem?_eq_none (by omega)]) h
theorem txt_at{ts:List Tok}{p:Nat}{s:Bs}(h:txt ts p=s)(hs:s≠[]:=by decide):p < ts.length:=txt_lt (by rw[h];exact hs)
theorem small_ok{ts:List Tok}{p q:Nat}{a:Nd}(h:small ts p = .ok a q):q=p+1/\q<=ts.length/\a=leaf 15 (txt ts p)/\knd ts p=1:=by
 unfold small at h
 split at h
 ·rename_i hk
  cases h;exact⟨rfl,knd_lt (by omega),rfl,hk⟩
 ·cases h
theorem nameA_ok{ts:List Tok}{p q:Nat}{a:Nd}(h:nameA ts p = .ok a q):q=p+1/\q<=ts.length:=by
 unfold nameA at h
 split at h
 ·rename_i hk
  cases h;exact⟨rfl,knd_lt (by omega)⟩
 ·split at h
  ·rename_i hk
   cases h;exact⟨rfl,knd_lt (by omega)⟩
  ·cases h
theorem sgn_lt{ts:List Tok}{b p:Nat}{k:Int}(h:sgn ts b p=some k):p < ts.length:=by
 unfold sgn at h
 repeat' (split at h)
 all_goals first
  |(cases h;done)
  |exact txt_at ‹_›
def Goes(ts:List Tok)(p:Nat){α:Type}(r:PR α):Prop:=∀ a q,r = .ok a q->p < q/\q<=ts.length
def Stays(ts:List Tok)(p:Nat){α:Type}(r:PR α):Prop:=p<=ts.length->∀ a q,r = .ok a q->p<=q/\q<=ts.length
theorem typed_goes(ts:List Tok):∀ f,(∀ p,Goes ts p (typed ts f p))/\(∀ p,Goes ts p (simple ts f p))
 |0=>⟨fun p a q h=>(by simp only[typed]at h;cases h),fun p a q h=>(by simp only[simple]at h;cases h)⟩
 |f+1=>by
  obtain⟨h1,h2⟩:=typed_goes ts f;refine⟨fun p a q h=>?_,fun p a q h=>?_⟩
  ·simp only[typed]at h
   split at h
   ·cases h
   ·rename_i a1 q1 e1
    have g1:=h2 p _ _ e1
    split at h
    ·split at h
     ·cases h
     ·rename_i a2 q2 e2
      have g2:=h1 _ _ _ e2
      cases h;omega
    ·cases h
     exact g1
  ·simp only[simple]at h
   split at h
   ·split at h
    ·cases h
    ·rename_i a1 q1 e1
     have g1:=h1 _ _ _ e1
     split at h
     ·rename_i e2
      have:=txt_at e2
      cases h;omega
     ·cases h
   ·have:=small_ok h
    omega
theorem binder_goes{ts:List Tok}{ty body:Nat->PR Nd}{k:Int}(h1:∀ p,Goes ts p (ty p))(h2:∀ p,Goes ts p (body p))(p:Nat):Goes ts p (binder ty body ts k p):=by
 intro a q h;unfold binder at h
 split at h
 ·cases h
 ·rename_i k1 s1 l1 q1 e1
  have g1:=nameA_ok e1
  split at h
  ·split at h
   ·cases h
   ·rename_i t r e2
    have g2:=h1 _ _ _ e2
    split at h
    ·split at h
     ·cases h
     ·rename_i b u e3
      have g3:=h2 _ _ _ e3
      cases h;omega
    ·cases h
  ·split at h
   ·split at h
    ·cases h
    ·rename_i b u e3
     have g3:=h2 _ _ _ e3
     cases h;omega
   ·cases h
theorem term_goes(ts:List Tok):∀ f,(∀ p,Goes ts p (term ts f p))/\(∀ acc p,Stays ts p (args ts f acc p))
 |0=>⟨fun p a q h=>(by simp only[term]at h;cases h),fun acc p _ a q h=>(by simp only[args]at h;cases h)⟩
 |f+1=>by
  obtain⟨h1,h2⟩:=term_goes ts f;refine⟨fun p a q h=>?_,fun acc p hp a q h=>?_⟩
  ·simp only[term]at h
   split at h
   ·have:=binder_goes (typed_goes ts f).1 h1 _ _ _ h
    omega
   ·split at h
    ·split at h
     ·cases h
     ·rename_i a1 q1 e1
      have g1:=h1 _ _ _ e1
      split at h
      ·rename_i e2
       have:=txt_at e2
       cases h;omega
      ·cases h
    ·split at h
     ·cases h
     ·rename_i k1 s1 l1 q1 e1
      have g1:=nameA_ok e1
      split at h
      ·cases h
      ·rename_i l r e2
       have g2:=h2 _ _ (by omega) _ _ e2
       cases h;omega
  ·simp only[args]at h
   split at h
   ·split at h
    ·cases h
    ·rename_i a1 q1 e1
     have g1:=h1 _ _ _ e1
     split at h
     ·rename_i e2
      have g2:=txt_at e2;have g3:=h2 _ _ (by omega) _ _ h;omega
     ·cases h
   ·split at h
    ·cases h
     omega
    ·rename_i a1 q1 e1
     have g1:=nameA_ok e1;have g3:=h2 _ _ (by omega) _ _ h;omega
theorem applied_goes(ts:List Tok)(f p:Nat):Goes ts p (applied ts f p):=by
 intro a q h;unfold applied at h
 split at h
 ·cases h
 ·rename_i k1 s1 l1 q1 e1
  have g1:=nameA_ok e1
  split at h
  ·cases h
  ·rename_i l r e2
   have g2:=(term_goes ts f).2 _ _ (by omega) _ _ e2
   cases h;omega
theorem form_goes(ts:List Tok):∀ f,(∀ p,Goes ts p (part ts f p))/\(∀ b p,Goes ts p (right ts f b p))/\(∀ p,Goes ts p (form ts f p))/\(∀ a p,Stays ts p (formR ts f a p))
 |0=>⟨fun p a q h=>(by simp only[part]at h;cases h),fun b p a q h=>(by simp only[right]at h;cases h),fun p a q h=>(by simp only[form]at h;cases h),fun b p _ a q h=>(by simp only[formR]at h;cases h)⟩
 |f+1=>by
  obtain⟨h1,h2,h3,h4⟩:=form_goes ts f;refine⟨fun p a q h=>?_,fun b p a q h=>?_,fun p a q h=>?_,fun b p hp a q h=>?_⟩
  ·simp only[part]at h
   split at h
   ·exact applied_goes ts f p _ _ h
   ·split at h
    ·split at h
     ·cases h
     ·rename_i a1 q1 e1
      have g1:=h1 _ _ _ e1
      cases h;omega
    ·split at h
     ·have:=binder_goes (typed_goes ts f).1 h3 _ _ _ h
      omega
     ·split at h
      ·have:=binder_goes (typed_goes ts f).1 h3 _ _ _ h
       omega
      ·split at h
       ·rename_i e
        have:=txt_at e
        cases h;omega
       ·split at h
        ·rename_i e
         have:=txt_at e
         cases h;omega
        ·split at h
         ·split at h
          ·cases h
          ·rename_i a1 q1 e1
           have g1:=h3 _ _ _ e1
           split at h
           ·rename_i e2
            have:=txt_at e2
            cases h;omega
           ·cases h
         ·split at h
          ·split at h
           ·cases h
           ·rename_i a1 q1 e1
            have g1:=h3 _ _ _ e1
            split at h
            ·rename_i e2
             have:=txt_at e2
             cases h;omega
            ·cases h
          ·cases h
  ·simp only[right]at h
   split at h
   ·exact h1 _ _ _ h
   ·split at h
    ·cases h
    ·rename_i a1 q1 e1
     have g1:=h2 _ _ _ _ e1
     split at h
     ·cases h
      exact g1
     ·split at h
      ·cases h
      ·rename_i a2 q2 e2
       have g2:=h2 _ _ _ _ e2
       cases h;omega
  ·simp only[form]at h
   split at h
   ·cases h
   ·rename_i a1 q1 e1
    have g1:=h2 _ _ _ _ e1;have g2:=h4 _ _ g1.2 _ _ h;omega
  ·simp only[formR]at h
   split at h
   ·cases h
    omega
   ·split at h
    ·cases h
    ·rename_i a2 q2 e2
     have g2:=h2 _ _ _ _ e2;have g3:=h4 _ _ g2.2 _ _ h;omega
end Sx
end Go.Proofs.YtkckddojlignpaaGreatDoor
namespace Go.Proofs.YtkckddojlignpaaGreatDoor
open Go.RowKit
structure PE where
 pb:Nat
 ts:List Lx.Tok
 a:Option Addr
 tb:Nat
 off:Nat
 cap:Nat
 en:Nat
 mi:Nat
 mp:Nat
def PE.pos(E:PE)(q:Nat):Nat:=match E.ts[q]? with|some t=>t.pos|none=>E.en
def xz(E:PE)(q:Nat):Value:=.iface 98 (.agg #[.int .i64 (E.pos q:Nat)])
def S_(l:List UInt8):Value:=.string ⟨l.toArray⟩
def openL:List (List UInt8×Int):=[([116,121,112,101],2),([101,120,112,111,114,116],14),([99,111,110,115,116],3),([112,114,101,100],4),([102,97,99,116],5),([108,97,115,116,105,110,103],6),([109,111,100,101],7),([114,117,108,101],8),([111,110,99,101],9),([109,111,115,116],10),([113,117,101,114,121],11),([109,111,100,117,108,101],12),([117,115,101],13),([33],29),([97,108,108],18),([101,120],19),([111,110,101],20),([116,111,112],21),([123],30),([92],17)]
def opsL:List (List UInt8×Int×Nat):=[([111,45],27,0),([60,61],28,0),([45,111],25,1),([61,62],26,1),([43],24,2),([38],23,3),([42],22,4),([45,62],31,6)]
def openArr:Array Value:=(openL.flatMap fun o=>[S_ o.1,.int .i64 o.2]).toArray
def opsArr:Array Value:=(opsL.flatMap fun o=>[S_ o.1,.int .i64 o.2.1,.int .i64 (o.2.2:Nat)]).toArray
structure GLw(w:World):Prop where
 g0:∃ t fr,w.heap[(0:Nat)]?=some (.cells openArr t fr)
 g1:∃ t fr,w.heap[(1:Nat)]?=some (.cells opsArr t fr)
theorem GLw.keep{w w':World}(h:GLw w)(he:∀ b,b < 2->b < w.heap.size->w'.heap[b]?=w.heap[b]?):GLw w':=by
 obtain⟨⟨t,fr,h0⟩,⟨u,gr,h1⟩⟩:=h;exact⟨⟨t,fr,(he 0 (by omega) (za h0)).trans h0⟩,⟨u,gr,(he 1 (by omega) (za h1)).trans h1⟩⟩
def StrMap(w:World)(b:Nat)(L:List (List UInt8×Value)):Prop:=∃ es clock,w.heap[b]?=some (.map es clock)/\es.toList.map (fun e=>(e.key,e.val))=L.map fun p=>(S_ p.1,p.2)
theorem StrMap.lt{w:World}{b:Nat}{L:List (List UInt8×Value)}(h:StrMap w b L):b < w.heap.size:=by
 obtain⟨es,c,h1,_⟩:=h;exact za h1
theorem StrMap.keep{w w':World}{b:Nat}{L:List (List UInt8×Value)}(h:StrMap w b L)(he:w'.heap[b]?=w.heap[b]?):StrMap w' b L:=by
 obtain⟨es,c,h1,h2⟩:=h;exact⟨es,c,he.trans h1,h2⟩
def F_(f:Nat):Value:=.func (.func f) #[] #[]
def ji:List (List UInt8×Value):=[([116,121,112,101],F_ 131),([101,120,112,111,114,116],F_ 131),([99,111,110,115,116],F_ 132),([112,114,101,100],F_ 133),([102,97,99,116],F_ 133),([108,97,115,116,105,110,103],F_ 133),([109,111,100,101],F_ 134),([114,117,108,101],F_ 135),([111,110,99,101],F_ 135),([109,111,115,116],F_ 135),([113,117,101,114,121],F_ 135),([109,111,100,117,108,101],F_ 136),([117,115,101],F_ 136)]
def vw:List (List UInt8×Value):=[([33],F_ 137),([97,108,108],F_ 138),([101,120],F_ 138),([111,110,101],F_ 139),([116,111,112],F_ 139),([123],F_ 140),([40],F_ 141)]
structure PG(E:PE)(w:World):Prop where
 few:E.ts.length<=6000
 small:∀ t∈E.ts,t.text.length<=40/\t.pos<=20000/\t.kind<=4
 endS:E.en<=20000
 ha:E.ts≠[]->E.a=some ⟨E.tb,E.off,none⟩
 hb:E.ts≠[]->E.tb≠E.pb
 hc:E.ts.length<=E.cap
 c0:∀ i (hi:i < E.ts.length),w.cell? ⟨E.tb,E.off+i*3,none⟩=some (.int .i64 (E.ts[i].kind:Nat))
 c1:∀ i (hi:i < E.ts.length),w.cell? ⟨E.tb,E.off+i*3+1,none⟩=some (.string (Sx.str E.ts[i].text))
 c2:∀ i (hi:i < E.ts.length),w.cell? ⟨E.tb,E.off+i*3+2,none⟩=some (.int .i64 (E.ts[i].pos:Nat))
 hp:2<=E.pb
 gl:GLw w
 hmi:E.mi≠E.pb
 hmp:E.mp≠E.pb
 mi:StrMap w E.mi ji
 mp:StrMap w E.mp vw
def PE.row(E:PE)(q:Nat):Array Value:=#[.slice E.a E.ts.length E.cap,.int .i64 (q:Nat),.int .i64 (E.en:Nat),.map (some E.mi),.map (some E.mp)]
structure PS(E:PE)(q:Nat)(w:World):Prop where
 row:w.heap[E.pb]?=some (.cells (E.row q) 103 (0,0))
 le:q<=E.ts.length
 g:PG E w
theorem PS.lt{E:PE}{q:Nat}{w:World}(h:PS E q w):E.pb < w.heap.size:=za h.row
theorem PG.keep{E:PE}{w w':World}(h:PG E w)(he:∀ b,b < w.heap.size->b≠E.pb->w'.heap[b]?=w.heap[b]?):PG E w':=by
 have hc:∀ i,i < E.ts.length->∀ p,w'.cell? ⟨E.tb,p,none⟩=w.cell? ⟨E.tb,p,none⟩:=fun i hi p =>
  World.cell?_of_block (w:=w) (he E.tb (qg (h.c0 i hi)) (h.hb (fun e=>by rw[e]at hi;simp at hi)))
 exact⟨h.few,h.small,h.endS,h.ha,h.hb,h.hc,fun i hi=>(hc i hi _).trans (h.c0 i hi),fun i hi=>(hc i hi _).trans (h.c1 i hi),fun i hi=>(hc i hi _).trans (h.c2 i hi),h.hp,h.gl.keep (fun b hb hl=>he b hl (by have:=h.hp;omega)),h.hmi,h.hmp,h.mi.keep (he _ h.mi.lt h.hmi),h.mp.keep (he _ h.mp.lt h.hmp)⟩
def Mv(E:PE)(q':Nat)(w w':World):Prop:=Below w.heap.size (w.setCell ⟨E.pb,1,none⟩ (.int .i64 (q':Nat))) w'
theorem qq(w:World)(p:Addr)(u:Value):(w.setCell p u).heap.size=w.heap.size:=by simp[World.setCell]
theorem xl{w:World}{b o:Nat}{u:Value}{cs:Array Value}{t:TypeId}(h:w.heap[b]?=some (.cells cs t (0,0))):(w.setCell ⟨b,o,none⟩ u).heap[b]?=some (.cells (cs.setIfInBounds o u) t (0,0)):=by
 simp[World.setCell,Array.getElem?_modify,h]
theorem Mv.size{E:PE}{q':Nat}{w w':World}(h:Mv E q' w w'):w.heap.size<=w'.heap.size:=by
 have:=Below.size h
 rwa [qq]at this
theorem Mv.blk{E:PE}{q':Nat}{w w':World}(h:Mv E q' w w')(b:Nat)(hb:b < w.heap.size)(hne:b≠E.pb):w'.heap[b]?=w.heap[b]? :=
 (Below.block h b hb).trans (Below.heap_setCell _ _ _ _ hne)
theorem Mv.row{E:PE}{q q':Nat}{w w':World}(h:Mv E q' w w')(hp:PS E q w):w'.heap[E.pb]?=some (.cells (E.row q') 103 (0,0)):=by
 rw[Below.block h E.pb hp.lt,xl hp.row];rfl
theorem Mv.ps{E:PE}{q q':Nat}{w w':World}(h:Mv E q' w w')(hp:PS E q w)(hq:q'<=E.ts.length):PS E q' w' :=
 ⟨h.row hp,hq,hp.g.keep fun b hb hne=>h.blk b hb hne⟩
theorem Mv.of{E:PE}{q q':Nat}{w w':World}(hp:PS E q w)(h1:w'.os=w.os)(h2:w'.tape=w.tape)(h3:w'.output=w.output)(h4:w.heap.size<=w'.heap.size)(h5:∀ b,b < w.heap.size->b≠E.pb->w'.heap[b]?=w.heap[b]?)
  (h6:w'.heap[E.pb]?=some (.cells (E.row q') 103 (0,0))):Mv E q' w w' :=
 ⟨h1,h2,h3,by rw[qq];exact h4,fun k hk=>by
  by_cases hkp:k=E.pb
  ·subst hkp
   rw[h6,xl hp.row];rfl
  ·exact(h5 k hk hkp).trans (Below.heap_setCell _ _ _ _ hkp).symm⟩
theorem Mv.os'{E:PE}{q':Nat}{w w':World}(h:Mv E q' w w'):w'.os=w.os:=by
 have h':Below w.heap.size (w.setCell ⟨E.pb,1,none⟩ (.int .i64 (q':Nat))) w':=h;exact h'.os
theorem Mv.tape'{E:PE}{q':Nat}{w w':World}(h:Mv E q' w w'):w'.tape=w.tape:=by
 have h':Below w.heap.size (w.setCell ⟨E.pb,1,none⟩ (.int .i64 (q':Nat))) w':=h;exact h'.tape
theorem Mv.output'{E:PE}{q':Nat}{w w':World}(h:Mv E q' w w'):w'.output=w.output:=by
 have h':Below w.heap.size (w.setCell ⟨E.pb,1,none⟩ (.int .i64 (q':Nat))) w':=h;exact h'.output
theorem Mv.below{E:PE}{q:Nat}{w w':World}(hp:PS E q w)(h:Below w.heap.size w w'):Mv E q w w' :=
 Mv.of hp h.os h.tape h.output h.size (fun b hb _=>h.block b hb) ((h.block _ hp.lt).trans hp.row)
theorem Mv.trans{E:PE}{q q1 q2:Nat}{w w1 w2:World}(hp:PS E q w)(h1:Mv E q1 w w1)(hq:q1<=E.ts.length)(h2:Mv E q2 w1 w2):Mv E q2 w w2 :=
 Mv.of hp (h2.os'.trans h1.os') (h2.tape'.trans h1.tape') (h2.output'.trans h1.output') (ql h1.size h2.size)
  (fun b hb hne=>(h2.blk b (qs hb h1.size) hne).trans (h1.blk b hb hne)) (h2.row (h1.ps hp hq))
theorem Mv.later{E:PE}{q':Nat}{w w1 w2:World}(h1:Mv E q' w w1)(h2:Below w.heap.size w1 w2):Mv E q' w w2:=Below.trans h1 h2
theorem Mv.before{E:PE}{q q':Nat}{w w1 w2:World}(hp:PS E q w)(h1:Below w.heap.size w w1)(h2:Mv E q' w1 w2):Mv E q' w w2 :=
 Mv.of hp (h2.os'.trans h1.os) (h2.tape'.trans h1.tape) (h2.output'.trans h1.output) (ql h1.size h2.size)
  (fun b hb hne=>(h2.blk b (qs hb h1.size) hne).trans (h1.block b hb)) (h2.row (q:=q) ((Mv.below hp h1).ps hp hp.le))
theorem PS.later{E:PE}{q:Nat}{w w':World}(hp:PS E q w)(h:Below w.heap.size w w'):PS E q w':=(Mv.below hp h).ps hp hp.le
theorem NdS.step{E:PE}{q':Nat}{h:Nat}{w w':World}(hm:Mv E q' w w')(hb:E.pb < h){t:Nd}{v0 v1 v2:Value}(hn:NdS (fun b=>h<=b) w t v0 v1 v2):NdS (fun b=>h<=b) w' t v0 v1 v2 :=
 hn.keep fun b h1 h2=>⟨hm.blk b h2 (by omega),h1⟩
theorem NdS.from{h h':Nat}{w:World}(hh:h'<=h){t:Nd}{v0 v1 v2:Value}(hn:NdS (fun b=>h<=b) w t v0 v1 v2):NdS (fun b=>h'<=b) w t v0 v1 v2:=hn.mono fun _b h1 _=>ql hh h1
theorem Kids.step{E:PE}{q':Nat}{h:Nat}{w w':World}(hm:Mv E q' w w')(hb:E.pb < h){v:Value}{l:List Nd}(hn:Kids h w v l):Kids h w' v l :=
 hn.keep fun b h1 h2=>hm.blk b h2 (by omega)
def Gr(E:PE)(w:World)(r:Sx.PR Nd)(e:Ending)(w':World):Prop :=
 match r with
 | .ok (.mk k s l) q=>(∃ a cap,e = .returned (.agg #[.int .i64 k,.string s,.slice a l.length cap])/\NdS (fun b=>w.heap.size<=b) w' (.mk k s l) (.int .i64 k) (.string s) (.slice a l.length cap))/\Mv E q w w'/\q<=E.ts.length
 | .bad q=>e = .panicked [{ v:=xz E q,recovered:=false }]/\Mv E q w w'/\q<=E.ts.length
theorem q1t(E:PE){w:World}(h:PG E w)(q:Nat):(Sx.str (Sx.txt E.ts q)).size<=maxLen:=by
 unfold Sx.txt maxLen
 cases ht:E.ts[q]? with
 |none=>decide
 |some t =>
  have:=(h.small t (List.mem_of_getElem? ht)).1;simp only[Sx.str]
  show t.text.toArray.size<=_
  simp;omega
theorem qqm{E:PE}{q:Nat}(h:q < E.ts.length):E.pos q=E.ts[q].pos:=by unfold PE.pos;rw[qj h]
theorem qou{E:PE}{q:Nat}(h:E.ts.length<=q):E.pos q=E.en:=by unfold PE.pos;rw[List.getElem?_eq_none h]
theorem qol{ts:List Lx.Tok}{q:Nat}(h:q < ts.length):Sx.txt ts q=ts[q].text:=by unfold Sx.txt;rw[qj h]
theorem qp5{ts:List Lx.Tok}{q:Nat}(h:q < ts.length):Sx.knd ts q=ts[q].kind:=by unfold Sx.knd;rw[qj h]
theorem qfu{ts:List Lx.Tok}{q:Nat}(h:ts.length<=q):Sx.txt ts q=[]:=by unfold Sx.txt;rw[List.getElem?_eq_none h]
theorem qp6{ts:List Lx.Tok}{q:Nat}(h:ts.length<=q):Sx.knd ts q=0:=by unfold Sx.knd;rw[List.getElem?_eq_none h]
end Go.Proofs.YtkckddojlignpaaGreatDoor
namespace Go.Proofs.YtkckddojlignpaaGreatDoor
open Go.ChangeShapes Go.WideShapes Go.ChangeAt Go.RowKit
theorem q5k(k:Nat):∀ (L:List (List Value)) (cs:List Value),(∀ x∈L,x.length=k)->cs.length=L.length*k->(∀ i,(h:i < L.length)->(cs.drop (i*k)).take k=L[i])->cs=L.flatten
 |[],cs,_,hl,_=>by
  have:cs=[]:=List.eq_nil_of_length_eq_zero (by simpa using hl);rw[this];rfl
 |x :: L,cs,hk,hl,h=>by
  have h0:=h 0 (by simp);simp only[Nat.zero_mul,List.drop_zero,zo]at h0
  have ih:=q5k k L (cs.drop k) (fun y hy=>hk y (by simp[hy])) (by
   rw[List.length_drop,hl,qi,Nat.succ_mul]
   omega) (fun i hi=>by
   have:=h (i+1) (by simpa using hi);rw[zy]at this
   rw[List.drop_drop,<-this,Nat.succ_mul,Nat.add_comm])
  rw[List.flatten_cons,<-ih,<-h0,List.take_append_drop]
section
variable {H:Type} {enc:TypeId×Value->H} {w:World} {base fuel:Nat} {sp:Nat->Bool} {hd:Bool} {cs:List Value} {x:DataW H×List MemPlace}
theorem q9j{s:List UInt8}(h:DataW.trod enc Tryz.prog w base sp hd fuel 9 cs=some x)(hx:x.1 = .lit (.string s)):cs=[S_ s]:=by
 obtain⟨s',rfl,rfl,_⟩:=DataW.trod_string Tryz.underlying9 h;simp only[DataW.lit.injEq,Lit.string.injEq]at hx;subst hx;rfl
theorem qao{n:Int}(h:DataW.trod enc Tryz.prog w base sp hd fuel 3 cs=some x)(hx:x.1 = .lit (.int .i64 n)):cs=[.int .i64 n]:=by
 obtain⟨m,rfl,rfl,_⟩:=DataW.trod_int Tryz.underlying3 h;simp only[DataW.lit.injEq,Lit.int.injEq,true_and]at hx;subst hx;rfl
theorem qdj{s:List UInt8}{n:Int}(h:DataW.trod enc Tryz.prog w base sp hd fuel 160 cs=some x)(hx:x.1 = .agg [.lit (.string s),.lit (.int .i64 n)]):cs=[S_ s,.int .i64 n]:=by
 obtain⟨xs,m,_,rfl,hl,hxs,hf⟩:=DataW.trod_struct Tryz.underlying160 h;have c:Tryz.prog.cellsOf 160=2:=by kernel_rfl
 have c9:Tryz.prog.cellsOf 9=1:=by kernel_rfl
 have c3:Tryz.prog.cellsOf 3=1:=by kernel_rfl
 rw[c]at hl;have f0:DataW.trod enc Tryz.prog w base sp hd m 9 ((cs.drop 0).take (Tryz.prog.cellsOf 9))=xs[0]?:=hf 0 _ rfl;have f1:DataW.trod enc Tryz.prog w base sp hd m 3 ((cs.drop 1).take (Tryz.prog.cellsOf 3))=xs[1]?:=hf 1 _ rfl;rw[c9]at f0;rw[c3]at f1
 match xs,hxs,hx,f0,f1 with
 |[x0,x1],_,hx,f0,f1 =>
  simp only[List.map_cons,List.map_nil,DataW.agg.injEq,List.cons.injEq,and_true]at hx;have e0:=q9j f0 hx.1;have e1:=qao f1 hx.2
  match cs,hl,e0,e1 with
  |[a,b],_,e0,e1 =>
   simp at e0 e1;rw[e0,e1]
theorem qc3{s:List UInt8}{n b:Int}(h:DataW.trod enc Tryz.prog w base sp hd fuel 163 cs=some x)(hx:x.1 = .agg [.lit (.string s),.lit (.int .i64 n),.lit (.int .i64 b)]):cs=[S_ s,.int .i64 n,.int .i64 b]:=by
 obtain⟨xs,m,_,rfl,hl,hxs,hf⟩:=DataW.trod_struct Tryz.underlying163 h;have c:Tryz.prog.cellsOf 163=3:=by kernel_rfl
 have c9:Tryz.prog.cellsOf 9=1:=by kernel_rfl
 have c3:Tryz.prog.cellsOf 3=1:=by kernel_rfl
 rw[c]at hl;have f0:DataW.trod enc Tryz.prog w base sp hd m 9 ((cs.drop 0).take (Tryz.prog.cellsOf 9))=xs[0]?:=hf 0 _ rfl;have f1:DataW.trod enc Tryz.prog w base sp hd m 3 ((cs.drop 1).take (Tryz.prog.cellsOf 3))=xs[1]?:=hf 1 _ rfl;have f2:DataW.trod enc Tryz.prog w base sp hd m 3 ((cs.drop 2).take (Tryz.prog.cellsOf 3))=xs[2]?:=hf 2 _ rfl;rw[c9]at f0;rw[c3]at f1 f2
 match xs,hxs,hx,f0,f1,f2 with
 |[x0,x1,x2],_,hx,f0,f1,f2 =>
  simp only[List.map_cons,List.map_nil,DataW.agg.injEq,List.cons.injEq,and_true]at hx;have e0:=q9j f0 hx.1;have e1:=qao f1 hx.2.1;have e2:=qao f2 hx.2.2
  match cs,hl,e0,e1,e2 with
  |[a,b,c],_,e0,e1,e2 =>
   simp at e0 e1 e2;rw[e0,e1,e2]
theorem qc4(h:DataW.trod enc Tryz.prog w base sp hd fuel 161 cs=some x)(hx:x.1 = .agg (openL.map fun o=>.agg [.lit (.string o.1),.lit (.int .i64 o.2)])):cs=openArr.toList:=by
 obtain⟨xs,m,_,rfl,hl,hxs,hel⟩:=DataW.trod_array Tryz.underlying161 h;have c:Tryz.prog.cellsOf 160=2:=by kernel_rfl
 have cA:Tryz.prog.cellsOf 161=40:=by kernel_rfl
 rw[cA]at hl;simp only[DataW.agg.injEq]at hx;have e:openArr.toList=(openL.map fun o=>[S_ o.1,Value.int .i64 o.2]).flatten:=by kernel_rfl
 have len:openL.length=20:=by kernel_rfl
 rw[e];refine q5k 2 _ cs (by intro y hy;obtain⟨o,_,rfl⟩:=List.mem_map.1 hy;rfl) (by rw[hl,qv,len]) (fun i hi=>?_);have hi':i < openL.length:=by simpa using hi
 have hE:=hel i (by omega);rw[c]at hE;have hxi:xs[i]?=some (xs[i]'(by omega)):=qj (by omega);rw[hxi]at hE;rw[List.getElem_map];refine qdj hE ?_;have:=congrArg (fun l=>l[i]?) hx;simp only[List.getElem?_map,hxi,qj hi',Option.map_some,Option.some.injEq]at this;exact this
theorem qaj(h:DataW.trod enc Tryz.prog w base sp hd fuel 164 cs=some x)(hx:x.1 = .agg (opsL.map fun o=>.agg [.lit (.string o.1),.lit (.int .i64 o.2.1),.lit (.int .i64 (o.2.2:Nat))])):cs=opsArr.toList:=by
 obtain⟨xs,m,_,rfl,hl,hxs,hel⟩:=DataW.trod_array Tryz.underlying164 h;have c:Tryz.prog.cellsOf 163=3:=by kernel_rfl
 have cA:Tryz.prog.cellsOf 164=24:=by kernel_rfl
 rw[cA]at hl;simp only[DataW.agg.injEq]at hx;have e:opsArr.toList=(opsL.map fun o=>[S_ o.1,Value.int .i64 o.2.1,Value.int .i64 (o.2.2:Nat)]).flatten:=by kernel_rfl
 have len:opsL.length=8:=by kernel_rfl
 rw[e];refine q5k 3 _ cs (by intro y hy;obtain⟨o,_,rfl⟩:=List.mem_map.1 hy;rfl) (by rw[hl,qv,len]) (fun i hi=>?_);have hi':i < opsL.length:=by simpa using hi
 have hE:=hel i (by omega);rw[c]at hE;have hxi:xs[i]?=some (xs[i]'(by omega)):=qj (by omega);rw[hxi]at hE;rw[List.getElem_map];refine qc3 hE ?_;have:=congrArg (fun l=>l[i]?) hx;simp only[List.getElem?_map,hxi,qj hi',Option.map_some,Option.some.injEq]at this;exact this
end
theorem qkl:ownKnob Tryz.prog.godebug=none:=by kernel_rfl
theorem gOpen : Tryz.prog.globalNamed "peculium/syntax.openings" = some 0 := by kernel_rfl
theorem gOps : Tryz.prog.globalNamed "peculium/syntax.operators" = some 1 := by kernel_rfl
theorem tOpen:(Tryz.prog.globals[0]?).map (·.type)=some 161:=by kernel_rfl
theorem tOps:(Tryz.prog.globals[1]?).map (·.type)=some 164:=by kernel_rfl
theorem q96{W:World}{n:String}{g:Nat}{cs:Array Value}(hg:Tryz.prog.globalNamed n=some g)(h:W.var? Tryz.prog n=some cs):∃ t fr,W.heap[g]?=some (.cells cs t fr):=by
 simp only[World.var?,hg,Option.bind_some]at h
 split at h
 ·rename_i c t fr e
  cases h;exact⟨t,fr,e⟩
 ·cases h
def yf : List (String × DataW Unit) := [("unicode/utf8.acceptRanges", Rows.laid_unicode_utf8_acceptRanges), ("peculium/syntax.openings", Rows.laid_peculium_syntax_openings), ("peculium/syntax.operators", Rows.laid_peculium_syntax_operators), ("unicode/utf8.first", Rows.laid_unicode_utf8_first)]
theorem qdl{W:World}(h:laidMetH Tryz.prog yf W):GLw W/\2<=W.heap.size:=by
 rw[MakeChecks.laidMetH_plain _ _ _ (by kernel_rfl)]at h;obtain⟨ps,⟨_,_,_,_,_,_,_,_,_,_,⟨g0,t0,cs0,f0,p0,q0,hg0,ht0,hv0,hd0,⟨g1,t1,cs1,f1,p1,q1,hg1,ht1,hv1,hd1,_,_⟩,_⟩,_⟩,_,_⟩:=h;obtain rfl:=zc (gOpen.symm.trans hg0);obtain rfl:=zc (gOps.symm.trans hg1);obtain rfl:=zc (tOpen.symm.trans ht0);obtain rfl:=zc (tOps.symm.trans ht1);have e0:=qc4 hd0 rfl;have e1:=qaj hd1 rfl;obtain⟨u0,r0,k0⟩:=q96 hg0 hv0;obtain⟨u1,r1,k1⟩:=q96 hg1 hv1;rw[show cs0=openArr from Array.toList_inj.1 e0]at k0;rw[show cs1=opsArr from Array.toList_inj.1 e1]at k1;exact⟨⟨⟨u0,r0,k0⟩,⟨u1,r1,k1⟩⟩,by have:=za k1;omega⟩
theorem qgr(os:Os)(args:Array Value):laidMetH Tryz.prog yf ((World.laidAll Tryz.prog os yf).forCall (fun _ _=>0) ⟨#[],args,[]⟩).memory:=by
 rw[MakeChecks.laidMetH_plain _ _ _ (by kernel_rfl)];exact laidMet_laidAll _ (by kernel_rfl) (by kernel_rfl)
end Go.Proofs.YtkckddojlignpaaGreatDoor
namespace Go.Proofs.YtkckddojlignpaaGreatDoor
open Go.RowKit
section
variable {P:Program} {w:World} {ops:Array Oper} {rest:List Oper} {o:Oper} {a:Act} {Q:Exit->Act->World->Prop}
theorem ym(hg:o.guard=none)(t:TypeId)(g:Nat)(ho:o.op=Op.load t (Operand.global g)){v:Value}(hrun:(loadVar t ⟨g,0,none⟩).run P w = .ok v w)
  (hK:wpList P ops Q rest (a.put o.dst v) w):wpList P ops Q (o :: rest) a w:=by
 refine wpList_plain hg fun K' hK'=>?_
 unfold Oper.wp;simp[execOp,ho,Act.eval,Instr.loadAt,Instr.sureAddr,hrun,Result.andThen];exact hK' _ _ hK
theorem xi(hg:o.guard=none)(t:TypeId)(x i:Operand)(ho:o.op=Op.index t x i){u j v:Value}(hx:a.eval x=u)(hi:a.eval i=j)(hrun:(Instr.index t u j).run P w = .ok v w)
  (hK:wpList P ops Q rest (a.put o.dst v) w):wpList P ops Q (o :: rest) a w:=by
 refine wpList_plain hg fun K' hK'=>?_
 unfold Oper.wp;simp[execOp,ho,hx,hi,hrun,Result.andThen];exact hK' _ _ hK
end
def js(L:List (List UInt8×Value))(t:List UInt8):Option Value:=(L.find? fun p=>p.1==t).map (·.2)
theorem qe9(a b:List UInt8):((⟨a.toArray⟩:ByteArray)==⟨b.toArray⟩)=(a==b):=by
 show(a.toArray==b.toArray)=_
 simp
theorem q3b{P:Program}(w:World)(e:Bool){k:TypeId}(hk:P.underlying k=some .string)(s:ByteArray):(Instr.checkKey e 10000 k (.string s)).run P w = .ok () w:=by
 rw[show(10000:Nat)=9999+1 from rfl,Instr.checkKey];simp[run_underlying hk]
theorem q27(t:List UInt8):∀ (es:List MapEntry) (L:List (List UInt8×Value)) (i:Nat),es.map (fun e=>(e.key,e.val))=L.map (fun p=>(S_ p.1,p.2)) ->
  ∃ r,Instr.findNow .string (S_ t) es i=some r/\r.map (·.2)=js L t
 |[],[],i,_=>⟨none,rfl,rfl⟩
 |[],_ :: _,_,h=>by simp at h
 |_ :: _,[],_,h=>by simp at h
 |e :: es,(k,v) :: L,i,h=>by
  simp only[List.map_cons,List.cons.injEq,Prod.mk.injEq]at h;obtain⟨⟨hk,hv⟩,ht⟩:=h;obtain⟨r,h1,h2⟩:=q27 t es L (i+1) ht
  by_cases hc:k=t
  ·subst hc
   refine⟨some (i,v),?_,?_⟩
   ·have h3:((⟨k.toArray⟩:ByteArray)==⟨k.toArray⟩)=true:=by rw[qe9];simp
    simp only[Instr.findNow,hk,S_,Instr.sameNow,h3,hv]
   ·simp[js]
  ·have h3:((⟨t.toArray⟩:ByteArray)==⟨k.toArray⟩)=false:=by rw[qe9,q9];exact fun e=>hc e.symm
   have h4:(k==t)=false:=by rw[q9];exact hc
   refine⟨r,?_,?_⟩
   ·simp only[Instr.findNow,hk,S_,Instr.sameNow,h3]
    exact h1
   ·rw[h2]
    simp[js,h4]
section
variable {P:Program} {w:World}
theorem qae{t k e:TypeId}(ht:P.underlying t=some (.map k e))(hk:P.underlying k=some .string){z:Value}(hz:(zeroValue e).run P w = .ok z w){b:Nat}{L:List (List UInt8×Value)}(hm:StrMap w b L)(s:List UInt8) :
  (Instr.lookup t (.map (some b)) (S_ s) true).run P w = .ok (.tuple #[(js L s).getD z,.bool (js L s).isSome]) w:=by
 obtain⟨es,c,h1,h2⟩:=hm;obtain⟨r,h3,h4⟩:=q27 s es.toList L 0 h2;unfold S_ at h3 ⊢
 cases r with
 |none =>
  have h5:js L s=none:=by rw[<-h4];rfl
  simp[Instr.lookup,run_underlying ht,MapKept.run_getObj_map h1,q3b,hk,run_underlying hk,Instr.findKey,h3,hz,Result.andThen,h5]
 |some p =>
  have h5:js L s=some p.2:=by rw[<-h4];rfl
  simp[Instr.lookup,run_underlying ht,MapKept.run_getObj_map h1,q3b,hk,run_underlying hk,Instr.findKey,h3,Result.andThen,h5]
theorem q3y{t k e:TypeId}(ht:P.underlying t=some (.map k e))(hk:P.underlying k=some .string){b:Nat}{L:List (List UInt8×Value)}(hm:StrMap w b L)(s:List UInt8)(v:Value)(hs:js L s=none) :
  ∃ w',(Instr.mapUpdate t (.map (some b)) (S_ s) v).run P w = .ok () w'/\StrMap w' b (L++[(s,v)])/\w'.heap.size=w.heap.size/\w'.os=w.os/\w'.tape=w.tape/\w'.output=w.output/\∀ j,j≠b->w'.heap[j]?=w.heap[j]?:=by
 obtain⟨es,c,h1,h2⟩:=hm;obtain⟨r,h3,h4⟩:=q27 s es.toList L 0 h2
 have hr:r=none:=by
  cases r with
  |none=>rfl
  |some p=>rw[hs]at h4;cases h4
 subst hr;unfold S_ at h3;refine⟨w.putObj b (.map (es.push { key:=S_ s,val:=v,born:=c }) (c+1)),?_,⟨_,_,World.putObj_heap_same (za h1),?_⟩,World.putObj_size,rfl,rfl,rfl,fun j hj=>World.putObj_heap_other hj⟩
 ·simp[Instr.mapUpdate,S_,run_underlying ht,MapKept.run_getObj_map h1,MapKept.run_setObj_map _ h1,World.putObj,q3b,hk,run_underlying hk,Instr.findKey,h3,Result.andThen]
 ·simp[h2]
end
section
variable {P:Program} {w:World} {ops:Array Oper} {rest:List Oper} {o:Oper} {a:Act} {Q:Exit->Act->World->Prop}
theorem q2s(hg:o.guard=none)(m x:Operand)(t:TypeId)(ho:o.op=Op.lookup t m x true){k e:TypeId}(ht:P.underlying t=some (.map k e))(hk:P.underlying k=some .string){z:Value}(hz:(zeroValue e).run P w = .ok z w)
  {b:Nat} {L:List (List UInt8×Value)} (hM:a.eval m = .map (some b)) (hm:StrMap w b L) (s:List UInt8) (hx:a.eval x=S_ s)
  (hK:wpList P ops Q rest (a.put o.dst (.tuple #[(js L s).getD z,.bool (js L s).isSome])) w):wpList P ops Q (o :: rest) a w:=by
 refine wpList_plain hg fun K' hK'=>?_
 unfold Oper.wp;simp[execOp,ho,hM,hx,qae ht hk hz hm s,Result.andThen];exact hK' _ _ hK
theorem q7h(hg:o.guard=none)(m x v:Operand)(t:TypeId)(ho:o.op=Op.insert t m x v){k e:TypeId}(ht:P.underlying t=some (.map k e))(hk:P.underlying k=some .string)
  {b:Nat} {L:List (List UInt8×Value)} (hM:a.eval m = .map (some b)) (hm:StrMap w b L) (s:List UInt8) (hx:a.eval x=S_ s) {u:Value} (hv:a.eval v=u) (hs:js L s=none)
  (hK:∀ w',StrMap w' b (L++[(s,u)])->w'.heap.size=w.heap.size->w'.os=w.os->w'.tape=w.tape->w'.output=w.output->(∀ j,j≠b->w'.heap[j]?=w.heap[j]?)->wpList P ops Q rest a w') (hd:o.dst=none):wpList P ops Q (o :: rest) a w:=by
 refine wpList_plain hg fun K' hK'=>?_
 obtain⟨w',hrun,h1,h2,h3,h4,h5,h6⟩:=q3y (P:=P) ht hk hm s u hs;unfold Oper.wp;simp[execOp,ho,hM,hx,hv,hrun,Result.andThen]
 first
  |exact hK' _ _ (hK w' h1 h2 h3 h4 h5 h6)
  |(have:=hK' _ _ (hK w' h1 h2 h3 h4 h5 h6);simpa[hd,Act.put,Oper.upon]using this)
end
section
variable {P:Program} {w w0:World} {ops:Array Oper} {rest:List Oper} {o:Oper} {a:Act} {Q:Exit->Act->World->Prop}
theorem zm(hg:o.guard=none)(m x v:Operand)(t:TypeId)(ho:o.op=Op.insert t m x v){k e:TypeId}(ht:P.underlying t=some (.map k e))(hk:P.underlying k=some .string)
  {b:Nat} {L:List (List UInt8×Value)} (hM:a.eval m = .map (some b)) (hm:StrMap w b L) {B:Nat} (hB:B<=b) (hb:Below B w0 w) (s:List UInt8) (hx:a.eval x=S_ s) {u:Value} (hv:a.eval v=u) (hs:js L s=none) (hd:o.dst=none)
  (hK:∀ w',StrMap w' b (L++[(s,u)])->Below B w0 w'->wpList P ops Q rest a w'):wpList P ops Q (o :: rest) a w :=
 q7h hg m x v t ho ht hk hM hm s hx hv hs (fun w' h1 h2 h3 h4 h5 h6=>hK w' h1 (hb.trans ⟨h3,h4,h5,Nat.le_of_eq h2.symm,fun j hj=>h6 j (by have:=hb.size;omega)⟩)) hd
theorem q7m(w:World):StrMap (w.alloc (.map #[] 0)) w.heap.size []:=⟨#[],0,by show(w.heap.push _)[w.heap.size]?=_;simp,by simp⟩
end
theorem q2y(w:World):Calls Tryz.prog 79 #[] w fun e w'=>e = .returned (.map (some w.heap.size))/\StrMap w' w.heap.size ji/\Below w.heap.size w w':=by
 have hmm:=@run_makeMap Tryz.prog;have m0:=qh (q7m w);have b0:=qh ((Below.refl w.heap.size w).alloc (q5 _) (.map #[] 0));go_enter Tryz.func79,Tryz.ntmps79
 go_wp2_with (first
  |(refine zm (by rfl) _ _ _ _ (by rfl) Tryz.underlying100 Tryz.underlying9 (by rfl) m0.out (q5 _) b0.out [116,121,112,101] (by rfl) (u:=F_ 131) (by rfl) (by rfl) (by rfl) ?_;intro w1 m b;have m1:=qh m;have b1:=qh b;clear m b m0 b0)
  |(refine zm (by rfl) _ _ _ _ (by rfl) Tryz.underlying100 Tryz.underlying9 (by rfl) m1.out (q5 _) b1.out [101,120,112,111,114,116] (by rfl) (u:=F_ 131) (by rfl) (by rfl) (by rfl) ?_;intro w2 m b;have m2:=qh m;have b2:=qh b;clear m b m1 b1)
  |(refine zm (by rfl) _ _ _ _ (by rfl) Tryz.underlying100 Tryz.underlying9 (by rfl) m2.out (q5 _) b2.out [99,111,110,115,116] (by rfl) (u:=F_ 132) (by rfl) (by rfl) (by rfl) ?_;intro w3 m b;have m3:=qh m;have b3:=qh b;clear m b m2 b2)
  |(refine zm (by rfl) _ _ _ _ (by rfl) Tryz.underlying100 Tryz.underlying9 (by rfl) m3.out (q5 _) b3.out [112,114,101,100] (by rfl) (u:=F_ 133) (by rfl) (by rfl) (by rfl) ?_;intro w4 m b;have m4:=qh m;have b4:=qh b;clear m b m3 b3)
  |(refine zm (by rfl) _ _ _ _ (by rfl) Tryz.underlying100 Tryz.underlying9 (by rfl) m4.out (q5 _) b4.out [102,97,99,116] (by rfl) (u:=F_ 133) (by rfl) (by rfl) (by rfl) ?_;intro w5 m b;have m5:=qh m;have b5:=qh b;clear m b m4 b4)
  |(refine zm (by rfl) _ _ _ _ (by rfl) Tryz.underlying100 Tryz.underlying9 (by rfl) m5.out (q5 _) b5.out [108,97,115,116,105,110,103] (by rfl) (u:=F_ 133) (by rfl) (by rfl) (by rfl) ?_;intro w6 m b;have m6:=qh m;have b6:=qh b;clear m b m5 b5)
  |(refine zm (by rfl) _ _ _ _ (by rfl) Tryz.underlying100 Tryz.underlying9 (by rfl) m6.out (q5 _) b6.out [109,111,100,101] (by rfl) (u:=F_ 134) (by rfl) (by rfl) (by rfl) ?_;intro w7 m b;have m7:=qh m;have b7:=qh b;clear m b m6 b6)
  |(refine zm (by rfl) _ _ _ _ (by rfl) Tryz.underlying100 Tryz.underlying9 (by rfl) m7.out (q5 _) b7.out [114,117,108,101] (by rfl) (u:=F_ 135) (by rfl) (by rfl) (by rfl) ?_;intro w8 m b;have m8:=qh m;have b8:=qh b;clear m b m7 b7)
  |(refine zm (by rfl) _ _ _ _ (by rfl) Tryz.underlying100 Tryz.underlying9 (by rfl) m8.out (q5 _) b8.out [111,110,99,101] (by rfl) (u:=F_ 135) (by rfl) (by rfl) (by rfl) ?_;intro w9 m b;have m9:=qh m;have b9:=qh b;clear m b m8 b8)
  |(refine zm (by rfl) _ _ _ _ (by rfl) Tryz.underlying100 Tryz.underlying9 (by rfl) m9.out (q5 _) b9.out [109,111,115,116] (by rfl) (u:=F_ 135) (by rfl) (by rfl) (by rfl) ?_;intro w10 m b;have m10:=qh m;have b10:=qh b;clear m b m9 b9)
  |(refine zm (by rfl) _ _ _ _ (by rfl) Tryz.underlying100 Tryz.underlying9 (by rfl) m10.out (q5 _) b10.out [113,117,101,114,121] (by rfl) (u:=F_ 135) (by rfl) (by rfl) (by rfl) ?_;intro w11 m b;have m11:=qh m;have b11:=qh b;clear m b m10 b10)
  |(refine zm (by rfl) _ _ _ _ (by rfl) Tryz.underlying100 Tryz.underlying9 (by rfl) m11.out (q5 _) b11.out [109,111,100,117,108,101] (by rfl) (u:=F_ 136) (by rfl) (by rfl) (by rfl) ?_;intro w12 m b;have m12:=qh m;have b12:=qh b;clear m b m11 b11)
  |(refine zm (by rfl) _ _ _ _ (by rfl) Tryz.underlying100 Tryz.underlying9 (by rfl) m12.out (q5 _) b12.out [117,115,101] (by rfl) (u:=F_ 136) (by rfl) (by rfl) (by rfl) ?_;intro w13 m b;have m13:=qh m;have b13:=qh b;clear m b m12 b12))
 go_ret;exact⟨rfl,m13.out,b13.out⟩
theorem q2x(w:World):Calls Tryz.prog 80 #[] w fun e w'=>e = .returned (.map (some w.heap.size))/\StrMap w' w.heap.size vw/\Below w.heap.size w w':=by
 have hmm:=@run_makeMap Tryz.prog;have m0:=qh (q7m w);have b0:=qh ((Below.refl w.heap.size w).alloc (q5 _) (.map #[] 0));go_enter Tryz.func80,Tryz.ntmps80
 go_wp2_with (first
  |(refine zm (by rfl) _ _ _ _ (by rfl) Tryz.underlying100 Tryz.underlying9 (by rfl) m0.out (q5 _) b0.out [33] (by rfl) (u:=F_ 137) (by rfl) (by rfl) (by rfl) ?_;intro w1 m b;have m1:=qh m;have b1:=qh b;clear m b m0 b0)
  |(refine zm (by rfl) _ _ _ _ (by rfl) Tryz.underlying100 Tryz.underlying9 (by rfl) m1.out (q5 _) b1.out [97,108,108] (by rfl) (u:=F_ 138) (by rfl) (by rfl) (by rfl) ?_;intro w2 m b;have m2:=qh m;have b2:=qh b;clear m b m1 b1)
  |(refine zm (by rfl) _ _ _ _ (by rfl) Tryz.underlying100 Tryz.underlying9 (by rfl) m2.out (q5 _) b2.out [101,120] (by rfl) (u:=F_ 138) (by rfl) (by rfl) (by rfl) ?_;intro w3 m b;have m3:=qh m;have b3:=qh b;clear m b m2 b2)
  |(refine zm (by rfl) _ _ _ _ (by rfl) Tryz.underlying100 Tryz.underlying9 (by rfl) m3.out (q5 _) b3.out [111,110,101] (by rfl) (u:=F_ 139) (by rfl) (by rfl) (by rfl) ?_;intro w4 m b;have m4:=qh m;have b4:=qh b;clear m b m3 b3)
  |(refine zm (by rfl) _ _ _ _ (by rfl) Tryz.underlying100 Tryz.underlying9 (by rfl) m4.out (q5 _) b4.out [116,111,112] (by rfl) (u:=F_ 139) (by rfl) (by rfl) (by rfl) ?_;intro w5 m b;have m5:=qh m;have b5:=qh b;clear m b m4 b4)
  |(refine zm (by rfl) _ _ _ _ (by rfl) Tryz.underlying100 Tryz.underlying9 (by rfl) m5.out (q5 _) b5.out [123] (by rfl) (u:=F_ 140) (by rfl) (by rfl) (by rfl) ?_;intro w6 m b;have m6:=qh m;have b6:=qh b;clear m b m5 b5)
  |(refine zm (by rfl) _ _ _ _ (by rfl) Tryz.underlying100 Tryz.underlying9 (by rfl) m6.out (q5 _) b6.out [40] (by rfl) (u:=F_ 141) (by rfl) (by rfl) (by rfl) ?_;intro w7 m b;have m7:=qh m;have b7:=qh b;clear m b m6 b6))
 go_ret;exact⟨rfl,m7.out,b7.out⟩
theorem PS.cells{E:PE}{q:Nat}{w:World}(h:PS E q w):w.cell? ⟨E.pb,0,none⟩=some (.slice E.a E.ts.length E.cap)/\w.cell? ⟨E.pb,1,none⟩=some (.int .i64 (q:Nat))/\w.cell? ⟨E.pb,2,none⟩=some (.int .i64 (E.en:Nat)) /\
  w.cell? ⟨E.pb,3,none⟩=some (.map (some E.mi))/\w.cell? ⟨E.pb,4,none⟩=some (.map (some E.mp)) :=
 ⟨qk _ _ _ _ _ _ h.row,qk _ _ _ _ _ _ h.row,qk _ _ _ _ _ _ h.row,qk _ _ _ _ _ _ h.row,qk _ _ _ _ _ _ h.row⟩
theorem PS.frozen{E:PE}{q:Nat}{w:World}(h:PS E q w)(o:Nat):w.frozen? ⟨E.pb,o,none⟩=false:=by
 simp[World.frozen?,h.row]
theorem y4{B:Nat}{a w:World}(h:Below B a w){b:Nat}(hb:B<=b)(u0 u1 u2:Value):Below B a (((w.setCell ⟨b,0,none⟩ u0).setCell ⟨b,1,none⟩ u1).setCell ⟨b,2,none⟩ u2) :=
 ((h.setCell (p:=⟨b,0,none⟩) hb _).setCell (p:=⟨b,1,none⟩) hb _).setCell (p:=⟨b,2,none⟩) hb _
theorem qq8{l:Lx.Bs}{s:ByteArray}(h:l=bs s):Sx.str l=s:=by rw[h];rfl
theorem q3r{a b:ByteArray}(h:a.toList=b.toList):a=b:=by
 rw[ByteArray.toList_eq,ByteArray.toList_eq]at h
 cases a;cases b;congr;exact Array.toList_inj.1 h
theorem qeg{a b:ByteArray}(h:a≠b):(a.toList==b.toList)=false:=by
 rw[q9];exact fun e=>h (q3r e)
theorem qq7{l:Lx.Bs}{s:ByteArray}(h:l≠bs s):Sx.str l≠s:=fun e=>h (by rw[<-e];rfl)
theorem jn(k:Int)(b c:Value)(w:World):(Instr.field 111 (.agg #[.int .i64 k,b,c]) 0).run Tryz.prog w = .ok (.int .i64 k) w:=by rfl
theorem jm(a c:Value)(s:ByteArray)(w:World):(Instr.field 111 (.agg #[a,.string s,c]) 1).run Tryz.prog w = .ok (.string s) w:=by rfl
theorem jk(a b:Value)(k:Int)(w:World):(Instr.field 111 (.agg #[a,b,.int .i64 k]) 2).run Tryz.prog w = .ok (.int .i64 k) w:=by rfl
attribute [local go_sem] jn jm jk
def wo(E:PE)(q:Nat):Value:=.agg #[.int .i64 (Sx.knd E.ts q:Nat),.string (Sx.str (Sx.txt E.ts q)),.int .i64 (E.pos q:Nat)]
theorem jy(E:PE)(q:Nat)(w:World)(h:PS E q w):Calls Tryz.prog 142 #[.pointer (some ⟨E.pb,0,none⟩)] w fun e w'=>e = .returned (wo E q)/\Below w.heap.size w w':=by
 obtain⟨c0,c1,c2,c3,c4⟩:=h.cells;have hlt:=h.lt;have hfew:=h.g.few;clear c3 c4
 by_cases hq:q < E.ts.length
 ·have d0:=h.g.c0 q hq
  have d1:=h.g.c1 q hq;have d2:=h.g.c2 q hq;have HA:=qh (h.g.ha (fun e=>by rw[e]at hq;simp at hq));have dl:=qg d0;obtain⟨R,hR⟩:∃ R,wo E q=R:=⟨_,rfl⟩;have HR:Hid (Value.agg #[.int .i64 (E.ts[q].kind:Nat),.string (Sx.str E.ts[q].text),.int .i64 (E.ts[q].pos:Nat)]=R):=qh (by rw[<-hR];unfold wo;rw[qp5 hq,qol hq,qqm hq]);rw[hR];clear hR h;rw[HA.out]at c0;obtain⟨k0,hk0⟩:∃ k,(E.ts[q].kind:Int)=k:=⟨_,rfl⟩;obtain⟨k1,hk1⟩:∃ k,Sx.str E.ts[q].text=k:=⟨_,rfl⟩;obtain⟨k2,hk2⟩:∃ k,(E.ts[q].pos:Int)=k:=⟨_,rfl⟩;rw[hk0,hk1,hk2]at HR;rw[hk0]at d0;rw[hk1]at d1;rw[hk2]at d2;clear hk0 hk1 hk2;obtain⟨n,hn⟩:∃ n,E.ts.length=n:=⟨_,rfl⟩;rw[hn]at hq c0 hfew;clear hn;have i0:(q:Int) < (n:Int):=by omega
  have i1:(0:Int)<=(q:Int):=by omega
  go_enter Tryz.func142,Tryz.ntmps142;go_wp2
  go_quiet (fail)
  go_wp2
  go_region
  all_goals go_wp2
  all_goals rw[<-HR.out]
  all_goals refine bodyPost_ret (v:=.agg #[.int .i64 k0,.string k1,.int .i64 k2]) (by simp[results,Tryz.results142,go_sem]) rfl ⟨rfl,?_⟩
  all_goals exact y4 (below_drewN ((Below.refl _ w).alloc (q5 _) _) _) (q5 _) _ _ _
 ·have hq':¬ ((q:Int) < (E.ts.length:Int)):=by omega
  obtain⟨R,hR⟩:∃ R,wo E q=R:=⟨_,rfl⟩;have HR:Hid (Value.agg #[.int .i64 0,.string ⟨#[]⟩,.int .i64 (E.en:Nat)]=R):=qh (by rw[<-hR];unfold wo;rw[qp6 (by omega),qfu (by omega),qou (by omega)];rfl);rw[hR];clear hR h;obtain⟨n,hn⟩:∃ n,E.ts.length=n:=⟨_,rfl⟩;rw[hn]at hq hq' c0 hfew;clear hn;go_enter Tryz.func142,Tryz.ntmps142;go_wp2
  go_quiet (fail)
  go_wp2;rw[<-HR.out];refine bodyPost_ret (v:=.agg #[.int .i64 0,.string ⟨#[]⟩,.int .i64 E.en]) (by simp[results,Tryz.results142,go_sem]) rfl ⟨rfl,?_⟩;exact y4 (below_drewN ((Below.refl _ w).alloc (q5 _) _) _) (q5 _) _ _ _
theorem q0a(E:PE)(q:Nat)(w:World)(h:PS E q w):Calls Tryz.prog 81 #[.pointer (some ⟨E.pb,0,none⟩)] w fun e w'=>e = .panicked [{ v:=xz E q,recovered:=false }]/\Below w.heap.size w w':=by
 have C:=qh (jy E q w h);clear h;go_enter Tryz.func81,Tryz.ntmps81;unfold wo at C
 go_wp2_with fail
 refine C.out.mono ?_;rintro e w1⟨rfl,hb⟩;go_wp2;exact⟨rfl,rfl,hb⟩
theorem Mv.step{E:PE}{q q':Nat}{w w1:World}(hp:PS E q w)(hb:Below w.heap.size w w1):Mv E q' w (w1.setCell ⟨E.pb,1,none⟩ (.int .i64 (q':Nat))):=by
 have hp1:=hp.later hb;refine Mv.of hp hb.os hb.tape hb.output (by rw[qq];exact hb.size) (fun b h1 h2=>(Below.heap_setCell _ _ _ _ h2).trans (hb.block b h1)) ?_;rw[xl hp1.row];rfl
theorem y6(E:PE)(q:Nat)(s:ByteArray)(w:World)(h:PS E q w)(hs:Sx.txt E.ts q=bs s)(h0:bs s≠[]):Calls Tryz.prog 87 #[.pointer (some ⟨E.pb,0,none⟩),.string s] w fun e w'=>e = .returned (.bool true)/\Mv E (q+1) w w'/\PS E (q+1) w':=by
 have C:=qh (jy E q w h);have hq:q < E.ts.length:=Sx.txt_lt (by rw[hs];exact h0);have hfew:=h.g.few;have HP:=qh h;have e1:=qq8 hs;clear h hs h0;unfold wo at C;rw[e1]at C;clear e1;go_enter Tryz.func87,Tryz.ntmps87
 go_wp2_with fail
 refine C.out.mono ?_;rintro e w1⟨rfl,hb⟩;have h1:=HP.out.later hb;obtain⟨c0,c1,_⟩:=h1.cells;have f1:=h1.frozen 1;have HB:=qh hb;have H1:=qh h1;have hl:=h1.lt;clear hb h1 C c0;go_wp2;go_ret;have hm:=Mv.step (q':=q+1) HP.out HB.out;push_cast at hm;exact⟨rfl,hm,hm.ps HP.out hq⟩
theorem we(E:PE)(q:Nat)(s:ByteArray)(w:World)(h:PS E q w)(hs:Sx.txt E.ts q≠bs s):Calls Tryz.prog 87 #[.pointer (some ⟨E.pb,0,none⟩),.string s] w fun e w'=>e = .returned (.bool false)/\Below w.heap.size w w':=by
 have C:=qh (jy E q w h);have e1:=qq7 hs;obtain⟨x,hx⟩:∃ x,Sx.str (Sx.txt E.ts q)=x:=⟨_,rfl⟩;unfold wo at C;rw[hx]at C e1;have e2:(!(x.toList==s.toList))=true:=by rw[qeg e1];rfl
 clear h hs hx e1;go_enter Tryz.func87,Tryz.ntmps87
 go_wp2_with fail
 refine C.out.mono ?_;rintro e w1⟨rfl,hb⟩;have HB:=qh hb;clear hb C;go_wp2;refine bodyPost_ret (v:=.bool false) (by simp[results,Tryz.results87,go_sem]) rfl ?_;exact⟨rfl,HB.out⟩
theorem ka(E:PE)(q:Nat)(s:ByteArray)(w:World)(h:PS E q w)(hs:Sx.txt E.ts q=bs s)(h0:bs s≠[]):Calls Tryz.prog 83 #[.pointer (some ⟨E.pb,0,none⟩),.string s] w fun e w'=>e = .returned (.tuple #[])/\Mv E (q+1) w w'/\PS E (q+1) w':=by
 have C:=qh (y6 E q s w h hs h0);clear h hs h0;go_enter Tryz.func83,Tryz.ntmps83
 go_wp2_with fail
 refine C.out.mono ?_;rintro e w1⟨rfl,hb⟩;clear C;go_wp2;go_end0;exact⟨rfl,hb⟩
theorem q0e(E:PE)(q:Nat)(s:ByteArray)(w:World)(h:PS E q w)(hs:Sx.txt E.ts q≠bs s):Calls Tryz.prog 83 #[.pointer (some ⟨E.pb,0,none⟩),.string s] w fun e w'=>e = .panicked [{ v:=xz E q,recovered:=false }]/\Below w.heap.size w w':=by
 have C:=qh (we E q s w h hs);have HP:=qh h;clear h hs;go_enter Tryz.func83,Tryz.ntmps83
 go_wp2_with fail
 refine C.out.mono ?_;rintro e w1⟨rfl,hb⟩;have HB:=qh hb;have C2:=qh (q0a E q w1 (HP.out.later hb));clear C hb
 go_wp2_with fail
 refine C2.out.mono ?_;rintro e w2⟨rfl,hb⟩;clear C2;go_wp2;exact⟨rfl,rfl,HB.out.trans (hb.mono HB.out.size)⟩
def Row3(W:World)(b:Nat)(v0 v1 v2:Value):Prop:=W.heap[b]?=some (.cells #[v0,v1,v2] 25 (0,0))
section
variable {W:World} {b:Nat} {v0 v1 v2:Value}
theorem Row3.lt(h:Row3 W b v0 v1 v2):b < W.heap.size:=za h
theorem Row3.new(W:World)(v0 v1 v2:Value):Row3 (W.alloc (.cells #[v0,v1,v2] 25)) W.heap.size v0 v1 v2:=qm W _
theorem Row3.newAt{W:World}{n:Nat}{v0 v1 v2:Value}(hn:n=W.heap.size):Row3 (W.alloc (.cells #[v0,v1,v2] 25)) n v0 v1 v2:=by subst hn;exact Row3.new W v0 v1 v2
theorem x6{W:World}{n:Nat}{o:Obj}(hn:n=W.heap.size):(W.alloc o).heap[n]?=some o:=by subst hn;exact qm W _
theorem Row3.alloc(h:Row3 W b v0 v1 v2)(o:Obj):Row3 (W.alloc o) b v0 v1 v2:=(Below.heap_alloc _ _ _ h.lt).trans h
theorem Row3.below{W':World}{n:Nat}(h:Row3 W b v0 v1 v2)(hb:Below n W W')(hn:b < n):Row3 W' b v0 v1 v2:=(hb.block b hn).trans h
theorem Row3.mv{E:PE}{q':Nat}{W':World}(h:Row3 W b v0 v1 v2)(hm:Mv E q' W W')(hn:b≠E.pb):Row3 W' b v0 v1 v2:=(hm.blk b h.lt hn).trans h
theorem Row3.other(h:Row3 W b v0 v1 v2){p:Addr}(u:Value)(hn:b≠p.block):Row3 (W.setCell p u) b v0 v1 v2:=(Below.heap_setCell _ _ _ _ hn).trans h
theorem Row3.put3o(h:Row3 W b v0 v1 v2){c:Nat}(hn:b≠c)(u0 u1 u2:Value):Row3 (((W.setCell ⟨c,0,none⟩ u0).setCell ⟨c,1,none⟩ u1).setCell ⟨c,2,none⟩ u2) b v0 v1 v2:=((h.other _ hn).other _ hn).other _ hn
theorem Row3.drewN(h:Row3 W b v0 v1 v2)(n:Nat):Row3 (W.drewN n) b v0 v1 v2:=h
theorem Row3.put(h:Row3 W b v0 v1 v2)(u0 u1 u2:Value):Row3 (((W.setCell ⟨b,0,none⟩ u0).setCell ⟨b,1,none⟩ u1).setCell ⟨b,2,none⟩ u2) b u0 u1 u2:=by
 have h0:W.heap[b]?=some (.cells #[v0,v1,v2] 25 (0,0)):=h;exact(xl (xl (xl h0))).trans rfl
theorem Row3.put2(h:Row3 W b v0 v1 v2)(u2:Value):Row3 (W.setCell ⟨b,2,none⟩ u2) b v0 v1 u2:=by
 have h0:W.heap[b]?=some (.cells #[v0,v1,v2] 25 (0,0)):=h;exact(xl h0).trans rfl
theorem Row3.cells(h:Row3 W b v0 v1 v2):(W.cell? ⟨b,0,none⟩=some v0/\W.cell? ⟨b,1,none⟩=some v1/\W.cell? ⟨b,2,none⟩=some v2)/\W.frozen? ⟨b,0,none⟩=false/\W.frozen? ⟨b,1,none⟩=false/\W.frozen? ⟨b,2,none⟩=false:=by
 have h0:W.heap[b]?=some (.cells #[v0,v1,v2] 25 (0,0)):=h;exact⟨⟨qk _ _ _ _ _ _ h0,qk _ _ _ _ _ _ h0,qk _ _ _ _ _ _ h0⟩,by simp[World.frozen?,h0],by simp[World.frozen?,h0],by simp[World.frozen?,h0]⟩
theorem q2g{fn:Func}{t u:Nat}{a:Act}{R:Ending->World->Prop}{v:Value}(h:Row3 W b v0 v1 v2)(hr:fn.results=#[ResultVar.cell t 25,ResultVar.tmp u])(hv:(a.tmps[u]?).getD undef=v)(hd:a.defers=[])(ha:(a.tmps[t]?).getD undef = .pointer (some ⟨b,0,none⟩))
  (hR:R (.returned (.tuple #[.agg #[v0,v1,v2],v])) W):bodyPost Tryz.prog fn R .ret a W:=by
 obtain⟨⟨c0,c1,c2⟩,_⟩:=h.cells;exact bodyPost_ret (v:=.tuple #[.agg #[v0,v1,v2],v]) (by simp[results,hr,go_sem,ha,hv,c0,c1,c2]) hd hR
theorem zg{fn:Func}{t:Nat}{a:Act}{R:Ending->World->Prop}(h:Row3 W b v0 v1 v2)(hr:fn.results=#[ResultVar.cell t 25])(hd:a.defers=[])(ha:(a.tmps[t]?).getD undef = .pointer (some ⟨b,0,none⟩))
  (hR:R (.returned (.agg #[v0,v1,v2])) W):bodyPost Tryz.prog fn R .ret a W:=by
 obtain⟨⟨c0,c1,c2⟩,_⟩:=h.cells;exact bodyPost_ret (v:=.agg #[v0,v1,v2]) (by simp[results,hr,go_sem,ha,c0,c1,c2]) hd hR
end
theorem Mv.put3{E:PE}{q':Nat}{w W:World}(hm:Mv E q' w W){b:Nat}(hb:w.heap.size<=b)(u0 u1 u2:Value):Mv E q' w (((W.setCell ⟨b,0,none⟩ u0).setCell ⟨b,1,none⟩ u1).setCell ⟨b,2,none⟩ u2):=y4 hm hb _ _ _
theorem Mv.alloc{E:PE}{q':Nat}{w W:World}(hm:Mv E q' w W)(o:Obj):Mv E q' w (W.alloc o):=Below.alloc hm hm.size o
def qhx(k:Int)(s:ByteArray):Value:=.tuple #[.agg #[.int .i64 k,.string s,.slice none 0 0],.bool true]
theorem qdn(E:PE)(q:Nat)(w:World)(h:PS E q w)(hk:Sx.knd E.ts q=1):Calls Tryz.prog 149 #[.pointer (some ⟨E.pb,0,none⟩)] w fun e w'=>e = .returned (qhx 15 (Sx.str (Sx.txt E.ts q)))/\Mv E (q+1) w w'/\PS E (q+1) w':=by
 have C:=qh (fun o=>jy E q (w.alloc o) (h.later ((Below.refl _ w).alloc (q5 _) o)));have hq:q < E.ts.length:=Sx.knd_lt (by omega);have hfew:=h.g.few;have HP:=qh h;have hpl:=h.lt;obtain⟨x,hx⟩:∃ x,Sx.str (Sx.txt E.ts q)=x:=⟨_,rfl⟩;unfold wo at C;rw[hk,hx]at C;rw[hx];have C':Hid (∀ o:Obj,Calls Tryz.prog 142 #[.pointer (some ⟨E.pb,0,none⟩)] (w.alloc o) fun e w'=>e = .returned (.agg #[.int .i64 1,.string x,.int .i64 (E.pos q:Nat)])/\Below (w.alloc o).heap.size (w.alloc o) w'):=C;clear h hk hx C;go_enter Tryz.func149,Tryz.ntmps149
 go_wp2_with fail
 refine(C'.out _).mono ?_;rintro e w1⟨rfl,hb⟩;have hB:Below w.heap.size w w1:=((Below.refl _ w).alloc (q5 _) _).trans (hb.mono (by simp));have h1:=HP.out.later hB;obtain⟨c0,c1,_⟩:=h1.cells;have f1:=h1.frozen 1;have HB:=qh hB;have hl:=h1.lt;have hz:w.heap.size < w1.heap.size:=by have:=hb.size;simp at this;omega
 have hr:=(Row3.new w (.int .i64 0) (.string ⟨#[]⟩) (.slice none 0 0)).below hb (by simp);have hz:w.heap.size < w1.heap.size:=hr.lt;obtain⟨⟨n0,n1,n2⟩,g0,g1,g2⟩:=hr.cells;have HRo:=qh hr;clear hb hB h1 C' c0 hr;go_wp2;have hm:=Mv.step (q':=q+1) HP.out HB.out;push_cast at hm;have hM:=(hm.put3 (b:=w.heap.size) (q5 _) (.int .i64 15) (.string x) (.slice none 0 0)).alloc (.cells #[.int .i64 1,.string x,.int .i64 (E.pos q:Nat)] 111);exact q2g (((HRo.out.other _ (by simp only;omega)).put _ _ _).alloc _) Tryz.results149 rfl rfl rfl ⟨rfl,hM,hM.ps HP.out hq⟩
theorem qn5(E:PE)(q:Nat)(w:World)(h:PS E q w)(hk:Sx.knd E.ts q=2):Calls Tryz.prog 149 #[.pointer (some ⟨E.pb,0,none⟩)] w fun e w'=>e = .returned (qhx 16 (Sx.str (Sx.txt E.ts q)))/\Mv E (q+1) w w'/\PS E (q+1) w':=by
 have C:=qh (fun o=>jy E q (w.alloc o) (h.later ((Below.refl _ w).alloc (q5 _) o)));have hq:q < E.ts.length:=Sx.knd_lt (by omega);have hfew:=h.g.few;have HP:=qh h;have hpl:=h.lt;obtain⟨x,hx⟩:∃ x,Sx.str (Sx.txt E.ts q)=x:=⟨_,rfl⟩;unfold wo at C;rw[hk,hx]at C;rw[hx];have C':Hid (∀ o:Obj,Calls Tryz.prog 142 #[.pointer (some ⟨E.pb,0,none⟩)] (w.alloc o) fun e w'=>e = .returned (.agg #[.int .i64 2,.string x,.int .i64 (E.pos q:Nat)])/\Below (w.alloc o).heap.size (w.alloc o) w'):=C;clear h hk hx C;go_enter Tryz.func149,Tryz.ntmps149
 go_wp2_with fail
 refine(C'.out _).mono ?_;rintro e w1⟨rfl,hb⟩;have hB:Below w.heap.size w w1:=((Below.refl _ w).alloc (q5 _) _).trans (hb.mono (by simp));have h1:=HP.out.later hB;obtain⟨c0,c1,_⟩:=h1.cells;have f1:=h1.frozen 1;have HB:=qh hB;have hl:=h1.lt;have hr:=(Row3.new w (.int .i64 0) (.string ⟨#[]⟩) (.slice none 0 0)).below hb (by simp);have hz:w.heap.size < w1.heap.size:=hr.lt;obtain⟨⟨n0,n1,n2⟩,g0,g1,g2⟩:=hr.cells;have HRo:=qh hr;clear hb hB h1 C' c0 hr;go_wp2;have hm:=Mv.step (q':=q+1) HP.out HB.out;push_cast at hm;have hM:=(hm.put3 (b:=w.heap.size) (q5 _) (.int .i64 16) (.string x) (.slice none 0 0)).alloc (.cells #[.int .i64 2,.string x,.int .i64 (E.pos q:Nat)] 111);exact q2g (((HRo.out.other _ (by simp only;omega)).put _ _ _).alloc _) Tryz.results149 rfl rfl rfl ⟨rfl,hM,hM.ps HP.out hq⟩
def q9h:Value:=.tuple #[.agg #[.int .i64 0,.string ⟨#[]⟩,.slice none 0 0],.bool false]
theorem qoz(E:PE)(q:Nat)(w:World)(h:PS E q w)(h1:Sx.knd E.ts q≠1)(h2:Sx.knd E.ts q≠2):Calls Tryz.prog 149 #[.pointer (some ⟨E.pb,0,none⟩)] w fun e w'=>e = .returned q9h/\Below w.heap.size w w':=by
 have C:=qh (fun o=>jy E q (w.alloc o) (h.later ((Below.refl _ w).alloc (q5 _) o)));have e1:(((Sx.knd E.ts q:Nat):Int)==1)=false:=by rw[q9];omega
 have e2:(((Sx.knd E.ts q:Nat):Int)==2)=false:=by rw[q9];omega
 unfold wo at C;obtain⟨k,hk⟩:∃ k,((Sx.knd E.ts q:Nat):Int)=k:=⟨_,rfl⟩;rw[hk]at C e1 e2;clear h h1 h2 hk;go_enter Tryz.func149,Tryz.ntmps149
 go_wp2_with fail
 refine(C.out _).mono ?_;rintro e w1⟨rfl,hb⟩;have HB:=qh (((Below.refl _ w).alloc (q5 _) (.cells #[.int .i64 0,.string ⟨#[]⟩,.slice none 0 0] 25)).trans (hb.mono (by simp)));have hr:=(Row3.new w (.int .i64 0) (.string ⟨#[]⟩) (.slice none 0 0)).below hb (by simp);have hz:w.heap.size < w1.heap.size:=hr.lt;obtain⟨⟨n0,n1,n2⟩,g0,g1,g2⟩:=hr.cells;have HRo:=qh hr;have hl:=hr.lt;clear hb C hr;go_wp2;exact q2g ((HRo.out.put _ _ _).alloc _) Tryz.results149 rfl rfl rfl ⟨rfl,(y4 HB.out (q5 _) _ _ _).alloc (by simp only[qq];exact HB.out.size) _⟩
theorem qf8(w:World):(Instr.typeAssert Value.nilIface 20 98 true).run Tryz.prog w = .ok (.tuple #[.agg #[.int .i64 0],.bool false]) w:=by kernel_rfl
theorem qf7(v:Value)(w:World):(Instr.typeAssert (.iface 98 v) 20 98 true).run Tryz.prog w = .ok (.tuple #[v,.bool true]) w:=by kernel_rfl
theorem q7t(h:Nat)(w:World) :
  CallsD Tryz.prog 78 #[.pointer (some ⟨h,0,none⟩),.pointer (some ⟨h+1,0,none⟩),.pointer (some ⟨h+1+1,0,none⟩)] .returning w fun e u' w' =>
   e = .returned (.tuple #[])/\u' = .returning/\w'=w.alloc (.cells #[.int .i64 0] 98):=by
 have hta:=qf8;have hwd:∀ x,Fence.wide.fn x:=fun _=>trivial
 refine callsD_of_wpS Tryz.func78 rfl fun c₀ cs hu=>?_
 apply wpS_seq;apply wpS_region;simp[wpOpsS,go_sem,recoverD,hu,Tryz.ntmps78,Exit.thenS,hta];refine wpS_of_wp ?_;simp only[Array.replicate_succ,Array.replicate_zero,List.push_toArray,List.nil_append,List.cons_append,List.append_toArray,List.setIfInBounds_toArray,List.set_cons_succ,List.set_cons_zero];go_wp2;refine⟨rfl,.returning,by cases c₀;simp_all,.tuple #[],by simp[results,Tryz.results78],rfl,rfl,rfl⟩
theorem q6i(h i:Nat)(older:List PanicEntry)(u0 u1 u2:Value)(x y:Int)(w:World)(hR:Row3 w h u0 u1 u2)
  (c1:w.cell? ⟨h+1,0,none⟩=some (.int .i64 x)) (c2:w.cell? ⟨h+1+1,0,none⟩=some (.int .i64 y))
  (f1:w.frozen? ⟨h+1,0,none⟩=false) (f2:w.frozen? ⟨h+1+1,0,none⟩=false) :
  CallsD Tryz.prog 78 #[.pointer (some ⟨h,0,none⟩),.pointer (some ⟨h+1,0,none⟩),.pointer (some ⟨h+1+1,0,none⟩)] (.panicking ({ v:=.iface 98 (.agg #[.int .i64 i]),recovered:=false } :: older)) w fun e u' w' =>
   e = .returned (.tuple #[])/\u' = .panicking ({ v:=.iface 98 (.agg #[.int .i64 i]),recovered:=true } :: older)/\Below h w w'/\Row3 w' h (.int .i64 0) (.string ⟨#[]⟩) (.slice none 0 0)/\w'.cell? ⟨h+1,0,none⟩=some (.int .i64 i)/\w'.cell? ⟨h+1+1,0,none⟩=some (.int .i64 20):=by
 obtain⟨⟨r0,r1,r2⟩,g0,g1,g2⟩:=hR.cells;have b0:=hR.lt;have b1:=block_lt_of_cell c1;have b2:=block_lt_of_cell c2;simp only at b1 b2;have hta:=qf7;have hwd:∀ x,Fence.wide.fn x:=fun _=>trivial
 have HR:=qh hR;clear hR;refine callsD_of_wpS Tryz.func78 rfl fun c₀ cs hu=>?_
 apply wpS_seq;apply wpS_region;simp[wpOpsS,go_sem,recoverD,hu,Tryz.ntmps78,Exit.thenS,hta];refine wpS_of_wp ?_;simp only[Array.replicate_succ,Array.replicate_zero,List.push_toArray,List.nil_append,List.cons_append,List.append_toArray,List.setIfInBounds_toArray,List.set_cons_succ,List.set_cons_zero];clear hwd hta;go_wp2
 go_region
 refine⟨rfl,.panicking ({ v:=.iface 98 (.agg #[.int .i64 i]),recovered:=true } :: older),rfl,.tuple #[],by simp[results,Tryz.results78],rfl,rfl,?_,?_,?_,?_⟩
 ·exact((((y4 (Below.refl h w) (q5 _) _ _ _).setCell (p:=⟨h+1,0,none⟩) (by simp) _).setCell (p:=⟨h+1+1,0,none⟩) (by simp only;omega) _).alloc (by simp[World.setCell];omega) _).drew
 ·exact((((HR.out.put _ _ _).other (p:=⟨h+1,0,none⟩) _ (by simp)).other (p:=⟨h+1+1,0,none⟩) _ (by simp only;omega)).alloc _).drewN 1
 ·simp[go_sem,b1,c1]
 ·simp[go_sem,b2,c2]
attribute [local go_sem] jn jm jk
def qob(k:Int)(s:ByteArray):Value:=.agg #[.int .i64 k,.string s,.slice none 0 0]
theorem qb5(E:PE)(q:Nat)(w:World)(h:PS E q w)(hk:Sx.knd E.ts q=1):Calls Tryz.prog 187 #[.pointer (some ⟨E.pb,0,none⟩)] w fun e w'=>e = .returned (qob 15 (Sx.str (Sx.txt E.ts q)))/\Mv E (q+1) w w'/\PS E (q+1) w':=by
 have C:=qh (fun w h=>jy E q w h);have D:=qh (fun w h=>qdn E q w h hk);have HP:=qh h;obtain⟨x,hx⟩:∃ x,Sx.str (Sx.txt E.ts q)=x:=⟨_,rfl⟩;unfold wo at C;rw[hk,hx]at C;rw[hx]at D ⊢;have C':Hid (∀ w,PS E q w->Calls Tryz.prog 142 #[.pointer (some ⟨E.pb,0,none⟩)] w fun e w'=>e = .returned (.agg #[.int .i64 1,.string x,.int .i64 (E.pos q:Nat)])/\Below w.heap.size w w'):=C;have hq:q < E.ts.length:=Sx.knd_lt (by omega);have Hq:=qh hq;have hpl:=h.lt;unfold qhx at D;clear h hk hx C hq;go_enter Tryz.func187,Tryz.ntmps187
 go_wp2_with fail
 refine(C'.out _ (HP.out.later ((Below.refl _ w).alloc (q5 _) _))).mono ?_;rintro e w1⟨rfl,hb⟩;have B1:=qh (((Below.refl _ w).alloc (q5 _) (.cells #[.int .i64 0,.string ⟨#[]⟩,.slice none 0 0] 25)).trans (hb.mono (by simp)));have R1:=qh ((Row3.new w (.int .i64 0) (.string ⟨#[]⟩) (.slice none 0 0)).below hb (by simp));clear hb C'
 go_wp2_with fail
 refine(D.out _ (HP.out.later B1.out)).mono ?_;rintro e w2⟨rfl,hm,hp⟩;have M2:=qh (Mv.before HP.out B1.out hm);have R2:=qh (R1.out.mv hm (by omega));obtain⟨⟨n0,n1,n2⟩,g0,g1,g2⟩:=R2.out.cells;have hz:=R2.out.lt;clear D hm hp R1;go_wp2;have hM:=(M2.out.put3 (b:=w.heap.size) (q5 _) (.int .i64 15) (.string x) (.slice none 0 0)).alloc (.cells #[.int .i64 15,.string x,.slice none 0 0] 25);exact zg ((R2.out.put _ _ _).alloc _) Tryz.results187 rfl rfl ⟨rfl,hM,hM.ps HP.out Hq.out⟩
theorem qmj(E:PE)(q:Nat)(w:World)(h:PS E q w)(hk:Sx.knd E.ts q≠1):Calls Tryz.prog 187 #[.pointer (some ⟨E.pb,0,none⟩)] w fun e w'=>e = .panicked [{ v:=xz E q,recovered:=false }]/\Below w.heap.size w w':=by
 have C:=qh (fun w h=>jy E q w h);have D:=qh (fun w h=>q0a E q w h);have HP:=qh h;have e1:(((Sx.knd E.ts q:Nat):Int) != 1)=true:=by rw[bne_iff_ne];omega
 unfold wo at C;obtain⟨k,hk⟩:∃ k,((Sx.knd E.ts q:Nat):Int)=k:=⟨_,rfl⟩;rw[hk]at C e1;clear h hk;go_enter Tryz.func187,Tryz.ntmps187
 go_wp2_with fail
 refine(C.out _ (HP.out.later ((Below.refl _ w).alloc (q5 _) _))).mono ?_;rintro e w1⟨rfl,hb⟩;have B1:=qh (((Below.refl _ w).alloc (q5 _) (.cells #[.int .i64 0,.string ⟨#[]⟩,.slice none 0 0] 25)).trans (hb.mono (by simp)));clear hb C
 go_wp2_with fail
 refine(D.out _ (HP.out.later B1.out)).mono ?_;rintro e w2⟨rfl,hb⟩;go_wp2;exact⟨rfl,rfl,B1.out.trans (hb.mono B1.out.size)⟩
attribute [local go_sem] jn jm jk
theorem qe0(i:Nat)(hi:i < 8)(w:World):∃ s k b,opsL[i]?=some (s,k,b)/\s≠[]/\(Instr.index 164 (.agg opsArr) (.int .i64 (i:Nat))).run Tryz.prog w = .ok (.agg #[S_ s,.int .i64 k,.int .i64 (b:Nat)]) w:=by
 match i,hi with
 |0,_=>exact⟨_,_,_,rfl,by decide,by kernel_rfl⟩
 |1,_=>exact⟨_,_,_,rfl,by decide,by kernel_rfl⟩
 |2,_=>exact⟨_,_,_,rfl,by decide,by kernel_rfl⟩
 |3,_=>exact⟨_,_,_,rfl,by decide,by kernel_rfl⟩
 |4,_=>exact⟨_,_,_,rfl,by decide,by kernel_rfl⟩
 |5,_=>exact⟨_,_,_,rfl,by decide,by kernel_rfl⟩
 |6,_=>exact⟨_,_,_,rfl,by decide,by kernel_rfl⟩
 |7,_=>exact⟨_,_,_,rfl,by decide,by kernel_rfl⟩
theorem qqa{E:PE}{q:Nat}{w:World}(h:PS E q w):(loadVar 164 ⟨1,0,none⟩).run Tryz.prog w = .ok (.agg opsArr) w:=by
 obtain⟨t,fr,h1⟩:=h.g.gl.g1;exact run_loadVar_row w 1 t _ opsArr fr _ h1 Tryz.underlying164 rfl (by kernel_rfl)
def jg(t:Lx.Bs)(b:Nat):List (List UInt8×Int×Nat)->Option Int
 |[]=>none
 |(s,k,c) :: l=>if c=b/\t=s then some k else jg t b l
theorem qf3{t:Lx.Bs}{b i:Nat}{s:List UInt8}{k:Int}{c:Nat}(h:opsL[i]?=some (s,k,c)):jg t b (opsL.drop i)=if c=b/\t=s then some k else jg t b (opsL.drop (i+1)):=by
 have hi:i < opsL.length:=(List.getElem?_eq_some_iff.1 h).1;rw[List.drop_eq_getElem_cons hi,(List.getElem?_eq_some_iff.1 h).2];rfl
def qrl(E:PE)(q:Nat)(w:World)(r:Option Int)(e:Ending)(w':World):Prop :=
 (r=none->e = .returned (.tuple #[.int .i64 0,.bool false])/\Below w.heap.size w w')/\∀ k,r=some k->e = .returned (.tuple #[.int .i64 k,.bool true])/\Mv E (q+1) w w'/\PS E (q+1) w'
theorem q6l(E:PE)(q b:Nat)(w:World)(h:PS E q w)(hb:b<=7):Calls Tryz.prog 86 #[.pointer (some ⟨E.pb,0,none⟩),.int .i64 (b:Nat)] w (qrl E q w (jg (Sx.txt E.ts q) b opsL)):=by
 have hl:=qqa h;have HP:=qh h;obtain⟨t,ht⟩:∃ t,Sx.txt E.ts q=t:=⟨_,rfl⟩;have HT:=qh ht;rw[ht];have Hl:=qh hl;clear h ht hl;go_enter Tryz.func86,Tryz.ntmps86
 go_wp2_with (refine ym rfl _ _ rfl Hl.out ?_)
 go_loopw [9] (fun v9 wr=>∃ i:Nat,i<=8/\v9 = .int .i64 i/\Hid (jg t b opsL=jg t b (opsL.drop i))/\Hid (Below w.heap.size w wr)) (fun v9 _=>8 - (intOf v9).toNat)
 case atStart=>exact⟨0,qp _,rfl,rfl,Below.refl _ _⟩
 case round =>
  obtain⟨i,hi,rfl,hrun,hbl⟩:=hrel
  by_cases hlt:i < 8
  ·have hlt':(i:Int) < 8:=by omega
   obtain⟨s,k,c,hget,hne,hidx⟩:=qe0 i hlt wr;have Hidx:=qh hidx;have Hst:=qh (qf3 (t:=t) (b:=b) hget);have hm:(i:Int)+1<=8:=by omega
   clear hidx
   by_cases hc:c=b
   ·subst hc
    have hc':((c:Int)==(c:Int))=true:=by rw[beq_iff_eq]
    have B1:=qh (hbl.out.alloc hbl.out.size (.cells #[S_ s,.int .i64 k,.int .i64 (c:Nat)] 163))
    by_cases hs:t=s
    ·have HF:=qh (hrun.out.trans (Hst.out.trans (qa ⟨rfl,hs⟩)))
     have C:=qh (fun w h=>y6 E q ⟨s.toArray⟩ w h (HT.out.trans (hs.trans (by simp[bs]))) (by simpa[bs]using hne));unfold S_ at Hidx B1;clear hget hs hne
     go_wp2_with (refine xi rfl _ _ _ rfl rfl rfl Hidx.out ?_)
     refine(C.out _ (HP.out.later B1.out)).mono ?_;rintro e w5⟨rfl,hm5,hp5⟩;have M5:=qh (Mv.before HP.out B1.out hm5);have P5:=qh hp5;have hpb:E.pb < wr.heap.size:=qs HP.out.lt hbl.out.size;have k1:w5.cell? ⟨wr.heap.size,1,none⟩=some (.int .i64 k):=(World.cell?_of_block (w:=wr.alloc (.cells #[.string ⟨s.toArray⟩,.int .i64 k,.int .i64 (c:Nat)] 163)) (hm5.blk wr.heap.size (by simp) (by omega))).trans ((World.cell?_alloc_at _ _ _ _ rfl).trans rfl);clear C hm5 hp5 hpb;go_wp2;go_ret2;exact⟨fun h=>(by rw[HF.out]at h;cases h),fun k' hk=>by rw[HF.out]at hk;cases hk;exact⟨rfl,M5.out,P5.out⟩⟩
    ·have HF:=qh (hrun.out.trans (Hst.out.trans (q7 (fun h=>hs h.2))))
     have C:=qh (fun w h=>we E q ⟨s.toArray⟩ w h (fun e=>hs (HT.out.symm.trans (e.trans (by simp[bs])))));unfold S_ at Hidx B1;clear hget hs hne
     go_wp2_with (refine xi rfl _ _ _ rfl rfl rfl Hidx.out ?_)
     refine(C.out _ (HP.out.later B1.out)).mono ?_;rintro e w5⟨rfl,hb5⟩;have B5:=qh (B1.out.trans (hb5.mono B1.out.size));clear C hb5;go_wp2;go_roundw
     case rel=>exact⟨i+1,hlt,by push_cast;rfl,HF,B5⟩
     case measure=>simp[intOf];omega
   ·have hc':((c:Int)==(b:Int))=false:=by rw[q9];omega
    have HF:=qh (hrun.out.trans (Hst.out.trans (q7 (fun h=>hc h.1))));unfold S_ at Hidx;clear hc hget
    go_wp2_with (refine xi rfl _ _ _ rfl rfl rfl Hidx.out ?_)
    go_roundw
    case rel=>exact⟨i+1,hlt,by push_cast;rfl,HF,hbl.out.alloc hbl.out.size _⟩
    case measure=>simp[intOf];omega
  ·have hlt':¬ ((i:Int) < 8):=by omega
   obtain rfl:i=8:=by omega
   have HN:Hid (jg t b opsL=none):=qh hrun.out;go_wp2;go_ret2;exact⟨fun _=>⟨rfl,hbl.out⟩,fun k hk=>by rw[HN.out]at hk;cases hk⟩
theorem q9e(ts:List Lx.Tok)(q b:Nat)(hb:b<=4):jg (Sx.txt ts q) b opsL=Sx.sgn ts b q:=by
 unfold Sx.sgn;generalize Sx.txt ts q=t
 match b,hb with
 |0,_=>simp[jg,opsL]
 |1,_=>simp[jg,opsL]
 |2,_=>simp[jg,opsL]
 |3,_=>simp[jg,opsL]
 |4,_=>simp[jg,opsL]
theorem qdk(ts:List Lx.Tok)(q:Nat):jg (Sx.txt ts q) 6 opsL=if Sx.txt ts q=[45,62] then some 31 else none:=by
 generalize Sx.txt ts q=t;simp[jg,opsL]
def Two(w':World)(g:Nat)(u0 u1 u2 v0 v1 v2:Value):Prop:=∃ t,w'.heap[g]?=some (.cells #[u0,u1,u2,v0,v1,v2] t (0,0))
theorem NdS.two{S:Nat->Prop}{w':World}{g:Nat}{a c:Nd}{u0 u1 u2 v0 v1 v2:Value}(ht:Two w' g u0 u1 u2 v0 v1 v2)(hg:S g)(ha:NdS S w' a u0 u1 u2)(hc:NdS S w' c v0 v1 v2)(k:Int)(cap:Nat)(hcap:2<=cap) :
  NdS S w' (.mk k Sx.noS [a,c]) (.int .i64 k) (.string ⟨#[]⟩) (.slice (some ⟨g,0,none⟩) 2 cap):=by
 obtain⟨t,ht⟩:=ht;have hx:=fun j=>qk w' g j _ _ _ ht
 refine .mk k Sx.noS [a,c] (some ⟨g,0,none⟩) cap g 0 (fun i=>if i=0 then u0 else v0) (fun i=>if i=0 then u1 else v1) (fun i=>if i=0 then u2 else v2) (by unfold maxLen;decide) (by unfold maxLen;simp) hcap (fun _=>rfl) (fun _=>hg) ?_ ?_ ?_ ?_
 ·intro i hi
  match i,hi with
  |0,_=>exact(hx 0).trans rfl
  |1,_=>exact(hx 3).trans rfl
 ·intro i hi
  match i,hi with
  |0,_=>exact(hx 1).trans rfl
  |1,_=>exact(hx 4).trans rfl
 ·intro i hi
  match i,hi with
  |0,_=>exact(hx 2).trans rfl
  |1,_=>exact(hx 5).trans rfl
 ·intro i hi
  match i,hi with
  |0,_=>exact ha
  |1,_=>exact hc
theorem qdg(k k1 k2:Int)(s1 s2:ByteArray)(a1 a2:Option Addr)(n1 n2 c1 c2:Nat)(w:World) :
  Calls Tryz.prog 70 #[.int .i64 k,.agg #[.int .i64 k1,.string s1,.slice a1 n1 c1],.agg #[.int .i64 k2,.string s2,.slice a2 n2 c2]] w fun e w' =>
   ∃ g,e = .returned (.agg #[.int .i64 k,.string ⟨#[]⟩,.slice (some ⟨g,0,none⟩) 2 2])/\w.heap.size<=g/\Two w' g (.int .i64 k1) (.string s1) (.slice a1 n1 c1) (.int .i64 k2) (.string s2) (.slice a2 n2 c2)/\Below w.heap.size w w':=by
 obtain⟨R,hR⟩:∃ R:Ending->World->Prop,(fun e w'=>∃ g,e = .returned (.agg #[.int .i64 k,.string ⟨#[]⟩,.slice (some ⟨g,0,none⟩) 2 2])/\w.heap.size<=g/\Two w' g (.int .i64 k1) (.string s1) (.slice a1 n1 c1) (.int .i64 k2) (.string s2) (.slice a2 n2 c2)/\Below w.heap.size w w')=R:=⟨_,rfl⟩;rw[hR];have HR:=qh hR;clear hR;go_enter Tryz.func70,Tryz.ntmps70;go_wp2;refine zg ((Row3.newAt (by simp)).alloc _) Tryz.results70 rfl rfl ?_;rw[<-HR.out];exact⟨w.heap.size+1+1+1,rfl,by omega,⟨_,x6 (by simp)⟩,((((Below.refl _ w).alloc (q5 _) _).alloc (by simp) _).alloc (by simp;omega) _).alloc (by simp;omega) _⟩
structure Kp(h:Nat)(w W:World):Prop where
 size:w.heap.size<=W.heap.size
 blk:∀ b,h<=b->b < w.heap.size->W.heap[b]?=w.heap[b]?
theorem Kp.refl(h:Nat)(w:World):Kp h w w:=⟨q5 _,fun _ _ _=>rfl⟩
theorem Kp.trans{h:Nat}{w w1 w2:World}(a:Kp h w w1)(b:Kp h w1 w2):Kp h w w2:=⟨ql a.size b.size,fun k h1 h2=>(b.blk k h1 (qs h2 a.size)).trans (a.blk k h1 h2)⟩
theorem Kp.below{h:Nat}{w w1 w2:World}(a:Kp h w w1)(b:Below w1.heap.size w1 w2):Kp h w w2:=a.trans ⟨b.size,fun k _ h2=>b.block k h2⟩
theorem Kp.mv{E:PE}{q:Nat}{h:Nat}{w w1 w2:World}(a:Kp h w w1)(b:Mv E q w1 w2)(hp:E.pb < h):Kp h w w2:=a.trans ⟨b.size,fun k h1 h2=>b.blk k h2 (by omega)⟩
theorem Kp.alloc{h:Nat}{w w1:World}(a:Kp h w w1)(o:Obj):Kp h w (w1.alloc o):=a.trans ⟨by simp,fun k _ h2=>Below.heap_alloc _ _ _ h2⟩
theorem Kp.set{h:Nat}{w w1:World}(a:Kp h w w1){p:Addr}(u:Value)(hp:p.block < h):Kp h w (w1.setCell p u):=a.trans ⟨by rw[qq];exact q5 _,fun k h1 _=>Below.heap_setCell _ _ _ _ (by omega)⟩
theorem Kp.put3{h:Nat}{w w1:World}(a:Kp h w w1){b:Nat}(u0 u1 u2:Value)(hp:b < h):Kp h w (((w1.setCell ⟨b,0,none⟩ u0).setCell ⟨b,1,none⟩ u1).setCell ⟨b,2,none⟩ u2):=((a.set (p:=⟨b,0,none⟩) _ hp).set (p:=⟨b,1,none⟩) _ hp).set (p:=⟨b,2,none⟩) _ hp
theorem NdS.fin{h h':Nat}{w1 W:World}{t:Nd}{v0 v1 v2:Value}(hn:NdS (fun b=>h'<=b) w1 t v0 v1 v2)(hh:h<=h')(hk:Kp h' w1 W):NdS (fun b=>h<=b) W t v0 v1 v2 :=
 hn.keep fun b h1 h2=>⟨hk.blk b h1 h2,ql hh h1⟩
theorem qko{ts:List Lx.Tok}{q b:Nat}{k:Int}(h:jg (Sx.txt ts q) b opsL=some k):q < ts.length:=by
 by_cases hx:q < ts.length
 ·exact hx
 ·rw[qfu (by omega)]at h
  simp[jg,opsL]at h
def q2o(E:PE)(b:Nat)(r1:Sx.PR Nd)(R2:Nat->Sx.PR Nd):Sx.PR Nd :=
 match r1 with
 | .bad q=>.bad q
 | .ok a q=>(match jg (Sx.txt E.ts q) b opsL with
  |none=>.ok a q
  |some k=>(match R2 (q+1)with
   | .bad r=>.bad r
   | .ok c r=>.ok (.mk k Sx.noS [a,c]) r))
theorem q9o(E:PE)(q b:Nat)(w:World)(h:PS E q w)(hb:b<=6)(hb5:b≠5)(r1:Sx.PR Nd)(R2:Nat->Sx.PR Nd)
  (C1:∀ w0,PS E q w0->Calls Tryz.prog 85 #[.pointer (some ⟨E.pb,0,none⟩),.int .i64 ((b:Int)+1)] w0 (Gr E w0 r1))
  (C2:∀ q1 a,r1 = .ok a q1->q1 < E.ts.length->∀ w0,PS E (q1+1) w0->Calls Tryz.prog 85 #[.pointer (some ⟨E.pb,0,none⟩),.int .i64 (b:Nat)] w0 (Gr E w0 (R2 (q1+1)))) :
  Calls Tryz.prog 85 #[.pointer (some ⟨E.pb,0,none⟩),.int .i64 (b:Nat)] w (Gr E w (q2o E b r1 R2)):=by
 have e5:((b:Int)==5)=false:=by rw[q9];omega
 have e7:((b:Int)==7)=false:=by rw[q9];omega
 have eb:(b:Int)<=6:=by omega
 have HP:=qh h;have hpl:=h.lt;have H5:=qh hb5;have D1:=qh C1;have D2:=qh C2;have Hb:=qh hb;have B0:=qh ((Below.refl w.heap.size w).alloc (q5 _) (.cells #[.int .i64 0,.string ⟨#[]⟩,.slice none 0 0] 25));have R0:=qh (Row3.new w (.int .i64 0) (.string ⟨#[]⟩) (.slice none 0 0));clear h hb hb5 C1 C2
 cases r1 with
 |bad q' =>
  obtain⟨R,hR⟩:∃ R,Gr E w (q2o E b (.bad q') R2)=R:=⟨_,rfl⟩;have HR:Hid (Gr E w (.bad q')=R):=qh hR;rw[hR];clear hR;go_enter Tryz.func85,Tryz.ntmps85
  go_wp2_with fail
  refine(D1.out _ (HP.out.later B0.out)).mono ?_;rintro e w1⟨rfl,hm,hq⟩;go_wp2;rw[<-HR.out];exact⟨rfl,rfl,Mv.before HP.out B0.out hm,hq⟩
 |ok a q1 =>
  obtain⟨k1,s1,l1⟩:=a;obtain⟨o,ho⟩:∃ o,jg (Sx.txt E.ts q1) b opsL=o:=⟨_,rfl⟩;have CO:=qh (fun w h=>q6l E q1 b w h (by have:=Hb.out;omega));rw[ho]at CO
  cases o with
  |none =>
   obtain⟨R,hR⟩:∃ R,Gr E w (q2o E b (.ok (.mk k1 s1 l1) q1) R2)=R:=⟨_,rfl⟩;have HR:Hid (Gr E w (.ok (.mk k1 s1 l1) q1)=R):=qh (by rw[<-hR];simp only[q2o,ho]);rw[hR];clear hR ho;go_enter Tryz.func85,Tryz.ntmps85
   go_wp2_with fail
   refine(D1.out _ (HP.out.later B0.out)).mono ?_;rintro e w1⟨⟨a,cap,rfl,hn⟩,hm,hq⟩;have M1:=qh (Mv.before HP.out B0.out hm);have N1:=qh hn;have R1:=qh (R0.out.mv hm (by omega));have Hq:=qh hq;clear hm hn hq
   go_wp2_with fail
   refine(CO.out _ ((M1.out.ps HP.out Hq.out).later ((Below.refl _ w1).alloc (q5 _) _))).mono ?_;rintro e w2⟨h0,_⟩;obtain⟨rfl,hb2⟩:=h0 rfl;have M2:=qh ((M1.out.alloc (.cells #[.int .i64 k1,.string s1,.slice a l1.length cap] 25)).later (hb2.mono (by simp;have:=M1.out.size;omega)));have R2:=qh ((R1.out.alloc (.cells #[.int .i64 k1,.string s1,.slice a l1.length cap] 25)).below hb2 (by simp;have:=R1.out.lt;omega));have L2:=qh ((Row3.new w1 (.int .i64 k1) (.string s1) (.slice a l1.length cap)).below hb2 (by simp));have K2:=qh (((Kp.refl (w.heap.size+1) w1).alloc (.cells #[.int .i64 k1,.string s1,.slice a l1.length cap] 25)).below hb2);obtain⟨⟨n0,n1,n2⟩,g0,g1,g2⟩:=R2.out.cells;obtain⟨⟨m0,m1,m2⟩,_⟩:=L2.out.cells;have ll:=L2.out.lt;have lr:=R2.out.lt;have l1w:=R1.out.lt;clear hb2 CO;go_wp2;refine zg (R2.out.put _ _ _) Tryz.results85 rfl rfl ?_;rw[<-HR.out];exact⟨⟨a,cap,rfl,N1.out.fin (by simp) ((by simpa using K2.out.put3 _ _ _ (by omega)))⟩,M2.out.put3 (q5 _) _ _ _,Hq.out⟩
  |some k =>
   have hlt:=qko ho;have C2:=qh (D2.out q1 _ rfl hlt);obtain⟨r2,hr2⟩:∃ r,R2 (q1+1)=r:=⟨_,rfl⟩;rw[hr2]at C2
   cases r2 with
   |bad q2 =>
    obtain⟨R,hR⟩:∃ R,Gr E w (q2o E b (.ok (.mk k1 s1 l1) q1) R2)=R:=⟨_,rfl⟩;have HR:Hid (Gr E w (.bad q2)=R):=qh (by rw[<-hR];simp only[q2o,ho,hr2]);rw[hR];clear hR ho hr2;go_enter Tryz.func85,Tryz.ntmps85
    go_wp2_with fail
    refine(D1.out _ (HP.out.later B0.out)).mono ?_;rintro e w1⟨⟨a,cap,rfl,hn⟩,hm,hq⟩;have M1:=qh (Mv.before HP.out B0.out hm);have Hq:=qh hq;clear hm hn hq
    go_wp2_with fail
    refine(CO.out _ ((M1.out.ps HP.out Hq.out).later ((Below.refl _ w1).alloc (q5 _) _))).mono ?_;rintro e w2⟨_,h0⟩;obtain⟨rfl,hb2,hp2⟩:=h0 k rfl;have L2:=qh ((Row3.new w1 (.int .i64 k1) (.string s1) (.slice a l1.length cap)).mv hb2 (by have:=M1.out.size;omega));have M2:=qh (Mv.trans HP.out (M1.out.alloc (.cells #[.int .i64 k1,.string s1,.slice a l1.length cap] 25)) Hq.out hb2);have P2:=qh hp2;obtain⟨⟨m0,m1,m2⟩,_⟩:=L2.out.cells;have ll:=L2.out.lt;clear hb2 hp2 CO
    go_wp2_with fail
    have F:Hid (∀ w5,Mv E q2 w2.drew w5->q2<=E.ts.length->R (.panicked [{ v:=xz E q2,recovered:=false }]) w5):=qh fun w5 hm5 hq5=>by
     rw[<-HR.out];exact⟨rfl,Mv.trans HP.out (M2.out.later (below_drewN (Below.refl _ _) 1)) hlt hm5,hq5⟩
    go_region_dies
    all_goals refine(C2.out _ (P2.out.later (Below.refl _ _).drew)).mono ?_
    all_goals rintro e w5 ⟨rfl,hm5,hq5⟩
    all_goals exact⟨rfl,F.out w5 hm5 hq5⟩
   |ok c q2 =>
    obtain⟨k2,s2,l2⟩:=c;obtain⟨R,hR⟩:∃ R,Gr E w (q2o E b (.ok (.mk k1 s1 l1) q1) R2)=R:=⟨_,rfl⟩;have HR:Hid (Gr E w (.ok (.mk k Sx.noS [.mk k1 s1 l1,.mk k2 s2 l2]) q2)=R):=qh (by rw[<-hR];simp only[q2o,ho,hr2]);rw[hR];clear hR ho hr2;go_enter Tryz.func85,Tryz.ntmps85
    go_wp2_with fail
    refine(D1.out _ (HP.out.later B0.out)).mono ?_;rintro e w1⟨⟨a,cap,rfl,hn⟩,hm,hq⟩;have M1:=qh (Mv.before HP.out B0.out hm);have N1:=qh hn;have R1:=qh (R0.out.mv hm (by omega));have Hq:=qh hq;clear hm hn hq
    go_wp2_with fail
    refine(CO.out _ ((M1.out.ps HP.out Hq.out).later ((Below.refl _ w1).alloc (q5 _) _))).mono ?_;rintro e w2⟨_,h0⟩;obtain⟨rfl,hb2,hp2⟩:=h0 k rfl;have hpw:E.pb < w1.heap.size:=by have:=M1.out.size;omega
    have L2:=qh ((Row3.new w1 (.int .i64 k1) (.string s1) (.slice a l1.length cap)).mv hb2 (by omega));have M2:=qh (Mv.trans HP.out (M1.out.alloc (.cells #[.int .i64 k1,.string s1,.slice a l1.length cap] 25)) Hq.out hb2);have P2:=qh hp2;have R2':=qh ((R1.out.alloc (.cells #[.int .i64 k1,.string s1,.slice a l1.length cap] 25)).mv hb2 (by omega));have K2:=qh (((Kp.refl (w.heap.size+1) w1).alloc (.cells #[.int .i64 k1,.string s1,.slice a l1.length cap] 25)).mv hb2 (by omega));obtain⟨⟨m0,m1,m2⟩,_⟩:=L2.out.cells;have ll:=L2.out.lt;have hpl1:=R1.out.lt;clear hb2 hp2 CO
    go_wp2_with fail
    go_region_held3 (fun w'=>w'.cell? ⟨w1.heap.size,0,none⟩=some (.int .i64 k1)/\w'.cell? ⟨w1.heap.size,1,none⟩=some (.string s1)/\w'.cell? ⟨w1.heap.size,2,none⟩=some (.slice a l1.length cap))
     (first|exact⟨m0,m1,m2⟩|exact L5.out.cells.1|exact L6.out.cells.1|exact(L6.out.put3o (by omega) _ _ _).cells.1)
     (first | ((go_at_call 85; refine (C2.out _ (P2.out.later (Below.refl _ _).drew)).mono ?_; rintro e w5 ⟨⟨a5, cap5, rfl, hn5⟩, hm5, hq5⟩; have L5 := Lib.hid (L2.out.mv (Mv.before P2.out (Below.refl _ _).drew hm5) (by omega)); have R5 := Lib.hid (R2'.out.mv (Mv.before P2.out (Below.refl _ _).drew hm5) (by omega))))
            | ((go_at_call 70; refine (qdg      k k1 k2 s1 s2 a a5 l1.length l2.length cap cap5 w5).mono ?_; rintro e w6 ⟨g, rfl, hg, htw, hb6⟩; have L6 := Lib.hid (L5.out.below hb6 L5.out.lt); have R6 := Lib.hid (R5.out.below hb6 R5.out.lt); obtain ⟨⟨n0, n1, n2⟩, g0, g1, g2⟩ := R6.out.cells)))
    have hsz2:w.heap.size < w2.heap.size:=by omega
    have hm5':=Mv.before P2.out (Below.refl _ _).drew hm5;have hs5:=hm5'.size;have hgw:w.heap.size < g:=by omega
    have K5:=(K2.out.mv hm5' (by omega)).below hb6;have NL:=N1.out.fin (h:=w.heap.size) (by simp) (by simpa using K5.put3 (b:=w.heap.size) (.int .i64 k) (.string ⟨#[]⟩) (.slice (some ⟨g,0,none⟩) 2 2) (by omega));have NR:=hn5.fin (h:=w.heap.size) (vn hsz2) (((Kp.refl w2.heap.size w5).below hb6).put3 (b:=w.heap.size) (.int .i64 k) (.string ⟨#[]⟩) (.slice (some ⟨g,0,none⟩) 2 2) hsz2)
    have TW:Two (((w6.setCell ⟨w.heap.size,0,none⟩ (.int .i64 k)).setCell ⟨w.heap.size,1,none⟩ (.string ⟨#[]⟩)).setCell ⟨w.heap.size,2,none⟩ (.slice (some ⟨g,0,none⟩) 2 2)) g (.int .i64 k1) (.string s1) (.slice a l1.length cap) (.int .i64 k2) (.string s2) (.slice a5 l2.length cap5):=by
     obtain⟨t,ht⟩:=htw;exact⟨t,(((Kp.refl g w6).put3 (b:=w.heap.size) _ _ _ hgw).blk g (q5 _) (za ht)).trans ht⟩
    have NN:=qh (NdS.two TW (by show w.heap.size<=g;omega) NL NR k 2 (q5 _));have MM:=qh (((Mv.trans HP.out M2.out hlt hm5').later (hb6.mono (by omega))).put3 (b:=w.heap.size) (q5 _) (.int .i64 k) (.string ⟨#[]⟩) (.slice (some ⟨g,0,none⟩) 2 2));have Hq5:=qh hq5;clear NL NR TW K5 hm5' hs5 htw hb6 hm5 hn5 hq5;go_wp2;refine zg (R6.out.put _ _ _) Tryz.results85 rfl rfl ?_;rw[<-HR.out];exact⟨⟨_,_,rfl,NN.out⟩,MM.out,Hq5.out⟩
attribute [local go_sem] jn jm jk
theorem qr1(E:PE)(q:Nat)(w:World)(h:PS E q w)(r:Sx.PR Nd)(C:∀ w0,PS E q w0->Calls Tryz.prog 148 #[.pointer (some ⟨E.pb,0,none⟩)] w0 (Gr E w0 r)) :
  Calls Tryz.prog 85 #[.pointer (some ⟨E.pb,0,none⟩),.int .i64 7] w (Gr E w r):=by
 have HP:=qh h;have hpl:=h.lt;have D:=qh C;have B0:=qh ((Below.refl w.heap.size w).alloc (q5 _) (.cells #[.int .i64 0,.string ⟨#[]⟩,.slice none 0 0] 25));have R0:=qh (Row3.new w (.int .i64 0) (.string ⟨#[]⟩) (.slice none 0 0));clear h C;obtain⟨R,hR⟩:∃ R,Gr E w r=R:=⟨_,rfl⟩;have HR:=qh hR;rw[hR];clear hR
 cases r with
 |bad q' =>
  go_enter Tryz.func85,Tryz.ntmps85
  go_wp2_with fail
  refine(D.out _ (HP.out.later B0.out)).mono ?_;rintro e w1⟨rfl,hm,hq⟩;go_wp2;rw[<-HR.out];exact⟨rfl,rfl,Mv.before HP.out B0.out hm,hq⟩
 |ok t q1 =>
  obtain⟨k1,s1,l1⟩:=t;go_enter Tryz.func85,Tryz.ntmps85
  go_wp2_with fail
  refine(D.out _ (HP.out.later B0.out)).mono ?_;rintro e w1⟨⟨a,cap,rfl,hn⟩,hm,hq⟩;have M1:=qh (Mv.before HP.out B0.out hm);have N1:=qh hn;have R1:=qh (R0.out.mv hm (by omega));have Hq:=qh hq;obtain⟨⟨n0,n1,n2⟩,g0,g1,g2⟩:=R1.out.cells;have lr:=R1.out.lt;clear hm hn hq;go_wp2;refine zg (R1.out.put _ _ _) Tryz.results85 rfl rfl ?_;rw[<-HR.out];exact⟨⟨a,cap,rfl,N1.out.fin (by simp) (by simpa using (Kp.refl (w.heap.size+1) w1).put3 (b:=w.heap.size) _ _ _ (by omega))⟩,M1.out.put3 (q5 _) _ _ _,Hq.out⟩
theorem qr2(E:PE)(q:Nat)(w:World)(h:PS E q w)(r:Sx.PR Nd)(C:∀ w0,PS E q w0->Calls Tryz.prog 147 #[.pointer (some ⟨E.pb,0,none⟩)] w0 (Gr E w0 r)) :
  Calls Tryz.prog 85 #[.pointer (some ⟨E.pb,0,none⟩),.int .i64 5] w (Gr E w r):=by
 have HP:=qh h;have hpl:=h.lt;have D:=qh C;have B0:=qh ((Below.refl w.heap.size w).alloc (q5 _) (.cells #[.int .i64 0,.string ⟨#[]⟩,.slice none 0 0] 25));have R0:=qh (Row3.new w (.int .i64 0) (.string ⟨#[]⟩) (.slice none 0 0));clear h C;obtain⟨R,hR⟩:∃ R,Gr E w r=R:=⟨_,rfl⟩;have HR:=qh hR;rw[hR];clear hR
 cases r with
 |bad q' =>
  go_enter Tryz.func85,Tryz.ntmps85
  go_wp2_with fail
  refine(D.out _ (HP.out.later B0.out)).mono ?_;rintro e w1⟨rfl,hm,hq⟩;go_wp2;rw[<-HR.out];exact⟨rfl,rfl,Mv.before HP.out B0.out hm,hq⟩
 |ok t q1 =>
  obtain⟨k1,s1,l1⟩:=t;go_enter Tryz.func85,Tryz.ntmps85
  go_wp2_with fail
  refine(D.out _ (HP.out.later B0.out)).mono ?_;rintro e w1⟨⟨a,cap,rfl,hn⟩,hm,hq⟩;have M1:=qh (Mv.before HP.out B0.out hm);have N1:=qh hn;have R1:=qh (R0.out.mv hm (by omega));have Hq:=qh hq;obtain⟨⟨n0,n1,n2⟩,g0,g1,g2⟩:=R1.out.cells;have lr:=R1.out.lt;clear hm hn hq;go_wp2;refine zg (R1.out.put _ _ _) Tryz.results85 rfl rfl ?_;rw[<-HR.out];exact⟨⟨a,cap,rfl,N1.out.fin (by simp) (by simpa using (Kp.refl (w.heap.size+1) w1).put3 (b:=w.heap.size) _ _ _ (by omega))⟩,M1.out.put3 (q5 _) _ _ _,Hq.out⟩
theorem q8x(E:PE)(q:Nat)(w:World)(h:PS E q w)(r:Sx.PR Nd)(C:∀ w0,PS E q w0->Calls Tryz.prog 85 #[.pointer (some ⟨E.pb,0,none⟩),.int .i64 6] w0 (Gr E w0 r)) :
  Calls Tryz.prog 44 #[.pointer (some ⟨E.pb,0,none⟩)] w (Gr E w r):=by
 have HP:=qh h;have hpl:=h.lt;have D:=qh C;have B0:=qh ((Below.refl w.heap.size w).alloc (q5 _) (.cells #[.int .i64 0,.string ⟨#[]⟩,.slice none 0 0] 25));have R0:=qh (Row3.new w (.int .i64 0) (.string ⟨#[]⟩) (.slice none 0 0));clear h C;obtain⟨R,hR⟩:∃ R,Gr E w r=R:=⟨_,rfl⟩;have HR:=qh hR;rw[hR];clear hR
 cases r with
 |bad q' =>
  go_enter Tryz.func44,Tryz.ntmps44
  go_wp2_with fail
  refine(D.out _ (HP.out.later B0.out)).mono ?_;rintro e w1⟨rfl,hm,hq⟩;go_wp2;rw[<-HR.out];exact⟨rfl,rfl,Mv.before HP.out B0.out hm,hq⟩
 |ok t q1 =>
  obtain⟨k1,s1,l1⟩:=t;go_enter Tryz.func44,Tryz.ntmps44
  go_wp2_with fail
  refine(D.out _ (HP.out.later B0.out)).mono ?_;rintro e w1⟨⟨a,cap,rfl,hn⟩,hm,hq⟩;have M1:=qh (Mv.before HP.out B0.out hm);have N1:=qh hn;have R1:=qh (R0.out.mv hm (by omega));have Hq:=qh hq;obtain⟨⟨n0,n1,n2⟩,g0,g1,g2⟩:=R1.out.cells;have lr:=R1.out.lt;clear hm hn hq;go_wp2;refine zg (R1.out.put _ _ _) Tryz.results44 rfl rfl ?_;rw[<-HR.out];exact⟨⟨a,cap,rfl,N1.out.fin (by simp) (by simpa using (Kp.refl (w.heap.size+1) w1).put3 (b:=w.heap.size) _ _ _ (by omega))⟩,M1.out.put3 (q5 _) _ _ _,Hq.out⟩
theorem q99(E:PE)(q:Nat)(w:World)(h:PS E q w)(r:Sx.PR Nd)(k:Int)(C:∀ w0,PS E q w0->Calls Tryz.prog 88 #[.pointer (some ⟨E.pb,0,none⟩),.int .i64 k,.func (.func 42) #[] #[]] w0 (Gr E w0 r)) :
  Calls Tryz.prog 138 #[.pointer (some ⟨E.pb,0,none⟩),.int .i64 k] w (Gr E w r):=by
 have HP:=qh h;have hpl:=h.lt;have D:=qh C;have B0:=qh ((Below.refl w.heap.size w).alloc (q5 _) (.cells #[.int .i64 0,.string ⟨#[]⟩,.slice none 0 0] 25));have R0:=qh (Row3.new w (.int .i64 0) (.string ⟨#[]⟩) (.slice none 0 0));clear h C;obtain⟨R,hR⟩:∃ R,Gr E w r=R:=⟨_,rfl⟩;have HR:=qh hR;rw[hR];clear hR
 cases r with
 |bad q' =>
  go_enter Tryz.func138,Tryz.ntmps138
  go_wp2_with fail
  refine(D.out _ (HP.out.later B0.out)).mono ?_;rintro e w1⟨rfl,hm,hq⟩;go_wp2;rw[<-HR.out];exact⟨rfl,rfl,Mv.before HP.out B0.out hm,hq⟩
 |ok t q1 =>
  obtain⟨k1,s1,l1⟩:=t;go_enter Tryz.func138,Tryz.ntmps138
  go_wp2_with fail
  refine(D.out _ (HP.out.later B0.out)).mono ?_;rintro e w1⟨⟨a,cap,rfl,hn⟩,hm,hq⟩;have M1:=qh (Mv.before HP.out B0.out hm);have N1:=qh hn;have R1:=qh (R0.out.mv hm (by omega));have Hq:=qh hq;obtain⟨⟨n0,n1,n2⟩,g0,g1,g2⟩:=R1.out.cells;have lr:=R1.out.lt;clear hm hn hq;go_wp2;refine zg (R1.out.put _ _ _) Tryz.results138 rfl rfl ?_;rw[<-HR.out];exact⟨⟨a,cap,rfl,N1.out.fin (by simp) (by simpa using (Kp.refl (w.heap.size+1) w1).put3 (b:=w.heap.size) _ _ _ (by omega))⟩,M1.out.put3 (q5 _) _ _ _,Hq.out⟩
end Go.Proofs.YtkckddojlignpaaGreatDoor
