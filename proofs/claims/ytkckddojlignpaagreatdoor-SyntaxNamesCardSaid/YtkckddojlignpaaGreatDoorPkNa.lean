/- A part of the proof, packed: see the last text of this claim. -/
import Derived.Test.YtkckddojlignpaaGreatDoorRows
import Derived.Test.YtkckddojlignpaaGreatDoorProg
import Derived.WalkKit
import Derived.WalkSpells
import Derived.WalkLawsBesides
import Derived.Lib.Hide
import Derived.Below
import Derived.Deep.QuietTactic
import Derived.Deep.DeepCutAuto
import Derived.Deep.RegionWith
import Derived.Deep.RegionHeld3
import Derived.Deep.DeepFit
import Derived.BigQuiet
import Derived.Shelf.Strings.Builder1
import Derived.Shelf.Strings.Builder2
import Derived.Shelf.Strings.OnBuilder
import Derived.Shelf.Small.Strs
import Derived.Shelf.Strings.BuilderF
import Derived.Shelf.Strings.BuilderK
import Derived.Shelf.Utf8.RuneCount
import Derived.Shelf.LaysM
import Derived.Shelf.Strconv.Clone
import Derived.Shelf.Strings.Search1
import Derived.Shelf.Strings.Search2
import Derived.Shelf.Strings.Search3
import Derived.Shelf.Strings.Cut
import Derived.Shelf.Strings.Count
import Derived.Shelf.Strings.Shaped
import Derived.Shelf.Strings.Prefix
import Derived.Shelf.Strings.Split
import Derived.Shelf.Strings.SplitShaped
import Derived.Shelf.Strings.RuneCount
import Derived.Shelf.Unicode.DecodeSlow
import Derived.Shelf.Slices.Turned
import Derived.Deep.WholeRow
import Derived.Laws.EntriesVeiled
import Derived.RangeFuncRecord
import Derived.RangeFuncNested
import Derived.RangeFuncCalls
import Derived.RangeFuncLeaves
import Derived.RecoverIn
import Derived.OwnWalkIn
import Derived.TacticsInMore
import Derived.LoopNIn
import Derived.LoopIn
import Derived.Deep.AppendLies
import Derived.Test.YtkckddojlignpaaGreatDoorChecked
import Derived.ProofKit
import Derived.LaidMore
import Derived.OpenShut
import Derived.Stop.Joined
import Derived.Lib.IndexLaws
set_option maxHeartbeats 20000000
set_option maxRecDepth 100000
namespace Go.Proofs.YtkckddojlignpaaGreatDoor
abbrev q6:=@World.size_alloc
abbrev q9:=@Nat.le_refl
abbrev qa:=@List.setIfInBounds_toArray
abbrev qc:=@beq_eq_false_iff_ne
abbrev qd:=@if_neg
abbrev qe:=@List.set_cons_zero
abbrev qf:=@List.set_cons_succ
abbrev qg:=@List.length_append
abbrev qj:=@if_pos
abbrev qk:=@World.alloc_heap_new
abbrev ql:=@Bool.and_eq_true
abbrev qm:=@cell_of_row
abbrev qn:=@List.append_assoc
abbrev qo:=@Nat.le_trans
abbrev qp:=@decide_eq_true_eq
abbrev qq:=@List.getElem?_eq_getElem
abbrev qr:=@List.length_cons
abbrev qu:=@Nat.lt_of_lt_of_le
abbrev qv:=@Nat.zero_le
abbrev qw:=@List.take_of_length_le
abbrev qx:=@List.length_map
abbrev qz:=@List.length_nil
abbrev zc:=@List.take_succ_eq_append_getElem
abbrev zi:=@List.getElem_cons_succ
abbrev zj:=@List.flatMap_append
abbrev zk:=@List.getElem_cons_zero
abbrev zl:=@Nat.le_of_lt_succ
abbrev zn:=@Option.some.inj
abbrev xw:=@Lib.cell_of_heap
end Go.Proofs.YtkckddojlignpaaGreatDoor
namespace Go.Proofs.YtkckddojlignpaaGreatDoor
theorem qh{p : Prop}(h : p) : RowKit.Hid p := Lib.hid h
end Go.Proofs.YtkckddojlignpaaGreatDoor
namespace Go.Proofs.YtkckddojlignpaaGreatDoor
open Go.RowKit
inductive Nd where
 |mk (k:Int) (s:ByteArray) (l:List Nd)
mutual
def Nd.sz:Nd->Nat
 | .mk _ _ l=>1+Nd.szL l
def Nd.szL:List Nd->Nat
 |[]=>0
 |a :: l=>Nd.sz a+Nd.szL l
end
theorem y5:∀ (l:List Nd) (i:Nat) (h:i < l.length),(l[i]).sz<=Nd.szL l
 |a :: l,0,_=>by simp only[zk,Nd.szL];omega
 |a :: l,i+1,h=>by
  simp only[zi,Nd.szL];have:=y5 l i (by simpa using h);omega
theorem Nd.kid_lt(k:Int)(s:ByteArray)(l:List Nd)(i:Nat)(h:i < l.length):(l[i]).sz < (Nd.mk k s l).sz:=by
 have:=y5 l i h;simp only[Nd.sz];omega
inductive NdR (w:World):Nd->Value->Value->Value->Prop
 |mk (k:Int) (s:ByteArray) (l:List Nd) (a:Option Addr) (cap b o:Nat) (f0 f1 f2:Nat->Value) (hs:s.size<=maxLen) (hl:l.length<=maxLen) (hc:l.length<=cap)
   (ha:l≠[]->a=some ⟨b,o,none⟩)
   (h0:∀ i,i < l.length->w.cell? ⟨b,o+i*3,none⟩=some (f0 i))
   (h1:∀ i,i < l.length->w.cell? ⟨b,o+i*3+1,none⟩=some (f1 i))
   (h2:∀ i,i < l.length->w.cell? ⟨b,o+i*3+2,none⟩=some (f2 i))
   (hr:∀ i (hi:i < l.length),NdR w l[i] (f0 i) (f1 i) (f2 i)):NdR w (.mk k s l) (.int .i64 k) (.string s) (.slice a l.length cap)
theorem qi{w:World}{b o:Nat}{v:Value}(h:w.cell? ⟨b,o,none⟩=some v):b < w.heap.size:=by
 have:=World.block_lt_of_cell? w ⟨b,o,none⟩ h;exact this
theorem NdR.later{w w':World}(hb:Below w.heap.size w w'){t:Nd}{v0 v1 v2:Value}(h:NdR w t v0 v1 v2):NdR w' t v0 v1 v2:=by
 induction h with
 |mk k s l a cap b o f0 f1 f2 hs hl hc ha h0 h1 h2 _ ih =>
  exact .mk k s l a cap b o f0 f1 f2 hs hl hc ha
   (fun i hi=>(hb.cell (p:=⟨b,o+i*3,none⟩) (qi (h0 i hi))).trans (h0 i hi))
   (fun i hi=>(hb.cell (p:=⟨b,o+i*3+1,none⟩) (qi (h1 i hi))).trans (h1 i hi))
   (fun i hi=>(hb.cell (p:=⟨b,o+i*3+2,none⟩) (qi (h2 i hi))).trans (h2 i hi)) ih
theorem NdR.form{w:World}{t:Nd}{v0 v1 v2:Value}(h:NdR w t v0 v1 v2):∃ k s l a cap,t = .mk k s l/\v0 = .int .i64 k/\v1 = .string s/\v2 = .slice a l.length cap/\s.size<=maxLen/\l.length<=maxLen:=by
 cases h with
 |mk k s l a cap b o f0 f1 f2 hs hl hc ha h0 h1 h2 hr=>exact⟨k,s,l,a,cap,rfl,rfl,rfl,rfl,hs,hl⟩
theorem NdR.cap{w:World}{k:Int}{s:ByteArray}{l:List Nd}{v0 v1:Value}{a:Option Addr}{n cap:Nat}(h:NdR w (.mk k s l) v0 v1 (.slice a n cap)):l.length<=cap:=by
 cases h with
 |mk k s l a cap b o f0 f1 f2 hs hl hc ha h0 h1 h2 hr=>exact hc
theorem NdR.kid{w:World}{k:Int}{s:ByteArray}{l:List Nd}{v0 v1:Value}{a:Option Addr}{n cap:Nat}(h:NdR w (.mk k s l) v0 v1 (.slice a n cap))(i:Nat)(hi:i < l.length) :
  ∃ (b o:Nat) (k':Int) (s':ByteArray) (l':List Nd) (a':Option Addr) (cap':Nat),a=some ⟨b,o,none⟩/\l[i] = .mk k' s' l' /\
   w.cell? ⟨b,o+i*3,none⟩=some (.int .i64 k')/\w.cell? ⟨b,o+i*3+1,none⟩=some (.string s')/\w.cell? ⟨b,o+i*3+2,none⟩=some (.slice a' l'.length cap') /\
   NdR w (.mk k' s' l') (.int .i64 k') (.string s') (.slice a' l'.length cap'):=by
 cases h with
 |mk _ _ _ _ _ b o f0 f1 f2 hs hl hc ha h0 h1 h2 hr =>
  have hk:=hr i hi;obtain⟨k',s',l',a',cap',e,e0,e1,e2,_,_⟩:=hk.form;rw[e,e0,e1,e2]at hk;exact⟨b,o,k',s',l',a',cap',ha (by rintro rfl;simp at hi),e,(h0 i hi).trans (congrArg some e0),(h1 i hi).trans (congrArg some e1),(h2 i hi).trans (congrArg some e2),hk⟩
mutual
def ku:Nd->Nd->Bool
 | .mk k s l,.mk k' s' l'=>(k==k' && s.toList==s'.toList) && ke l l'
def ke:List Nd->List Nd->Bool
 |[],[]=>true
 |a :: l,b :: m=>ku a b && ke l m
 |_,_=>false
end
theorem q55:∀ (l m:List Nd),l.length≠m.length->ke l m=false
 |[],[],h=>absurd rfl h
 |[],_ :: _,_=>by simp[ke]
 |_ :: _,[],_=>by simp[ke]
 |a :: l,b :: m,h=>by simp only[ke];rw[q55 l m (by simpa using h),Bool.and_false]
theorem q7t{l m:List Nd}{k:Nat}(h:k < l.length)(h2:k < m.length):ke (l.drop k) (m.drop k)=(ku l[k] m[k] && ke (l.drop (k+1)) (m.drop (k+1))):=by
 rw[List.drop_eq_getElem_cons h,List.drop_eq_getElem_cons h2];simp only[ke]
theorem q9f{l m:List Nd}{k:Nat}(h:l.length<=k)(h2:m.length<=k):ke (l.drop k) (m.drop k)=true:=by
 rw[List.drop_of_length_le h,List.drop_of_length_le h2];simp only[ke]
end Go.Proofs.YtkckddojlignpaaGreatDoor
namespace Go.Proofs.YtkckddojlignpaaGreatDoor
namespace Lx
abbrev Bs:=List UInt8
def small(c:UInt8):Bool:=decide (97<=c.toNat) && decide (c.toNat<=122)
def capital(c:UInt8):Bool:=decide (65<=c.toNat) && decide (c.toNat<=90)
def part(c:UInt8):Bool:=small c||capital c||(decide (48<=c.toNat) && decide (c.toNat<=57))||decide (c.toNat=95)||decide (c.toNat=39)
def signB(c:UInt8):Bool:=[42,38,43,33,123,125,40,41,46,44,58,92].contains c
def blank(c:UInt8):Bool:=decide (c.toNat=32)||decide (c.toNat=9)||decide (c.toNat=10)
def words:List Bs:=[
 [116,121,112,101],[99,111,110,115,116],[112,114,101,100],[102,97,99,116],[108,97,115,116,105,110,103],[109,111,100,101],
 [114,117,108,101],[111,110,99,101],[109,111,115,116],[113,117,101,114,121],[109,111,100,117,108,101],[117,115,101],
 [101,120,112,111,114,116],[97,108,108],[101,120],[111,110,101],[116,111,112]]
def runLen(r:Bs):Nat:=(r.takeWhile part).length
def runTo(l:Bs)(i:Nat):Nat:=i+runLen (l.drop i)
def skipC:Bool->Bs->Nat
 |_,[]=>0
 |true,c :: r=>if c.toNat=10 then 1+skipC false r else 1+skipC true r
 |false,c :: r=>if blank c then 1+skipC false r else if c.toNat=37 then 1+skipC true r else 0
def skipTo(l:Bs)(i:Nat):Nat:=i+skipC false (l.drop i)
def lineTo(l:Bs)(i:Nat):Nat:=i+((l.drop i).takeWhile (fun c=>decide (c.toNat≠10))).length
def nameTo(l:Bs)(i:Nat):Nat :=
 let j:=runTo l i
 if l[j]?=some 64/\(l[j+1]?.map small)=some true then runTo l (j+1) else j
def slice(l:Bs)(i j:Nat):Bs:=(l.drop i).take (j - i)
def pre(l:Bs)(i:Nat)(p:Bs):Bool:=p.isPrefixOf (l.drop i)
def isLong(l:Bs)(i:Nat):Bool :=
 (pre l i [45,111] && runTo l (i+1)==i+2)||pre l i [45,62]||pre l i [61,62]||pre l i [60,61]
theorem pre_two{l:Bs}{i:Nat}{a b:UInt8}(h:pre l i [a,b]=true):l[i]?=some a/\l[i+1]?=some b:=by
 unfold pre at h;rw[List.isPrefixOf_iff_prefix]at h;obtain⟨r,hr⟩:=h;have h0:(l.drop i)[0]?=some a:=by rw[<-hr];rfl
 have h1:(l.drop i)[1]?=some b:=by rw[<-hr];rfl
 rw[List.getElem?_drop]at h0 h1;exact⟨by simpa using h0,h1⟩
def tokAt(l:Bs)(i:Nat):Option (Nat×Nat) :=
 match l[i]? with
 |none=>none
 |some c =>
  if small c then
   let j:=nameTo l i
   if slice l i j=[111]/\l[j]?=some 45 then some (3,j+1)
   else if words.contains (slice l i j) then some (4,j) else some (1,j)
  else if capital c then some (2,runTo l i)
  else if signB c then some (3,i+1)
  else if isLong l i then some (3,i+2) else none
structure Tok where
 kind:Nat
 text:Bs
 pos:Nat
 deriving DecidableEq,Repr
inductive Res where
 |toks (l:List Tok)
 |bad (pos:Nat) (err:Nat)
 deriving DecidableEq,Repr
def scanT(l:Bs):Nat->List Tok->Nat->Res
 |0,pre,_=>.toks pre
 |f+1,pre,i =>
  if l.length<=i then .toks pre
  else match tokAt l i with
   |none=>.bad i 10
   |some (k,j) =>
    if pre.length=6000 then .bad i 2
    else if 40 < j - i then .bad i 11
    else scanT l f (pre++[⟨k,slice l i j,i⟩]) (skipTo l j)
def scan(l:Bs):Res:=if 20000 < l.length then .bad 0 2 else scanT l (l.length+1) [] (skipTo l 0)
theorem runLen_le(r:Bs):runLen r<=r.length:=by
 unfold runLen;exact(List.takeWhile_prefix _).length_le
theorem runTo_le{l:Bs}{i:Nat}(h:i<=l.length):i<=runTo l i/\runTo l i<=l.length:=by
 unfold runTo;have:=runLen_le (l.drop i);simp at this;omega
theorem runLen_cons(c:UInt8)(r:Bs):runLen (c :: r)=if part c then 1+runLen r else 0:=by
 unfold runLen;rw[List.takeWhile_cons];split <;> simp[Nat.add_comm]
theorem runTo_step{l:Bs}{k:Nat}(h:k < l.length):runTo l k=if part l[k] then runTo l (k+1) else k:=by
 unfold runTo;rw[List.drop_eq_getElem_cons h,runLen_cons];split <;> omega
theorem runTo_end{l:Bs}{k:Nat}(h:l.length<=k):runTo l k=k:=by
 unfold runTo;rw[List.drop_of_length_le h];rfl
theorem skipC_le(b:Bool)(r:Bs):skipC b r<=r.length:=by
 induction r generalizing b with
 |nil=>simp[skipC]
 |cons c r ih =>
  cases b
  ·simp only[skipC,qr]
   split
   ·have:=ih false;omega
   ·split
    ·have:=ih true;omega
    ·omega
  ·simp only[skipC,qr]
   split
   ·have:=ih false;omega
   ·have:=ih true;omega
theorem skipTo_le{l:Bs}{i:Nat}(h:i<=l.length):i<=skipTo l i/\skipTo l i<=l.length:=by
 unfold skipTo;have:=skipC_le false (l.drop i);simp at this;omega
theorem skipTo_blank{l:Bs}{k:Nat}(h:k < l.length)(hb:blank l[k]=true):skipTo l k=skipTo l (k+1):=by
 unfold skipTo;rw[List.drop_eq_getElem_cons h];simp only[skipC,hb,if_true];omega
theorem skipTo_stop{l:Bs}{k:Nat}(h:k < l.length)(hb:blank l[k]=false)(hp:l[k].toNat≠37):skipTo l k=k:=by
 unfold skipTo;rw[List.drop_eq_getElem_cons h];simp[skipC,hb,hp]
theorem skipTo_end{l:Bs}{k:Nat}(h:l.length<=k):skipTo l k=k:=by
 unfold skipTo;rw[List.drop_of_length_le h];rfl
theorem skipC_true(r:Bs):skipC true r=(r.takeWhile (fun c=>decide (c.toNat≠10))).length+skipC false (r.drop (r.takeWhile (fun c=>decide (c.toNat≠10))).length):=by
 induction r with
 |nil=>simp[skipC]
 |cons c r ih =>
  by_cases h:c.toNat=10
  ·simp[skipC,h,blank]
  ·have e:(c :: r).takeWhile (fun c=>decide (c.toNat≠10))=c :: r.takeWhile (fun c=>decide (c.toNat≠10)):=by
    rw[List.takeWhile_cons,qj (by simp[h])]
   rw[e];simp only[skipC,qr,List.drop_succ_cons];rw[qd h,ih];omega
theorem lineTo_le{l:Bs}{i:Nat}(h:i<=l.length):i<=lineTo l i/\lineTo l i<=l.length:=by
 unfold lineTo;have:=(List.takeWhile_prefix (p:=fun c:UInt8=>decide (c.toNat≠10)) (l:=l.drop i)).length_le;simp at this ⊢;omega
theorem skipTo_comment{l:Bs}{k:Nat}(h:k < l.length)(hp:l[k].toNat=37):skipTo l k=skipTo l (lineTo l k)/\k < lineTo l k:=by
 have e:lineTo l k=k+1+((l.drop (k+1)).takeWhile (fun c=>decide (c.toNat≠10))).length:=by
  unfold lineTo;rw[List.drop_eq_getElem_cons h,List.takeWhile_cons];simp[hp];omega
 refine⟨?_,by omega⟩;have hb:blank l[k]=false:=by simp[blank,hp]
 have:skipTo l k=k+(1+skipC true (l.drop (k+1))):=by
  unfold skipTo;rw[List.drop_eq_getElem_cons h];simp[skipC,hb,hp]
 rw[this,skipC_true];unfold skipTo;rw[e,List.drop_drop];omega
theorem nameTo_le{l:Bs}{i:Nat}(h:i<=l.length):i<=nameTo l i/\nameTo l i<=l.length:=by
 unfold nameTo;have h1:=runTo_le h;simp only
 split
 ·rename_i hc
  have:runTo l i < l.length:=by
   rcases Nat.lt_or_ge (runTo l i) l.length with h|h
   ·exact h
   ·rw[List.getElem?_eq_none h]at hc;simp at hc
  have:=runTo_le (l:=l) (i:=runTo l i+1) (by omega);omega
 ·exact h1
theorem nameTo_lt{l:Bs}{i:Nat}(h:i < l.length)(hp:part l[i]=true):i < nameTo l i:=by
 have h0:i < runTo l i:=by rw[runTo_step h,qj hp];have:=runTo_le (l:=l) (i:=i+1) (by omega);omega
 unfold nameTo;simp only
 split
 ·rename_i hc
  have:runTo l i < l.length:=by
   rcases Nat.lt_or_ge (runTo l i) l.length with h|h
   ·exact h
   ·rw[List.getElem?_eq_none h]at hc;simp at hc
  have:=runTo_le (l:=l) (i:=runTo l i+1) (by omega);omega
 ·exact h0
theorem small_part{c:UInt8}(h:small c=true):part c=true:=by simp[part,h]
theorem capital_part{c:UInt8}(h:capital c=true):part c=true:=by simp[part,h]
theorem tokAt_lt{l:Bs}{i k j:Nat}(h:tokAt l i=some (k,j)):i < j/\j<=l.length:=by
 have hi:i < l.length:=by
  rcases Nat.lt_or_ge i l.length with h'|h'
  ·exact h'
  ·simp[tokAt,List.getElem?_eq_none h']at h
 have hlen:∀ {j:Nat} {c:UInt8},l[j]?=some c->j < l.length:=fun {j c} h=>(List.getElem?_eq_some_iff.1 h).1
 simp only[tokAt,qq hi]at h
 split at h
 ·rename_i hs
  have h1:=nameTo_lt hi (small_part hs);have h2:=nameTo_le (l:=l) (i:=i) (by omega)
  split at h
  ·rename_i hc;have:=hlen hc.2;simp at h;omega
  ·split at h <;> (simp at h;omega)
 ·split at h
  ·rename_i hc
   have:i < runTo l i:=by rw[runTo_step hi,qj (capital_part hc)];have:=runTo_le (l:=l) (i:=i+1) (by omega);omega
   have:=runTo_le (l:=l) (i:=i) (by omega);simp at h;omega
  ·split at h
   ·simp at h;omega
   ·split at h
    ·rename_i hl
     have:i+1 < l.length:=by
      simp only[isLong,Bool.or_eq_true,ql,beq_iff_eq]at hl;rcases hl with ((⟨h2,_⟩|h2)|h2)|h2 <;> exact hlen (pre_two h2).2
     simp at h;omega
    ·simp at h
end Lx
end Go.Proofs.YtkckddojlignpaaGreatDoor
namespace Go.Proofs
open Go.Shelf
def Tryz.lays137_ren:Go.Shelf.Ren:=⟨fun|137=>182|217=>214|266=>233|n=>n,fun|9=>9|5=>5|3=>3|n=>n,fun|n=>n⟩
theorem Tryz.lays137:Go.Proofs.Lays.n137 Tryz.prog Tryz.lays137_ren:={
 mixed:=by kernel_rfl
 f137:=Tryz.func182.trans (congrArg some (by kernel_rfl))
 f217:=Tryz.func214.trans (congrArg some (by kernel_rfl))
 f266:=Tryz.func233.trans (congrArg some (by kernel_rfl))
 t3:=Tryz.underlying3
 a3:=Tryz.isAgg3
 z3:=Tryz.sizeOf3
 v3:=Tryz.zeroValue3
 t5:=Tryz.underlying5
 a5:=Tryz.isAgg5
 z5:=Tryz.sizeOf5
 v5:=Tryz.zeroValue5
 t9:=Tryz.underlying9
 a9:=Tryz.isAgg9
 z9:=Tryz.sizeOf9
 v9:=Tryz.zeroValue9 }
open Go.RowKit in
theorem Tryz.strings_IndexByte(s:ByteArray)(c:Int)(w:World) :
  Calls Tryz.prog 182 #[.string s,.int .u8 c] w fun e w'=>e = .returned (.int .i64 (Lib.indexByte s.data.toList c.toNat.toUInt8))/\w'=w:=Any.strings_IndexByte Tryz.lays137 s c w
def Tryz.laysM316_ren:Go.Shelf.Ren:=⟨fun|316=>179|n=>n,fun|9=>9|3=>3|4=>4|37=>120|0=>0|127=>170|5=>5|n=>n,fun|n=>n⟩
theorem Tryz.laysM316:Go.Proofs.LaysM.n316 Tryz.prog Tryz.laysM316_ren:={
 mixed:=by kernel_rfl
 f316:=Tryz.func179.trans (congrArg some (by kernel_rfl))
 t0:=Tryz.underlying0
 a0:=Tryz.isAgg0
 z0:=Tryz.sizeOf0
 v0:=Tryz.zeroValue0
 t3:=Tryz.underlying3
 a3:=Tryz.isAgg3
 z3:=Tryz.sizeOf3
 v3:=Tryz.zeroValue3
 t4:=Tryz.underlying4
 a4:=Tryz.isAgg4
 z4:=Tryz.sizeOf4
 v4:=Tryz.zeroValue4
 t9:=Tryz.underlying9
 a9:=Tryz.isAgg9
 z9:=Tryz.sizeOf9
 v9:=Tryz.zeroValue9
 t37:=Tryz.underlying120
 a37:=Tryz.isAgg120
 z37:=Tryz.sizeOf120
 v37:=Tryz.zeroValue120
 t127:=Tryz.underlying170
 a127:=Tryz.isAgg170
 z127:=Tryz.sizeOf170
 v127:=Tryz.zeroValue170
 t5:=Tryz.underlying5
 a5:=Tryz.isAgg5
 z5:=Tryz.sizeOf5
 v5:=Tryz.zeroValue5
 i0:=by kernel_rfl
 i3:=by kernel_rfl
 i4:=by kernel_rfl
 i5:=by kernel_rfl
 i9:=by kernel_rfl
 i37:=by kernel_rfl
 i127:=by kernel_rfl }
open Go.RowKit in
theorem Tryz.stringslite_Clone(s:ByteArray)(w:World)(hlim:s.size<=281474976710656) :
  Calls Tryz.prog 179 #[.string s] w fun e w'=>e = .returned (.string s)/\Below w.heap.size w w':=Any.stringslite_Clone Tryz.laysM316 s w hlim
def Tryz.lays219_ren:Go.Shelf.Ren:=⟨fun|219=>210|217=>214|225=>230|224=>231|267=>232|266=>233|314=>236|n=>n,fun|9=>9|3=>3|4=>4|5=>5|46=>205|146=>211|51=>210|n=>n,fun|1=>2|n=>n⟩
theorem Tryz.lays219:Go.Proofs.Lays.n219 Tryz.prog Tryz.lays219_ren:={
 mixed:=by kernel_rfl
 f217:=Tryz.func214.trans (congrArg some (by kernel_rfl))
 f219:=Tryz.func210.trans (congrArg some (by kernel_rfl))
 f224:=Tryz.func231.trans (congrArg some (by kernel_rfl))
 f225:=Tryz.func230.trans (congrArg some (by kernel_rfl))
 f266:=Tryz.func233.trans (congrArg some (by kernel_rfl))
 f267:=Tryz.func232.trans (congrArg some (by kernel_rfl))
 f314:=Tryz.func236.trans (congrArg some (by kernel_rfl))
 t3:=Tryz.underlying3
 a3:=Tryz.isAgg3
 z3:=Tryz.sizeOf3
 v3:=Tryz.zeroValue3
 t4:=Tryz.underlying4
 a4:=Tryz.isAgg4
 z4:=Tryz.sizeOf4
 v4:=Tryz.zeroValue4
 t5:=Tryz.underlying5
 a5:=Tryz.isAgg5
 z5:=Tryz.sizeOf5
 v5:=Tryz.zeroValue5
 t9:=Tryz.underlying9
 a9:=Tryz.isAgg9
 z9:=Tryz.sizeOf9
 v9:=Tryz.zeroValue9
 t46:=Tryz.underlying205
 a46:=Tryz.isAgg205
 z46:=Tryz.sizeOf205
 v46:=Tryz.zeroValue205
 t51:=Tryz.underlying210
 a51:=Tryz.isAgg210
 z51:=Tryz.sizeOf210
 v51:=Tryz.zeroValue210
 t146:=Tryz.underlying211
 a146:=Tryz.isAgg211
 z146:=Tryz.sizeOf211
 v146:=Tryz.zeroValue211
 g1:=by kernel_rfl }
open Go.RowKit Go.Lib in
theorem Tryz.stringslite_Index_one(s:ByteArray)(c:UInt8)(w:World) :
  Calls Tryz.prog 210 #[.string s,.string ⟨#[c]⟩] w fun e w'=>e = .returned (.int .i64 (Lib.indexByte s.data.toList c))/\w'=w:=Any.stringslite_Index_one Tryz.lays219 s c w
def Tryz.lays206_ren:Go.Shelf.Ren:=⟨fun|206=>234|n=>n,fun|9=>9|4=>4|3=>3|n=>n,fun|n=>n⟩
def Tryz.lays99_ren:Go.Shelf.Ren:=⟨fun|99=>218|206=>234|n=>n,fun|9=>9|4=>4|3=>3|n=>n,fun|n=>n⟩
theorem Tryz.lays99:Go.Proofs.Lays.n99 Tryz.prog Tryz.lays99_ren:={
 mixed:=by kernel_rfl
 f99:=Tryz.func218.trans (congrArg some (by kernel_rfl))
 f206:=Tryz.func234.trans (congrArg some (by kernel_rfl))
 t3:=Tryz.underlying3
 a3:=Tryz.isAgg3
 z3:=Tryz.sizeOf3
 v3:=Tryz.zeroValue3
 t4:=Tryz.underlying4
 a4:=Tryz.isAgg4
 z4:=Tryz.sizeOf4
 v4:=Tryz.zeroValue4
 t9:=Tryz.underlying9
 a9:=Tryz.isAgg9
 z9:=Tryz.sizeOf9
 v9:=Tryz.zeroValue9 }
open Go.RowKit Go.Lib in
theorem Tryz.strings_HasPrefix(s p:ByteArray)(w:World) :
  Calls Tryz.prog 218 #[.string s,.string p] w fun e w'=>e = .returned (.bool (Lib.hasPrefix s.data.toList p.data.toList))/\w'=w:=Any.strings_HasPrefix Tryz.lays99 s p w
def Tryz.lays110_ren:Go.Shelf.Ren:=⟨fun|110=>61|109=>123|n=>n,fun|31=>42|9=>9|4=>4|3=>3|0=>0|n=>n,fun|n=>n⟩
theorem Tryz.lays110:Go.Proofs.Lays.n110 Tryz.prog Tryz.lays110_ren:={
 mixed:=by kernel_rfl
 f109:=Tryz.func123.trans (congrArg some (by kernel_rfl))
 f110:=Tryz.func61.trans (congrArg some (by kernel_rfl))
 t0:=Tryz.underlying0
 a0:=Tryz.isAgg0
 z0:=Tryz.sizeOf0
 v0:=Tryz.zeroValue0
 t3:=Tryz.underlying3
 a3:=Tryz.isAgg3
 z3:=Tryz.sizeOf3
 v3:=Tryz.zeroValue3
 t4:=Tryz.underlying4
 a4:=Tryz.isAgg4
 z4:=Tryz.sizeOf4
 v4:=Tryz.zeroValue4
 t9:=Tryz.underlying9
 a9:=Tryz.isAgg9
 z9:=Tryz.sizeOf9
 v9:=Tryz.zeroValue9
 t31:=Tryz.underlying42
 a31:=Tryz.isAgg42
 z31:=Tryz.sizeOf42
 v31:=Tryz.zeroValue42 }
open Go.Lib in
theorem Tryz.slices_Contains_string(b off n c:Nat)(zs:List ByteArray)(x:ByteArray)(w:World)(hz:n<=zs.length)(hbig:n<=9223372036854775807)(hc:∀ j,j < zs.length->w.cell? ⟨b,off+j,none⟩=some (.string (zs.getD j ByteArray.empty))) :
  Calls Tryz.prog 61 #[.slice (some ⟨b,off,none⟩) n c,.string x] w fun e w'=>e = .returned (.bool (Lib.containsS (zs.take n) x))/\w'=w:=Any.slices_Contains_string Tryz.lays110 b off n c zs x w hz hbig hc
open Go.Lib in
theorem Tryz.slices_Contains_string_empty(a:Option Addr)(c:Nat)(x:ByteArray)(w:World) :
  Calls Tryz.prog 61 #[.slice a 0 c,.string x] w fun e w'=>e = .returned (.bool false)/\w'=w:=Any.slices_Contains_string_empty Tryz.lays110 a c x w
end Go.Proofs
namespace Go.Proofs.YtkckddojlignpaaGreatDoor
open Go.RowKit
def bs(s:ByteArray):Lx.Bs:=s.data.toList
theorem jg{s:ByteArray}{k:Nat}(h:k < s.size):(bs s)[k]'(by simpa[bs]using h)=s[k]:=by simp[bs];rfl
theorem q0s{k:IntKind}{a b:Int}(h:a=b):Ending.returned (.int k a)=Ending.returned (.int k b):=by rw[h]
theorem xr(c:UInt8):(c.toNat:Int) < 256:=by have:=c.toNat_lt;omega
theorem zd(s:ByteArray):(bs s).length=s.size:=by simp[bs]
theorem qcv(s:ByteArray)(bT bN:Nat)(i:Nat)(w:World)(hs:s.size<=maxLen)(hi:i<=s.size)
  (hT:w.cell? ⟨bT,0,none⟩=some (.string s))
  (hN:∀ c:UInt8,w.cell? ⟨bN,c.toNat,none⟩=some (.bool (Lx.part c))) :
  Calls Tryz.prog 219 #[.int .i64 i,.pointer (some ⟨bT,0,none⟩),.pointer (some ⟨bN,0,none⟩)] w fun e w'=>e = .returned (.int .i64 (Lx.runTo (bs s) i))/\w=w':=by
 unfold maxLen at hs;go_enter Tryz.func219,Tryz.ntmps219;go_wp2
 go_loop [0] (fun a=>∃ k:Nat,k<=s.size/\a = .int .i64 k/\Lx.runTo (bs s) i=Lx.runTo (bs s) k) (fun a=>s.size - (intOf a).toNat)
 case atStart=>exact⟨i,hi,rfl,rfl⟩
 case round =>
  obtain⟨k,hk,rfl,hrun⟩:=hrel;have Hrun:=qh hrun;clear hrun;have hby:=xr
  by_cases hlt:k < s.size
  ·go_wp2
   ·have hp:Lx.part s[k]=true:=by assumption
    go_round
    case rel=>exact⟨k+1,by omega,by go_num,by rw[Hrun.out,Lx.runTo_step (by rw[zd];exact hlt),jg hlt,qj hp]⟩
    case measure=>simp[intOf];omega
   ·have hp:Lx.part s[k]=false:=by assumption
    go_ret;exact⟨q0s (by rw[Hrun.out,Lx.runTo_step (by rw[zd];exact hlt),jg hlt,hp];simp),rfl⟩
  ·go_wp2
   go_ret;exact⟨q0s (by rw[Hrun.out,Lx.runTo_end (by rw[zd];omega)]),rfl⟩
theorem js(s:ByteArray)(bT bN:Nat)(i:Int)(w:World)(hs:s.size<=maxLen)(h0:0<=i)(hi:i<=s.size)
  (hT:w.cell? ⟨bT,0,none⟩=some (.string s))
  (hN:∀ c:UInt8,w.cell? ⟨bN,c.toNat,none⟩=some (.bool (Lx.part c))) :
  Calls Tryz.prog 219 #[.int .i64 i,.pointer (some ⟨bT,0,none⟩),.pointer (some ⟨bN,0,none⟩)] w fun e w'=>e = .returned (.int .i64 (Lx.runTo (bs s) i.toNat))/\w=w':=by
 obtain⟨n,rfl⟩:=Int.eq_ofNat_of_zero_le h0;exact qcv s bT bN n w hs (by omega) hT hN
theorem q0d(s:ByteArray)(i j:Nat):bs (s.extract i j)=Lx.slice (bs s) i j:=by
 simp[bs,Lx.slice,ByteArray.data_extract,List.extract_eq_take_drop]
theorem q3k(s:ByteArray)(i:Nat):bs (s.extract i s.size)=(bs s).drop i:=by
 rw[q0d,Lx.slice,qw (by simp[zd])]
theorem q96(s:ByteArray)(t:Nat)(kd:Int)(i j:Nat)(w:World)(_hs:s.size<=maxLen)(hi:i<=j)(hj:j<=s.size)
  (hT:w.cell? ⟨t,0,none⟩=some (.string s)) :
  Calls Tryz.prog 216 #[.int .i64 kd,.int .i64 i,.int .i64 j,.pointer (some ⟨t,0,none⟩)] w fun e w' =>
   e = .returned (.agg #[.int .i64 kd,.string (s.extract i j),.int .i64 i])/\w'=w.alloc (.cells #[.int .i64 kd,.string (s.extract i j),.int .i64 i] 111):=by
 unfold maxLen at _hs;have ht:=block_lt_of_cell hT;simp only at ht;go_enter Tryz.func216,Tryz.ntmps216;go_wp2;refine bodyPost_ret (v:=.agg #[.int .i64 kd,.string (s.extract i j),.int .i64 i]) (by simp[results,Tryz.results216,go_sem]) rfl ⟨rfl,rfl⟩
theorem q1t(s:ByteArray)(t:Nat)(kd:Int)(i j:Int)(w:World)(hs:s.size<=maxLen)(h0:0<=i)(hi:i<=j)(hj:j<=s.size)
  (hT:w.cell? ⟨t,0,none⟩=some (.string s)) :
  Calls Tryz.prog 216 #[.int .i64 kd,.int .i64 i,.int .i64 j,.pointer (some ⟨t,0,none⟩)] w fun e w' =>
   e = .returned (.agg #[.int .i64 kd,.string (s.extract i.toNat j.toNat),.int .i64 i])/\w'=w.alloc (.cells #[.int .i64 kd,.string (s.extract i.toNat j.toNat),.int .i64 i] 111):=by
 obtain⟨n,rfl⟩:=Int.eq_ofNat_of_zero_le h0;obtain⟨m,rfl⟩:=Int.eq_ofNat_of_zero_le (show 0<=j by omega);exact q96 s t kd n m w hs (by omega) (by omega) hT
theorem qd8(s p:ByteArray)(t:Nat)(i:Nat)(w:World)(_hs:s.size<=maxLen)(hi:i<=s.size)
  (hT:w.cell? ⟨t,0,none⟩=some (.string s)) :
  Calls Tryz.prog 217 #[.int .i64 i,.string p,.pointer (some ⟨t,0,none⟩)] w fun e w' =>
   e = .returned (.bool (Lx.pre (bs s) i (bs p)))/\w=w':=by
 unfold maxLen at _hs;go_enter Tryz.func217,Tryz.ntmps217
 go_wp2_with (go_at_call 218;refine(Tryz.strings_HasPrefix _ _ _).mono ?_;rintro e w' ⟨rfl,rfl⟩)
 go_ret;have e1:List.take (s.size - i) (List.drop i s.data.toList)=(bs s).drop i:=qw (by simp);exact⟨congrArg (fun x=>Ending.returned (.bool (Lib.hasPrefix x (bs p)))) e1,rfl⟩
theorem jf(s p:ByteArray)(t:Nat)(i:Int)(w:World)(hs:s.size<=maxLen)(h0:0<=i)(hi:i<=s.size)
  (hT:w.cell? ⟨t,0,none⟩=some (.string s)) :
  Calls Tryz.prog 217 #[.int .i64 i,.string p,.pointer (some ⟨t,0,none⟩)] w fun e w' =>
   e = .returned (.bool (Lx.pre (bs s) i.toNat (bs p)))/\w=w':=by
 obtain⟨n,rfl⟩:=Int.eq_ofNat_of_zero_le h0;exact qd8 s p t n w hs (by omega) hT
theorem jz{n:Nat}(h:n<=20000):n<=maxLen:=by unfold maxLen;omega
theorem qkb(s:ByteArray)(t fo ne nm:Nat)(i:Nat)(w:World)(hs:s.size<=20000)(hi:i < s.size)
  (hT:w.cell? ⟨t,0,none⟩=some (.string s))
  (hN:∀ c:UInt8,w.cell? ⟨nm,c.toNat,none⟩=some (.bool (Lx.part c)))
  (hFo:w.cell? ⟨fo,0,none⟩=some (.func (.func 217) #[] #[.pointer (some ⟨t,0,none⟩)]))
  (hNe:w.cell? ⟨ne,0,none⟩=some (.func (.func 219) #[] #[.pointer (some ⟨t,0,none⟩),.pointer (some ⟨nm,0,none⟩)]))
  (h1:Lx.pre (bs s) i (bs ⟨#[45,111]⟩)=true) (h2:(((Lx.runTo (bs s) (i+1):Nat):Int)==(i:Int)+2)=true) :
  Calls Tryz.prog 221 #[.int .i64 i,.pointer (some ⟨fo,0,none⟩),.pointer (some ⟨ne,0,none⟩)] w fun e w' =>
   e = .returned (.bool true)/\w=w':=by
 have hm:=jz hs;go_enter Tryz.func221,Tryz.ntmps221
 go_wp2_with (first
  |(go_at_call 217;refine(jf s _ t i w hm (by omega) (by omega) hT).mono ?_;rintro e w' ⟨rfl,rfl⟩)
  |(go_at_call 219;refine(js s t nm (i+1) w hm (by omega) (by omega) hT hN).mono ?_;rintro e w' ⟨rfl,rfl⟩))
 go_ret;exact⟨rfl,rfl⟩
theorem qid(s:ByteArray)(t fo ne nm:Nat)(i:Nat)(w:World)(hs:s.size<=20000)(hi:i < s.size)
  (hT:w.cell? ⟨t,0,none⟩=some (.string s))
  (hN:∀ c:UInt8,w.cell? ⟨nm,c.toNat,none⟩=some (.bool (Lx.part c)))
  (hFo:w.cell? ⟨fo,0,none⟩=some (.func (.func 217) #[] #[.pointer (some ⟨t,0,none⟩)]))
  (hNe:w.cell? ⟨ne,0,none⟩=some (.func (.func 219) #[] #[.pointer (some ⟨t,0,none⟩),.pointer (some ⟨nm,0,none⟩)]))
  (h1:Lx.pre (bs s) i (bs ⟨#[45,111]⟩)=true) (h2:(((Lx.runTo (bs s) (i+1):Nat):Int)==(i:Int)+2)=false) (h3:Lx.pre (bs s) i (bs ⟨#[45,62]⟩)=true) :
  Calls Tryz.prog 221 #[.int .i64 i,.pointer (some ⟨fo,0,none⟩),.pointer (some ⟨ne,0,none⟩)] w fun e w' =>
   e = .returned (.bool true)/\w=w':=by
 have hm:=jz hs;go_enter Tryz.func221,Tryz.ntmps221
 go_wp2_with (first
  |(go_at_call 217;refine(jf s _ t i w hm (by omega) (by omega) hT).mono ?_;rintro e w' ⟨rfl,rfl⟩)
  |(go_at_call 219;refine(js s t nm (i+1) w hm (by omega) (by omega) hT hN).mono ?_;rintro e w' ⟨rfl,rfl⟩))
 go_ret;exact⟨rfl,rfl⟩
theorem qic(s:ByteArray)(t fo ne nm:Nat)(i:Nat)(w:World)(hs:s.size<=20000)(hi:i < s.size)
  (hT:w.cell? ⟨t,0,none⟩=some (.string s))
  (hN:∀ c:UInt8,w.cell? ⟨nm,c.toNat,none⟩=some (.bool (Lx.part c)))
  (hFo:w.cell? ⟨fo,0,none⟩=some (.func (.func 217) #[] #[.pointer (some ⟨t,0,none⟩)]))
  (hNe:w.cell? ⟨ne,0,none⟩=some (.func (.func 219) #[] #[.pointer (some ⟨t,0,none⟩),.pointer (some ⟨nm,0,none⟩)]))
  (h1:Lx.pre (bs s) i (bs ⟨#[45,111]⟩)=true) (h2:(((Lx.runTo (bs s) (i+1):Nat):Int)==(i:Int)+2)=false) (h3:Lx.pre (bs s) i (bs ⟨#[45,62]⟩)=false) (h4:Lx.pre (bs s) i (bs ⟨#[61,62]⟩)=true) :
  Calls Tryz.prog 221 #[.int .i64 i,.pointer (some ⟨fo,0,none⟩),.pointer (some ⟨ne,0,none⟩)] w fun e w' =>
   e = .returned (.bool true)/\w=w':=by
 have hm:=jz hs;go_enter Tryz.func221,Tryz.ntmps221
 go_wp2_with (first
  |(go_at_call 217;refine(jf s _ t i w hm (by omega) (by omega) hT).mono ?_;rintro e w' ⟨rfl,rfl⟩)
  |(go_at_call 219;refine(js s t nm (i+1) w hm (by omega) (by omega) hT hN).mono ?_;rintro e w' ⟨rfl,rfl⟩))
 go_ret;exact⟨rfl,rfl⟩
theorem qib(s:ByteArray)(t fo ne nm:Nat)(i:Nat)(w:World)(hs:s.size<=20000)(hi:i < s.size)
  (hT:w.cell? ⟨t,0,none⟩=some (.string s))
  (hN:∀ c:UInt8,w.cell? ⟨nm,c.toNat,none⟩=some (.bool (Lx.part c)))
  (hFo:w.cell? ⟨fo,0,none⟩=some (.func (.func 217) #[] #[.pointer (some ⟨t,0,none⟩)]))
  (hNe:w.cell? ⟨ne,0,none⟩=some (.func (.func 219) #[] #[.pointer (some ⟨t,0,none⟩),.pointer (some ⟨nm,0,none⟩)]))
  (h1:Lx.pre (bs s) i (bs ⟨#[45,111]⟩)=true) (h2:(((Lx.runTo (bs s) (i+1):Nat):Int)==(i:Int)+2)=false) (h3:Lx.pre (bs s) i (bs ⟨#[45,62]⟩)=false) (h4:Lx.pre (bs s) i (bs ⟨#[61,62]⟩)=false) :
  Calls Tryz.prog 221 #[.int .i64 i,.pointer (some ⟨fo,0,none⟩),.pointer (some ⟨ne,0,none⟩)] w fun e w' =>
   e = .returned (.bool (Lx.pre (bs s) i (bs ⟨#[60,61]⟩)))/\w=w':=by
 have hm:=jz hs;go_enter Tryz.func221,Tryz.ntmps221
 go_wp2_with (first
  |(go_at_call 217;refine(jf s _ t i w hm (by omega) (by omega) hT).mono ?_;rintro e w' ⟨rfl,rfl⟩)
  |(go_at_call 219;refine(js s t nm (i+1) w hm (by omega) (by omega) hT hN).mono ?_;rintro e w' ⟨rfl,rfl⟩))
 go_ret;exact⟨rfl,rfl⟩
theorem qia(s:ByteArray)(t fo ne nm:Nat)(i:Nat)(w:World)(hs:s.size<=20000)(hi:i < s.size)
  (hT:w.cell? ⟨t,0,none⟩=some (.string s))
  (_hN:∀ c:UInt8,w.cell? ⟨nm,c.toNat,none⟩=some (.bool (Lx.part c)))
  (hFo:w.cell? ⟨fo,0,none⟩=some (.func (.func 217) #[] #[.pointer (some ⟨t,0,none⟩)]))
  (_hNe:w.cell? ⟨ne,0,none⟩=some (.func (.func 219) #[] #[.pointer (some ⟨t,0,none⟩),.pointer (some ⟨nm,0,none⟩)]))
  (h1:Lx.pre (bs s) i (bs ⟨#[45,111]⟩)=false) (h3:Lx.pre (bs s) i (bs ⟨#[45,62]⟩)=true) :
  Calls Tryz.prog 221 #[.int .i64 i,.pointer (some ⟨fo,0,none⟩),.pointer (some ⟨ne,0,none⟩)] w fun e w' =>
   e = .returned (.bool true)/\w=w':=by
 have hm:=jz hs;go_enter Tryz.func221,Tryz.ntmps221
 go_wp2_with (first
  |(go_at_call 217;refine(jf s _ t i w hm (by omega) (by omega) hT).mono ?_;rintro e w' ⟨rfl,rfl⟩)
  |(go_at_call 219;refine(js s t nm (i+1) w hm (by omega) (by omega) hT hN).mono ?_;rintro e w' ⟨rfl,rfl⟩))
 go_ret;exact⟨rfl,rfl⟩
theorem qi9(s:ByteArray)(t fo ne nm:Nat)(i:Nat)(w:World)(hs:s.size<=20000)(hi:i < s.size)
  (hT:w.cell? ⟨t,0,none⟩=some (.string s))
  (_hN:∀ c:UInt8,w.cell? ⟨nm,c.toNat,none⟩=some (.bool (Lx.part c)))
  (hFo:w.cell? ⟨fo,0,none⟩=some (.func (.func 217) #[] #[.pointer (some ⟨t,0,none⟩)]))
  (_hNe:w.cell? ⟨ne,0,none⟩=some (.func (.func 219) #[] #[.pointer (some ⟨t,0,none⟩),.pointer (some ⟨nm,0,none⟩)]))
  (h1:Lx.pre (bs s) i (bs ⟨#[45,111]⟩)=false) (h3:Lx.pre (bs s) i (bs ⟨#[45,62]⟩)=false) (h4:Lx.pre (bs s) i (bs ⟨#[61,62]⟩)=true) :
  Calls Tryz.prog 221 #[.int .i64 i,.pointer (some ⟨fo,0,none⟩),.pointer (some ⟨ne,0,none⟩)] w fun e w' =>
   e = .returned (.bool true)/\w=w':=by
 have hm:=jz hs;go_enter Tryz.func221,Tryz.ntmps221
 go_wp2_with (first
  |(go_at_call 217;refine(jf s _ t i w hm (by omega) (by omega) hT).mono ?_;rintro e w' ⟨rfl,rfl⟩)
  |(go_at_call 219;refine(js s t nm (i+1) w hm (by omega) (by omega) hT hN).mono ?_;rintro e w' ⟨rfl,rfl⟩))
 go_ret;exact⟨rfl,rfl⟩
theorem qi8(s:ByteArray)(t fo ne nm:Nat)(i:Nat)(w:World)(hs:s.size<=20000)(hi:i < s.size)
  (hT:w.cell? ⟨t,0,none⟩=some (.string s))
  (_hN:∀ c:UInt8,w.cell? ⟨nm,c.toNat,none⟩=some (.bool (Lx.part c)))
  (hFo:w.cell? ⟨fo,0,none⟩=some (.func (.func 217) #[] #[.pointer (some ⟨t,0,none⟩)]))
  (_hNe:w.cell? ⟨ne,0,none⟩=some (.func (.func 219) #[] #[.pointer (some ⟨t,0,none⟩),.pointer (some ⟨nm,0,none⟩)]))
  (h1:Lx.pre (bs s) i (bs ⟨#[45,111]⟩)=false) (h3:Lx.pre (bs s) i (bs ⟨#[45,62]⟩)=false) (h4:Lx.pre (bs s) i (bs ⟨#[61,62]⟩)=false) :
  Calls Tryz.prog 221 #[.int .i64 i,.pointer (some ⟨fo,0,none⟩),.pointer (some ⟨ne,0,none⟩)] w fun e w' =>
   e = .returned (.bool (Lx.pre (bs s) i (bs ⟨#[60,61]⟩)))/\w=w':=by
 have hm:=jz hs;go_enter Tryz.func221,Tryz.ntmps221
 go_wp2_with (first
  |(go_at_call 217;refine(jf s _ t i w hm (by omega) (by omega) hT).mono ?_;rintro e w' ⟨rfl,rfl⟩)
  |(go_at_call 219;refine(js s t nm (i+1) w hm (by omega) (by omega) hT hN).mono ?_;rintro e w' ⟨rfl,rfl⟩))
 go_ret;exact⟨rfl,rfl⟩
theorem q8b(s:ByteArray)(t fo ne nm:Nat)(i:Nat)(w:World)(hs:s.size<=20000)(hi:i < s.size)
  (hT:w.cell? ⟨t,0,none⟩=some (.string s))
  (hN:∀ c:UInt8,w.cell? ⟨nm,c.toNat,none⟩=some (.bool (Lx.part c)))
  (hFo:w.cell? ⟨fo,0,none⟩=some (.func (.func 217) #[] #[.pointer (some ⟨t,0,none⟩)]))
  (hNe:w.cell? ⟨ne,0,none⟩=some (.func (.func 219) #[] #[.pointer (some ⟨t,0,none⟩),.pointer (some ⟨nm,0,none⟩)])) :
  Calls Tryz.prog 221 #[.int .i64 i,.pointer (some ⟨fo,0,none⟩),.pointer (some ⟨ne,0,none⟩)] w fun e w' =>
   e = .returned (.bool (Lx.isLong (bs s) i))/\w=w':=by
 have hd:Lx.isLong (bs s) i=((Lx.pre (bs s) i (bs ⟨#[45,111]⟩) && (((Lx.runTo (bs s) (i+1):Nat):Int)==(i:Int)+2))||Lx.pre (bs s) i (bs ⟨#[45,62]⟩)||Lx.pre (bs s) i (bs ⟨#[61,62]⟩)||Lx.pre (bs s) i (bs ⟨#[60,61]⟩)):=by
  have e2:(((Lx.runTo (bs s) (i+1):Nat):Int)==(i:Int)+2)=(Lx.runTo (bs s) (i+1)==i+2):=by
   rw[Bool.eq_iff_iff,beq_iff_eq,beq_iff_eq];omega
  rw[e2];rfl
 rw[hd];rcases Bool.eq_false_or_eq_true (Lx.pre (bs s) i (bs ⟨#[45,111]⟩))with h1|h1
 ·rcases Bool.eq_false_or_eq_true (((Lx.runTo (bs s) (i+1):Nat):Int)==(i:Int)+2)with h2|h2
  ·refine(qkb s t fo ne nm i w hs hi hT hN hFo hNe h1 h2).mono ?_;rintro e w' ⟨rfl,h⟩;exact⟨by rw[h1,h2];rfl,h⟩
  ·rcases Bool.eq_false_or_eq_true (Lx.pre (bs s) i (bs ⟨#[45,62]⟩))with h3|h3
   ·refine(qid s t fo ne nm i w hs hi hT hN hFo hNe h1 h2 h3).mono ?_;rintro e w' ⟨rfl,h⟩;exact⟨by rw[h1,h2,h3];rfl,h⟩
   ·rcases Bool.eq_false_or_eq_true (Lx.pre (bs s) i (bs ⟨#[61,62]⟩))with h4|h4
    ·refine(qic s t fo ne nm i w hs hi hT hN hFo hNe h1 h2 h3 h4).mono ?_;rintro e w' ⟨rfl,h⟩;exact⟨by rw[h1,h2,h3,h4];rfl,h⟩
    ·refine(qib s t fo ne nm i w hs hi hT hN hFo hNe h1 h2 h3 h4).mono ?_;rintro e w' ⟨rfl,h⟩;exact⟨by rw[h1,h2,h3,h4];rfl,h⟩
 ·rcases Bool.eq_false_or_eq_true (Lx.pre (bs s) i (bs ⟨#[45,62]⟩))with h3|h3
  ·refine(qia s t fo ne nm i w hs hi hT hN hFo hNe h1 h3).mono ?_;rintro e w' ⟨rfl,h⟩;exact⟨by rw[h1,h3];rfl,h⟩
  ·rcases Bool.eq_false_or_eq_true (Lx.pre (bs s) i (bs ⟨#[61,62]⟩))with h4|h4
   ·refine(qi9 s t fo ne nm i w hs hi hT hN hFo hNe h1 h3 h4).mono ?_;rintro e w' ⟨rfl,h⟩;exact⟨by rw[h1,h3,h4];rfl,h⟩
   ·refine(qi8 s t fo ne nm i w hs hi hT hN hFo hNe h1 h3 h4).mono ?_;rintro e w' ⟨rfl,h⟩;exact⟨by rw[h1,h3,h4];rfl,h⟩
def ve(s:ByteArray)(kd i j:Nat):Value:=.agg #[.int .i64 kd,.string (s.extract i j),.int .i64 i]
def q0p(s:ByteArray)(i:Nat)(w:World)(e:Ending)(w':World):Prop :=
 ∃ kd j,Lx.tokAt (bs s) i=some (kd,j)/\e = .returned (ve s kd i j)/\Below w.heap.size w w'
def wordsB:List ByteArray:=Lx.words.map fun l=>⟨l.toArray⟩
theorem qc5{a b:ByteArray}(h:bs a=bs b):a=b:=by
 cases a;cases b;simp only[bs]at h;congr;exact Array.toList_inj.1 h
theorem q0c(x:ByteArray):Lib.containsS (wordsB.take 17) x=Lx.words.contains (bs x):=by
 rw[Bool.eq_iff_iff,Lib.containsS_iff,List.contains_iff_mem];rw[qw (by simp[wordsB,Lx.words])];simp only[wordsB,List.mem_map]
 constructor
 ·rintro⟨l,hl,rfl⟩;simpa[bs]using hl
 ·intro h;exact⟨_,h,qc5 (by simp[bs])⟩
theorem q97{s:ByteArray}{i e:Nat}(hi:i < s.size)(hsm:Lx.small s[i]=true)(hE:Lx.nameTo (bs s) i=e) :
  Lx.tokAt (bs s) i=if bs (s.extract i e)=[111]/\(bs s)[e]?=some 45 then some (3,e+1) else if Lx.words.contains (bs (s.extract i e)) then some (4,e) else some (1,e):=by
 have h0:(bs s)[i]?=some s[i]:=by rw[qq (by rw[zd];exact hi),jg hi]
 simp only[Lx.tokAt,h0,hsm,if_true,hE,q0d]
def q21(l:Lx.Bs)(j:Nat):Bool:=Lx.pre l j [64] && (l[j+1]?.map Lx.small).getD false
theorem qm6{s:ByteArray}{j:Nat}(h:¬ Lx.pre (bs s) j (bs ⟨#[64]⟩)=true):q21 (bs s) j=false:=by
 have h':Lx.pre (bs s) j [64]=false:=by simpa[bs]using h
 simp[q21,h']
theorem qm5{s:ByteArray}{j:Nat}(h:¬ (j:Int)+1 < s.size):q21 (bs s) j=false:=by
 have:(bs s)[j+1]?=none:=List.getElem?_eq_none (by rw[zd];omega);simp[q21,this]
theorem qm4{s:ByteArray}{j:Nat}(h:Lx.pre (bs s) j (bs ⟨#[64]⟩)=true)(h2:j+1 < s.size):q21 (bs s) j=Lx.small s[j+1]:=by
 have h':Lx.pre (bs s) j [64]=true:=h;have:(bs s)[j+1]?=some s[j+1]:=by rw[qq (by rw[zd];exact h2),jg h2]
 simp[q21,this,h']
theorem q3h{l:Lx.Bs}{i:Nat}{a:UInt8}:Lx.pre l i [a]=true↔l[i]?=some a:=by
 unfold Lx.pre;rw[List.isPrefixOf_iff_prefix];have e:(l.drop i)[0]?=l[i]?:=by rw[List.getElem?_drop];simp
 constructor
 ·rintro⟨r,hr⟩
  have h0:(l.drop i)[0]?=some a:=by rw[<-hr];rfl
  exact e.symm.trans h0
 ·intro h
  rw[<-e]at h
  cases hd:l.drop i with
  |nil=>rw[hd]at h;simp at h
  |cons b r=>rw[hd]at h;simp at h;subst h;exact⟨r,rfl⟩
theorem qfl{l:Lx.Bs}{i j:Nat}(hj:Lx.runTo l i=j)(h:q21 l j=true):Lx.nameTo l i=Lx.runTo l (j+1)/\j+1 < l.length:=by
 simp only[q21,ql]at h;have h1:=q3h.1 h.1
 have hlt:j+1 < l.length:=by
  rcases Nat.lt_or_ge (j+1) l.length with h'|h'
  ·exact h'
  ·rw[List.getElem?_eq_none h']at h;simp at h
 refine⟨?_,hlt⟩;unfold Lx.nameTo;simp only[hj]
 have hg:(l[j+1]?.map Lx.small)=some true:=by
  cases hq:l[j+1]? with
  |none=>rw[hq]at h;simp at h
  |some c=>rw[hq]at h;simpa using h.2
 rw[qj ⟨h1,hg⟩]
theorem qfk{l:Lx.Bs}{i j:Nat}(hj:Lx.runTo l i=j)(h:q21 l j=false):Lx.nameTo l i=j:=by
 unfold Lx.nameTo;simp only[hj];rw[qd];rintro⟨h1,h2⟩;have h1':=q3h.2 h1;simp only[q21,h1',Bool.true_and]at h
 cases hq:l[j+1]? with
 |none=>rw[hq]at h2;simp at h2
 |some c=>rw[hq]at h h2;simp at h h2;simp[h]at h2
theorem qh3(s:ByteArray)(t fo ne nm sm tk wd wl:Nat)(i:Nat)(w:World)(hs:s.size<=20000)(hi:i < s.size)
  (hT:w.cell? ⟨t,0,none⟩=some (.string s))
  (hN:∀ c:UInt8,w.cell? ⟨nm,c.toNat,none⟩=some (.bool (Lx.part c)))
  (hS:∀ c:UInt8,w.cell? ⟨sm,c.toNat,none⟩=some (.bool (Lx.small c)))
  (hFo:w.cell? ⟨fo,0,none⟩=some (.func (.func 217) #[] #[.pointer (some ⟨t,0,none⟩)]))
  (hTk:w.cell? ⟨tk,0,none⟩=some (.func (.func 216) #[] #[.pointer (some ⟨t,0,none⟩)]))
  (hWd:w.cell? ⟨wd,0,none⟩=some (.slice (some ⟨wl,0,none⟩) 17 17))
  (hWl:∀ k,k < wordsB.length->w.cell? ⟨wl,0+k,none⟩=some (.string (wordsB.getD k ByteArray.empty)))
  (hsm:Lx.small (s[i]'hi)=true)
  (hNe:w.cell? ⟨ne,0,none⟩=some (.func (.func 219) #[] #[.pointer (some ⟨t,0,none⟩),.pointer (some ⟨nm,0,none⟩)])) :
  Calls Tryz.prog 220 #[.int .i64 i,.pointer (some ⟨ne,0,none⟩),.pointer (some ⟨fo,0,none⟩),.pointer (some ⟨t,0,none⟩),.pointer (some ⟨sm,0,none⟩),.pointer (some ⟨tk,0,none⟩),.pointer (some ⟨wd,0,none⟩)] w (q0p s i w):=by
 have hm:=jz hs;have b1:=block_lt_of_cell hT;have b2:=block_lt_of_cell hFo;have b3:=block_lt_of_cell hTk;have b4:=block_lt_of_cell hNe;have b5:=block_lt_of_cell (hN 0);have b6:=block_lt_of_cell (hS 0);have b7:=block_lt_of_cell hWd;have b8:=block_lt_of_cell (hWl 0 (by decide));simp only at b1 b2 b3 b4 b5 b6 b7 b8;have hr:=Lx.runTo_le (l:=bs s) (i:=i) (by rw[zd];omega);rw[zd]at hr;obtain⟨j,hj⟩:∃ j,Lx.runTo (bs s) i=j:=⟨_,rfl⟩;rw[hj]at hr;have Hj:=qh hj;clear hj;have hby:=xr;have hT':=fun o=>(World.cell?_alloc_past (w:=w) o t 0 b1).trans hT
 have hN':=fun o (c:UInt8)=>(World.cell?_alloc_past (w:=w) o nm c.toNat b5).trans (hN c)
 go_enter Tryz.func220,Tryz.ntmps220
 go_upto_region 2 with (first
  |(go_at_call 219;refine(js s t nm i _ hm (by omega) (by omega) (hT' _) (hN' _)).mono ?_;rintro e w' ⟨rfl,rfl⟩;rw[Int.toNat_natCast,Hj.out]))
 go_cut [31] (fun v wx=>v = .bool (q21 (bs s) j)/\wx=w.alloc (.cells #[.int .i64 0,.string ⟨#[]⟩,.int .i64 0] 111))
 case first =>
  go_wp2_with (first
   |(go_at_call 217;refine(jf s _ t j _ hm (by omega) (by omega) (hT' _)).mono ?_;rintro e w' ⟨rfl,rfl⟩))
  ·have h1:Lx.pre (bs s) j (bs ⟨#[64]⟩)=true:=by assumption
   have h2:(j:Int)+1 < s.size:=by assumption
   go_meet
   exact⟨congrArg Value.bool (qm4 h1 (by omega)).symm,rfl⟩
  ·have h2:¬ (j:Int)+1 < s.size:=by omega
   go_meet
   exact⟨congrArg Value.bool (qm5 h2).symm,rfl⟩
  ·have h1:¬ Lx.pre (bs s) j (bs ⟨#[64]⟩)=true:=by assumption
   go_meet
   exact⟨congrArg Value.bool (qm6 h1).symm,rfl⟩
 case rest =>
  obtain⟨rfl,rfl⟩:=hcut
  go_upto_if 31 with fail
  go_cut [9] (fun v wx=>v = .int .i64 (Lx.nameTo (bs s) i)/\wx=w.alloc (.cells #[.int .i64 0,.string ⟨#[]⟩,.int .i64 0] 111))
  case first =>
   cases h:q21 (bs s) j
   ·have Hn:=qh (qfk Hj.out h)
    clear h;go_wp2
    go_meet
    exact⟨by rw[Hn.out],rfl⟩
   ·obtain⟨hn,hlt⟩:=qfl Hj.out h
    clear h;rw[zd]at hlt;have Hn:=qh hn;clear hn
    go_wp2_with (first
     |(go_at_call 219;refine(js s t nm (j+1) _ hm (by omega) (by omega) (hT' _) (hN' _)).mono ?_;rintro e w' ⟨rfl,rfl⟩))
    go_meet
    exact⟨by rw[Hn.out],rfl⟩
  case rest =>
   obtain⟨rfl,rfl⟩:=hcut;have he:=Lx.nameTo_le (l:=bs s) (i:=i) (by rw[zd];omega);rw[zd]at he;obtain⟨e,hE⟩:∃ e,Lx.nameTo (bs s) i=e:=⟨_,rfl⟩;rw[hE]at he ⊢;have HE:=qh hE;clear hE;have hWd':=fun o=>(World.cell?_alloc_past (w:=w) o wd 0 b7).trans hWd
   have hWl':=fun o k hk=>(World.cell?_alloc_past (w:=w) o wl (0+k) b8).trans (hWl k hk)
   have HT:=qh (q97 hi hsm HE.out)
   by_cases h5:(s.extract i e).toList=[111]
   ·cases h6:Lx.pre (bs s) e (bs ⟨#[45]⟩)
    ·have H6:=qh h6
     go_wp2_with (first
      |(go_at_call 217;refine(jf s _ t e _ hm (by omega) (by omega) (hT' _)).mono ?_;rintro e w' ⟨rfl,rfl⟩)
      |(go_at_call 61;refine(Tryz.slices_Contains_string wl 0 17 17 wordsB _ _ (by decide) (by omega) (hWl' _)).mono ?_;rintro e w' ⟨rfl,hw⟩;obtain rfl:=hw.symm;rw[q0c])
      |(go_at_call 216;refine(q1t s t _ i e _ hm (by omega) (by omega) (by omega) (hT' _)).mono ?_;rintro e w' ⟨rfl,rfl⟩))
     ·refine bodyPost_ret (v:=ve s 4 i e) (by simp[results,Tryz.results220,go_sem,ve]) rfl ⟨4,e,?_,rfl,?_⟩
      ·have hw:bs (s.extract i e)∈Lx.words:=by assumption
       rw[HT.out,qd (by intro h;have:=q3h.2 h.2;rw[show([45]:Lx.Bs)=bs ⟨#[45]⟩ from rfl,H6.out]at this;cases this),qj (by rw[List.contains_iff_mem];exact hw)]
      ·exact(((Below.refl _ w).alloc (q9 _) _).alloc (by simp) _)
     ·refine bodyPost_ret (v:=ve s 1 i e) (by simp[results,Tryz.results220,go_sem,ve]) rfl ⟨1,e,?_,rfl,?_⟩
      ·have hw:¬ bs (s.extract i e)∈Lx.words:=by assumption
       rw[HT.out,qd (by intro h;have:=q3h.2 h.2;rw[show([45]:Lx.Bs)=bs ⟨#[45]⟩ from rfl,H6.out]at this;cases this),qd (by rw[List.contains_iff_mem];exact hw)]
      ·exact(((Below.refl _ w).alloc (q9 _) _).alloc (by simp) _)
    ·have H6:=qh h6
     have h45:=q3h.1 (show Lx.pre (bs s) e [45]=true from h6);have hlt:e < s.size:=by rw[<-zd];exact(List.getElem?_eq_some_iff.1 h45).1
     have H45:=qh h45;clear h45
     go_wp2_with (first
      |(go_at_call 217;refine(jf s _ t e _ hm (by omega) (by omega) (hT' _)).mono ?_;rintro e w' ⟨rfl,rfl⟩)
      |(go_at_call 61;refine(Tryz.slices_Contains_string wl 0 17 17 wordsB _ _ (by decide) (by omega) (hWl' _)).mono ?_;rintro e w' ⟨rfl,hw⟩;obtain rfl:=hw.symm;rw[q0c])
      |(go_at_call 216;refine(q1t s t _ i (e+1) _ hm (by omega) (by omega) (by omega) (hT' _)).mono ?_;rintro e w' ⟨rfl,rfl⟩))
     refine bodyPost_ret (v:=ve s 3 i (e+1)) (by simp[results,Tryz.results220,go_sem,ve]) rfl ⟨3,e+1,?_,rfl,?_⟩
     ·rw[HT.out,qj ⟨by rw[bs,<-ByteArray.toList_eq];exact h5,H45.out⟩]
     ·exact(((Below.refl _ w).alloc (q9 _) _).alloc (by simp) _)
   ·go_wp2_with (first
      |(go_at_call 217;refine(jf s _ t e _ hm (by omega) (by omega) (hT' _)).mono ?_;rintro e w' ⟨rfl,rfl⟩)
      |(go_at_call 61;refine(Tryz.slices_Contains_string wl 0 17 17 wordsB _ _ (by decide) (by omega) (hWl' _)).mono ?_;rintro e w' ⟨rfl,hw⟩;obtain rfl:=hw.symm;rw[q0c])
      |(go_at_call 216;refine(q1t s t _ i e _ hm (by omega) (by omega) (by omega) (hT' _)).mono ?_;rintro e w' ⟨rfl,rfl⟩))
    ·refine bodyPost_ret (v:=ve s 4 i e) (by simp[results,Tryz.results220,go_sem,ve]) rfl ⟨4,e,?_,rfl,?_⟩
     ·have hw:bs (s.extract i e)∈Lx.words:=by assumption
      rw[HT.out,qd (by intro h;exact h5 (by rw[ByteArray.toList_eq];exact h.1)),qj (by rw[List.contains_iff_mem];exact hw)]
     ·exact(((Below.refl _ w).alloc (q9 _) _).alloc (by simp) _)
    ·refine bodyPost_ret (v:=ve s 1 i e) (by simp[results,Tryz.results220,go_sem,ve]) rfl ⟨1,e,?_,rfl,?_⟩
     ·have hw:¬ bs (s.extract i e)∈Lx.words:=by assumption
      rw[HT.out,qd (by intro h;exact h5 (by rw[ByteArray.toList_eq];exact h.1)),qd (by rw[List.contains_iff_mem];exact hw)]
     ·exact(((Below.refl _ w).alloc (q9 _) _).alloc (by simp) _)
structure FA where
 (t sm ca sg nm wd wl tk fo ne sc lo:Nat)
structure FEnv(q:FA)(s:ByteArray)(w:World):Prop where
 hT:w.cell? ⟨q.t,0,none⟩=some (.string s)
 hS:∀ c:UInt8,w.cell? ⟨q.sm,c.toNat,none⟩=some (.bool (Lx.small c))
 hC:∀ c:UInt8,w.cell? ⟨q.ca,c.toNat,none⟩=some (.bool (Lx.capital c))
 hG:∀ c:UInt8,w.cell? ⟨q.sg,c.toNat,none⟩=some (.bool (Lx.signB c))
 hN:∀ c:UInt8,w.cell? ⟨q.nm,c.toNat,none⟩=some (.bool (Lx.part c))
 hWd:w.cell? ⟨q.wd,0,none⟩=some (.slice (some ⟨q.wl,0,none⟩) 17 17)
 hWl:∀ k,k < wordsB.length->w.cell? ⟨q.wl,0+k,none⟩=some (.string (wordsB.getD k ByteArray.empty))
 hTk:w.cell? ⟨q.tk,0,none⟩=some (.func (.func 216) #[] #[.pointer (some ⟨q.t,0,none⟩)])
 hFo:w.cell? ⟨q.fo,0,none⟩=some (.func (.func 217) #[] #[.pointer (some ⟨q.t,0,none⟩)])
 hNe:w.cell? ⟨q.ne,0,none⟩=some (.func (.func 219) #[] #[.pointer (some ⟨q.t,0,none⟩),.pointer (some ⟨q.nm,0,none⟩)])
 hSc:w.cell? ⟨q.sc,0,none⟩=some (.func (.func 220) #[] #[.pointer (some ⟨q.ne,0,none⟩),.pointer (some ⟨q.fo,0,none⟩),.pointer (some ⟨q.t,0,none⟩),.pointer (some ⟨q.sm,0,none⟩),.pointer (some ⟨q.tk,0,none⟩),.pointer (some ⟨q.wd,0,none⟩)])
 hLo:w.cell? ⟨q.lo,0,none⟩=some (.func (.func 221) #[] #[.pointer (some ⟨q.fo,0,none⟩),.pointer (some ⟨q.ne,0,none⟩)])
structure FA.lt(q:FA)(n:Nat):Prop where
 t:q.t < n
 sm:q.sm < n
 ca:q.ca < n
 sg:q.sg < n
 nm:q.nm < n
 wd:q.wd < n
 wl:q.wl < n
 tk:q.tk < n
 fo:q.fo < n
 ne:q.ne < n
 sc:q.sc < n
 lo:q.lo < n
theorem FEnv.lt{q:FA}{s:ByteArray}{w:World}(h:FEnv q s w):q.lt w.heap.size :=
 ⟨block_lt_of_cell h.hT,block_lt_of_cell (h.hS 0),block_lt_of_cell (h.hC 0),block_lt_of_cell (h.hG 0),block_lt_of_cell (h.hN 0),block_lt_of_cell h.hWd,block_lt_of_cell (h.hWl 0 (by decide)),
  block_lt_of_cell h.hTk,block_lt_of_cell h.hFo,block_lt_of_cell h.hNe,block_lt_of_cell h.hSc,block_lt_of_cell h.hLo⟩
theorem FEnv.below{q:FA}{s:ByteArray}{w w':World}{n:Nat}(h:FEnv q s w)(hl:q.lt n)(hb:Below n w w'):FEnv q s w' :=
 ⟨(hb.cell (p:=⟨q.t,0,none⟩) hl.t).trans h.hT,fun c=>(hb.cell (p:=⟨q.sm,c.toNat,none⟩) hl.sm).trans (h.hS c),fun c=>(hb.cell (p:=⟨q.ca,c.toNat,none⟩) hl.ca).trans (h.hC c),
  fun c=>(hb.cell (p:=⟨q.sg,c.toNat,none⟩) hl.sg).trans (h.hG c),fun c=>(hb.cell (p:=⟨q.nm,c.toNat,none⟩) hl.nm).trans (h.hN c),(hb.cell (p:=⟨q.wd,0,none⟩) hl.wd).trans h.hWd,
  fun k hk=>(hb.cell (p:=⟨q.wl,0+k,none⟩) hl.wl).trans (h.hWl k hk),(hb.cell (p:=⟨q.tk,0,none⟩) hl.tk).trans h.hTk,(hb.cell (p:=⟨q.fo,0,none⟩) hl.fo).trans h.hFo,
  (hb.cell (p:=⟨q.ne,0,none⟩) hl.ne).trans h.hNe,(hb.cell (p:=⟨q.sc,0,none⟩) hl.sc).trans h.hSc,(hb.cell (p:=⟨q.lo,0,none⟩) hl.lo).trans h.hLo⟩
theorem FEnv.alloc{q:FA}{s:ByteArray}{w:World}(h:FEnv q s w)(o:Obj):FEnv q s (w.alloc o):=h.below h.lt ((Below.refl _ w).alloc (q9 _) o)
theorem FEnv.drew{q:FA}{s:ByteArray}{w:World}(h:FEnv q s w):FEnv q s w.drew:=h.below h.lt ((Below.refl _ w).drew)
def q2j(i er:Nat):Value:=.iface 150 (.agg #[.int .i64 i,.int .i64 er])
def qmg(s:ByteArray)(i:Nat)(w:World)(e:Ending)(w':World):Prop :=
 q0p s i w e w'\/(Lx.tokAt (bs s) i=none/\e = .panicked [{ v:=q2j i 10,recovered:=false }]/\Below w.heap.size w w')
def vz(q:FA)(i:Int):Array Value :=
 #[.int .i64 i,.pointer (some ⟨q.t,0,none⟩),.pointer (some ⟨q.sm,0,none⟩),.pointer (some ⟨q.sc,0,none⟩),.pointer (some ⟨q.ca,0,none⟩),.pointer (some ⟨q.tk,0,none⟩),.pointer (some ⟨q.ne,0,none⟩),.pointer (some ⟨q.sg,0,none⟩),.pointer (some ⟨q.lo,0,none⟩)]
theorem q2w{s:ByteArray}{i:Nat}(hi:i < s.size)(h1:Lx.small s[i]=false) :
  Lx.tokAt (bs s) i=if Lx.capital s[i] then some (2,Lx.runTo (bs s) i) else if Lx.signB s[i] then some (3,i+1) else if Lx.isLong (bs s) i then some (3,i+2) else none:=by
 have h0:(bs s)[i]?=some s[i]:=by rw[qq (by rw[zd];exact hi),jg hi]
 simp only[Lx.tokAt,h0,h1,Bool.false_eq_true,if_false]
theorem qh2{q:FA}{s:ByteArray}{i:Nat}{w:World}(hs:s.size<=20000)(hi:i < s.size)(h:FEnv q s w)(hsm:Lx.small (s[i]'hi)=true) :
  Calls Tryz.prog 220 #[.int .i64 i,.pointer (some ⟨q.ne,0,none⟩),.pointer (some ⟨q.fo,0,none⟩),.pointer (some ⟨q.t,0,none⟩),.pointer (some ⟨q.sm,0,none⟩),.pointer (some ⟨q.tk,0,none⟩),.pointer (some ⟨q.wd,0,none⟩)] w (q0p s i w) :=
 qh3 s q.t q.fo q.ne q.nm q.sm q.tk q.wd q.wl i w hs hi h.hT h.hN h.hS h.hFo h.hTk h.hWd h.hWl hsm h.hNe
theorem qhz{w w1:World}{a b c:Value}{t:TypeId}(hb:Below (w.alloc (.cells #[a,b,c] t)).heap.size (w.alloc (.cells #[a,b,c] t)) w1) :
  (w1.cell? ⟨w.heap.size,0,none⟩=some a/\w1.cell? ⟨w.heap.size,1,none⟩=some b/\w1.cell? ⟨w.heap.size,2,none⟩=some c) /\
  (w1.frozen? ⟨w.heap.size,0,none⟩=false/\w1.frozen? ⟨w.heap.size,1,none⟩=false/\w1.frozen? ⟨w.heap.size,2,none⟩=false):=by
 have hc:=fun j=>hb.cell (p:=⟨w.heap.size,j,none⟩) (by simp)
 have hf:=fun j=>hb.frozen (p:=⟨w.heap.size,j,none⟩) (by simp)
 refine⟨⟨(hc 0).trans ?_,(hc 1).trans ?_,(hc 2).trans ?_⟩,(hf 0).trans ?_,(hf 1).trans ?_,(hf 2).trans ?_⟩ <;> simp[World.cell?_alloc_at,World.frozen?_alloc_at]
theorem qdg{w w1:World}{o:Obj}(hb:Below (w.alloc o).heap.size (w.alloc o) w1):Below w.heap.size w w1 :=
 ((Below.refl _ w).alloc (q9 _) o).trans (hb.mono (by simp))
theorem qg7(q:FA)(s:ByteArray)(i:Nat)(w:World)(hs:s.size<=20000)(hi:i < s.size)(h:FEnv q s w)(h1:Lx.small (s[i]'hi)=true) :
  Calls Tryz.prog 222 (vz q i) w (q0p s i w):=by
 unfold vz;have hby:=xr;have hE:=qh (fun o=>h.alloc o);have l:=h.lt;have b1:=l.t;have b2:=l.sm;have b3:=l.sc;have hT:=h.hT;have hS:=h.hS;have hSc:=h.hSc;clear l h;go_enter Tryz.func222,Tryz.ntmps222
 go_wp2_with fail
 refine(qh2 hs hi (hE.out _) h1).mono ?_;rintro e w1⟨kd,j,htok,rfl,hb⟩;have Htok:=qh htok;have Hb:=qh (qdg hb);obtain⟨⟨c0,c1,c2⟩,f0,f1,f2⟩:=qhz hb;clear htok hb hE hT hS hSc h1;unfold ve;go_wp2;refine bodyPost_ret (v:=ve s kd i j) (by simp[results,Tryz.results222,go_sem,ve,c0,c1,c2]) rfl ⟨kd,j,Htok.out,rfl,?_⟩;exact((Hb.out.setCell (p:=⟨w.heap.size,0,none⟩) (q9 _) _).setCell (p:=⟨w.heap.size,1,none⟩) (q9 _) _).setCell (p:=⟨w.heap.size,2,none⟩) (q9 _) _
theorem qij(q:FA)(s:ByteArray)(i:Nat)(w:World)(hs:s.size<=20000)(hi:i < s.size)(h:FEnv q s w)
  (h1:Lx.small (s[i]'hi)=false) (h2:Lx.capital (s[i]'hi)=false) (h3:Lx.signB (s[i]'hi)=true) :
  Calls Tryz.prog 222 (vz q i) w (q0p s i w):=by
 unfold vz;have htok:Lx.tokAt (bs s) i=some (3,i+1):=by rw[q2w hi h1];simp[h2,h3]
 have Htok:=qh htok;clear htok;have hby:=xr;have hE:=qh (fun o=>h.alloc o);have l:=h.lt;have b1:=l.t;have b2:=l.sm;have b3:=l.ca;have b4:=l.sg;have b5:=l.tk;have hT:=h.hT;have hS:=h.hS;have hC:=h.hC;have hG:=h.hG;have hTk:=h.hTk;have hm:=jz hs;clear l h;go_enter Tryz.func222,Tryz.ntmps222
 go_wp2_with (go_at_call 216;refine(q1t s q.t _ i (i+1) _ hm (by omega) (by omega) (by omega) ((hE.out _).hT)).mono ?_;rintro e w' ⟨rfl,rfl⟩)
 refine bodyPost_ret (v:=ve s 3 i (i+1)) (by simp[results,Tryz.results222,go_sem,ve]) rfl ⟨3,i+1,Htok.out,rfl,?_⟩;exact(((Below.refl _ w).alloc (q9 _) _).alloc (by simp) _)
theorem qil(q:FA)(s:ByteArray)(i:Nat)(w:World)(hs:s.size<=20000)(hi:i < s.size)(h:FEnv q s w)
  (h1:Lx.small (s[i]'hi)=false) (h2:Lx.capital (s[i]'hi)=false) (h3:Lx.signB (s[i]'hi)=false) (h4:Lx.isLong (bs s) i=true) :
  Calls Tryz.prog 222 (vz q i) w (q0p s i w):=by
 unfold vz;have htok:Lx.tokAt (bs s) i=some (3,i+2):=by rw[q2w hi h1];simp[h2,h3,h4]
 have hlt:=(Lx.tokAt_lt htok).2;rw[zd]at hlt;have Htok:=qh htok;clear htok;have H4:=qh h4;clear h4;have hby:=xr;have hE:=qh (fun o=>h.alloc o);have l:=h.lt;have b1:=l.t;have b2:=l.sm;have b3:=l.ca;have b4:=l.sg;have b5:=l.tk;have b6:=l.lo;have hT:=h.hT;have hS:=h.hS;have hC:=h.hC;have hG:=h.hG;have hTk:=h.hTk;have hLo:=h.hLo;have hm:=jz hs;clear l h;go_enter Tryz.func222,Tryz.ntmps222
 go_wp2_with (first
  |(go_at_call 221;refine(q8b s q.t q.fo q.ne q.nm i _ hs hi ((hE.out _).hT) ((hE.out _).hN) ((hE.out _).hFo) ((hE.out _).hNe)).mono ?_;rintro e w' ⟨rfl,rfl⟩;rw[H4.out])
  |(go_at_call 216;refine(q1t s q.t _ i (i+2) _ hm (by omega) (by omega) (by omega) ((hE.out _).hT)).mono ?_;rintro e w' ⟨rfl,rfl⟩))
 refine bodyPost_ret (v:=ve s 3 i (i+2)) (by simp[results,Tryz.results222,go_sem,ve]) rfl ⟨3,i+2,Htok.out,rfl,?_⟩;exact(((Below.refl _ w).alloc (q9 _) _).alloc (by simp) _)
theorem qik(q:FA)(s:ByteArray)(i:Nat)(w:World)(hs:s.size<=20000)(hi:i < s.size)(h:FEnv q s w)
  (h1:Lx.small (s[i]'hi)=false) (h2:Lx.capital (s[i]'hi)=false) (h3:Lx.signB (s[i]'hi)=false) (h4:Lx.isLong (bs s) i=false) :
  Calls Tryz.prog 222 (vz q i) w fun e w'=>e = .panicked [{ v:=q2j i 10,recovered:=false }]/\Below w.heap.size w w':=by
 unfold vz;have H4:=qh h4;clear h4;have hby:=xr;have hE:=qh (fun o=>h.alloc o);have l:=h.lt;have b1:=l.t;have b2:=l.sm;have b3:=l.ca;have b4:=l.sg;have b6:=l.lo;have hT:=h.hT;have hS:=h.hS;have hC:=h.hC;have hG:=h.hG;have hLo:=h.hLo;clear l h;go_enter Tryz.func222,Tryz.ntmps222
 go_wp2_with (first
  |(go_at_call 221;refine(q8b s q.t q.fo q.ne q.nm i _ hs hi ((hE.out _).hT) ((hE.out _).hN) ((hE.out _).hFo) ((hE.out _).hNe)).mono ?_;rintro e w' ⟨rfl,rfl⟩;rw[H4.out]))
 exact⟨rfl,rfl,(Below.refl _ w).alloc (q9 _) _⟩
theorem qbx(q:FA)(s:ByteArray)(i:Nat)(w:World)(hs:s.size<=20000)(hi:i < s.size)(h:FEnv q s w)
  (h1:Lx.small (s[i]'hi)=false) (h2:Lx.capital (s[i]'hi)=true) :
  Calls Tryz.prog 222 (vz q i) w (q0p s i w):=by
 unfold vz;have htok:Lx.tokAt (bs s) i=some (2,Lx.runTo (bs s) i):=by rw[q2w hi h1];simp[h2]
 have hlt:=Lx.tokAt_lt htok;rw[zd]at hlt;obtain⟨j,hj⟩:∃ j,Lx.runTo (bs s) i=j:=⟨_,rfl⟩;rw[hj]at htok hlt;have Hj:=qh hj;clear hj;have Htok:=qh htok;clear htok;have hby:=xr;have hE:=qh (fun o=>h.alloc o);have l:=h.lt;have b1:=l.t;have b2:=l.sm;have b3:=l.ca;have b4:=l.ne;have b5:=l.tk;have hT:=h.hT;have hS:=h.hS;have hC:=h.hC;have hTk:=h.hTk;have hNe:=h.hNe;have hm:=jz hs;clear l h;have e0:(i:Int).toNat=i:=Int.toNat_natCast i
 have HN:Hid (Calls Tryz.prog 219 #[.int .i64 i,.pointer (some ⟨q.t,0,none⟩),.pointer (some ⟨q.nm,0,none⟩)] (w.alloc (.cells #[.int .i64 0,.string ⟨#[]⟩,.int .i64 0] 111)).drew
   fun e w'=>e = .returned (.int .i64 j)/\(w.alloc (.cells #[.int .i64 0,.string ⟨#[]⟩,.int .i64 0] 111)).drew=w'):=by
  have:=js s q.t q.nm i (w.alloc (.cells #[.int .i64 0,.string ⟨#[]⟩,.int .i64 0] 111)).drew hm (by omega) (by omega) (hE.out _).drew.hT (hE.out _).drew.hN;rw[e0,Hj.out]at this;exact qh this
 have HK:Hid (Calls Tryz.prog 216 #[.int .i64 2,.int .i64 i,.int .i64 j,.pointer (some ⟨q.t,0,none⟩)] (w.alloc (.cells #[.int .i64 0,.string ⟨#[]⟩,.int .i64 0] 111)).drew
   fun e w'=>e = .returned (ve s 2 i j)/\w'=(w.alloc (.cells #[.int .i64 0,.string ⟨#[]⟩,.int .i64 0] 111)).drew.alloc (.cells #[.int .i64 2,.string (s.extract i j),.int .i64 i] 111)) :=
  qh (q96 s q.t 2 i j (w.alloc (.cells #[.int .i64 0,.string ⟨#[]⟩,.int .i64 0] 111)).drew hm (by omega) (by omega) (hE.out _).drew.hT)
 clear hE e0;go_enter Tryz.func222,Tryz.ntmps222
 go_upto_region 5 with fail
 go_region_with (first
  |(go_at_call 219;refine HN.out.mono ?_;rintro e w' ⟨rfl,rfl⟩)
  |(go_at_call 216;refine HK.out.mono ?_;rintro e w' ⟨rfl,rfl⟩;unfold ve))
 all_goals
  go_wp2;refine bodyPost_ret (v:=ve s 2 i j) (by simp[results,Tryz.results222,go_sem,ve]) rfl ⟨2,j,Htok.out,rfl,?_⟩;exact((((Below.refl _ w).alloc (q9 _) _).alloc (by simp) _).drew)
theorem qkk(q:FA)(s:ByteArray)(i:Nat)(w:World)(hs:s.size<=20000)(hi:i < s.size)(h:FEnv q s w) :
  Calls Tryz.prog 222 (vz q i) w (qmg s i w):=by
 cases h1:Lx.small s[i]
 ·cases h2:Lx.capital s[i]
  ·cases h3:Lx.signB s[i]
   ·cases h4:Lx.isLong (bs s) i
    ·exact(qik q s i w hs hi h h1 h2 h3 h4).mono fun e w' r=>.inr ⟨by rw[q2w hi h1];simp[h2,h3,h4],r.1,r.2⟩
    ·exact(qil q s i w hs hi h h1 h2 h3 h4).mono fun e w' r=>.inl r
   ·exact(qij q s i w hs hi h h1 h2 h3).mono fun e w' r=>.inl r
  ·exact(qbx q s i w hs hi h h1 h2).mono fun e w' r=>.inl r
 ·exact(qg7 q s i w hs hi h h1).mono fun e w' r=>.inl r
def x4(l:Lx.Bs):Array Value:=Array.ofFn (n:=256) fun i=>.bool (l.any fun c=>decide (c.toNat=i.val))
theorem yg(l:Lx.Bs):(x4 l).size=256:=by simp[x4]
theorem q1a(l:Lx.Bs)(c:UInt8):(x4 l)[c.toNat]?=some (.bool (l.any fun d=>decide (d.toNat=c.toNat))):=by
 have:=c.toNat_lt;simp[x4,this]
theorem qdb(l:Lx.Bs)(c:UInt8):x4 (l++[c])=(x4 l).setIfInBounds c.toNat (.bool true):=by
 have:=c.toNat_lt;apply Array.ext
 ·simp[x4]
 ·intro i h1 h2
  simp only[yg]at h1
  by_cases e:c.toNat=i
  ·subst e;simp[x4]
  ·rw[Array.getElem_setIfInBounds_ne (by simpa[x4]using h1) (by simpa using e)]
   simp[x4,e]
theorem q5r(l:Lx.Bs):(x4 l).all (·.oneCell')=true:=by
 rw[Array.all_eq_true];intro i hi;simp[x4,Value.oneCell']
theorem q4n:x4 []=Tryz.zeroCells199:=by kernel_rfl
theorem qgw(s:ByteArray)(k:Nat)(h:k < s.size):(bs s).take (k+1)=(bs s).take k++[s[k]]:=by
 rw[zc (by rw[zd];exact h),jg h]
theorem qe7:(Tryz.prog.info? 199).map (·.size)=some 256:=by kernel_rfl
theorem q33(s:ByteArray)(w:World)(hs:s.size<=maxLen) :
  Calls Tryz.prog 215 #[.string s] w fun e w'=>e = .returned (.agg (x4 (bs s)))/\Below w.heap.size w w':=by
 unfold maxLen at hs;have hg:=q1a;have hby:=xr;go_enter Tryz.func215,Tryz.ntmps215;go_wp2
 go_loopw [7] (fun v wr=>∃ k:Nat,k<=s.size/\v = .int .i64 k/\wr=(w.alloc (.cells Tryz.zeroCells199 199)).alloc (.cells (x4 ((bs s).take k)) 199)) (fun v _=>s.size - (intOf v).toNat)
 case atStart=>exact⟨0,qv _,rfl,by rw[List.take_zero,q4n]⟩
 case round =>
  obtain⟨k,hk,rfl,rfl⟩:=hrel
  by_cases hlt:k < s.size
  ·go_wp2
   go_roundw
   case rel=>exact⟨k+1,by omega,by go_num,by rw[qgw s k hlt,qdb]⟩
   case measure=>simp[intOf];omega
  ·obtain rfl:k=s.size:=by omega
   have hta:List.take s.size (bs s)=bs s:=qw (by rw[zd];exact q9 _);rw[hta];have HH:=qh (heap_alloc2_new w (.cells Tryz.zeroCells199 199) (.cells (x4 (bs s)) 199));have HO:=qh (heap_alloc2_old w (.cells Tryz.zeroCells199 199) (.cells (x4 (bs s)) 199));have HI:Hid ((Tryz.prog.info? 199).map (·.size)=some (x4 (bs s)).size):=by rw[yg];exact qe7
   have HZ:Hid (Tryz.zeroCells199.size=(x4 (bs s)).size):=by rw[yg,<-q4n,yg];rfl
   have HC:=qh (q5r (bs s));clear hta hg
   go_wp2_with fail
   refine wp_load_row 199 (.tmp 3) rfl (w.heap.size+1) rfl 199 (x4 (bs s)) (0,0) (.array 256 4) HH.out Tryz.underlying199 rfl HI.out ?_
   rename_i hK
   refine hK _ _ ?_;clear hK;refine wpList_store_row rfl 199 (.tmp 2) (.tmp 15) rfl w.heap.size (x4 (bs s)) rfl rfl 199 Tryz.zeroCells199 HO.out HI.out HZ.out HC.out ?_;go_wp2;refine bodyPost_ret (v:=.agg (x4 (bs s))) (results_cell_row rfl _ _ w.heap.size 199 (x4 (bs s)) (0,0) (.array 256 4) rfl (setRow_heap _ _ _ _ _ _ HO.out) Tryz.underlying199 rfl HI.out) rfl ⟨rfl,?_⟩;refine((((Below.refl _ w).alloc (q9 _) _).alloc (by simp) _)).trans ⟨rfl,rfl,rfl,by simp,fun i hi=>setRow_other _ _ _ _ (by omega)⟩
def q3o:Array Value:=(wordsB.map Value.string).toArray
theorem qgt(w:World) :
  Calls Tryz.prog 181 #[] w fun e w'=>e = .returned (.slice (some ⟨w.heap.size,0,none⟩) 17 17)/\w'=w.alloc (.cells q3o 9):=by
 go_enter Tryz.func181,Tryz.ntmps181;go_wp2;go_ret;exact⟨rfl,rfl⟩
theorem q0l(W:World)(g:Nat)(c:Array Value)(o:Obj)(h:g < W.heap.size):(W.alloc o).setRow g c=(W.setRow g c).alloc o:=by
 simp only[World.setRow,World.alloc]
 congr 1
 apply Array.ext_getElem?;intro i;rw[Array.getElem?_modify,Array.getElem?_push,Array.getElem?_push,Array.size_modify,Array.getElem?_modify]
 by_cases e:i=W.heap.size
 ·subst e
  rw[qj rfl,qj rfl,qd (by omega)]
 ·rw[qd e,qd e]
def sml:ByteArray:=⟨#[97,98,99,100,101,102,103,104,105,106,107,108,109,110,111,112,113,114,115,116,117,118,119,120,121,122]⟩
def cpt:ByteArray:=⟨#[65,66,67,68,69,70,71,72,73,74,75,76,77,78,79,80,81,82,83,84,85,86,87,88,89,90]⟩
def sgn:ByteArray:=⟨#[42,38,43,33,123,125,40,41,46,44,58,92]⟩
theorem qmp(W:World)(z c:Array Value)(t:TypeId)(o1 o2:Obj):(((W.alloc (.cells z t)).alloc o1).alloc o2).setRow W.heap.size c=((W.alloc (.cells c t)).alloc o1).alloc o2:=by
 rw[q0l _ _ _ _ (by simp;omega),q0l _ _ _ _ (by simp),World.setRow_alloc_new]
theorem qmo(W:World)(z c:Array Value)(t:TypeId)(o1 o2:Obj):(((W.alloc o1).alloc (.cells z t)).alloc o2).setRow (W.heap.size+1) c=((W.alloc o1).alloc (.cells c t)).alloc o2:=by
 have e:W.heap.size+1=(W.alloc o1).heap.size:=by simp
 rw[e,q0l _ _ _ _ (by simp),World.setRow_alloc_new]
theorem qmn(W:World)(z c:Array Value)(t:TypeId)(o1 o2:Obj):(((W.alloc o1).alloc o2).alloc (.cells z t)).setRow (W.heap.size+2) c=((W.alloc o1).alloc o2).alloc (.cells c t):=by
 have e:W.heap.size+2=((W.alloc o1).alloc o2).heap.size:=by simp
 rw[e,World.setRow_alloc_new]
theorem q0x(W:World)(a b c:Obj):(((W.alloc a).alloc b).alloc c).heap[W.heap.size]?=some a:=by
 rw[Below.heap_alloc _ _ _ (by simp;omega),Below.heap_alloc _ _ _ (by simp)];exact qk W a
theorem q0a(W:World)(a b c:Obj):(((W.alloc a).alloc b).alloc c).heap[W.heap.size+1]?=some b:=by
 rw[Below.heap_alloc _ _ _ (by simp)];exact heap_alloc2_new W a b
theorem q09(W:World)(a b c:Obj):(((W.alloc a).alloc b).alloc c).heap[W.heap.size+2]?=some c:=by
 have:=qk ((W.alloc a).alloc b) c;simpa using this
def nmc:ByteArray:=⟨#[97,98,99,100,101,102,103,104,105,106,107,108,109,110,111,112,113,114,115,116,117,118,119,120,121,122,65,66,67,68,69,70,71,72,73,74,75,76,77,78,79,80,81,82,83,84,85,86,87,88,89,90,48,49,50,51,52,53,54,55,56,57,95,39]⟩
def ql0(q:FA):Value:=.func (.func 222) #[] #[.pointer (some ⟨q.t,0,none⟩),.pointer (some ⟨q.sm,0,none⟩),.pointer (some ⟨q.sc,0,none⟩),.pointer (some ⟨q.ca,0,none⟩),.pointer (some ⟨q.tk,0,none⟩),.pointer (some ⟨q.ne,0,none⟩),.pointer (some ⟨q.sg,0,none⟩),.pointer (some ⟨q.lo,0,none⟩)]
def FA.ge(q:FA)(n:Nat):Prop:=n<=q.t/\n<=q.sm/\n<=q.ca/\n<=q.sg/\n<=q.nm/\n<=q.wd/\n<=q.wl/\n<=q.tk/\n<=q.fo/\n<=q.ne/\n<=q.sc/\n<=q.lo
def qj7(s:ByteArray)(w:World)(e:Ending)(w':World):Prop:=∃ q:FA,e = .returned (ql0 q)/\FEnv q s w'/\Below w.heap.size w w'/\q.ge w.heap.size
theorem q60{p:Nat->Bool}(h:∀ n,n < 256->p n=true)(c:UInt8):p c.toNat=true:=h _ c.toNat_lt
theorem qh1(c:UInt8):(bs sml).any (fun d=>decide (d.toNat=c.toNat))=Lx.small c:=by
 have:=q60 (p:=fun n=>(bs sml).any (fun d=>decide (d.toNat=n))==(decide (97<=n) && decide (n<=122))) (by decide +kernel) c;simpa[Lx.small]using this
theorem qd9(c:UInt8):(bs cpt).any (fun d=>decide (d.toNat=c.toNat))=Lx.capital c:=by
 have:=q60 (p:=fun n=>(bs cpt).any (fun d=>decide (d.toNat=n))==(decide (65<=n) && decide (n<=90))) (by decide +kernel) c;simpa[Lx.capital]using this
theorem qjk(c:UInt8):(bs sgn).any (fun d=>decide (d.toNat=c.toNat))=Lx.signB c:=by
 have h:∀ d:UInt8,decide (d.toNat=c.toNat)=(c==d):=fun d=>by
  rw[Bool.eq_iff_iff,qp,beq_iff_eq,<-UInt8.toNat_inj];exact eq_comm
 simp only[h];simp only[bs,sgn,Lx.signB,List.contains_eq_any_beq]
theorem qk4(c:UInt8):(bs nmc).any (fun d=>decide (d.toNat=c.toNat))=Lx.part c:=by
 have:=q60 (p:=fun n=>(bs nmc).any (fun d=>decide (d.toNat=n))==((decide (97<=n) && decide (n<=122))||(decide (65<=n) && decide (n<=90))||(decide (48<=n) && decide (n<=57))||decide (n=95)||decide (n=39))) (by decide +kernel) c;simpa[Lx.part,Lx.small,Lx.capital]using this
theorem q0v(X:World)(v:Value)(t:TypeId)(F:World)(hb:Below (X.alloc (.cells #[v] t)).heap.size (X.alloc (.cells #[v] t)) F)(n:Nat)(hn:n=X.heap.size):F.cell? ⟨n,0,none⟩=some v:=by
 subst hn;exact(hb.cell (p:=⟨X.heap.size,0,none⟩) (by simp)).trans (by simp[World.cell?_alloc_at])
theorem qnm(s:ByteArray)(w w1 w2 w3 w4 w5 F:World)(o1 o2 o3 o4 o5 o6:Obj)
  (hb1:Below (w.alloc (.cells #[.string s] 9)).heap.size (w.alloc (.cells #[.string s] 9)) w1) (hb2:Below w1.heap.size w1 w2) (hb3:Below w2.heap.size w2 w3)
  (hb4:Below (((w3.alloc (.cells (x4 (bs sml)) 199)).alloc (.cells (x4 (bs cpt)) 199)).alloc (.cells (x4 (bs sgn)) 199)).heap.size
   (((w3.alloc (.cells (x4 (bs sml)) 199)).alloc (.cells (x4 (bs cpt)) 199)).alloc (.cells (x4 (bs sgn)) 199)) w4)
  (hw5:w5=(w4.alloc (.cells (x4 (bs nmc)) 199)).alloc (.cells q3o 9))
  (hF:F=(((((w5.alloc o1).alloc o2).alloc o3).alloc o4).alloc o5).alloc o6)
  (h1:o1 = .cells #[.slice (some ⟨w4.heap.size+1,0,none⟩) 17 17] 42)
  (h2:∃ t,o2 = .cells #[.func (.func 216) #[] #[.pointer (some ⟨w.heap.size,0,none⟩)]] t)
  (h3:∃ t,o3 = .cells #[.func (.func 217) #[] #[.pointer (some ⟨w.heap.size,0,none⟩)]] t)
  (h4:∃ t,o4 = .cells #[.func (.func 219) #[] #[.pointer (some ⟨w.heap.size,0,none⟩),.pointer (some ⟨w4.heap.size,0,none⟩)]] t)
  (h5:∃ t,o5 = .cells #[.func (.func 220) #[] #[.pointer (some ⟨w5.heap.size+1+1+1,0,none⟩),.pointer (some ⟨w5.heap.size+1+1,0,none⟩),.pointer (some ⟨w.heap.size,0,none⟩),.pointer (some ⟨w3.heap.size,0,none⟩),.pointer (some ⟨w5.heap.size+1,0,none⟩),.pointer (some ⟨w5.heap.size,0,none⟩)]] t)
  (h6:∃ t,o6 = .cells #[.func (.func 221) #[] #[.pointer (some ⟨w5.heap.size+1+1,0,none⟩),.pointer (some ⟨w5.heap.size+1+1+1,0,none⟩)]] t) :
  FEnv ⟨w.heap.size,w3.heap.size,w3.heap.size+1,w3.heap.size+1+1,w4.heap.size,w5.heap.size,w4.heap.size+1,w5.heap.size+1,w5.heap.size+1+1,w5.heap.size+1+1+1,w5.heap.size+1+1+1+1,w5.heap.size+1+1+1+1+1⟩ s F /\
   Below w.heap.size w F:=by
 obtain⟨t2,rfl⟩:=h2;obtain⟨t3,rfl⟩:=h3;obtain⟨t4,rfl⟩:=h4;obtain⟨t5,rfl⟩:=h5;obtain⟨t6,rfl⟩:=h6;have z1:=hb1.size;have z2:=hb2.size;have z3:=hb3.size;have z4:=hb4.size;simp only[q6]at z1 z4;have hz5:w5.heap.size=w4.heap.size+1+1:=by rw[hw5];simp
 have b5:Below w5.heap.size w5 F:=by
  rw[hF];exact(((((((Below.refl _ w5).alloc (q9 _) _).alloc (by simp) _).alloc (by simp;omega) _).alloc (by simp;omega) _).alloc (by simp;omega) _).alloc (by simp;omega) _)
 have b4:Below w4.heap.size w4 F:=by
  have:Below w4.heap.size w4 w5:=by rw[hw5];exact((Below.refl _ w4).alloc (q9 _) _).alloc (by simp) _
  exact this.trans (b5.mono (by omega))
 have b3:=hb4.trans (b4.mono (by simp only[q6];omega));have b3':Below w3.heap.size w3 F:=(((((Below.refl _ w3).alloc (q9 _) _).alloc (by simp) _).alloc (by simp;omega) _)).trans (b3.mono (by simp;omega));have b0:=hb1.trans ((hb2.trans ((hb3.trans (b3'.mono z3)).mono z2)).mono (by simp only[q6];omega));refine⟨⟨?_,?_,?_,?_,?_,?_,?_,?_,?_,?_,?_,?_⟩,((Below.refl _ w).alloc (q9 _) _).trans (b0.mono (by simp))⟩
 ·exact(b0.cell (p:=⟨w.heap.size,0,none⟩) (by simp)).trans (by simp[World.cell?_alloc_at])
 ·intro c
  refine(b3.cell (p:=⟨w3.heap.size,c.toNat,none⟩) (by simp;omega)).trans ?_;rw[qm _ _ _ _ _ _ (q0x w3 _ _ _),q1a,qh1]
 ·intro c
  refine(b3.cell (p:=⟨w3.heap.size+1,c.toNat,none⟩) (by simp)).trans ?_;rw[qm _ _ _ _ _ _ (q0a w3 _ _ _),q1a,qd9]
 ·intro c
  refine(b3.cell (p:=⟨w3.heap.size+1+1,c.toNat,none⟩) (by simp)).trans ?_;rw[qm _ _ _ _ _ _ (q09 w3 _ _ _),q1a,qjk]
 ·intro c
  refine(b5.cell (p:=⟨w4.heap.size,c.toNat,none⟩) (by simp;omega)).trans ?_;have hh:w5.heap[w4.heap.size]?=some (.cells (x4 (bs nmc)) 199):=by rw[hw5];exact heap_alloc2_old w4 _ _
  rw[qm _ _ _ _ _ _ hh,q1a,qk4]
 ·rw[hF,h1];exact q0v w5 _ _ _ ((((((Below.refl _ _).alloc (by simp only[q6];omega) _).alloc (by simp only[q6];omega) _).alloc (by simp only[q6];omega) _).alloc (by simp only[q6];omega) _).alloc (by simp only[q6];omega) _) _ rfl
 ·intro k hk
  refine(b5.cell (p:=⟨w4.heap.size+1,0+k,none⟩) (by simp;omega)).trans ?_;have hh:w5.heap[w4.heap.size+1]?=some (.cells q3o 9):=by rw[hw5];exact heap_alloc2_new w4 _ _
  rw[qm _ _ _ _ _ _ hh,Nat.zero_add,q3o];simp[hk,List.getD_eq_getElem?_getD]
 ·rw[hF];exact q0v _ _ _ _ (((((Below.refl _ _).alloc (by simp only[q6];omega) _).alloc (by simp only[q6];omega) _).alloc (by simp only[q6];omega) _).alloc (by simp only[q6];omega) _) _ (by simp only[q6])
 ·rw[hF];exact q0v _ _ _ _ ((((Below.refl _ _).alloc (by simp only[q6];omega) _).alloc (by simp only[q6];omega) _).alloc (by simp only[q6];omega) _) _ (by simp only[q6])
 ·rw[hF];exact q0v _ _ _ _ (((Below.refl _ _).alloc (by simp only[q6];omega) _).alloc (by simp only[q6];omega) _) _ (by simp only[q6])
 ·rw[hF];exact q0v _ _ _ _ ((Below.refl _ _).alloc (by simp only[q6];omega) _) _ (by simp only[q6])
 ·rw[hF];exact q0v _ _ _ _ (Below.refl _ _) _ (by simp only[q6])
theorem qg6(s:ByteArray)(w:World)(_hs:s.size<=20000) :
  Calls Tryz.prog 185 #[.string s] w (qj7 s w):=by
 have hmf:∀ (fn:Fn) (first cap:Array Value) (w:World),(Instr.makeFunc fn first cap).run Tryz.prog w = .ok (.func fn first cap) w:=fun _ _ _ _=>rfl
 have HI:∀ b,Hid ((Tryz.prog.info? 199).map (·.size)=some (x4 (bs b)).size):=fun b=>by rw[yg];exact qe7
 have HZ:∀ b,Hid (Tryz.zeroCells199.size=(x4 (bs b)).size):=fun b=>by rw[yg,<-q4n,yg];rfl
 have HC:=fun b=>qh (q5r (bs b))
 go_enter Tryz.func185,Tryz.ntmps185
 go_wp2_with fail
 refine(q33 sml _ (by unfold maxLen;decide)).mono ?_;rintro e w1⟨rfl,hb1⟩;have Hb1:=qh hb1;clear hb1
 go_wp2_with fail
 refine(q33 cpt _ (by unfold maxLen;decide)).mono ?_;rintro e w2⟨rfl,hb2⟩;have Hb2:=qh hb2;clear hb2
 go_wp2_with fail
 refine(q33 sgn _ (by unfold maxLen;decide)).mono ?_;rintro e w3⟨rfl,hb3⟩;have Hb3:=qh hb3;clear hb3
 go_wp2_with (first
  |(refine wpList_store_row (o:=⟨none,.store 199 (.tmp 3) (.tmp 13),_,_,_,_⟩) rfl 199 (.tmp 3) (.tmp 13) rfl w3.heap.size (x4 (bs sml)) rfl rfl 199 Tryz.zeroCells199 (q0x _ _ _ _) (HI _).out (HZ _).out (HC _).out ?_;rw[qmp])
  |(refine wpList_store_row (o:=⟨none,.store 199 (.tmp 4) (.tmp 14),_,_,_,_⟩) rfl 199 (.tmp 4) (.tmp 14) rfl (w3.heap.size+1) (x4 (bs cpt)) rfl rfl 199 Tryz.zeroCells199 (q0a _ _ _ _) (HI _).out (HZ _).out (HC _).out ?_;rw[qmo])
  |(refine wpList_store_row (o:=⟨none,.store 199 (.tmp 5) (.tmp 15),_,_,_,_⟩) rfl 199 (.tmp 5) (.tmp 15) rfl (w3.heap.size+2) (x4 (bs sgn)) rfl rfl 199 Tryz.zeroCells199 (q09 _ _ _ _) (HI _).out (HZ _).out (HC _).out ?_;rw[qmn]))
 refine(q33 nmc _ (by unfold maxLen;decide)).mono ?_;rintro e w4⟨rfl,hb4⟩;have Hb4:=qh hb4;clear hb4
 go_wp2_with (first
  |(refine wpList_store_row (o:=⟨none,.store 199 (.tmp 6) (.tmp 16),_,_,_,_⟩) rfl 199 (.tmp 6) (.tmp 16) rfl w4.heap.size (x4 (bs nmc)) rfl rfl 199 Tryz.zeroCells199 (qk _ _) (HI _).out (HZ _).out (HC _).out ?_;rw[World.setRow_alloc_new]))
 refine(qgt _).mono ?_;rintro e w5⟨rfl,hw5⟩;have hz:w5.heap.size=w4.heap.size+2:=by rw[hw5];simp
 have Hw5:=qh hw5;clear hw5;have Hz:=qh hz;clear hz;go_wp2;obtain⟨hE,hB⟩:=qnm s w w1 w2 w3 w4 w5 _ _ _ _ _ _ _ Hb1.out Hb2.out Hb3.out Hb4.out Hw5.out rfl rfl ⟨_,rfl⟩ ⟨_,rfl⟩ ⟨_,rfl⟩ ⟨_,rfl⟩ ⟨_,rfl⟩;go_ret;refine⟨_,rfl,hE,hB,?_⟩;have z1:=Hb1.out.size;have z2:=Hb2.out.size;have z3:=Hb3.out.size;have z4:=Hb4.out.size;have z5:=Hz.out;simp only[q6]at z1 z4;refine⟨?_,?_,?_,?_,?_,?_,?_,?_,?_,?_,?_,?_⟩ <;> simp only <;> omega
theorem qkg(r:Lx.Bs):(Lib.indexByte r 10 = -1/\(r.takeWhile fun c=>decide (c.toNat≠10)).length=r.length) \/
  (0<=Lib.indexByte r 10/\Lib.indexByte r 10=(r.takeWhile fun c=>decide (c.toNat≠10)).length):=by
 induction r with
 |nil=>left;exact⟨rfl,rfl⟩
 |cons b r ih =>
  unfold Lib.indexByte
  by_cases h:b=10
  ·subst h;right;simp
  ·have hn:b.toNat≠10:=fun e=>h (by rw[<-UInt8.toNat_inj];exact e)
   have hb:(b==(10:UInt8))=false:=by simpa using h
   have e:(b :: r).takeWhile (fun c=>decide (c.toNat≠10))=b :: r.takeWhile (fun c=>decide (c.toNat≠10)):=by
    rw[List.takeWhile_cons,qj (by simpa using hn)]
   rw[hb,e];simp only[Bool.false_eq_true,if_false,qr];rcases ih with ⟨h1,h2⟩|⟨h1,h2⟩
   ·left;rw[h1,h2];exact⟨rfl,rfl⟩
   ·right
    have h3:(Lib.indexByte r 10 == -1)=false:=by rw[qc];omega
    rw[h3];simp only[Bool.false_eq_true,if_false];omega
theorem qd3(s:ByteArray)(i:Nat)(w:World)(hs:s.size<=maxLen)(hi:i<=s.size) :
  Calls Tryz.prog 223 #[.string s,.int .i64 i] w fun e w'=>e = .returned (.int .i64 (Lx.lineTo (bs s) i))/\w=w':=by
 unfold maxLen at hs;have hx:=qkg ((bs s).drop i);have hl:=Lx.lineTo_le (l:=bs s) (i:=i) (by rw[zd];omega);have hd:((bs s).drop i).length=s.size - i:=by simp[bs]
 have e1:List.take (s.size - i) (List.drop i s.data.toList)=(bs s).drop i:=qw (by simp);have E1:=qh e1;clear e1;have hL:Lx.lineTo (bs s) i=i+(((bs s).drop i).takeWhile fun c=>decide (c.toNat≠10)).length:=rfl;rw[zd]at hl;rw[hd]at hx;obtain⟨n,hn⟩:∃ n,Lib.indexByte ((bs s).drop i) 10=n:=⟨_,rfl⟩;rw[hn]at hx;have Hn:=qh hn;clear hn hd;rw[hL]at hl ⊢;obtain⟨m,hm⟩:∃ m,(((bs s).drop i).takeWhile fun c=>decide (c.toNat≠10)).length=m:=⟨_,rfl⟩;rw[hm]at hx hl ⊢;clear hm hL;rcases hx with ⟨h1,h2⟩|⟨h1,h2⟩
 ·have H2:=qh h2;clear h2
  subst h1;go_enter Tryz.func223,Tryz.ntmps223
  go_wp2_with (go_at_call 182;refine(Tryz.strings_IndexByte _ _ _).mono ?_;rintro e w' ⟨rfl,hw⟩;obtain rfl:=hw.symm;rw[show(10:Int).toNat.toUInt8=(10:UInt8) from rfl,show(s.extract i s.size).data.toList=(bs s).drop i from(q3k s i),Hn.out])
  go_ret;exact⟨q0s (by have:=H2.out;omega),rfl⟩
 ·subst h2
  go_enter Tryz.func223,Tryz.ntmps223
  go_wp2_with (go_at_call 182;refine(Tryz.strings_IndexByte _ _ _).mono ?_;rintro e w' ⟨rfl,hw⟩;obtain rfl:=hw.symm;rw[show(10:Int).toNat.toUInt8=(10:UInt8) from rfl,show(s.extract i s.size).data.toList=(bs s).drop i from(q3k s i),Hn.out])
  go_ret;exact⟨q0s (by omega),rfl⟩
theorem qd2(s:ByteArray)(i:Int)(w:World)(hs:s.size<=maxLen)(h0:0<=i)(hi:i<=s.size) :
  Calls Tryz.prog 223 #[.string s,.int .i64 i] w fun e w'=>e = .returned (.int .i64 (Lx.lineTo (bs s) i.toNat))/\w=w':=by
 obtain⟨n,rfl⟩:=Int.eq_ofNat_of_zero_le h0;exact qd3 s n w hs (by omega)
theorem qnf{c:UInt8}{n:Nat}(h:((c.toNat:Int)==(n:Int))=true):c.toNat=n:=by rw[beq_iff_eq]at h;omega
theorem qll{c:UInt8}{n:Nat}(h:((c.toNat:Int)==(n:Int))=false):c.toNat≠n:=by rw[qc]at h;omega
theorem q7h{c:UInt8}(h:((c.toNat:Int)==32)=true\/((c.toNat:Int)==9)=true\/((c.toNat:Int)==10)=true):Lx.blank c=true:=by
 simp only[beq_iff_eq]at h;simp only[Lx.blank,Bool.or_eq_true,qp];omega
theorem qff{c:UInt8}(h1:((c.toNat:Int)==32)=false)(h2:((c.toNat:Int)==9)=false)(h3:((c.toNat:Int)==10)=false):Lx.blank c=false:=by
 simp only[qc,ne_eq]at h1 h2 h3;simp only[Lx.blank,Bool.or_eq_false_iff,decide_eq_false_iff_not];omega
theorem qjj(s:ByteArray)(i:Nat)(w:World)(hs:s.size<=maxLen)(hi:i<=s.size) :
  Calls Tryz.prog 186 #[.string s,.int .i64 i] w fun e w'=>e = .returned (.int .i64 (Lx.skipTo (bs s) i))/\w=w':=by
 have hm:=hs;unfold maxLen at hs;go_enter Tryz.func186,Tryz.ntmps186;go_wp2
 go_loop [1] (fun a=>∃ k:Nat,k<=s.size/\a = .int .i64 k/\Lx.skipTo (bs s) i=Lx.skipTo (bs s) k) (fun a=>s.size - (intOf a).toNat)
 case atStart=>exact⟨i,hi,rfl,rfl⟩
 case round =>
  obtain⟨k,hk,rfl,hrun⟩:=hrel;have Hrun:=qh hrun;clear hrun
  by_cases hlt:k < s.size
  ·go_wp2_with (go_at_call 223;refine(qd2 s k _ hm (by omega) (by omega)).mono ?_;rintro e w' ⟨rfl,rfl⟩)
   ·have h:((s[k].toNat:Int)==32)=true:=by assumption
    go_round
    case rel=>exact⟨k+1,by omega,by go_num,Hrun.out.trans (Lx.skipTo_blank (by rw[zd];exact hlt) (by rw[jg hlt];exact q7h (.inl h)))⟩
    case measure=>simp[intOf];omega
   ·have h:((s[k].toNat:Int)==9)=true:=by assumption
    go_round
    case rel=>exact⟨k+1,by omega,by go_num,Hrun.out.trans (Lx.skipTo_blank (by rw[zd];exact hlt) (by rw[jg hlt];exact q7h (.inr (.inl h))))⟩
    case measure=>simp[intOf];omega
   ·have h:((s[k].toNat:Int)==10)=true:=by assumption
    go_round
    case rel=>exact⟨k+1,by omega,by go_num,Hrun.out.trans (Lx.skipTo_blank (by rw[zd];exact hlt) (by rw[jg hlt];exact q7h (.inr (.inr h))))⟩
    case measure=>simp[intOf];omega
   ·have h:((s[k].toNat:Int)==37)=true:=by assumption
    have hc:=Lx.skipTo_comment (l:=bs s) (k:=k) (by rw[zd];exact hlt) (by rw[jg hlt];exact qnf h);have hl:=Lx.lineTo_le (l:=bs s) (i:=k) (by rw[zd];omega);rw[zd]at hl
    go_round
    case rel=>exact⟨Lx.lineTo (bs s) k,by omega,rfl,Hrun.out.trans hc.1⟩
    case measure=>simp[intOf];omega
   ·have h1:((s[k].toNat:Int)==32)=false:=by assumption
    have h2:((s[k].toNat:Int)==9)=false:=by assumption
    have h3:((s[k].toNat:Int)==10)=false:=by assumption
    have h4:((s[k].toNat:Int)==37)=false:=by assumption
    go_ret;exact⟨q0s (by rw[Hrun.out,Lx.skipTo_stop (by rw[zd];exact hlt) (by rw[jg hlt];exact qff h1 h2 h3) (by rw[jg hlt];exact qll h4)]),rfl⟩
  ·go_wp2
   go_ret;exact⟨q0s (by rw[Hrun.out,Lx.skipTo_end (by rw[zd];omega)]),rfl⟩
theorem qas(s:ByteArray)(i:Int)(w:World)(hs:s.size<=maxLen)(h0:0<=i)(hi:i<=s.size) :
  Calls Tryz.prog 186 #[.string s,.int .i64 i] w fun e w'=>e = .returned (.int .i64 (Lx.skipTo (bs s) i.toNat))/\w=w':=by
 obtain⟨n,rfl⟩:=Int.eq_ofNat_of_zero_le h0;exact qjj s n w hs (by omega)
variable {F:Fence} {n:Nat} {P:Program}
def q02(P:Program)(l:Nat)(R:Ending->World->Prop):Exit->Act->World->Prop
 | .normal,_,w=>∃ v w',(Instr.endRound l none).run P w = .ok v w'/\R (.returned v) w'
 | .ret,_,w=>∃ v w',(Instr.endRound l (some .ret)).run P w = .ok v w'/\R (.returned v) w'
 | .exit id,_,w=>∃ v w',(Instr.endRound l (some (.exit id))).run P w = .ok v w'/\R (.returned v) w'
 | .goto t,_,w=>∃ v w',(Instr.endRound l (some (.goto t))).run P w = .ok v w'/\R (.returned v) w'
 | .panic chain,a,w=>a.defers=[]/\R (.panicked chain) w
 | .outgrown,_,_=>False
theorem vj{l:Nat}{f:FuncId}{fn:Func}{tmps:Array Value}{assign body:Code}{w:World}{R:Ending->World->Prop}(hF:F.fn f)(hfn:P.funcs[f]?=some fn)
  (h:assign.wpIn (F.inRound l) n P (Exit.then (fun a₁ w₁=>∃ w₂,(Instr.beginRound l).run P w₁ = .ok () w₂/\body.wpIn (F.inRound l) n P (q02 P l R) a₁ w₂) (fun _ _ _=>False))
   { tmps:=tmps,defers:=[] } w) :
  RoundIn F n P l f tmps assign body w R:=by
 refine⟨hF,fun c cs hr=>?_⟩
 let b:Frame:={ (default:Frame)with fn:=f,kind:=.normal,roundOf:=some l }
 have hb0:Frame.round l f tmps assign body .normal=b.atR { tmps:=tmps,defers:=[] } [.code assign,.beginRound,.code body]:=by
  simp[Frame.round,Frame.atR,b]
 have hr':(F.inRound l).room ((c :: cs).length+1+n):=hr;have hF':(F.inRound l).fn b.fn:=hF;obtain⟨e,a₁,w₁,hq,harr⟩:=h b [.beginRound,.code body] (c :: cs) rfl hF' hr';rw[<-hb0]at harr
 cases e with
 |normal =>
  obtain⟨w₂,hbr,hbody⟩:=hq
  have s1:StepsIn (Machine.fenced P (F.inRound l)) P (lone (b.atR a₁ [.beginRound,.code body]) (c :: cs) w₁) (lone (b.atR a₁ [.code body]) (c :: cs) w₂) :=
   .one (fenced_calm (fr:=b.atR a₁ [.beginRound,.code body]) hF' hr' rfl) (stepR_beginRound rfl hbr)
  obtain⟨e₂,a₂,w₃,hq₂,harr₂⟩:=hbody b [] (c :: cs) rfl hF' hr'
  cases e₂ with
  |normal =>
   obtain⟨v,w₄,hend,hR⟩:=hq₂;exact⟨.returned v,w₄,hR,(StepsIn.trans harr s1).trans (StepsIn.trans harr₂ (.one (fenced_calm (fr:=b.atR a₂ []) hF' hr' rfl) (stepR_round_end rfl rfl hend)))⟩
  |ret =>
   obtain⟨v,w₄,hend,hR⟩:=hq₂;obtain⟨k₁,hs⟩:=harr₂.2 rfl;exact⟨.returned v,w₄,hR,(StepsIn.trans harr s1).trans (StepsIn.trans hs (.one (fenced_calm (fr:=b.atR a₂ (.code .ret :: k₁)) hF' hr' rfl) (stepR_round_ret rfl rfl hend)))⟩
  |exit id =>
   obtain⟨v,w₄,hend,hR⟩:=hq₂;obtain⟨k₁,hk,hs⟩:=harr₂.2 rfl rfl;exact⟨.returned v,w₄,hR,(StepsIn.trans harr s1).trans (StepsIn.trans hs (.one (fenced_calm (fr:=b.atR a₂ (.code (.exit id) :: k₁)) hF' hr' rfl) (stepR_round_exit rfl rfl hk hend)))⟩
  |goto t =>
   obtain⟨v,w₄,hend,hR⟩:=hq₂;obtain⟨k₁,hk,hs⟩:=harr₂.2 rfl rfl;exact⟨.returned v,w₄,hR,(StepsIn.trans harr s1).trans (StepsIn.trans hs (.one (fenced_calm (fr:=b.atR a₂ (.code (.goto t) :: k₁)) hF' hr' rfl) (stepR_round_goto rfl rfl hk hend)))⟩
  |panic chain =>
   obtain⟨hd,hR⟩:=hq₂;obtain⟨todo,hs⟩:=harr₂;have hl:({ b.atR a₂ todo with mode:=.panicking chain }:Frame).leaving P w₃ (.panicked chain):=⟨rfl,hd,fn,hfn⟩;have hfen:(lone { b.atR a₂ todo with mode:=.panicking chain } (c :: cs) w₃).fenced P F:=fenced_leaving (n:=n) hF hr hl;exact⟨.panicked chain,w₃,hR,(StepsIn.trans harr s1).trans (StepsIn.trans hs (.one hfen (step_leave_panicked hl)))⟩
  |outgrown=>exact hq₂.elim
 |exit id=>exact hq.elim
 |goto t=>exact hq.elim
 |ret=>exact hq.elim
 |panic chain=>exact hq.elim
 |outgrown=>exact hq.elim
def q3n(f0:FuncId)(_n:Nat)(P:Program)(c:Code)(Q:Exit->Act->World->Prop)(a:Act)(w:World):Prop :=
 ∀ (b:Frame) (k:List Item) (cs:List Frame),b.roundOf=none->b.fn=f0 ->
  ∃ e a' w',Q e a' w'/\ArrivesIn (Machine.fenced P Fence.wide) P (lone (b.atR a (.code c :: k)) cs w) b k cs e a' w'
section
variable {f0:FuncId} {Q:Exit->Act->World->Prop} {a:Act} {w:World}
theorem zm{c:Code}(h:c.wpIn Fence.wide n P Q a w):q3n f0 n P c Q a w:=fun b k cs hro _=>h b k cs hro trivial (room_wide _)
theorem xe{x y:Code}(h:q3n f0 n P x (Exit.then (q3n f0 n P y Q) Q) a w):q3n f0 n P (Code.seq x y) Q a w:=by
 intro b k cs hro hb;have h0:(lone (b.atR a (.code (.seq x y) :: k)) cs w).fenced P Fence.wide:=fenced_wide P _;obtain⟨e,a₁,w₁,hq,harr⟩:=h b (.code y :: k) cs hro hb
 cases e with
 |normal =>
  obtain⟨e₂,a₂,w₂,hq₂,harr₂⟩:=hq b k cs hro hb;exact⟨e₂,a₂,w₂,hq₂,.of_steps (.head h0 stepR_seq harr) harr₂⟩
 |exit id=>exact⟨_,a₁,w₁,hq,.of_steps (.one h0 stepR_seq) (.pass (x:=.code y) rfl (fun _ _=>.inl (by simp)) harr)⟩
 |goto l=>exact⟨_,a₁,w₁,hq,.of_steps (.one h0 stepR_seq) (.pass (x:=.code y) rfl (fun _ _=>.inl (by simp)) harr)⟩
 |ret=>exact⟨_,a₁,w₁,hq,.of_steps (.one h0 stepR_seq) (.pass (x:=.code y) rfl (fun _ _=>.inl (by simp)) harr)⟩
 |panic ch=>exact⟨_,a₁,w₁,hq,.of_steps (.one h0 stepR_seq) (.pass (x:=.code y) rfl (fun _ _=>.inl (by simp)) harr)⟩
 |outgrown=>exact⟨_,a₁,w₁,hq,.of_steps (.one h0 stepR_seq) (.pass (x:=.code y) rfl (fun _ _=>.inl (by simp)) harr)⟩
theorem q0y{id:Nat}{c:Code}(h:q3n f0 n P c (Exit.inBlock id Q) a w):q3n f0 n P (Code.block id c) Q a w:=by
 intro b k cs hro hb;have h0:(lone (b.atR a (.code (.block id c) :: k)) cs w).fenced P Fence.wide:=fenced_wide P _;obtain⟨e,a₁,w₁,hq,harr⟩:=h b (.inBlock id :: k) cs hro hb
 cases e with
 |normal=>exact⟨.normal,a₁,w₁,hq,.head h0 stepR_block (StepsIn.trans harr (.one (fenced_wide P _) stepR_inBlock))⟩
 |exit id' =>
  by_cases hid:id'=id
  ·simp only[Exit.inBlock,hid,if_true]at hq
   exact⟨.normal,a₁,w₁,hq,.head h0 stepR_block (harr.1 k (by simp[exitTo,hid]))⟩
  ·simp only[Exit.inBlock,hid,if_false]at hq
   have this:(id==id')=false:=by simp;exact fun h=>hid h.symm
   have hx:exitTo id' (.inBlock id :: k)=exitTo id' k:=by simp[exitTo,this]
   exact⟨.exit id',a₁,w₁,hq,fun k' hk=>.head h0 stepR_block (harr.1 k' (by rw[hx];exact hk)),
    fun hr' hk=>let ⟨k₁,h1,h2⟩:=harr.2 hr' (by rw[hx];exact hk);⟨k₁,h1,.head h0 stepR_block h2⟩⟩
 |goto l =>
  have hx:gotoIn l (.inBlock id :: k)=gotoIn l k:=by simp[gotoIn]
  exact⟨_,a₁,w₁,hq,fun k' hk=>.head h0 stepR_block (harr.1 k' (by rw[hx];exact hk)),
   fun hr' hk=>let ⟨k₁,h1,h2⟩:=harr.2 hr' (by rw[hx];exact hk);⟨k₁,h1,.head h0 stepR_block h2⟩⟩
 |ret=>exact⟨_,a₁,w₁,hq,.of_steps (.one h0 stepR_block) harr⟩
 |panic ch=>exact⟨_,a₁,w₁,hq,.of_steps (.one h0 stepR_block) harr⟩
 |outgrown=>exact⟨_,a₁,w₁,hq,.of_steps (.one h0 stepR_block) harr⟩
theorem q8o{g:Operand}{ps:Array Tmp}{assign body:Code}
  (h:∃ (l:Nat) (mark:List Deferred) (w₁:World) (d:Deferred) (w₁':World) (f:FuncId) (args:Array Value) (w₂:World),
   (Instr.enterLoop f0 a.tmps ps assign body none).run P w = .ok (l,mark) w₁ /\
   (resolve a.eval (rangeCall g l) 0).run P w₁ = .ok d w₁' /\
   (invoke d.target d.args).run P w₁' = .ok (.enter f args) w₂ /\
   CallsIn Fence.wide (n - 1) P f args w₂ (rangePost Fence.wide n P l Q { a with defers:=mark++a.defers })) :
  q3n f0 n P (Code.rangeFunc g ps assign body) Q a w:=by
 intro b k cs hro hb;obtain⟨l,mark,w₁,d,w₁',f,args,w₂,he,hres,hinv,hF,hcall⟩:=h;rw[<-hro,<-hb]at he;have h0:(lone (b.atR a (.code (.rangeFunc g ps assign body) :: k)) cs w).fenced P Fence.wide:=fenced_wide P _;have henter:=stepR_rangeFunc (P:=P) (b:=b) (a:=a) (k:=k) (cs:=cs) (w:=w) he hres hinv;obtain⟨e,w₃,fr,hR,hsteps,hfn,hleave⟩:=hcall (b.atR { a with defers:=mark++a.defers } (.inRangeFunc l :: k) :: cs) (room_wide _)
 cases e with
 |outgrown =>
  obtain⟨a₀,w₀,hq⟩:=hR;exact⟨.outgrown,a₀,w₀,hq,.inr (Outgrown.of_steps (.one henter) hsteps)⟩
 |returned v =>
  have hl:(lone fr (b.atR { a with defers:=mark++a.defers } (.inRangeFunc l :: k) :: cs) w₃).fenced P Fence.wide:=fenced_wide P _;obtain⟨jump,w₄,hend,hj⟩:=hR
  have sback:StepsIn (Machine.fenced P Fence.wide) P (lone (b.atR a (.code (.rangeFunc g ps assign body) :: k)) cs w) (lone (b.atR { a with defers:=mark++a.defers } ((jump.map Item.code).toList++k)) cs w₄):=by
   refine .head h0 henter (StepsIn.trans hsteps (.head hl ?_ (.one (fenced_wide P _) (stepR_endRangeFunc hend))));rw[<-finish_atR_inRangeFunc l v];exact step_leave_returned hleave
  cases jump with
  |none=>exact⟨.normal,_,w₄,hj,sback⟩
  |some c =>
   obtain⟨e',a'',w₅,hq,harr⟩:=hj b k cs hro trivial (room_wide _);exact⟨e',a'',w₅,hq,.of_steps sback harr⟩
 |panicked chain =>
  have hl:(lone fr (b.atR { a with defers:=mark++a.defers } (.inRangeFunc l :: k) :: cs) w₃).fenced P Fence.wide:=fenced_wide P _;refine⟨.panic chain,_,w₃,hR,.inRangeFunc l :: k,.head h0 henter (StepsIn.trans hsteps (.one hl ?_))⟩;rw[<-Frame.raise_atR];exact step_leave_panicked hleave
theorem vh{g:Operand}{ps:Array Tmp}{assign body:Code}{gf:Nat}{lb:Array Value}(hg:a.eval g = .func (.func gf) #[] lb)(eg:∀ args w,(callFunc gf args).run P w = .ok (.enter gf args) w)
  (h:∀ r:Loop,r = { state:=.ready,pending:=none,fn:=f0,tmps:=a.tmps,params:=ps,assign,body,defers:=w.heap.size } ->
   CallsIn Fence.wide (n - 1) P gf (#[.func (.yield (w.heap.size+1)) #[] #[]]++lb) ((w.alloc (.deferred (some []))).alloc (.loop r))
    (rangePost Fence.wide n P (w.heap.size+1) Q { a with defers:=[{ target:=.collected w.heap.size,args:=#[] }]++a.defers })) :
  q3n f0 n P (Code.rangeFunc g ps assign body) Q a w:=by
 obtain⟨r,hr⟩:∃ r:Loop,r = { state:=.ready,pending:=none,fn:=f0,tmps:=a.tmps,params:=ps,assign,body,defers:=w.heap.size }:=⟨_,rfl⟩;obtain⟨W1,hW1⟩:∃ W1,(w.alloc (.deferred (some []))).alloc (.loop r)=W1:=⟨_,rfl⟩;have hc:=h r hr;rw[hW1]at hc
 have e1:(Instr.enterLoop f0 a.tmps ps assign body none).run P w = .ok (w.heap.size+1,[{ target:=.collected w.heap.size,args:=#[] }]) W1:=by
  rw[<-hW1,hr];exact run_enterLoop_outer _ _ _ _ _
 have e2:(resolve a.eval (rangeCall g (w.heap.size+1)) 0).run P W1 = .ok { target:=.fn (.func gf) lb,args:=#[.func (.yield (w.heap.size+1)) #[] #[]] } W1:=by
  simp only[resolve,hg];simp[go_sem]
 have e3:(invoke (.fn (.func gf) lb) #[.func (.yield (w.heap.size+1)) #[] #[]]).run P W1 = .ok (.enter gf (#[.func (.yield (w.heap.size+1)) #[] #[]]++lb)) W1:=by
  simp[invoke,go_sem,eg]
 exact q8o ⟨w.heap.size+1,[{ target:=.collected w.heap.size,args:=#[] }],W1,_,W1,gf,_,W1,e1,e2,e3,hc⟩
theorem wk{fn:Func}{c:Code}{args:Array Value}{R:Ending->World->Prop}(hf:P.funcs[f0]?=some fn)(hb:fn.body=some c)
  (h:q3n f0 n P c (bodyPostM Fence.wide n P fn R) { tmps:=args++Array.replicate (fn.ntmps - args.size) undef,defers:=[] } w):CallsIn Fence.wide n P f0 args w R:=by
 refine⟨trivial,fun cs hr=>?_⟩
 let b:Frame:={ (default:Frame)with fn:=f0,kind:=.normal,roundOf:=none }
 have henter:Frame.enter P f0 args .normal =
   b.atR { tmps:=args++Array.replicate (fn.ntmps - args.size) undef,defers:=[] } [.code c]:=by
  simp[Frame.enter,Frame.atR,hf,hb,b]
 obtain⟨e,a',w',hq,harr⟩:=h b [] cs rfl rfl;rw[<-henter]at harr
 cases e with
 |normal =>
  obtain⟨e',w'',fr',hR,hs,hfn,hl⟩:=leaves_stepsInM a'.defers .returning w' { b.atR a' [] with mode:=.returning } cs rfl rfl rfl hf rfl trivial hr hq;exact⟨e',w'',fr',hR,ComesIn.of_steps (StepsIn.trans harr (.one (fenced_wide P _) (stepR_end rfl))) hs,hfn,hl⟩
 |ret =>
  obtain⟨todo,hs₀⟩:=harr.1 rfl;obtain⟨e',w'',fr',hR,hs,hfn,hl⟩:=leaves_stepsInM a'.defers .returning w' { b.atR a' todo with mode:=.returning } cs rfl rfl rfl hf rfl trivial hr hq;exact⟨e',w'',fr',hR,ComesIn.of_steps hs₀ hs,hfn,hl⟩
 |panic chain =>
  obtain⟨todo,hs₀⟩:=harr;obtain⟨e',w'',fr',hR,hs,hfn,hl⟩:=leaves_stepsInM a'.defers (.panicking chain) w' { b.atR a' todo with mode:=.panicking chain } cs rfl rfl rfl hf rfl trivial hr hq;exact⟨e',w'',fr',hR,ComesIn.of_steps hs₀ hs,hfn,hl⟩
 |exit id=>exact hq.elim
 |goto l=>exact hq.elim
 |outgrown=>exact⟨.outgrown,w',b,hq,harr.resolve_left (by simp[b]),rfl,trivial⟩
end
attribute [local go_sem] Oper.semAt_some
def q4f(l:Lx.Bs)(k i j:Nat):Lx.Tok:=⟨k,Lx.slice l i j,i⟩
def qee(s:ByteArray)(J:Nat->List Lx.Tok->World->Prop)(Jx:World->Prop)(e:Ending)(w':World):Prop :=
 (∃ v E pre,e = .returned v/\Lx.scan (bs s) = .toks pre/\J E pre w')\/(∃ i er,e = .panicked [{ v:=q2j i er,recovered:=false }]/\Lx.scan (bs s) = .bad i er/\Jx w')
theorem qeq{s:ByteArray}(hs:s.size<=20000):Lx.scan (bs s)=Lx.scanT (bs s) (s.size+1) [] (Lx.skipTo (bs s) 0):=by
 unfold Lx.scan;rw[qd (by rw[zd];omega),zd]
theorem qh6{l:Lx.Bs}{f i k j:Nat}{pre:List Lx.Tok}(hi:i < l.length)(h:Lx.tokAt l i=some (k,j))(h6:pre.length≠6000)(h4:¬ 40 < j - i) :
  Lx.scanT l (f+1) pre i=Lx.scanT l f (pre++[q4f l k i j]) (Lx.skipTo l j):=by
 simp only[Lx.scanT,h,q4f];rw[qd (by omega),qd h6,qd h4]
theorem qjp{l:Lx.Bs}{f i k j er:Nat}{pre:List Lx.Tok}(hi:i < l.length)(h:Lx.tokAt l i=some (k,j))(hc:pre.length=6000/\er=2\/pre.length≠6000/\40 < j - i/\er=11) :
  Lx.scanT l (f+1) pre i = .bad i er:=by
 simp only[Lx.scanT,h];rw[qd (by omega)];rcases hc with ⟨h1,rfl⟩|⟨h1,h2,rfl⟩
 ·rw[qj h1]
 ·rw[qd h1,qj h2]
theorem qh7{l:Lx.Bs}{f i:Nat}{pre:List Lx.Tok}(hi:i < l.length)(h:Lx.tokAt l i=none):Lx.scanT l (f+1) pre i = .bad i 10:=by
 simp only[Lx.scanT,h];rw[qd (by omega)]
theorem qjn{l:Lx.Bs}{f i:Nat}{pre:List Lx.Tok}(hi:l.length<=i):Lx.scanT l f pre i = .toks pre:=by
 cases f with
 |zero=>rfl
 |succ f=>simp only[Lx.scanT];rw[qj hi]
def qnr(X:Nat->Prop)(E b:Nat)(w w':World):Prop:=w.heap.size<=w'.heap.size/\∀ k,k < w.heap.size->(k < E\/b<=k)->¬ X k->w'.heap[k]?=w.heap[k]?
def qce(s:ByteArray)(J:Nat->List Lx.Tok->World->Prop)(Jx:World->Prop)(X:Nat->Prop)(E b:Nat)(pre:List Lx.Tok)(k i j:Nat)(w:World)(e:Ending)(w':World):Prop :=
 (e = .returned (.bool true)/\J E (pre++[q4f (bs s) k i j]) w'/\qnr X E b w w'/\pre.length≠6000/\¬ 40 < j - i) \/
 (∃ er,e = .panicked [{ v:=q2j i er,recovered:=false }]/\Jx w'/\(pre.length=6000/\er=2\/pre.length≠6000/\40 < j - i/\er=11))
theorem FEnv.kept{q:FA}{s:ByteArray}{w w':World}{X:Nat->Prop}{E b n:Nat}(h:FEnv q s w)(hl:q.lt E)(hg:q.ge n)(hX:∀ k,X k->k < n)(hk:qnr X E b w w'):FEnv q s w':=by
 have hw:=h.lt;obtain⟨g1,g2,g3,g4,g5,g6,g7,g8,g9,g10,g11,g12⟩:=hg
 have cl:∀ a o,a < w.heap.size->a < E->n<=a->w'.cell? ⟨a,o,none⟩=w.cell? ⟨a,o,none⟩:=fun a o h1 h2 h3 =>
  World.cell?_of_block (w:=w) (hk.2 a h1 (.inl h2) (fun hx=>by have:=hX a hx;omega))
 exact⟨(cl _ _ hw.t hl.t g1).trans h.hT,fun c=>(cl _ _ hw.sm hl.sm g2).trans (h.hS c),fun c=>(cl _ _ hw.ca hl.ca g3).trans (h.hC c),fun c=>(cl _ _ hw.sg hl.sg g4).trans (h.hG c),
  fun c=>(cl _ _ hw.nm hl.nm g5).trans (h.hN c),(cl _ _ hw.wd hl.wd g6).trans h.hWd,fun k hk=>(cl _ _ hw.wl hl.wl g7).trans (h.hWl k hk),(cl _ _ hw.tk hl.tk g8).trans h.hTk,
  (cl _ _ hw.fo hl.fo g9).trans h.hFo,(cl _ _ hw.ne hl.ne g10).trans h.hNe,(cl _ _ hw.sc hl.sc g11).trans h.hSc,(cl _ _ hw.lo hl.lo g12).trans h.hLo⟩
theorem qlt(n:Nat)(hn:1<=n)(s:ByteArray)(T l:Nat)(hs:s.size<=20000)(J:Nat->List Lx.Tok->World->Prop)(Jx:World->Prop)(X:Nat->Prop)(W:World)
  (hX:∀ k,X k->k < W.heap.size) (hXT:¬ X T)
  (hJ:∀ E pre w w',J E pre w->Below w.heap.size w w'->J E pre w') (hJx:∀ E pre w w',J E pre w->Below w.heap.size w w'->Jx w')
  (hY:∀ E pre w0 w k i j,J E pre w0->W.heap.size<=E->E<=w0.heap.size->Below w0.heap.size w0 w->Lx.tokAt (bs s) i=some (k,j)->YieldAt Fence.wide (n - 1) Tryz.prog l #[ve s k i j] w (qce s J Jx X E w0.heap.size pre k i j w))
  (hT:W.cell? ⟨T,0,none⟩=some (.string s)) (h0:∀ w',Below W.heap.size W w'->J w'.heap.size [] w') :
  CallsIn Fence.wide n Tryz.prog 184 #[.func (.yield l) #[] #[],.pointer (some ⟨T,0,none⟩)] W (qee s J Jx):=by
 have hm:=jz hs;have hTl:=block_lt_of_cell hT;simp only at hTl;refine callsIn_of_wp Tryz.func184 rfl trivial ?_ rfl;simp only[Tryz.ntmps184,List.size_toArray,qr,qz,Nat.reduceAdd,Nat.reduceSub,Array.replicate_succ,Array.replicate_zero,List.push_toArray,List.append_toArray,List.nil_append,List.cons_append]
 gi_wp2_with fail
 refine⟨trivial,((callsIn_wide (n:=n - 1)).2 (qg6 s _ hs)).mono ?_⟩;rintro e w1⟨q,rfl,hE,hb,hg⟩;have hT1:w1.cell? ⟨T,0,none⟩=some (.string s):=(hb.cell (p:=⟨T,0,none⟩) hTl).trans hT;unfold ql0
 gi_wp2_with fail
 refine⟨trivial,((callsIn_wide (n:=n - 1)).2 (qas s 0 _ hm (by omega) (by omega))).mono ?_⟩;rintro e w2⟨rfl,rfl⟩
 gi_wp2_with fail
 obtain⟨E,hEq⟩:∃ E,w1.heap.size=E:=⟨_,rfl⟩;have hqE:q.lt E:=hEq▸hE.lt;have hWE:W.heap.size<=E:=hEq▸hb.size;have hJ0:J E [] w1:=hEq▸h0 w1 hb;have hE1:E<=w1.heap.size:=by omega
 clear hEq;have hlen:=zd s;have hsk:=Lx.skipTo_le (l:=bs s) (i:=0) (qv _);rw[hlen]at hsk;have Hscan:=qh (qeq hs);have Hlen:=qh hlen;clear hlen
 gi_loopw [4] (fun a wr=>∃ (f:Nat) (pre:List Lx.Tok) (i:Nat),a = .int .i64 i/\i<=s.size/\s.size+1<=i+f/\Hid (Lx.scan (bs s)=Lx.scanT (bs s) f pre i)/\J E pre wr/\FEnv q s wr/\wr.cell? ⟨T,0,none⟩=some (.string s)/\E<=wr.heap.size)
  (fun a _=>s.size - (intOf a).toNat)
 case atStart =>
  exact⟨s.size+1,[],_,rfl,hsk.2,by omega,Hscan,hJ0,hE,hT1,hE1⟩
 case round =>
  obtain⟨f,pre,i,rfl,hi,hf,hsc,hJr,hEr,hTr,hle⟩:=hrel;clear hE hT1 hE1 hJ0 hb
  by_cases hlt:i < s.size
  ·obtain⟨f,rfl⟩:∃ f',f=f'+1:=⟨f - 1,by omega⟩
   gi_wp2_with fail
   refine⟨trivial,((callsIn_wide (n:=n - 1)).2 (qkk q s i wr hs hlt hEr)).mono ?_⟩;rintro e w2 (⟨k,j,htok,rfl,hb2⟩|⟨hnone,rfl,hb2⟩)
   ·obtain⟨hij,hj⟩:=Lx.tokAt_lt htok
    rw[Hlen.out]at hj;have hJ2:=hJ E pre wr w2 hJr hb2;have hE2:=hEr.below hEr.lt hb2;have hT2:w2.cell? ⟨T,0,none⟩=some (.string s):=(hb2.cell (p:=⟨T,0,none⟩) (by simp only;omega)).trans hTr;have hs2:=hb2.size;have hz2:∀ o,E<=(w2.alloc o).heap.size:=fun o=>by rw[q6];omega
    obtain⟨fn,tmps,assign,body,hy,hR⟩:=hY E pre w2 (w2.alloc (.cells #[.int .i64 k,.string (s.extract i j),.int .i64 i] 111)) k i j hJ2 hWE (by omega) ((Below.refl _ _).alloc (q9 _) _) htok;unfold ve at hy ⊢;have Htok:=qh htok;clear htok hb2 hJr hEr hTr
    gi_wp2_with fail
    refine hR.mono ?_;clear hy hR;rintro e w3 (⟨rfl,hJ3,hk3,h6,h40⟩|⟨er,rfl,hx,hc⟩)
    ·have hE3:=FEnv.kept (n:=W.heap.size) (hE2.alloc _) hqE hg hX hk3
     have hT3:w3.cell? ⟨T,0,none⟩=some (.string s) :=
      (World.cell?_of_block (w:=w2.alloc _) (hk3.2 T (by rw[q6];omega) (.inl (by omega)) hXT)).trans ((World.cell?_alloc_past _ _ _ (by omega)).trans hT2)
     have hc3:w3.cell? ⟨w2.heap.size,1,none⟩=some (.string (s.extract i j)) :=
      (World.cell?_of_block (w:=w2.alloc _) (hk3.2 w2.heap.size (by rw[q6];omega) (.inr (q9 _)) (fun hx=>by have:=hX _ hx;omega))).trans (by simp[World.cell?_alloc_at])
     have hl3:E<=w3.heap.size:=qo (hz2 _) hk3.1;have Hst:=qh (hsc.out.trans (qh6 (by rw[Hlen.out];exact hlt) Htok.out h6 h40));clear hE2 hT2 hk3 h6 h40 hz2;have hsj:=Lx.skipTo_le (l:=bs s) (i:=j) (by rw[Hlen.out];exact hj);rw[Hlen.out]at hsj
     gi_wp2_with fail
     refine⟨trivial,((callsIn_wide (n:=n - 1)).2 (qas s _ _ hm (by omega) (by omega))).mono ?_⟩;rintro e w4⟨rfl,rfl⟩;rw[show((i:Int)+((j - i:Nat):Int)).toNat=j from by omega]
     gi_wp2_with fail
     go_roundw
     case rel=>exact⟨f,pre++[q4f (bs s) k i j],Lx.skipTo (bs s) j,rfl,hsj.2,by omega,Hst,hJ3,hE3,hT3,hl3⟩
     case measure=>simp[intOf];omega
    ·exact⟨rfl,.inr ⟨i,er,rfl,hsc.out.trans (qjp (by rw[Hlen.out];exact hlt) Htok.out hc),hx⟩⟩
   ·exact⟨rfl,.inr ⟨i,10,rfl,hsc.out.trans (qh7 (by rw[Hlen.out];exact hlt) hnone),hJx E pre wr w2 hJr hb2⟩⟩
  ·gi_wp2
   refine bodyPost_ret (results_none rfl _ _ _) rfl ?_;exact .inl ⟨_,E,pre,rfl,hsc.out.trans (qjn (by rw[Hlen.out];omega)),hJr⟩
theorem q5s(s:ByteArray)(w:World)(hs:s.size<=20000) :
  Calls Tryz.prog 113 #[.string s] w fun e w'=>e = .returned (.string s)/\Below w.heap.size w w':=by
 go_enter Tryz.func113,Tryz.ntmps113
 go_wp2_with (go_at_call 179;refine(Tryz.stringslite_Clone s _ (by omega)).mono ?_;rintro e w' ⟨rfl,hb⟩)
 go_ret;exact⟨rfl,hb⟩
theorem qel(s:ByteArray)(w:World) :
  Calls Tryz.prog 130 #[.string s] w fun e w'=>e = .returned (.func (.func 184) #[] #[.pointer (some ⟨w.heap.size,0,none⟩)])/\w'=w.alloc (.cells #[.string s] 9):=by
 have hmf:∀ (fn:Fn) (first cap:Array Value) (w:World),(Instr.makeFunc fn first cap).run Tryz.prog w = .ok (.func fn first cap) w:=fun _ _ _ _=>rfl
 go_enter Tryz.func130,Tryz.ntmps130;go_wp2;go_ret;exact⟨rfl,rfl⟩
theorem qgm(w:World):(Instr.typeAssert Value.nilIface 20 150 true).run Tryz.prog w = .ok (.tuple #[.agg #[.int .i64 0,.int .i64 0],.bool false]) w:=by kernel_rfl
theorem qgl(v:Value)(w:World):(Instr.typeAssert (.iface 150 v) 20 150 true).run Tryz.prog w = .ok (.tuple #[v,.bool true]) w:=by kernel_rfl
theorem qgd(n h:Nat)(w:World) :
  CallsDIn Fence.wide n Tryz.prog 129 #[.pointer (some ⟨h,0,none⟩),.pointer (some ⟨h+1,0,none⟩),.pointer (some ⟨h+1+1,0,none⟩)] .returning w fun e u' w' =>
   e = .returned (.tuple #[])/\u' = .returning/\w'=w.alloc (.cells #[.int .i64 0,.int .i64 0] 150):=by
 have hta:=qgm;have hwd:∀ x,Fence.wide.fn x:=fun _=>trivial
 refine callsDIn_of_wpSIn Tryz.func129 rfl trivial fun c₀ cs hu=>?_
 apply wpSIn_seq;apply wpSIn_region;simp[wpOpsSIn,go_sem,recoverD,hu,Tryz.ntmps129,Exit.thenS,hta,hwd];refine wpSIn_of_wpIn rfl (wpIn_wide.2 ?_);simp only[Array.replicate_succ,Array.replicate_zero,List.push_toArray,List.nil_append,List.cons_append,List.append_toArray,qa,qf,qe];go_wp2;refine⟨rfl,.returning,by cases c₀;simp_all,.tuple #[],by simp[results,Tryz.results129],rfl,rfl,rfl⟩
theorem qdd(n h i er:Nat)(older:List PanicEntry)(lv:Value)(x y:Int)(w:World)
  (c0:w.cell? ⟨h,0,none⟩=some lv) (c1:w.cell? ⟨h+1,0,none⟩=some (.int .i64 x)) (c2:w.cell? ⟨h+1+1,0,none⟩=some (.int .i64 y))
  (f0:w.frozen? ⟨h,0,none⟩=false) (f1:w.frozen? ⟨h+1,0,none⟩=false) (f2:w.frozen? ⟨h+1+1,0,none⟩=false) (_hlv:lv.oneCell'=true) :
  CallsDIn Fence.wide n Tryz.prog 129 #[.pointer (some ⟨h,0,none⟩),.pointer (some ⟨h+1,0,none⟩),.pointer (some ⟨h+1+1,0,none⟩)] (.panicking ({ v:=q2j i er,recovered:=false } :: older)) w fun e u' w' =>
   e = .returned (.tuple #[])/\u' = .panicking ({ v:=q2j i er,recovered:=true } :: older)/\Below h w w'/\w'.cell? ⟨h,0,none⟩=some (.slice none 0 0)/\w'.cell? ⟨h+1,0,none⟩=some (.int .i64 i)/\w'.cell? ⟨h+1+1,0,none⟩=some (.int .i64 er):=by
 have b0:=block_lt_of_cell c0;have b1:=block_lt_of_cell c1;have b2:=block_lt_of_cell c2;simp only at b0 b1 b2;have hta:=qgl;have hwd:∀ x,Fence.wide.fn x:=fun _=>trivial
 unfold q2j;refine callsDIn_of_wpSIn Tryz.func129 rfl trivial fun c₀ cs hu=>?_
 apply wpSIn_seq;apply wpSIn_region;simp[wpOpsSIn,go_sem,recoverD,hu,Tryz.ntmps129,Exit.thenS,hta,hwd];refine wpSIn_of_wpIn rfl (wpIn_wide.2 ?_);simp only[Array.replicate_succ,Array.replicate_zero,List.push_toArray,List.nil_append,List.cons_append,List.append_toArray,qa,qf,qe];clear hwd hta;go_wp2
 go_region
 refine⟨rfl,.panicking ({ v:=.iface 150 (.agg #[.int .i64 i,.int .i64 er]),recovered:=true } :: older),rfl,.tuple #[],by simp[results,Tryz.results129],rfl,rfl,?_,?_,?_,?_⟩
 ·exact(((((Below.refl h w).setCell (p:=⟨h,0,none⟩) (q9 _) _).setCell (p:=⟨h+1,0,none⟩) (by simp) _).setCell (p:=⟨h+1+1,0,none⟩) (by simp only;omega) _).alloc (by simp[World.setCell];omega) _).drew
 ·simp[go_sem,b0,c0]
 ·simp[go_sem,b1,c1]
 ·simp[go_sem,b2,c2]
attribute [local go_sem] Oper.semAt_some
def q0o(l:List Lx.Tok):List Value:=l.flatMap fun t=>[.int .i64 t.kind,.string ⟨t.text.toArray⟩,.int .i64 t.pos]
theorem qck(s:ByteArray)(i j:Nat):(⟨(Lx.slice (bs s) i j).toArray⟩:ByteArray)=s.extract i j:=by
 rw[<-q0d];exact qc5 (by simp[bs])
theorem qii(s:ByteArray)(pre:List Lx.Tok)(k i j:Nat):q0o (pre++[q4f (bs s) k i j])=q0o pre++[.int .i64 k,.string (s.extract i j),.int .i64 i]:=by
 rw[q0o,zj];simp only[q0o,q4f,List.flatMap_cons,List.flatMap_nil,List.append_nil,qck]
def Toks(B:Nat)(v:Value)(l:List Lx.Tok)(w:World):Prop:=w.ownsRow B 111 3 v l.length (q0o l)
def q6d(s:ByteArray)(w:World)(e:Ending)(w':World):Prop :=
 Below w.heap.size w w'/\match Lx.scan (bs s)with
  | .toks l=>∃ v,e = .returned (.tuple #[v,.int .i64 0,.int .i64 0])/\Toks w.heap.size v l w'
  | .bad i er=>e = .returned (.tuple #[.slice none 0 0,.int .i64 i,.int .i64 er])
theorem qjo(n:Nat)(s:ByteArray)(w:World)(hs:s.size<=maxLen)(hb:20000 < s.size):CallsIn Fence.wide n Tryz.prog 77 #[.string s] w (q6d s w):=by
 have Hsc:Lx.scan (bs s) = .bad 0 2:=by unfold Lx.scan;rw[qj (by rw[zd];exact hb)]
 have HS:=qh Hsc;clear Hsc;unfold maxLen at hs;refine callsIn_wide.2 ?_;go_enter Tryz.func77,Tryz.ntmps77;go_wp2;refine bodyPost_ret (v:=.tuple #[.slice none 0 0,.int .i64 0,.int .i64 2]) (by simp[results,Tryz.results77,go_sem]) rfl ⟨?_,?_⟩
 ·exact((((Below.refl _ w).alloc (q9 _) _).alloc (by simp) _).alloc (by simp;omega) _)
 ·rw[HS.out];rfl
def JS(w:World)(h D L:Nat)(r:Loop)(E:Nat)(pre:List Lx.Tok)(W:World):Prop :=
 Below h w W/\E<=W.heap.size/\(L < E/\pre.length<=6000)/\Boxed W (h+1) 3 (.int .i64 0)/\Boxed W (h+1+1) 26 (.int .i64 0)/\W.heap[D]?=some (.deferred (some []))/\W.heap[L]?=some (.loop r)/\∃ v,Boxed W h 71 v/\Toks E v pre W
def JX(w:World)(h D:Nat)(W:World):Prop :=
 Below h w W/\Boxed W (h+1) 3 (.int .i64 0)/\Boxed W (h+1+1) 26 (.int .i64 0)/\W.heap[D]?=some (.deferred (some []))/\∃ v,Boxed W h 71 v/\v.oneCell'=true
theorem zg{W:World}{k:Nat}{o:Obj}(h:W.heap[k]?=some o):k < W.heap.size:=(Array.getElem?_eq_some_iff.1 h).1
theorem q1q{W W':World}{B:Nat}{t:TypeId}{v:Value}{n:Nat}(h:Boxed W B t v)(hb:Below n W W')(hn:B < n):Boxed W' B t v:=(hb.block B hn).trans h
theorem x6{W W':World}{base e size n:Nat}{v:Value}{xs:List Value}(h:W.ownsRow base e size v n xs)(hk:∀ k,base<=k->k < W.heap.size->v.ownBlock=some k->W'.heap[k]?=W.heap[k]?):W'.ownsRow base e size v n xs:=by
 obtain⟨h1,h2⟩:=h;refine⟨h1,?_⟩;rcases h2 with h2|⟨g,cap,cur,rfl,hg,hh,r⟩
 ·exact .inl h2
 ·exact .inr ⟨g,cap,cur,rfl,hg,(hk g hg (zg hh) rfl).trans hh,r⟩
theorem x8{W W':World}{base e size n:Nat}{v:Value}{xs:List Value}(h:W.ownsRow base e size v n xs)(hb:Below W.heap.size W W'):W'.ownsRow base e size v n xs :=
 x6 h fun k _ hk _=>hb.block k hk
theorem vg{W:World}{base e size n:Nat}{v:Value}{xs:List Value}(h:W.ownsRow base e size v n xs):∃ a cap,v = .slice a n cap:=by
 rcases h.2 with ⟨rfl,rfl⟩|⟨g,cap,_,rfl,_⟩
 ·exact⟨none,0,rfl⟩
 ·exact⟨_,_,rfl⟩
theorem JS.later{w:World}{h D L:Nat}{r:Loop}{E:Nat}{pre:List Lx.Tok}{W W':World}(hDL:D < L)(hh:h+1+1 < L)(hj:JS w h D L r E pre W)(hb:Below W.heap.size W W'):JS w h D L r E pre W':=by
 obtain⟨j1,j2,j3,j4,j5,j6,j7,v,j8,j9⟩:=hj;exact⟨j1.trans (hb.mono (by omega)),qo j2 hb.size,j3,q1q j4 hb (by omega),q1q j5 hb (by omega),(hb.block D (by omega)).trans j6,(hb.block L (by omega)).trans j7,v,q1q j8 hb (by omega),x8 j9 hb⟩
theorem JS.jx{w:World}{h D L:Nat}{r:Loop}{E:Nat}{pre:List Lx.Tok}{W:World}(hj:JS w h D L r E pre W):JX w h D W:=by
 obtain⟨j1,j2,j3,j4,j5,j6,j7,v,j8,j9⟩:=hj;obtain⟨a,cap,rfl⟩:=vg j9;exact⟨j1,j4,j5,j6,_,j8,rfl⟩
theorem vn{W:World}{B:Nat}{t:TypeId}{v:Value}(h:Boxed W B t v)(o:Obj):Boxed (W.alloc o) B t v:=h.alloc o
theorem ww{W:World}{B b':Nat}{t:TypeId}{v:Value}{o:Obj}(h:Boxed W B t v)(hne:B≠b'):Boxed (W.putObj b' o) B t v:=(World.putObj_heap_other hne).trans h
theorem yw{W:World}{B B':Nat}{t:TypeId}{v u:Value}(h:Boxed W B t v)(hne:B≠B'):Boxed (W.setCell ⟨B',0,none⟩ u) B t v:=(Below.heap_setCell _ _ _ _ (by simp only;omega)).trans h
theorem zw{w W:World}{n:Nat}(h:Below n w W)(b:Nat)(o:Obj)(hb:n<=b):Below n w (W.putObj b o) :=
 ⟨h.os,h.tape,h.output,by rw[World.putObj_size];exact h.size,fun k hk=>(World.putObj_heap_other (by omega)).trans (h.block k hk)⟩
theorem ju{W:World}{base base' e size n:Nat}{v:Value}{xs:List Value}(h:W.ownsRow base e size v n xs)(hb:base'<=base):W.ownsRow base' e size v n xs:=by
 obtain⟨h1,h2⟩:=h;refine⟨h1,?_⟩;rcases h2 with h2|⟨g,cap,cur,rfl,hg,hh,r⟩
 ·exact .inl h2
 ·exact .inr ⟨g,cap,cur,rfl,by omega,hh,r⟩
theorem qlx:(Tryz.prog.info? 111).map (fun i=>(i.zero,i.size,i.bytes))=some (some (.agg #[.int .i64 0,.string ⟨#[]⟩,.int .i64 0]),3,32):=by kernel_rfl
theorem xu(W:World)(a b c:Value)(t:TypeId)(n:Nat)(hn:n=W.heap.size):∀ (j:Nat) (u:Value),[a,b,c][j]?=some u->(W.alloc (.cells #[a,b,c] t)).cell? ((⟨n,0,none⟩:Addr).add j)=some u:=by
 intro j u hj;subst hn;have hadd:(⟨W.heap.size,0,none⟩:Addr).add j=⟨W.heap.size,j,none⟩:=by unfold Addr.add;split <;> simp_all
 rw[hadd,World.cell?_alloc_at _ _ _ _ rfl];simpa using hj
theorem qcs{W:World}{base e size n:Nat}{v:Value}{xs:List Value}(h:W.ownsRow base e size v n xs):∀ g,v.ownBlock=some g->base<=g/\g < W.heap.size:=by
 intro g hg;rcases h.2 with ⟨rfl,_⟩|⟨g',cap,cur,rfl,hb,hh,_⟩
 ·simp[Value.ownBlock]at hg
 ·obtain rfl:g'=g:=by simpa[Value.ownBlock]using hg
  exact⟨hb,zg hh⟩
theorem qer(n:Nat)(hn:3<=n)(s:ByteArray)(w:World)(hs:s.size<=20000):CallsIn Fence.wide n Tryz.prog 77 #[.string s] w (q6d s w):=by
 have hmf:∀ (fn:Fn) (first cap:Array Value) (w:World),(Instr.makeFunc fn first cap).run Tryz.prog w = .ok (.func fn first cap) w:=fun _ _ _ _=>rfl
 have eg:∀ args w,(callFunc 184 args).run Tryz.prog w = .ok (.enter 184 args) w:=enters_of Tryz.func184 (by kernel_rfl) rfl;have eg2:∀ args w,(callFunc 129 args).run Tryz.prog w = .ok (.enter 129 args) w:=enters_of Tryz.func129 (by kernel_rfl) rfl;have hn1:1<=n:=by omega
 refine wk Tryz.func77 rfl ?_;simp only[Tryz.ntmps77,List.size_toArray,qr,qz,Nat.reduceAdd,Nat.reduceSub,Array.replicate_succ,Array.replicate_zero,List.push_toArray,List.append_toArray,List.nil_append,List.cons_append];refine xe (zm ?_)
 gi_wp2
 refine xe (zm ?_)
 gi_wp2
 refine xe (zm ?_)
 gi_wp2
 refine xe (xe (zm ?_))
 gi_wp2_with fail
 refine⟨trivial,((callsIn_wide (n:=n - 1)).2 (q5s s _ hs)).mono ?_⟩;rintro e w1⟨rfl,hb1⟩;have Hb1:=qh hb1;clear hb1
 gi_wp2_with fail
 refine⟨trivial,((callsIn_wide (n:=n - 1)).2 (qel s _)).mono ?_⟩;rintro e w2⟨rfl,rfl⟩
 gi_wp2
 refine q0y (vh (gf:=184) (lb:=#[.pointer (some ⟨w1.heap.size,0,none⟩)]) rfl eg ?_);intro r hr;have hr1:r.state = .ready:=by rw[hr]
 have hr2:r.pending=none:=by rw[hr]
 have hr3:r.params=#[13]:=by rw[hr]
 have z1:=Hb1.out.size;simp only[q6]at z1;have hB1:Below w.heap.size w w1:=((((Below.refl _ w).alloc (q9 _) _).alloc (by simp) _).alloc (by simp;omega) _).trans (Hb1.out.mono (by simp;omega));obtain⟨h,hh⟩:∃ h,w.heap.size=h:=⟨_,rfl⟩;have bx0:Boxed w1 h 71 (.slice none 0 0):=(Hb1.out.block h (by simp;omega)).trans (by rw[<-hh];exact q0x w _ _ _);have bx1:Boxed w1 (h+1) 3 (.int .i64 0):=(Hb1.out.block (h+1) (by simp;omega)).trans (by rw[<-hh];exact q0a w _ _ _);have bx2:Boxed w1 (h+1+1) 26 (.int .i64 0):=(Hb1.out.block (h+1+1) (by simp;omega)).trans (by rw[<-hh];exact q09 w _ _ _);obtain⟨T,hT⟩:∃ T,w1.heap.size=T:=⟨_,rfl⟩;have hD:(w1.alloc (.cells #[.string s] 9)).heap.size=T+1:=by simp[hT]
 have hcall:CallsIn Fence.wide (n - 1) Tryz.prog 184 #[.func (.yield (T+1+1)) #[] #[],.pointer (some ⟨T,0,none⟩)] (((w1.alloc (.cells #[.string s] 9)).alloc (.deferred (some []))).alloc (.loop r))
   (qee s (JS w h (T+1) (T+1+1) r) (JX w h (T+1))):=by
  refine qlt (n - 1) (by omega) s T (T+1+1) hs (JS w h (T+1) (T+1+1) r) (JX w h (T+1)) (fun k=>k=h\/k=T+1+1) _ ?_ ?_ ?_ ?_ ?_ ?_ ?_
  ·rintro k (rfl|rfl) <;> simp[hT];omega
  ·rintro(e|e) <;> omega
  ·exact fun E pre w w' hj hb=>hj.later (by omega) (by omega) hb
  ·exact fun E pre w w' hj hb=>(hj.later (by omega) (by omega) hb).jx
  ·intro E pre w0 W k i j hj hWE hE0 hb htok
   have hJ:=hj.later (by omega) (by omega) hb;obtain⟨R,hR⟩:∃ R,qce s (JS w h (T+1) (T+1+1) r) (JX w h (T+1)) (fun k=>k=h\/k=T+1+1) E w0.heap.size pre k i j W=R:=⟨_,rfl⟩;rw[hR];have HR:=qh hR;clear hR;obtain⟨j1,j2,⟨j3,jlen⟩,j4,j5,j6,j7,_⟩:=hJ;obtain⟨_,_,_,_,_,_,_,v,i8,i9⟩:=hj;obtain⟨a,cap,rfl⟩:=vg i9;have j8:=q1q i8 hb i8.lt;have j9:Toks E (.slice a pre.length cap) pre W:=x8 i9 hb;have hrow0:=qcs i9;have hkp:=hb.size;refine⟨_,_,_,_,run_yield (P:=Tryz.prog) j7 (by rw[hr3];rfl),?_⟩;have hr4:r.fn=77:=by rw[hr]
   have hrs:=hr1;rw[hr4];refine vj trivial Tryz.func77 ?_;simp only[hr];have HRQ:=qh (show({ r with state:=.ready,pending:=none }:Loop)=r from by rw[hr]);clear hr hr1 hr2 hr3 hr4;unfold ve
   gi_wp2
   refine⟨_,run_beginRound (r:=r) ((Below.heap_alloc _ _ _ (zg j7)).trans j7) hrs,?_⟩;obtain⟨W2,hW2⟩:∃ W2,(W.alloc (.cells #[.int .i64 k,.string (s.extract i j),.int .i64 i] 111)).putObj (T+1+1) (.loop { r with state:=.busy })=W2:=⟨_,rfl⟩;have ltL:=zg j7;have m7:W2.heap[T+1+1]?=some (.loop { r with state:=.busy }):=by rw[<-hW2];exact World.putObj_heap_same (by rw[q6];omega)
   have ko:∀ b,b < W.heap.size->b≠T+1+1->W2.heap[b]?=W.heap[b]?:=fun b hb1 hb2=>by
    rw[<-hW2];exact(World.putObj_heap_other hb2).trans (Below.heap_alloc _ _ _ hb1)
   have mz:W2.heap.size=W.heap.size+1:=by rw[<-hW2,World.putObj_size,q6]
   have mt:W2.heap[W.heap.size]?=some (.cells #[.int .i64 k,.string (s.extract i j),.int .i64 i] 111 (0,0)):=by
    rw[<-hW2];exact(World.putObj_heap_other (by omega)).trans (qk _ _)
   have mb:Below h w W2:=by rw[<-hW2];exact zw (j1.alloc (by have:=j1.size;omega) _) _ _ (by omega)
   rw[hW2];have m4:Boxed W2 (h+1) 3 (.int .i64 0):=(ko _ (by omega) (by omega)).trans j4;have m5:Boxed W2 (h+1+1) 26 (.int .i64 0):=(ko _ (by omega) (by omega)).trans j5;have m6:=(ko (T+1) (by omega) (by omega)).trans j6;have m8:Boxed W2 h 71 (.slice a pre.length cap):=(ko _ (by omega) (by omega)).trans j8;have m9:Toks E (.slice a pre.length cap) pre W2:=x6 j9 fun b hb1 hb2 _=>ko b hb2 (by omega)
   have t0:W2.cell? ⟨W.heap.size,0,none⟩=some (.int .i64 k):=qm _ _ _ _ _ _ mt;have t1:W2.cell? ⟨W.heap.size,1,none⟩=some (.string (s.extract i j)):=qm _ _ _ _ _ _ mt;have t2:W2.cell? ⟨W.heap.size,2,none⟩=some (.int .i64 i):=qm _ _ _ _ _ _ mt;have c0:=m8.cell;have f0:=m8.frozen;have koH:=qh ko;clear hW2 ko mt;have hij:=Lx.tokAt_lt htok;rw[zd]at hij;have Htok:=qh htok;clear htok hb hE0 hWE hD i8 i9
   by_cases h6:pre.length=6000
   ·have h6':((pre.length:Int)==6000)=true:=by rw[h6];rfl
    have H6:=qh h6;clear h6
    gi_wp2
    refine⟨rfl,?_⟩;rw[<-HR.out];exact .inr ⟨2,rfl,⟨mb,m4,m5,m6,_,m8,rfl⟩,.inl ⟨H6.out,rfl⟩⟩
   ·have h6':((pre.length:Int)==6000)=false:=by rw[qc];omega
    by_cases h40:40 < j - i
    ·have h40':(40:Int) < ((j - i:Nat):Int):=by omega
     gi_wp2
     refine⟨rfl,?_⟩;rw[<-HR.out];exact .inr ⟨11,rfl,⟨mb,m4,m5,m6,_,m8,rfl⟩,.inr ⟨h6,h40,rfl⟩⟩
    ·have h40':¬ (40:Int) < ((j - i:Nat):Int):=by omega
     obtain⟨i0,hi0,hz0,hz1,hz2⟩:=info_parts qlx;have m9':Hid (W2.ownsRow E 111 3 (.slice a pre.length cap) pre.length (q0o pre)):=m9;have hz3:=qh mz;clear mz
     gi_wp2_with (gi_at_builtin;refine wpListIn_append_own _ rfl _ _ 71 rfl E 111 i0 _ 3 32 Tryz.underlying71 hi0 hz0 hz1 hz2 rfl (by decide) _ _ _ rfl (m9'.out.alloc _) ⟨W2.heap.size,0,none⟩ 1 1 [.int .i64 k,.string (s.extract i j),.int .i64 i] (by rw[hz3.out];rfl) rfl (xu W2 _ _ _ _ _ rfl) (by simp[Value.oneCell']) (by unfold maxLen;omega) (by omega) (by simp only[q6];have:=hz3.out;omega) ?_;intro v' w3 hown' hgrow _;obtain⟨g,cap',rfl⟩:=ownsRow_succ hown';have hv1:Boxed w3 h 71 (.slice a pre.length cap):=(vn m8 _).kept hgrow (m8.not_row (by decide) m9);have hvc:=hv1.cell;have hvf:=hv1.frozen;have Hown:=qh hown';have Hgrow:Hid ((W2.alloc (.cells #[.int .i64 k,.string (s.extract i j),.int .i64 i] 111)).grownBy w3 (Value.slice a pre.length cap).ownBlock):=hgrow;clear hown' hgrow)
     have hsz:=hz3.out
     have gl:∀ b,b < W2.heap.size->(∀ g0,(Value.slice a pre.length cap).ownBlock=some g0->b≠g0)->w3.heap[b]?=W2.heap[b]?:=fun b hb1 hb2 =>
      (Hgrow.out.block b (by rw[q6];omega) (fun e=>hb2 b e.symm rfl)).trans (Below.heap_alloc _ _ _ hb1)
     have gE:∀ b,b < E->∀ g0,(Value.slice a pre.length cap).ownBlock=some g0->b≠g0:=fun b hb1 g0 hg0=>by have:=(hrow0 g0 hg0).1;omega
     have l3:w3.heap[T+1+1]?=some (.loop { r with state:=.busy }):=(gl _ (by omega) (gE _ (by omega))).trans m7;obtain⟨W5,hW5⟩:∃ W5,w3.setCell ⟨h,0,none⟩ (.slice (some ⟨g,0,none⟩) (pre.length+1) cap')=W5:=⟨_,rfl⟩;have so:∀ b,b≠h->W5.heap[b]?=w3.heap[b]?:=fun b hb1=>by rw[<-hW5];exact Below.heap_setCell _ _ _ _ hb1
     have sz:W5.heap.size=w3.heap.size:=by rw[<-hW5];simp[World.setCell]
     have gz:W2.heap.size+1<=w3.heap.size:=by have:=Hgrow.out.size;rwa [q6]at this
     have l5:W5.heap[T+1+1]?=some (.loop { r with state:=.busy }):=(so _ (by omega)).trans l3;have b5:Boxed W5 h 71 (.slice (some ⟨g,0,none⟩) (pre.length+1) cap'):=by rw[<-hW5];exact hv1.set _
     have o5:W5.ownsRow E 111 3 (.slice (some ⟨g,0,none⟩) (pre.length+1) cap') (pre.length+1) (q0o pre++[.int .i64 k,.string (s.extract i j),.int .i64 i]):=by
      rw[<-hW5];exact Hown.out.kept (grownBy_setCell' w3 h _) (.inr (hv1.not_row (by decide) Hown.out).symm)
     have bl5:Below h w W5:=by
      rw[<-hW5];exact((mb.alloc (by have:=mb.size;omega) _).grown Hgrow.out (by rw[q6];omega) (fun b hb1=>by have:=(hrow0 b hb1).1;omega)).setCell (p:=⟨h,0,none⟩) (q9 _) _
     rw[hW5];refine⟨_,_,run_endRound none l5,?_⟩;have HQ:=HRQ.out;have e0:({ ({ r with state:=.busy }:Loop)with state:=.ready,pending:=none }:Loop)=r:=HQ;simp only[Option.isNone_none,if_true];rw[e0,<-HR.out];have po:∀ b,b≠T+1+1->(W5.putObj (T+1+1) (.loop r)).heap[b]?=W5.heap[b]?:=fun b hb1=>World.putObj_heap_other hb1
     refine .inl ⟨rfl,⟨zw bl5 _ _ (by omega),by rw[World.putObj_size];omega,⟨j3,by rw[qg];simp only[List.length_singleton];omega⟩,?_,?_,?_,World.putObj_heap_same (by omega),_,ww b5 (by omega),?_⟩,⟨by rw[World.putObj_size];omega,fun b hb1 hb2 hb3=>?_⟩,h6,h40⟩
     ·exact(po _ (by omega)).trans ((so _ (by omega)).trans ((gl _ (by omega) (gE _ (by omega))).trans m4))
     ·exact(po _ (by omega)).trans ((so _ (by omega)).trans ((gl _ (by omega) (gE _ (by omega))).trans m5))
     ·exact(po _ (by omega)).trans ((so _ (by omega)).trans ((gl _ (by omega) (gE _ (by omega))).trans m6))
     ·have ht:q0o (pre++[q4f (bs s) k i j])=q0o pre++[.int .i64 k,.string (s.extract i j),.int .i64 i]:=qii s pre k i j
      unfold Toks;rw[ht,qg];exact x6 o5 fun b hb1 hb2 _=>po b (by omega)
     ·have n1:b≠T+1+1:=fun e=>hb3 (.inr e)
      have n2:b≠h:=fun e=>hb3 (.inl e)
      refine(po _ n1).trans ((so _ n2).trans ((gl _ (by omega) ?_).trans (koH.out b hb1 n1)));rcases hb2 with hb2|hb2
      ·exact gE b hb2
      ·exact fun g0 hg0=>by have:=(hrow0 g0 hg0).2;omega
  ·exact(World.cell?_alloc_past _ _ _ (by simp[hT];omega)).trans ((World.cell?_alloc_past _ _ _ (by simp[hT])).trans ((World.cell?_alloc_at _ _ _ _ hT.symm).trans rfl))
  ·intro W' hb
   have hb':Below h w W':=by rw[<-hh];exact hB1.trans ((((((Below.refl _ w1).alloc (q9 _) _).alloc (by simp only[q6];omega) _).alloc (by simp only[q6];omega) _).mono (by omega)).trans (hb.mono (by simp only[q6];omega)))
   have hk:∀ k o,w1.heap[k]?=some o->W'.heap[k]?=some o:=fun k o hko=>(hb.block k (by have:=zg hko;simp only[q6];omega)).trans
    (((Below.heap_alloc _ _ k (by have:=zg hko;simp only[q6];omega)).trans ((Below.heap_alloc _ _ k (by have:=zg hko;simp only[q6];omega)).trans (Below.heap_alloc _ _ k (zg hko)))).trans hko)
   have hz:=hb.size;simp only[q6,hT]at hz;exact⟨hb',q9 _,⟨by omega,by simp⟩,hk _ _ bx1,hk _ _ bx2,(hb.block (T+1) (by simp only[q6,hT];omega)).trans (by rw[<-hT];exact q0a w1 _ _ _),(hb.block (T+1+1) (by simp only[q6,hT];omega)).trans (by rw[<-hT];exact q09 w1 _ _ _),_,hk _ _ bx0,World.ownsRow_nil _ _ _ _⟩
 rw[hD,hT,hh];refine hcall.mono ?_;rintro e w' (⟨v,E,pre,rfl,hsc,hJ⟩|⟨i,er,rfl,hsc,hx⟩)
 ·obtain⟨j1,j2,⟨j3,jlen⟩,j4,j5,j6,j7,v,j8,j9⟩:=hJ
  refine⟨none,w'.putObj (T+1+1) (.loop { r with state:=.exhausted }),?_,?_⟩
  ·refine(run_endLoop (P:=Tryz.prog) j7 (by rw[hr1];simp)).trans ?_
   rw[hr2]
  ·obtain⟨W4,hW4⟩:∃ W4,w'.putObj (T+1+1) (.loop { r with state:=.exhausted })=W4:=⟨_,rfl⟩
   have ko:∀ k,k≠T+1+1->W4.heap[k]?=w'.heap[k]?:=fun k hk=>by rw[<-hW4];exact World.putObj_heap_other hk
   have kz:W4.heap.size=w'.heap.size:=by rw[<-hW4];exact World.putObj_size
   have kb:Below h w W4:=by rw[<-hW4];exact⟨j1.os,j1.tape,j1.output,by rw[World.putObj_size];exact j1.size,fun k hk=>(World.putObj_heap_other (by omega)).trans (j1.block k hk)⟩
   rw[hW4];clear hW4;have k4:Boxed W4 (h+1) 3 (.int .i64 0):=(ko _ (by omega)).trans j4;have k5:Boxed W4 (h+1+1) 26 (.int .i64 0):=(ko _ (by omega)).trans j5;have k8:Boxed W4 h 71 v:=(ko _ (by omega)).trans j8;have k9:Toks E v pre W4:=x6 j9 fun k hk _ _=>ko k (by omega)
   have k6:=(ko (T+1) (by omega)).trans j6;obtain⟨a,cap,rfl⟩:=vg k9;have c0:=k8.cell;have c1:=k4.cell;have c2:=k5.cell;have f0:=k8.frozen;have f1:=k4.frozen;have f2:=k5.frozen;clear hcall ko j1 j2 j4 j5 j6 j7 j8 j9 bx0 bx1 bx2 hB1;refine zm (n:=n) ?_;dsimp only[List.cons_append,List.nil_append]
   gi_wp2
   refine⟨by simp,.inl ⟨_,_,rfl,run_takeDeferred (((Below.heap_setCell _ _ _ _ (by simp only;omega)).trans ((Below.heap_setCell _ _ _ _ (by simp only;omega)).trans (Below.heap_setCell _ _ _ _ (by simp only;omega)))).trans k6),?_⟩⟩;refine⟨by simp,.inr ⟨fun _=>hn1,_,_,_,_,rfl,by simp[invoke,go_sem,eg2],fun _ _=>trivial,(qgd (n - 1) h _).mono ?_⟩⟩;rintro e u' F⟨rfl,rfl,hF⟩
   have q0:Boxed F h 71 (.slice a pre.length cap):=by
    rw[hF];exact vn (ww (yw (yw (k8.set _) (by omega)) (by omega)) (by omega)) _
   have q1:Boxed F (h+1) 3 (.int .i64 0):=by
    rw[hF];exact vn (ww (yw (Boxed.set _ (yw k4 (by omega))) (by omega)) (by omega)) _
   have q2:Boxed F (h+1+1) 26 (.int .i64 0):=by
    rw[hF];exact vn (ww (Boxed.set _ (yw (yw k5 (by omega)) (by omega))) (by omega)) _
   have q3:Toks E (.slice a pre.length cap) pre F:=by
    rw[hF];refine x6 k9 fun k hk hl _=>?_
    exact(Below.heap_alloc _ _ k (by simpa[World.setCell]using hl)).trans ((World.putObj_heap_other (by omega)).trans ((Below.heap_setCell _ _ _ _ (by simp only;omega)).trans ((Below.heap_setCell _ _ _ _ (by simp only;omega)).trans (Below.heap_setCell _ _ _ _ (by simp only;omega)))))
   have q4:Below h w F:=by
    rw[hF];have kbs:=kb.size;refine Below.alloc ?_ (by simp[World.setCell];omega) _;exact zw (((kb.setCell (p:=⟨h,0,none⟩) (q9 _) _).setCell (p:=⟨h+1,0,none⟩) (by simp) _).setCell (p:=⟨h+1+1,0,none⟩) (by simp only;omega) _) _ _ (by omega)
   have c0':=q0.cell;have c1':=q1.cell;have c2':=q2.cell;refine⟨.tuple #[.slice a pre.length cap,.int .i64 0,.int .i64 0],by simp[results,Tryz.results77,go_sem,c0',c1',c2'],?_⟩;refine⟨hh▸q4,?_⟩;rw[hsc];exact⟨_,rfl,ju q3 (by omega)⟩
 ·obtain⟨j1,k4,k5,k6,v,k8,hv⟩:=hx
  have lt5:=k5.lt;refine⟨by simp,.inl ⟨_,_,rfl,run_takeDeferred k6,?_⟩⟩;have k4':=ww (b':=T+1) (o:=.deferred none) k4 (by omega);have k5':=ww (b':=T+1) (o:=.deferred none) k5 (by omega);have k8':=ww (b':=T+1) (o:=.deferred none) k8 (by omega);refine⟨by simp,.inr ⟨fun _=>hn1,_,_,_,_,rfl,by simp[invoke,go_sem,eg2],fun _ _=>trivial,(qdd (n - 1) h i er [] v 0 0 _ k8'.cell k4'.cell k5'.cell k8'.frozen k4'.frozen k5'.frozen hv).mono ?_⟩⟩;rintro e u' F⟨rfl,rfl,hb,c0,c1,c2⟩;refine⟨.tuple #[.slice none 0 0,.int .i64 i,.int .i64 er],by simp[results,Tryz.results77,go_sem,c0,c1,c2],?_⟩;refine⟨hh▸(zw j1 _ _ (by omega)).trans hb,?_⟩;rw[hsc]
theorem q73(s:ByteArray)(w:World)(hs:s.size<=maxLen):Calls Tryz.prog 77 #[.string s] w (q6d s w):=by
 refine(callsIn_wide (n:=3)).1 ?_
 by_cases h:20000 < s.size
 ·exact qjo 3 s w hs h
 ·exact qer 3 (by omega) s w (by omega)
inductive NdS (S:Nat->Prop) (w:World):Nd->Value->Value->Value->Prop
 |mk (k:Int) (s:ByteArray) (l:List Nd) (a:Option Addr) (cap b o:Nat) (f0 f1 f2:Nat->Value) (hs:s.size<=maxLen) (hl:l.length<=maxLen) (hc:l.length<=cap)
   (ha:l≠[]->a=some ⟨b,o,none⟩) (hS:l≠[]->S b)
   (h0:∀ i,i < l.length->w.cell? ⟨b,o+i*3,none⟩=some (f0 i))
   (h1:∀ i,i < l.length->w.cell? ⟨b,o+i*3+1,none⟩=some (f1 i))
   (h2:∀ i,i < l.length->w.cell? ⟨b,o+i*3+2,none⟩=some (f2 i))
   (hr:∀ i (hi:i < l.length),NdS S w l[i] (f0 i) (f1 i) (f2 i)):NdS S w (.mk k s l) (.int .i64 k) (.string s) (.slice a l.length cap)
theorem NdS.toR{S:Nat->Prop}{w:World}{t:Nd}{v0 v1 v2:Value}(h:NdS S w t v0 v1 v2):NdR w t v0 v1 v2:=by
 induction h with
 |mk k s l a cap b o f0 f1 f2 hs hl hc ha hS h0 h1 h2 _ ih=>exact .mk k s l a cap b o f0 f1 f2 hs hl hc ha h0 h1 h2 ih
theorem NdS.keep{S S':Nat->Prop}{w w':World}(hk:∀ b,S b->b < w.heap.size->w'.heap[b]?=w.heap[b]?/\S' b){t:Nd}{v0 v1 v2:Value}(h:NdS S w t v0 v1 v2):NdS S' w' t v0 v1 v2:=by
 induction h with
 |mk k s l a cap b o f0 f1 f2 hs hl hc ha hS h0 h1 h2 _ ih =>
  have hlt:∀ i,i < l.length->b < w.heap.size:=fun i hi=>qi (h0 i hi)
  have hne:∀ i,i < l.length->l≠[]:=fun i hi e=>by rw[e]at hi;simp at hi
  have hcell:∀ i,i < l.length->∀ p,w'.cell? ⟨b,p,none⟩=w.cell? ⟨b,p,none⟩:=fun i hi p=>World.cell?_of_block (w:=w) (hk b (hS (hne i hi)) (hlt i hi)).1
  refine .mk k s l a cap b o f0 f1 f2 hs hl hc ha (fun e=>?_) (fun i hi=>(hcell i hi _).trans (h0 i hi)) (fun i hi=>(hcell i hi _).trans (h1 i hi)) (fun i hi=>(hcell i hi _).trans (h2 i hi)) ih;have hpos:0 < l.length:=by cases l with|nil=>exact absurd rfl e|cons _ _=>simp
  exact(hk b (hS e) (hlt 0 hpos)).2
theorem NdS.mono{S S':Nat->Prop}{w:World}(hk:∀ b,S b->b < w.heap.size->S' b){t:Nd}{v0 v1 v2:Value}(h:NdS S w t v0 v1 v2):NdS S' w t v0 v1 v2:=h.keep fun b h1 h2=>⟨rfl,hk b h1 h2⟩
theorem NdS.leaf(S:Nat->Prop)(w:World)(k:Int)(s:ByteArray)(hs:s.size<=maxLen)(a:Option Addr)(cap:Nat):NdS S w (.mk k s []) (.int .i64 k) (.string s) (.slice a 0 cap) :=
 .mk k s [] a cap 0 0 (fun _=>undef) (fun _=>undef) (fun _=>undef) hs (qv _) (qv _) (fun e=>absurd rfl e) (fun e=>absurd rfl e) (fun i hi=>absurd hi (Nat.not_lt_zero i)) (fun i hi=>absurd hi (Nat.not_lt_zero i)) (fun i hi=>absurd hi (Nat.not_lt_zero i)) (fun i hi=>absurd hi (Nat.not_lt_zero i))
theorem NdS.form{S:Nat->Prop}{w:World}{t:Nd}{v0 v1 v2:Value}(h:NdS S w t v0 v1 v2):∃ k s l a cap,t = .mk k s l/\v0 = .int .i64 k/\v1 = .string s/\v2 = .slice a l.length cap/\s.size<=maxLen/\l.length<=maxLen:=h.toR.form
theorem NdS.ones{S:Nat->Prop}{w:World}{t:Nd}{v0 v1 v2:Value}(h:NdS S w t v0 v1 v2):∀ u∈[v0,v1,v2],u.oneCell'=true:=by
 obtain⟨k,s,l,a,cap,rfl,rfl,rfl,rfl,_,_⟩:=h.form;intro u hu;simp only[List.mem_cons,List.not_mem_nil,or_false]at hu;rcases hu with rfl|rfl|rfl <;> rfl
def Kids(h:Nat)(w:World)(v:Value)(l:List Nd):Prop :=
 ∃ xs,w.ownsRow h 25 3 v l.length xs/\∀ i (hi:i < l.length),∃ v0 v1 v2,xs[i*3]?=some v0/\xs[i*3+1]?=some v1/\xs[i*3+2]?=some v2/\NdS (fun b=>h<=b/\v.ownBlock≠some b) w l[i] v0 v1 v2
theorem Kids.nil(h:Nat)(w:World):Kids h w (.slice none 0 0) []:=⟨[],World.ownsRow_nil _ _ _ _,fun i hi=>absurd hi (Nat.not_lt_zero i)⟩
theorem Kids.shape{h:Nat}{w:World}{v:Value}{l:List Nd}(hk:Kids h w v l):∃ a cap,v = .slice a l.length cap/\l.length<=cap:=by
 obtain⟨xs,h1,_⟩:=hk;rcases h1.2 with ⟨rfl,h0⟩|⟨g,cap,cur,rfl,hg,hh,hle,_⟩
 ·exact⟨none,0,by rw[h0],by omega⟩
 ·exact⟨_,_,rfl,hle⟩
theorem Kids.own{h:Nat}{w:World}{v:Value}{l:List Nd}(hk:Kids h w v l):∀ g,v.ownBlock=some g->h<=g/\g < w.heap.size:=by
 obtain⟨xs,h1,_⟩:=hk;exact h1.lt
theorem Kids.keep{h:Nat}{w w':World}{v:Value}{l:List Nd}(hk:Kids h w v l)(he:∀ b,h<=b->b < w.heap.size->w'.heap[b]?=w.heap[b]?):Kids h w' v l:=by
 obtain⟨xs,h1,h2⟩:=hk;refine⟨xs,x6 h1 fun k hk hl _=>he k hk hl,fun i hi=>?_⟩;obtain⟨v0,v1,v2,e0,e1,e2,hn⟩:=h2 i hi;exact⟨v0,v1,v2,e0,e1,e2,hn.keep fun b hb hl=>⟨he b hb.1 hl,hb⟩⟩
theorem Kids.base{h h':Nat}{w:World}{v:Value}{l:List Nd}(hk:Kids h w v l)(hh:h'<=h):Kids h' w v l:=by
 obtain⟨xs,h1,h2⟩:=hk;refine⟨xs,ju h1 hh,fun i hi=>?_⟩;obtain⟨v0,v1,v2,e0,e1,e2,hn⟩:=h2 i hi;exact⟨v0,v1,v2,e0,e1,e2,hn.mono fun b hb _=>⟨qo hh hb.1,hb.2⟩⟩
theorem Kids.node{h:Nat}{w:World}{v:Value}{l:List Nd}(hk:Kids h w v l)(k:Int)(s:ByteArray)(hs:s.size<=maxLen)(hl:l.length<=maxLen):NdS (fun b=>h<=b) w (.mk k s l) (.int .i64 k) (.string s) v:=by
 obtain⟨xs,h1,h2⟩:=hk;rcases h1.2 with ⟨rfl,h0⟩|⟨g,cap,cur,rfl,hg,hh,hle,_,_,htake⟩
 ·obtain rfl:l=[]:=List.eq_nil_of_length_eq_zero h0
  exact .leaf _ _ _ _ hs _ _
 ·have hx:∀ j u,xs[j]?=some u->w.cell? ⟨g,j,none⟩=some u:=fun j u hj=>by
   have:=h1.cells (g:=g) rfl j u hj;have hadd:(⟨g,0,none⟩:Addr).add j=⟨g,j,none⟩:=by unfold Addr.add;split <;> simp_all
   rwa [hadd]at this
  refine .mk k s l (some ⟨g,0,none⟩) cap g 0 (fun i=>(xs[i*3]?).getD undef) (fun i=>(xs[i*3+1]?).getD undef) (fun i=>(xs[i*3+2]?).getD undef) hs hl hle (fun _=>rfl) (fun _=>hg) ?_ ?_ ?_ ?_
  ·intro i hi
   obtain⟨v0,v1,v2,e0,e1,e2,hn⟩:=h2 i hi;rw[Nat.zero_add,e0];exact hx _ _ e0
  ·intro i hi
   obtain⟨v0,v1,v2,e0,e1,e2,hn⟩:=h2 i hi;rw[Nat.zero_add,e1];exact hx _ _ e1
  ·intro i hi
   obtain⟨v0,v1,v2,e0,e1,e2,hn⟩:=h2 i hi;rw[Nat.zero_add,e2];exact hx _ _ e2
  ·intro i hi
   obtain⟨v0,v1,v2,e0,e1,e2,hn⟩:=h2 i hi;simp only[e0,e1,e2,Option.getD_some];exact hn.mono fun b hb _=>hb.1
theorem q2p:(Tryz.prog.info? 25).map (fun i=>(i.zero,i.size,i.bytes))=some (some (.agg #[.int .i64 0,.string ⟨#[]⟩,.slice none 0 0]),3,48):=by kernel_rfl
theorem Kids.snoc{h:Nat}{w w':World}{v:Value}{l:List Nd}{xs:List Value}{v0 v1 v2:Value}{x:Nd}{g cap:Nat}
  (h1:w.ownsRow h 25 3 v l.length xs) (h2:∀ i (hi:i < l.length),∃ v0 v1 v2,xs[i*3]?=some v0/\xs[i*3+1]?=some v1/\xs[i*3+2]?=some v2/\NdS (fun b=>h<=b/\v.ownBlock≠some b) w l[i] v0 v1 v2)
  (hx:NdS (fun b=>h<=b/\v.ownBlock≠some b) w x v0 v1 v2)
  (ho:w'.ownsRow h 25 3 (.slice (some ⟨g,0,none⟩) (l.length+1) cap) (l.length+1) (xs++[v0,v1,v2])) (hg:w.grownBy w' v.ownBlock) (hw:v.ownBlock=some g\/g=w.heap.size) :
  Kids h w' (.slice (some ⟨g,0,none⟩) (l.length+1) cap) (l++[x]):=by
 have hk:∀ b,(h<=b/\v.ownBlock≠some b)->b < w.heap.size->w'.heap[b]?=w.heap[b]?/\(h<=b/\(Value.slice (some ⟨g,0,none⟩) (l.length+1) cap).ownBlock≠some b):=by
  rintro b⟨hb1,hb2⟩hb3;refine⟨hg.block b hb3 (fun e=>hb2 e.symm),hb1,?_⟩;intro e;have e':g=b:=by simpa[Value.ownBlock]using e
  rcases hw with hw|hw
  ·exact hb2 (by rw[hw,e'])
  ·omega
 have hxl:xs.length=l.length*3:=h1.1;refine⟨xs++[v0,v1,v2],by rw[qg];exact ho,fun i hi=>?_⟩
 by_cases hlt:i < l.length
 ·obtain⟨u0,u1,u2,e0,e1,e2,hn⟩:=h2 i hlt
  refine⟨u0,u1,u2,?_,?_,?_,?_⟩
  ·rw[List.getElem?_append_left (by omega)];exact e0
  ·rw[List.getElem?_append_left (by omega)];exact e1
  ·rw[List.getElem?_append_left (by omega)];exact e2
  ·rw[List.getElem_append_left hlt]
   exact hn.keep hk
 ·have hi':i=l.length:=by simp only[qg,List.length_singleton]at hi;omega
  subst hi';refine⟨v0,v1,v2,?_,?_,?_,?_⟩
  ·rw[List.getElem?_append_right (by omega),show l.length*3 - xs.length=0 from by omega];rfl
  ·rw[List.getElem?_append_right (by omega),show l.length*3+1 - xs.length=1 from by omega];rfl
  ·rw[List.getElem?_append_right (by omega),show l.length*3+2 - xs.length=2 from by omega];rfl
  ·simp only[List.getElem_append_right (q9 _),Nat.sub_self,zk]
   exact hx.keep hk
section
variable {ops:Array Oper} {rest:List Oper} {o:Oper} {a:Act} {Q:Exit->Act->World->Prop} {w:World}
theorem q23(hgd:o.guard=none)(s x:Operand)
  (ho:o.op = .call { callee:=.builtin .append,args:=#[s,x],argTypes:=#[23,23] })
  (h:Nat) (v:Value) (l:List Nd) (hs:a.eval s=v) (hk:Kids h w v l) (ad:Addr) (c:Nat) (hx:a.eval x = .slice (some ad) 1 c) (t:Nd) (v0 v1 v2:Value)
  (hnews:∀ j u,[v0,v1,v2][j]?=some u->w.cell? (ad.add j)=some u) (hn:NdS (fun b=>h<=b/\v.ownBlock≠some b) w t v0 v1 v2) (hlen:l.length<=1000000) (hbase:h<=w.heap.size) (H:Nat) (hH:w.heap.size=H)
  (hK:∀ g cap w',Kids h w' (.slice (some ⟨g,0,none⟩) (l.length+1) cap) (l++[t])->w.grownBy w' v.ownBlock->(v.ownBlock=some g\/g=H)->g < w'.heap.size->wpList Tryz.prog ops Q rest (a.put o.dst (.slice (some ⟨g,0,none⟩) (l.length+1) cap)) w') :
  wpList Tryz.prog ops Q (o :: rest) a w:=by
 obtain⟨i0,hi0,hz0,hz1,hz2⟩:=info_parts q2p;obtain⟨xs,h1,h2⟩:=hk;refine wpList_append_lies w hgd s x 23 ho h 25 i0 _ 3 48 Tryz.underlying23 hi0 hz0 hz1 hz2 rfl (by decide) v l.length xs hs h1 ad 1 c [v0,v1,v2] hx rfl hnews hn.ones (by decide) (by unfold maxLen;omega) (by omega) hbase H hH ?_;intro g cap w' h3 h4 h5 h6;exact hK g cap w' (Kids.snoc h1 h2 hn h3 h4 (by rw[hH];exact h5)) h4 h5 h6
end
end Go.Proofs.YtkckddojlignpaaGreatDoor
namespace Go.Proofs.YtkckddojlignpaaGreatDoor
namespace Sx
open Lx (Bs Tok)
def txt(ts:List Tok)(p:Nat):Bs:=match ts[p]? with|some t=>t.text|none=>[]
def knd(ts:List Tok)(p:Nat):Nat:=match ts[p]? with|some t=>t.kind|none=>0
inductive PR (α:Type) where
 |ok (a:α) (p:Nat)
 |bad (p:Nat)
def noS:ByteArray:=⟨#[]⟩
def str(l:Bs):ByteArray:=⟨l.toArray⟩
def leaf(k:Int)(l:Bs):Nd:=.mk k (str l) []
def small(ts:List Tok)(p:Nat):PR Nd:=if knd ts p=1 then .ok (leaf 15 (txt ts p)) (p+1) else .bad p
def nameA(ts:List Tok)(p:Nat):PR Nd:=if knd ts p=1 then .ok (leaf 15 (txt ts p)) (p+1) else if knd ts p=2 then .ok (leaf 16 (txt ts p)) (p+1) else .bad p
mutual
def typed(ts:List Tok):Nat->Nat->PR Nd
 |0,p=>.bad p
 |f+1,p=>match simple ts f p with
  | .bad q=>.bad q
  | .ok a q=>if txt ts q=[45,62] then(match typed ts f (q+1)with
   | .bad r=>.bad r
   | .ok b r=>.ok (.mk 31 noS [a,b]) r) else .ok a q
def simple(ts:List Tok):Nat->Nat->PR Nd
 |0,p=>.bad p
 |f+1,p=>if txt ts p=[40] then(match typed ts f (p+1)with
   | .bad q=>.bad q
   | .ok a q=>if txt ts q=[41] then .ok a (q+1) else .bad q) else small ts p
end
def binder(ty body:Nat->PR Nd)(ts:List Tok)(k:Int)(p:Nat):PR Nd :=
 match nameA ts p with
 | .bad q=>.bad q
 | .ok (.mk _ s _) q =>
  if txt ts q=[58] then(match ty (q+1)with
   | .bad r=>.bad r
   | .ok t r=>if txt ts r=[46] then(match body (r+1)with
    | .bad u=>.bad u
    | .ok b u=>.ok (.mk k s [t,b]) u) else .bad r)
  else if txt ts q=[46] then(match body (q+1)with
   | .bad u=>.bad u
   | .ok b u=>.ok (.mk k s [b]) u) else .bad q
mutual
def term(ts:List Tok):Nat->Nat->PR Nd
 |0,p=>.bad p
 |f+1,p =>
  if txt ts p=[92] then binder (typed ts f) (term ts f) ts 17 (p+1)
  else if txt ts p=[40] then(match term ts f (p+1)with
   | .bad q=>.bad q
   | .ok a q=>if txt ts q=[41] then .ok a (q+1) else .bad q)
  else(match nameA ts p with
   | .bad q=>.bad q
   | .ok (.mk k s _) q=>(match args ts f [] q with
    | .bad r=>.bad r
    | .ok l r=>.ok (.mk k s l) r))
def args(ts:List Tok):Nat->List Nd->Nat->PR (List Nd)
 |0,_,p=>.bad p
 |f+1,acc,p =>
  if txt ts p=[40] then(match term ts f (p+1)with
   | .bad q=>.bad q
   | .ok a q=>if txt ts q=[41] then args ts f (acc++[a]) (q+1) else .bad q)
  else(match nameA ts p with
   | .bad _=>.ok acc p
   | .ok a q=>args ts f (acc++[a]) q)
end
def applied(ts:List Tok)(f:Nat)(p:Nat):PR Nd :=
 match nameA ts p with
 | .bad q=>.bad q
 | .ok (.mk k s _) q=>(match args ts f [] q with
  | .bad r=>.bad r
  | .ok l r=>.ok (.mk k s l) r)
def sgn(ts:List Tok)(b:Nat)(p:Nat):Option Int :=
 if b=0 then(if txt ts p=[111,45] then some 27 else if txt ts p=[60,61] then some 28 else none)
 else if b=1 then(if txt ts p=[45,111] then some 25 else if txt ts p=[61,62] then some 26 else none)
 else if b=2 then(if txt ts p=[43] then some 24 else none)
 else if b=3 then(if txt ts p=[38] then some 23 else none)
 else if b=4 then(if txt ts p=[42] then some 22 else none)
 else none
mutual
def part(ts:List Tok):Nat->Nat->PR Nd
 |0,p=>.bad p
 |f+1,p =>
  if knd ts p=1 then applied ts f p
  else if txt ts p=[33] then(match part ts f (p+1)with
   | .bad q=>.bad q
   | .ok a q=>.ok (.mk 29 noS [a]) q)
  else if txt ts p=[97,108,108] then binder (typed ts f) (form ts f) ts 18 (p+1)
  else if txt ts p=[101,120] then binder (typed ts f) (form ts f) ts 19 (p+1)
  else if txt ts p=[111,110,101] then .ok (.mk 20 noS []) (p+1)
  else if txt ts p=[116,111,112] then .ok (.mk 21 noS []) (p+1)
  else if txt ts p=[123] then(match form ts f (p+1)with
   | .bad q=>.bad q
   | .ok a q=>if txt ts q=[125] then .ok (.mk 30 noS [a]) (q+1) else .bad q)
  else if txt ts p=[40] then(match form ts f (p+1)with
   | .bad q=>.bad q
   | .ok a q=>if txt ts q=[41] then .ok a (q+1) else .bad q)
  else .bad p
def right(ts:List Tok):Nat->Nat->Nat->PR Nd
 |0,_,p=>.bad p
 |f+1,b,p =>
  if 5<=b then part ts f p
  else(match right ts f (b+1) p with
   | .bad q=>.bad q
   | .ok a q=>(match sgn ts b q with
    |none=>.ok a q
    |some k=>(match right ts f b (q+1)with
     | .bad r=>.bad r
     | .ok c r=>.ok (.mk k noS [a,c]) r)))
def form(ts:List Tok):Nat->Nat->PR Nd
 |0,p=>.bad p
 |f+1,p=>match right ts f 1 p with
  | .bad q=>.bad q
  | .ok a q=>formR ts f a q
def formR(ts:List Tok):Nat->Nd->Nat->PR Nd
 |0,_,p=>.bad p
 |f+1,a,q=>match sgn ts 0 q with
  |none=>.ok a q
  |some k=>(match right ts f 1 (q+1)with
   | .bad r=>.bad r
   | .ok c r=>formR ts f (.mk k noS [a,c]) r)
end
def namesR(ts:List Tok):Nat->List Nd->Nat->PR (List Nd)
 |0,_,p=>.bad p
 |f+1,acc,p=>if txt ts p=[44] then(match small ts (p+1)with
   | .bad q=>.bad q
   | .ok a q=>namesR ts f (acc++[a]) q) else .ok acc p
def names(ts:List Tok)(f:Nat)(p:Nat):PR (List Nd) :=
 match small ts p with
 | .bad q=>.bad q
 | .ok a q=>namesR ts f [a] q
def simples(ts:List Tok):Nat->List Nd->Nat->PR (List Nd)
 |0,_,p=>.bad p
 |f+1,acc,p=>if txt ts p=[40]\/knd ts p=1 then(match simple ts f p with
   | .bad q=>.bad q
   | .ok a q=>simples ts f (acc++[a]) q) else .ok acc p
def smalls(ts:List Tok):Nat->List Nd->Nat->PR (List Nd)
 |0,_,p=>.bad p
 |f+1,acc,p=>if knd ts p=1 then smalls ts f (acc++[leaf 15 (txt ts p)]) (p+1) else .ok acc p
def kindOf(s:Bs):Int :=
 if s=[116,121,112,101] then 2
 else if s=[99,111,110,115,116] then 3
 else if s=[112,114,101,100] then 4
 else if s=[102,97,99,116] then 5
 else if s=[108,97,115,116,105,110,103] then 6
 else if s=[109,111,100,101] then 7
 else if s=[114,117,108,101] then 8
 else if s=[111,110,99,101] then 9
 else if s=[109,111,115,116] then 10
 else if s=[113,117,101,114,121] then 11
 else if s=[109,111,100,117,108,101] then 12
 else if s=[117,115,101] then 13
 else if s=[101,120,112,111,114,116] then 14
 else 0
def behind(ts:List Tok)(f:Nat)(k:Int)(s:ByteArray)(p:Nat):PR Nd :=
 if k=4\/k=5\/k=6 then(match simples ts f [] p with
  | .bad q=>.bad q
  | .ok l q=>.ok (.mk k s l) q)
 else if k=7 then(match smalls ts f [] p with
  | .bad q=>.bad q
  | .ok l q=>.ok (.mk k s l) q)
 else if k=8\/k=9\/k=10\/k=11 then(if txt ts p=[58] then(match form ts f (p+1)with
  | .bad q=>.bad q
  | .ok a q=>.ok (.mk k s [a]) q) else .bad p)
 else .ok (.mk k s []) p
def itemB(ts:List Tok)(f:Nat)(k:Int)(p:Nat):PR Nd :=
 if k=2\/k=14 then(match names ts f p with
  | .bad q=>.bad q
  | .ok l q=>.ok (.mk k noS l) q)
 else if k=3 then(match names ts f p with
  | .bad q=>.bad q
  | .ok l q=>if txt ts q=[58] then(match typed ts f (q+1)with
   | .bad r=>.bad r
   | .ok t r=>.ok (.mk 3 noS (l++[t])) r) else .bad q)
 else(match small ts p with
  | .bad q=>.bad q
  | .ok (.mk _ s _) q=>behind ts f k s q)
def item(ts:List Tok)(f:Nat)(p:Nat):PR Nd :=
 if kindOf (txt ts p)=0 then .bad p
 else(match itemB ts f (kindOf (txt ts p)) (p+1)with
  | .bad q=>.bad q
  | .ok a q=>if txt ts q=[46] then .ok a (q+1) else .bad q)
def items(ts:List Tok):Nat->List Nd->Nat->PR (List Nd)
 |0,_,p=>.bad p
 |f+1,acc,p=>if p < ts.length then(match item ts f p with
   | .bad q=>.bad q
   | .ok a q=>items ts f (acc++[a]) q) else .ok acc p
def whole(ts:List Tok)(f:Nat)(what:Int):PR Nd :=
 if what=18 then form ts f 0
 else if what=17 then term ts f 0
 else if what=31 then typed ts f 0
 else(match items ts f [] 0 with
  | .bad q=>.bad q
  | .ok l q=>.ok (.mk 1 noS l) q)
def fuel(ts:List Tok):Nat:=16*ts.length+16
theorem txt_lt{ts:List Tok}{p:Nat}(h:txt ts p≠[]):p < ts.length:=by
 by_cases hp:p < ts.length
 ·exact hp
 ·exact absurd (by unfold txt;rw[List.getElem?_eq_none (by omega)]) h
theorem knd_lt{ts:List Tok}{p:Nat}(h:knd ts p≠0):p < ts.length:=by
 by_cases hp:p < ts.length
 ·exact hp
 ·exact absurd (by unfold knd;rw[List.getElem?_eq_none (by omega)]) h
theorem txt_at{ts:List Tok}{p:Nat}{s:Bs}(h:txt ts p=s)(hs:s≠[]:=by decide):p < ts.length:=txt_lt (by rw[h];exact hs)
theorem small_ok{ts:List Tok}{p q:Nat}{a:Nd}(h:small ts p = .ok a q):q=p+1/\q<=ts.length/\a=leaf 15 (txt ts p)/\knd ts p=1:=by
 unfold small at h
 split at h
 ·rename_i hk
  cases h;exact⟨rfl,knd_lt (by omega),rfl,hk⟩
 ·cases h
theorem nameA_ok{ts:List Tok}{p q:Nat}{a:Nd}(h:nameA ts p = .ok a q):q=p+1/\q<=ts.length:=by
 unfold nameA at h
 split at h
 ·rename_i hk
  cases h;exact⟨rfl,knd_lt (by omega)⟩
 ·split at h
  ·rename_i hk
   cases h;exact⟨rfl,knd_lt (by omega)⟩
  ·cases h
theorem sgn_lt{ts:List Tok}{b p:Nat}{k:Int}(h:sgn ts b p=some k):p < ts.length:=by
 unfold sgn at h
 repeat' (split at h)
 all_goals first
  |(cases h;done)
  |exact txt_at ‹_›
def Goes(ts:List Tok)(p:Nat){α:Type}(r:PR α):Prop:=∀ a q,r = .ok a q->p < q/\q<=ts.length
def Stays(ts:List Tok)(p:Nat){α:Type}(r:PR α):Prop:=p<=ts.length->∀ a q,r = .ok a q->p<=q/\q<=ts.length
theorem typed_goes(ts:List Tok):∀ f,(∀ p,Goes ts p (typed ts f p))/\(∀ p,Goes ts p (simple ts f p))
 |0=>⟨fun p a q h=>(by simp only[typed]at h;cases h),fun p a q h=>(by simp only[simple]at h;cases h)⟩
 |f+1=>by
  obtain⟨h1,h2⟩:=typed_goes ts f;refine⟨fun p a q h=>?_,fun p a q h=>?_⟩
  ·simp only[typed]at h
   split at h
   ·cases h
   ·rename_i a1 q1 e1
    have g1:=h2 p _ _ e1
    split at h
    ·split at h
     ·cases h
     ·rename_i a2 q2 e2
      have g2:=h1 _ _ _ e2
      cases h;omega
    ·cases h
     exact g1
  ·simp only[simple]at h
   split at h
   ·split at h
    ·cases h
    ·rename_i a1 q1 e1
     have g1:=h1 _ _ _ e1
     split at h
     ·rename_i e2
      have:=txt_at e2
      cases h;omega
     ·cases h
   ·have:=small_ok h
    omega
theorem binder_goes{ts:List Tok}{ty body:Nat->PR Nd}{k:Int}(h1:∀ p,Goes ts p (ty p))(h2:∀ p,Goes ts p (body p))(p:Nat):Goes ts p (binder ty body ts k p):=by
 intro a q h;unfold binder at h
 split at h
 ·cases h
 ·rename_i k1 s1 l1 q1 e1
  have g1:=nameA_ok e1
  split at h
  ·split at h
   ·cases h
   ·rename_i t r e2
    have g2:=h1 _ _ _ e2
    split at h
    ·split at h
     ·cases h
     ·rename_i b u e3
      have g3:=h2 _ _ _ e3
      cases h;omega
    ·cases h
  ·split at h
   ·split at h
    ·cases h
    ·rename_i b u e3
     have g3:=h2 _ _ _ e3
     cases h;omega
   ·cases h
theorem term_goes(ts:List Tok):∀ f,(∀ p,Goes ts p (term ts f p))/\(∀ acc p,Stays ts p (args ts f acc p))
 |0=>⟨fun p a q h=>(by simp only[term]at h;cases h),fun acc p _ a q h=>(by simp only[args]at h;cases h)⟩
 |f+1=>by
  obtain⟨h1,h2⟩:=term_goes ts f;refine⟨fun p a q h=>?_,fun acc p hp a q h=>?_⟩
  ·simp only[term]at h
   split at h
   ·have:=binder_goes (typed_goes ts f).1 h1 _ _ _ h
    omega
   ·split at h
    ·split at h
     ·cases h
     ·rename_i a1 q1 e1
      have g1:=h1 _ _ _ e1
      split at h
      ·rename_i e2
       have:=txt_at e2
       cases h;omega
      ·cases h
    ·split at h
     ·cases h
     ·rename_i k1 s1 l1 q1 e1
      have g1:=nameA_ok e1
      split at h
      ·cases h
      ·rename_i l r e2
       have g2:=h2 _ _ (by omega) _ _ e2
       cases h;omega
  ·simp only[args]at h
   split at h
   ·split at h
    ·cases h
    ·rename_i a1 q1 e1
     have g1:=h1 _ _ _ e1
     split at h
     ·rename_i e2
      have g2:=txt_at e2;have g3:=h2 _ _ (by omega) _ _ h;omega
     ·cases h
   ·split at h
    ·cases h
     omega
    ·rename_i a1 q1 e1
     have g1:=nameA_ok e1;have g3:=h2 _ _ (by omega) _ _ h;omega
theorem applied_goes(ts:List Tok)(f p:Nat):Goes ts p (applied ts f p):=by
 intro a q h;unfold applied at h
 split at h
 ·cases h
 ·rename_i k1 s1 l1 q1 e1
  have g1:=nameA_ok e1
  split at h
  ·cases h
  ·rename_i l r e2
   have g2:=(term_goes ts f).2 _ _ (by omega) _ _ e2
   cases h;omega
theorem form_goes(ts:List Tok):∀ f,(∀ p,Goes ts p (part ts f p))/\(∀ b p,Goes ts p (right ts f b p))/\(∀ p,Goes ts p (form ts f p))/\(∀ a p,Stays ts p (formR ts f a p))
 |0=>⟨fun p a q h=>(by simp only[part]at h;cases h),fun b p a q h=>(by simp only[right]at h;cases h),fun p a q h=>(by simp only[form]at h;cases h),fun b p _ a q h=>(by simp only[formR]at h;cases h)⟩
 |f+1=>by
  obtain⟨h1,h2,h3,h4⟩:=form_goes ts f;refine⟨fun p a q h=>?_,fun b p a q h=>?_,fun p a q h=>?_,fun b p hp a q h=>?_⟩
  ·simp only[part]at h
   split at h
   ·exact applied_goes ts f p _ _ h
   ·split at h
    ·split at h
     ·cases h
     ·rename_i a1 q1 e1
      have g1:=h1 _ _ _ e1
      cases h;omega
    ·split at h
     ·have:=binder_goes (typed_goes ts f).1 h3 _ _ _ h
      omega
     ·split at h
      ·have:=binder_goes (typed_goes ts f).1 h3 _ _ _ h
       omega
      ·split at h
       ·rename_i e
        have:=txt_at e
        cases h;omega
       ·split at h
        ·rename_i e
         have:=txt_at e
         cases h;omega
        ·split at h
         ·split at h
          ·cases h
          ·rename_i a1 q1 e1
           have g1:=h3 _ _ _ e1
           split at h
           ·rename_i e2
            have:=txt_at e2
            cases h;omega
           ·cases h
         ·split at h
          ·split at h
           ·cases h
           ·rename_i a1 q1 e1
            have g1:=h3 _ _ _ e1
            split at h
            ·rename_i e2
             have:=txt_at e2
             cases h;omega
            ·cases h
          ·cases h
  ·simp only[right]at h
   split at h
   ·exact h1 _ _ _ h
   ·split at h
    ·cases h
    ·rename_i a1 q1 e1
     have g1:=h2 _ _ _ _ e1
     split at h
     ·cases h
      exact g1
     ·split at h
      ·cases h
      ·rename_i a2 q2 e2
       have g2:=h2 _ _ _ _ e2
       cases h;omega
  ·simp only[form]at h
   split at h
   ·cases h
   ·rename_i a1 q1 e1
    have g1:=h2 _ _ _ _ e1;have g2:=h4 _ _ g1.2 _ _ h;omega
  ·simp only[formR]at h
   split at h
   ·cases h
    omega
   ·split at h
    ·cases h
    ·rename_i a2 q2 e2
     have g2:=h2 _ _ _ _ e2;have g3:=h4 _ _ g2.2 _ _ h;omega
end Sx
end Go.Proofs.YtkckddojlignpaaGreatDoor
namespace Go.Proofs.YtkckddojlignpaaGreatDoor
open Go.RowKit
structure PE where
 pb:Nat
 ts:List Lx.Tok
 a:Option Addr
 tb:Nat
 off:Nat
 cap:Nat
 en:Nat
 mi:Nat
 mp:Nat
def PE.pos(E:PE)(q:Nat):Nat:=match E.ts[q]? with|some t=>t.pos|none=>E.en
def je(E:PE)(q:Nat):Value:=.iface 98 (.agg #[.int .i64 (E.pos q:Nat)])
def S_(l:List UInt8):Value:=.string ⟨l.toArray⟩
def openL:List (List UInt8×Int):=[([116,121,112,101],2),([101,120,112,111,114,116],14),([99,111,110,115,116],3),([112,114,101,100],4),([102,97,99,116],5),([108,97,115,116,105,110,103],6),([109,111,100,101],7),([114,117,108,101],8),([111,110,99,101],9),([109,111,115,116],10),([113,117,101,114,121],11),([109,111,100,117,108,101],12),([117,115,101],13),([33],29),([97,108,108],18),([101,120],19),([111,110,101],20),([116,111,112],21),([123],30),([92],17)]
def opsL:List (List UInt8×Int×Nat):=[([111,45],27,0),([60,61],28,0),([45,111],25,1),([61,62],26,1),([43],24,2),([38],23,3),([42],22,4),([45,62],31,6)]
def openArr:Array Value:=(openL.flatMap fun o=>[S_ o.1,.int .i64 o.2]).toArray
def opsArr:Array Value:=(opsL.flatMap fun o=>[S_ o.1,.int .i64 o.2.1,.int .i64 (o.2.2:Nat)]).toArray
structure GLw(w:World):Prop where
 g0:∃ t fr,w.heap[(0:Nat)]?=some (.cells openArr t fr)
 g1:∃ t fr,w.heap[(1:Nat)]?=some (.cells opsArr t fr)
theorem GLw.keep{w w':World}(h:GLw w)(he:∀ b,b < 2->b < w.heap.size->w'.heap[b]?=w.heap[b]?):GLw w':=by
 obtain⟨⟨t,fr,h0⟩,⟨u,gr,h1⟩⟩:=h;exact⟨⟨t,fr,(he 0 (by omega) (zg h0)).trans h0⟩,⟨u,gr,(he 1 (by omega) (zg h1)).trans h1⟩⟩
def StrMap(w:World)(b:Nat)(L:List (List UInt8×Value)):Prop:=∃ es clock,w.heap[b]?=some (.map es clock)/\es.toList.map (fun e=>(e.key,e.val))=L.map fun p=>(S_ p.1,p.2)
theorem StrMap.lt{w:World}{b:Nat}{L:List (List UInt8×Value)}(h:StrMap w b L):b < w.heap.size:=by
 obtain⟨es,c,h1,_⟩:=h;exact zg h1
theorem StrMap.keep{w w':World}{b:Nat}{L:List (List UInt8×Value)}(h:StrMap w b L)(he:w'.heap[b]?=w.heap[b]?):StrMap w' b L:=by
 obtain⟨es,c,h1,h2⟩:=h;exact⟨es,c,he.trans h1,h2⟩
def F_(f:Nat):Value:=.func (.func f) #[] #[]
def jn:List (List UInt8×Value):=[([116,121,112,101],F_ 131),([101,120,112,111,114,116],F_ 131),([99,111,110,115,116],F_ 132),([112,114,101,100],F_ 133),([102,97,99,116],F_ 133),([108,97,115,116,105,110,103],F_ 133),([109,111,100,101],F_ 134),([114,117,108,101],F_ 135),([111,110,99,101],F_ 135),([109,111,115,116],F_ 135),([113,117,101,114,121],F_ 135),([109,111,100,117,108,101],F_ 136),([117,115,101],F_ 136)]
def y9:List (List UInt8×Value):=[([33],F_ 137),([97,108,108],F_ 138),([101,120],F_ 138),([111,110,101],F_ 139),([116,111,112],F_ 139),([123],F_ 140),([40],F_ 141)]
structure PG(E:PE)(w:World):Prop where
 few:E.ts.length<=6000
 small:∀ t∈E.ts,t.text.length<=40/\t.pos<=20000/\t.kind<=4
 endS:E.en<=20000
 ha:E.ts≠[]->E.a=some ⟨E.tb,E.off,none⟩
 hb:E.ts≠[]->E.tb≠E.pb
 hc:E.ts.length<=E.cap
 c0:∀ i (hi:i < E.ts.length),w.cell? ⟨E.tb,E.off+i*3,none⟩=some (.int .i64 (E.ts[i].kind:Nat))
 c1:∀ i (hi:i < E.ts.length),w.cell? ⟨E.tb,E.off+i*3+1,none⟩=some (.string (Sx.str E.ts[i].text))
 c2:∀ i (hi:i < E.ts.length),w.cell? ⟨E.tb,E.off+i*3+2,none⟩=some (.int .i64 (E.ts[i].pos:Nat))
 hp:2<=E.pb
 gl:GLw w
 hmi:E.mi≠E.pb
 hmp:E.mp≠E.pb
 mi:StrMap w E.mi jn
 mp:StrMap w E.mp y9
def PE.row(E:PE)(q:Nat):Array Value:=#[.slice E.a E.ts.length E.cap,.int .i64 (q:Nat),.int .i64 (E.en:Nat),.map (some E.mi),.map (some E.mp)]
structure PS(E:PE)(q:Nat)(w:World):Prop where
 row:w.heap[E.pb]?=some (.cells (E.row q) 103 (0,0))
 le:q<=E.ts.length
 g:PG E w
theorem PS.lt{E:PE}{q:Nat}{w:World}(h:PS E q w):E.pb < w.heap.size:=zg h.row
theorem PG.keep{E:PE}{w w':World}(h:PG E w)(he:∀ b,b < w.heap.size->b≠E.pb->w'.heap[b]?=w.heap[b]?):PG E w':=by
 have hc:∀ i,i < E.ts.length->∀ p,w'.cell? ⟨E.tb,p,none⟩=w.cell? ⟨E.tb,p,none⟩:=fun i hi p =>
  World.cell?_of_block (w:=w) (he E.tb (qi (h.c0 i hi)) (h.hb (fun e=>by rw[e]at hi;simp at hi)))
 exact⟨h.few,h.small,h.endS,h.ha,h.hb,h.hc,fun i hi=>(hc i hi _).trans (h.c0 i hi),fun i hi=>(hc i hi _).trans (h.c1 i hi),fun i hi=>(hc i hi _).trans (h.c2 i hi),h.hp,h.gl.keep (fun b hb hl=>he b hl (by have:=h.hp;omega)),h.hmi,h.hmp,h.mi.keep (he _ h.mi.lt h.hmi),h.mp.keep (he _ h.mp.lt h.hmp)⟩
def Mv(E:PE)(q':Nat)(w w':World):Prop:=Below w.heap.size (w.setCell ⟨E.pb,1,none⟩ (.int .i64 (q':Nat))) w'
theorem qs(w:World)(p:Addr)(u:Value):(w.setCell p u).heap.size=w.heap.size:=by simp[World.setCell]
theorem zp{w:World}{b o:Nat}{u:Value}{cs:Array Value}{t:TypeId}(h:w.heap[b]?=some (.cells cs t (0,0))):(w.setCell ⟨b,o,none⟩ u).heap[b]?=some (.cells (cs.setIfInBounds o u) t (0,0)):=by
 simp[World.setCell,Array.getElem?_modify,h]
theorem Mv.size{E:PE}{q':Nat}{w w':World}(h:Mv E q' w w'):w.heap.size<=w'.heap.size:=by
 have:=Below.size h
 rwa [qs]at this
theorem Mv.blk{E:PE}{q':Nat}{w w':World}(h:Mv E q' w w')(b:Nat)(hb:b < w.heap.size)(hne:b≠E.pb):w'.heap[b]?=w.heap[b]? :=
 (Below.block h b hb).trans (Below.heap_setCell _ _ _ _ hne)
theorem Mv.row{E:PE}{q q':Nat}{w w':World}(h:Mv E q' w w')(hp:PS E q w):w'.heap[E.pb]?=some (.cells (E.row q') 103 (0,0)):=by
 rw[Below.block h E.pb hp.lt,zp hp.row];rfl
theorem Mv.ps{E:PE}{q q':Nat}{w w':World}(h:Mv E q' w w')(hp:PS E q w)(hq:q'<=E.ts.length):PS E q' w' :=
 ⟨h.row hp,hq,hp.g.keep fun b hb hne=>h.blk b hb hne⟩
theorem Mv.of{E:PE}{q q':Nat}{w w':World}(hp:PS E q w)(h1:w'.os=w.os)(h2:w'.tape=w.tape)(h3:w'.output=w.output)(h4:w.heap.size<=w'.heap.size)(h5:∀ b,b < w.heap.size->b≠E.pb->w'.heap[b]?=w.heap[b]?)
  (h6:w'.heap[E.pb]?=some (.cells (E.row q') 103 (0,0))):Mv E q' w w' :=
 ⟨h1,h2,h3,by rw[qs];exact h4,fun k hk=>by
  by_cases hkp:k=E.pb
  ·subst hkp
   rw[h6,zp hp.row];rfl
  ·exact(h5 k hk hkp).trans (Below.heap_setCell _ _ _ _ hkp).symm⟩
theorem Mv.os'{E:PE}{q':Nat}{w w':World}(h:Mv E q' w w'):w'.os=w.os:=by
 have h':Below w.heap.size (w.setCell ⟨E.pb,1,none⟩ (.int .i64 (q':Nat))) w':=h;exact h'.os
theorem Mv.tape'{E:PE}{q':Nat}{w w':World}(h:Mv E q' w w'):w'.tape=w.tape:=by
 have h':Below w.heap.size (w.setCell ⟨E.pb,1,none⟩ (.int .i64 (q':Nat))) w':=h;exact h'.tape
theorem Mv.output'{E:PE}{q':Nat}{w w':World}(h:Mv E q' w w'):w'.output=w.output:=by
 have h':Below w.heap.size (w.setCell ⟨E.pb,1,none⟩ (.int .i64 (q':Nat))) w':=h;exact h'.output
theorem Mv.below{E:PE}{q:Nat}{w w':World}(hp:PS E q w)(h:Below w.heap.size w w'):Mv E q w w' :=
 Mv.of hp h.os h.tape h.output h.size (fun b hb _=>h.block b hb) ((h.block _ hp.lt).trans hp.row)
theorem Mv.trans{E:PE}{q q1 q2:Nat}{w w1 w2:World}(hp:PS E q w)(h1:Mv E q1 w w1)(hq:q1<=E.ts.length)(h2:Mv E q2 w1 w2):Mv E q2 w w2 :=
 Mv.of hp (h2.os'.trans h1.os') (h2.tape'.trans h1.tape') (h2.output'.trans h1.output') (qo h1.size h2.size)
  (fun b hb hne=>(h2.blk b (qu hb h1.size) hne).trans (h1.blk b hb hne)) (h2.row (h1.ps hp hq))
theorem Mv.later{E:PE}{q':Nat}{w w1 w2:World}(h1:Mv E q' w w1)(h2:Below w.heap.size w1 w2):Mv E q' w w2:=Below.trans h1 h2
theorem Mv.before{E:PE}{q q':Nat}{w w1 w2:World}(hp:PS E q w)(h1:Below w.heap.size w w1)(h2:Mv E q' w1 w2):Mv E q' w w2 :=
 Mv.of hp (h2.os'.trans h1.os) (h2.tape'.trans h1.tape) (h2.output'.trans h1.output) (qo h1.size h2.size)
  (fun b hb hne=>(h2.blk b (qu hb h1.size) hne).trans (h1.block b hb)) (h2.row (q:=q) ((Mv.below hp h1).ps hp hp.le))
theorem PS.later{E:PE}{q:Nat}{w w':World}(hp:PS E q w)(h:Below w.heap.size w w'):PS E q w':=(Mv.below hp h).ps hp hp.le
theorem NdS.step{E:PE}{q':Nat}{h:Nat}{w w':World}(hm:Mv E q' w w')(hb:E.pb < h){t:Nd}{v0 v1 v2:Value}(hn:NdS (fun b=>h<=b) w t v0 v1 v2):NdS (fun b=>h<=b) w' t v0 v1 v2 :=
 hn.keep fun b h1 h2=>⟨hm.blk b h2 (by omega),h1⟩
theorem NdS.from{h h':Nat}{w:World}(hh:h'<=h){t:Nd}{v0 v1 v2:Value}(hn:NdS (fun b=>h<=b) w t v0 v1 v2):NdS (fun b=>h'<=b) w t v0 v1 v2:=hn.mono fun _b h1 _=>qo hh h1
theorem Kids.step{E:PE}{q':Nat}{h:Nat}{w w':World}(hm:Mv E q' w w')(hb:E.pb < h){v:Value}{l:List Nd}(hn:Kids h w v l):Kids h w' v l :=
 hn.keep fun b h1 h2=>hm.blk b h2 (by omega)
def Gr(E:PE)(w:World)(r:Sx.PR Nd)(e:Ending)(w':World):Prop :=
 match r with
 | .ok (.mk k s l) q=>(∃ a cap,e = .returned (.agg #[.int .i64 k,.string s,.slice a l.length cap])/\NdS (fun b=>w.heap.size<=b) w' (.mk k s l) (.int .i64 k) (.string s) (.slice a l.length cap))/\Mv E q w w'/\q<=E.ts.length
 | .bad q=>e = .panicked [{ v:=je E q,recovered:=false }]/\Mv E q w w'/\q<=E.ts.length
theorem q1c(E:PE){w:World}(h:PG E w)(q:Nat):(Sx.str (Sx.txt E.ts q)).size<=maxLen:=by
 unfold Sx.txt maxLen
 cases ht:E.ts[q]? with
 |none=>decide
 |some t =>
  have:=(h.small t (List.mem_of_getElem? ht)).1;simp only[Sx.str]
  show t.text.toArray.size<=_
  simp;omega
theorem qn3{E:PE}{q:Nat}(h:q < E.ts.length):E.pos q=E.ts[q].pos:=by unfold PE.pos;rw[qq h]
theorem qlg{E:PE}{q:Nat}(h:E.ts.length<=q):E.pos q=E.en:=by unfold PE.pos;rw[List.getElem?_eq_none h]
theorem ql5{ts:List Lx.Tok}{q:Nat}(h:q < ts.length):Sx.txt ts q=ts[q].text:=by unfold Sx.txt;rw[qq h]
theorem qlr{ts:List Lx.Tok}{q:Nat}(h:q < ts.length):Sx.knd ts q=ts[q].kind:=by unfold Sx.knd;rw[qq h]
theorem qdl{ts:List Lx.Tok}{q:Nat}(h:ts.length<=q):Sx.txt ts q=[]:=by unfold Sx.txt;rw[List.getElem?_eq_none h]
theorem qls{ts:List Lx.Tok}{q:Nat}(h:ts.length<=q):Sx.knd ts q=0:=by unfold Sx.knd;rw[List.getElem?_eq_none h]
end Go.Proofs.YtkckddojlignpaaGreatDoor
namespace Go.Proofs.YtkckddojlignpaaGreatDoor
open Go.ChangeShapes Go.WideShapes Go.ChangeAt Go.RowKit
theorem q4o(k:Nat):∀ (L:List (List Value)) (cs:List Value),(∀ x∈L,x.length=k)->cs.length=L.length*k->(∀ i,(h:i < L.length)->(cs.drop (i*k)).take k=L[i])->cs=L.flatten
 |[],cs,_,hl,_=>by
  have:cs=[]:=List.eq_nil_of_length_eq_zero (by simpa using hl);rw[this];rfl
 |x :: L,cs,hk,hl,h=>by
  have h0:=h 0 (by simp);simp only[Nat.zero_mul,List.drop_zero,zk]at h0
  have ih:=q4o k L (cs.drop k) (fun y hy=>hk y (by simp[hy])) (by
   rw[List.length_drop,hl,qr,Nat.succ_mul]
   omega) (fun i hi=>by
   have:=h (i+1) (by simpa using hi);rw[zi]at this
   rw[List.drop_drop,<-this,Nat.succ_mul,Nat.add_comm])
  rw[List.flatten_cons,<-ih,<-h0,List.take_append_drop]
section
variable {H:Type} {enc:TypeId×Value->H} {w:World} {base fuel:Nat} {sp:Nat->Bool} {hd:Bool} {cs:List Value} {x:DataW H×List MemPlace}
theorem q87{s:List UInt8}(h:DataW.trod enc Tryz.prog w base sp hd fuel 9 cs=some x)(hx:x.1 = .lit (.string s)):cs=[S_ s]:=by
 obtain⟨s',rfl,rfl,_⟩:=DataW.trod_string Tryz.underlying9 h;simp only[DataW.lit.injEq,Lit.string.injEq]at hx;subst hx;rfl
theorem q92{n:Int}(h:DataW.trod enc Tryz.prog w base sp hd fuel 3 cs=some x)(hx:x.1 = .lit (.int .i64 n)):cs=[.int .i64 n]:=by
 obtain⟨m,rfl,rfl,_⟩:=DataW.trod_int Tryz.underlying3 h;simp only[DataW.lit.injEq,Lit.int.injEq,true_and]at hx;subst hx;rfl
theorem qbg{s:List UInt8}{n:Int}(h:DataW.trod enc Tryz.prog w base sp hd fuel 160 cs=some x)(hx:x.1 = .agg [.lit (.string s),.lit (.int .i64 n)]):cs=[S_ s,.int .i64 n]:=by
 obtain⟨xs,m,_,rfl,hl,hxs,hf⟩:=DataW.trod_struct Tryz.underlying160 h;have c:Tryz.prog.cellsOf 160=2:=by kernel_rfl
 have c9:Tryz.prog.cellsOf 9=1:=by kernel_rfl
 have c3:Tryz.prog.cellsOf 3=1:=by kernel_rfl
 rw[c]at hl;have f0:DataW.trod enc Tryz.prog w base sp hd m 9 ((cs.drop 0).take (Tryz.prog.cellsOf 9))=xs[0]?:=hf 0 _ rfl;have f1:DataW.trod enc Tryz.prog w base sp hd m 3 ((cs.drop 1).take (Tryz.prog.cellsOf 3))=xs[1]?:=hf 1 _ rfl;rw[c9]at f0;rw[c3]at f1
 match xs,hxs,hx,f0,f1 with
 |[x0,x1],_,hx,f0,f1 =>
  simp only[List.map_cons,List.map_nil,DataW.agg.injEq,List.cons.injEq,and_true]at hx;have e0:=q87 f0 hx.1;have e1:=q92 f1 hx.2
  match cs,hl,e0,e1 with
  |[a,b],_,e0,e1 =>
   simp at e0 e1;rw[e0,e1]
theorem qac{s:List UInt8}{n b:Int}(h:DataW.trod enc Tryz.prog w base sp hd fuel 163 cs=some x)(hx:x.1 = .agg [.lit (.string s),.lit (.int .i64 n),.lit (.int .i64 b)]):cs=[S_ s,.int .i64 n,.int .i64 b]:=by
 obtain⟨xs,m,_,rfl,hl,hxs,hf⟩:=DataW.trod_struct Tryz.underlying163 h;have c:Tryz.prog.cellsOf 163=3:=by kernel_rfl
 have c9:Tryz.prog.cellsOf 9=1:=by kernel_rfl
 have c3:Tryz.prog.cellsOf 3=1:=by kernel_rfl
 rw[c]at hl;have f0:DataW.trod enc Tryz.prog w base sp hd m 9 ((cs.drop 0).take (Tryz.prog.cellsOf 9))=xs[0]?:=hf 0 _ rfl;have f1:DataW.trod enc Tryz.prog w base sp hd m 3 ((cs.drop 1).take (Tryz.prog.cellsOf 3))=xs[1]?:=hf 1 _ rfl;have f2:DataW.trod enc Tryz.prog w base sp hd m 3 ((cs.drop 2).take (Tryz.prog.cellsOf 3))=xs[2]?:=hf 2 _ rfl;rw[c9]at f0;rw[c3]at f1 f2
 match xs,hxs,hx,f0,f1,f2 with
 |[x0,x1,x2],_,hx,f0,f1,f2 =>
  simp only[List.map_cons,List.map_nil,DataW.agg.injEq,List.cons.injEq,and_true]at hx;have e0:=q87 f0 hx.1;have e1:=q92 f1 hx.2.1;have e2:=q92 f2 hx.2.2
  match cs,hl,e0,e1,e2 with
  |[a,b,c],_,e0,e1,e2 =>
   simp at e0 e1 e2;rw[e0,e1,e2]
theorem qad(h:DataW.trod enc Tryz.prog w base sp hd fuel 161 cs=some x)(hx:x.1 = .agg (openL.map fun o=>.agg [.lit (.string o.1),.lit (.int .i64 o.2)])):cs=openArr.toList:=by
 obtain⟨xs,m,_,rfl,hl,hxs,hel⟩:=DataW.trod_array Tryz.underlying161 h;have c:Tryz.prog.cellsOf 160=2:=by kernel_rfl
 have cA:Tryz.prog.cellsOf 161=40:=by kernel_rfl
 rw[cA]at hl;simp only[DataW.agg.injEq]at hx;have e:openArr.toList=(openL.map fun o=>[S_ o.1,Value.int .i64 o.2]).flatten:=by kernel_rfl
 have len:openL.length=20:=by kernel_rfl
 rw[e];refine q4o 2 _ cs (by intro y hy;obtain⟨o,_,rfl⟩:=List.mem_map.1 hy;rfl) (by rw[hl,qx,len]) (fun i hi=>?_);have hi':i < openL.length:=by simpa using hi
 have hE:=hel i (by omega);rw[c]at hE;have hxi:xs[i]?=some (xs[i]'(by omega)):=qq (by omega);rw[hxi]at hE;rw[List.getElem_map];refine qbg hE ?_;have:=congrArg (fun l=>l[i]?) hx;simp only[List.getElem?_map,hxi,qq hi',Option.map_some,Option.some.injEq]at this;exact this
theorem q8y(h:DataW.trod enc Tryz.prog w base sp hd fuel 164 cs=some x)(hx:x.1 = .agg (opsL.map fun o=>.agg [.lit (.string o.1),.lit (.int .i64 o.2.1),.lit (.int .i64 (o.2.2:Nat))])):cs=opsArr.toList:=by
 obtain⟨xs,m,_,rfl,hl,hxs,hel⟩:=DataW.trod_array Tryz.underlying164 h;have c:Tryz.prog.cellsOf 163=3:=by kernel_rfl
 have cA:Tryz.prog.cellsOf 164=24:=by kernel_rfl
 rw[cA]at hl;simp only[DataW.agg.injEq]at hx;have e:opsArr.toList=(opsL.map fun o=>[S_ o.1,Value.int .i64 o.2.1,Value.int .i64 (o.2.2:Nat)]).flatten:=by kernel_rfl
 have len:opsL.length=8:=by kernel_rfl
 rw[e];refine q4o 3 _ cs (by intro y hy;obtain⟨o,_,rfl⟩:=List.mem_map.1 hy;rfl) (by rw[hl,qx,len]) (fun i hi=>?_);have hi':i < opsL.length:=by simpa using hi
 have hE:=hel i (by omega);rw[c]at hE;have hxi:xs[i]?=some (xs[i]'(by omega)):=qq (by omega);rw[hxi]at hE;rw[List.getElem_map];refine qac hE ?_;have:=congrArg (fun l=>l[i]?) hx;simp only[List.getElem?_map,hxi,qq hi',Option.map_some,Option.some.injEq]at this;exact this
end
theorem qna:ownKnob Tryz.prog.godebug=none:=by kernel_rfl
theorem gOpen : Tryz.prog.globalNamed "peculium/syntax.openings" = some 0 := by kernel_rfl
theorem gOps : Tryz.prog.globalNamed "peculium/syntax.operators" = some 1 := by kernel_rfl
theorem tOpen:(Tryz.prog.globals[0]?).map (·.type)=some 161:=by kernel_rfl
theorem tOps:(Tryz.prog.globals[1]?).map (·.type)=some 164:=by kernel_rfl
def q65 : List (String × DataW Unit) := [("peculium/syntax.openings", Rows.laid_peculium_syntax_openings), ("peculium/syntax.operators", Rows.laid_peculium_syntax_operators)]
theorem q7v{W:World}{n:String}{g:Nat}{cs:Array Value}(hg:Tryz.prog.globalNamed n=some g)(h:W.var? Tryz.prog n=some cs):∃ t fr,W.heap[g]?=some (.cells cs t fr):=by
 simp only[World.var?,hg,Option.bind_some]at h
 split at h
 ·rename_i c t fr e
  cases h;exact⟨t,fr,e⟩
 ·cases h
theorem qlj{W:World}(h:laidMetH Tryz.prog q65 W):GLw W/\2<=W.heap.size:=by
 rw[MakeChecks.laidMetH_plain _ _ _ (by kernel_rfl)]at h;obtain⟨ps,⟨g0,t0,cs0,f0,p0,q0,hg0,ht0,hv0,hd0,⟨g1,t1,cs1,f1,p1,q1,hg1,ht1,hv1,hd1,_,_⟩,_⟩,_,_⟩:=h;obtain rfl:=zn (gOpen.symm.trans hg0);obtain rfl:=zn (gOps.symm.trans hg1);obtain rfl:=zn (tOpen.symm.trans ht0);obtain rfl:=zn (tOps.symm.trans ht1);have e0:=qad hd0 rfl;have e1:=q8y hd1 rfl;obtain⟨u0,r0,k0⟩:=q7v hg0 hv0;obtain⟨u1,r1,k1⟩:=q7v hg1 hv1;rw[show cs0=openArr from Array.toList_inj.1 e0]at k0;rw[show cs1=opsArr from Array.toList_inj.1 e1]at k1;exact⟨⟨⟨u0,r0,k0⟩,⟨u1,r1,k1⟩⟩,by have:=zg k1;omega⟩
theorem qkm(os:Os)(args:Array Value):laidMetH Tryz.prog q65 ((World.doorLaid Tryz.prog 400 os).forCall (fun _ _=>0) ⟨#[],args,[]⟩).memory :=
 laidMetH_of_parts3 (fuel:=8) (laidMet_of_run' 8 (by kernel_rfl) (by kernel_rfl)) (by kernel_rfl) (by kernel_rfl)
end Go.Proofs.YtkckddojlignpaaGreatDoor
namespace Go.Proofs.YtkckddojlignpaaGreatDoor
open Go.RowKit
structure AT where
 k:Int
 t:ByteArray
 p:Int
def q29(t:Lx.Tok):AT:=⟨t.kind,⟨t.text.toArray⟩,t.pos⟩
def ql2(w:World)(b o:Nat)(a:AT):Prop :=
 w.cell? ⟨b,o,none⟩=some (.int .i64 a.k)/\w.cell? ⟨b,o+1,none⟩=some (.string a.t)/\w.cell? ⟨b,o+2,none⟩=some (.int .i64 a.p)
def qnw(w:World)(v:Value)(l:List AT):Prop :=
 ∃ a cap,v = .slice a l.length cap/\(l≠[]->∃ b o,a=some ⟨b,o,none⟩/\∀ i,(h:i < l.length)->ql2 w b (o+i*3) l[i])
def q25:List AT->List AT->Bool
 |[],[]=>true
 |a :: l,b :: m=>(a.k==b.k && (a.t.toList==b.t.toList)) && q25 l m
 |_,_=>false
theorem q9e(l:Lx.Bs):∀ (f:Nat) (pre:List Lx.Tok) (i p er:Nat),Lx.scanT l f pre i = .bad p er->(er=2\/er=10\/er=11)/\p<=l.length
 |0,_,_,_,_,h=>by simp[Lx.scanT]at h
 |f+1,pre,i,p,er,h=>by
  unfold Lx.scanT at h
  split at h
  ·simp at h
  ·split at h
   ·simp at h;obtain⟨rfl,rfl⟩:=h;exact⟨.inr (.inl rfl),by omega⟩
   ·split at h
    ·simp at h;obtain⟨rfl,rfl⟩:=h;exact⟨.inl rfl,by omega⟩
    ·split at h
     ·simp at h;obtain⟨rfl,rfl⟩:=h;exact⟨.inr (.inr rfl),by omega⟩
     ·exact q9e l f _ _ _ _ h
theorem qax{l:Lx.Bs}{p er:Nat}(h:Lx.scan l = .bad p er):er=2\/er=10\/er=11:=by
 unfold Lx.scan at h
 split at h
 ·simp at h;exact .inl h.2.symm
 ·exact(q9e _ _ _ _ _ _ h).1
theorem q9d(l:Lx.Bs):∀ (f:Nat) (pre:List Lx.Tok) (i:Nat) (ts:List Lx.Tok),pre.length<=6000->Lx.scanT l f pre i = .toks ts->ts.length<=6000
 |0,_,_,_,hp,h=>by simp[Lx.scanT]at h;subst h;exact hp
 |f+1,pre,i,ts,hp,h=>by
  unfold Lx.scanT at h
  split at h
  ·simp at h;subst h;exact hp
  ·split at h
   ·simp at h
   ·split at h
    ·simp at h
    ·split at h
     ·simp at h
     ·exact q9d l f _ _ _ (by rw[qg,List.length_singleton];omega) h
theorem qjm{l:Lx.Bs}{ts:List Lx.Tok}(h:Lx.scan l = .toks ts):ts.length<=6000:=by
 unfold Lx.scan at h
 split at h
 ·simp at h
 ·exact q9d _ _ _ _ _ (qv _) h
theorem qkj(l:List Lx.Tok):∀ (i:Nat) (h:i < l.length),(q0o l)[i*3]?=some (.int .i64 l[i].kind)/\(q0o l)[i*3+1]?=some (.string ⟨l[i].text.toArray⟩)/\(q0o l)[i*3+2]?=some (.int .i64 l[i].pos):=by
 induction l with
 |nil=>intro i h;simp at h
 |cons t l ih =>
  intro i h;have e:q0o (t :: l)=[.int .i64 t.kind,.string ⟨t.text.toArray⟩,.int .i64 t.pos]++q0o l:=rfl;rw[e]
  cases i with
  |zero=>exact⟨rfl,rfl,rfl⟩
  |succ i =>
   obtain⟨h0,h1,h2⟩:=ih i (by simpa using h);rw[show(i+1)*3=i*3+3 from by omega,show i*3+3+1=i*3+1+3 from by omega,show i*3+3+2=i*3+2+3 from by omega];exact⟨h0,h1,h2⟩
theorem Toks.sl{B:Nat}{v:Value}{l:List Lx.Tok}{w:World}(h:Toks B v l w):qnw w v (l.map q29):=by
 obtain⟨h1,h2⟩:=h;rcases h2 with ⟨rfl,hn⟩|⟨g,cap,cur,rfl,hg,hh,r⟩
 ·have:l=[]:=List.length_eq_zero_iff.1 hn
  subst this;exact⟨none,0,rfl,fun hne=>absurd rfl hne⟩
 ·refine⟨some ⟨g,0,none⟩,cap,by rw[qx],fun _=>⟨g,0,rfl,fun i hi=>?_⟩⟩
  have hi':i < l.length:=by simpa using hi
  have hk:∀ j,j < l.length*3->cur[j]?=(q0o l)[j]?:=fun j hj=>by
   rw[<-r.2.2.2,List.getElem?_take_of_lt hj,Array.getElem?_toList]
  obtain⟨f0,f1,f2⟩:=qkj l i hi';have he:(l.map q29)[i]=q29 l[i]:=List.getElem_map _;rw[he];refine⟨?_,?_,?_⟩
  ·rw[qm _ _ _ _ _ _ hh,hk _ (by omega),show 0+i*3=i*3 from by omega,f0];rfl
  ·rw[qm _ _ _ _ _ _ hh,hk _ (by omega),show 0+i*3+1=i*3+1 from by omega,f1];rfl
  ·rw[qm _ _ _ _ _ _ hh,hk _ (by omega),show 0+i*3+2=i*3+2 from by omega,f2];rfl
def qav(s:ByteArray)(l:List AT):Bool:=match Lx.scan (bs s)with
 | .toks t=>q25 (t.map q29) l
 | .bad _ _=>false
def xt(a:AT):Bool:=qav a.t [a]
end Go.Proofs.YtkckddojlignpaaGreatDoor
namespace Go.Proofs.YtkckddojlignpaaGreatDoor
def zf(s:ByteArray):Bool:=xt ⟨1,s,0⟩
def xy(s:ByteArray):Bool:=xt ⟨2,s,0⟩
def zb(s:ByteArray):Bool:=s.toList.isEmpty
mutual
def x5:Nd->Bool
 | .mk k s l=>if k=31 then zb s && (decide (l.length=2) && yn l) else decide (k=15) && (decide (l.length=0) && zf s)
def yn:List Nd->Bool
 |[]=>true
 |a :: l=>x5 a && yn l
end
def q1j:List Nd->Bool
 |[]=>false
 |a :: _=>x5 a
def jy(s:ByteArray)(l:List Nd):Bool:=(zf s||xy s) && (decide (l.length=1)||(decide (l.length=2) && q1j l))
mutual
def zv:Nd->Bool
 | .mk k s l=>if k=15 then zf s && (q01 l && decide (l.length<=8)) else if k=16 then xy s && (q01 l && decide (l.length<=8)) else decide (k=17) && (jy s l && q0g l)
def q01:List Nd->Bool
 |[]=>true
 |a :: l=>zv a && q01 l
def q0g:List Nd->Bool
 |[]=>false
 |a :: l=>if l.isEmpty then zv a else q0g l
end
def wv(k:Int):Bool:=decide (22<=k) && decide (k<=28)
mutual
def qt:Nd->Bool
 | .mk k s l =>
  if k=15 then zv (.mk k s l)
  else if k=18\/k=19 then jy s l && yj l
  else if k=20\/k=21 then zb s && decide (l.length=0)
  else if k=29\/k=30 then zb s && (decide (l.length=1) && jb l)
  else wv k && (zb s && (decide (l.length=2) && jb l))
def jb:List Nd->Bool
 |[]=>true
 |a :: l=>qt a && jb l
def yj:List Nd->Bool
 |[]=>false
 |a :: l=>if l.isEmpty then qt a else yj l
end
def xl:Nd->Bool
 | .mk k s l=>decide (k=15) && (decide (l.length=0) && zf s)
namespace Lx
def nameLen(r:Bs):Nat :=
 let j:=runLen r
 if r[j]?=some 64/\(r[j+1]?.map small)=some true then j+1+runLen (r.drop (j+1)) else j
def longR(r:Bs):Bool :=
 ([45,111].isPrefixOf r && runLen (r.drop 1)==1)||[45,62].isPrefixOf r||[61,62].isPrefixOf r||[60,61].isPrefixOf r
def tokR(r:Bs):Option (Nat×Nat) :=
 match r[0]? with
 |none=>none
 |some c =>
  if small c then
   let j:=nameLen r
   if r.take j=[111]/\r[j]?=some 45 then some (3,j+1)
   else if words.contains (r.take j) then some (4,j) else some (1,j)
  else if capital c then some (2,runLen r)
  else if signB c then some (3,1)
  else if longR r then some (3,2) else none
theorem nameTo_rel(l:Bs)(i:Nat):nameTo l i=i+nameLen (l.drop i):=by
 have h1:(l.drop i)[runLen (l.drop i)]?=l[runTo l i]?:=List.getElem?_drop;have h2:(l.drop i)[runLen (l.drop i)+1]?=l[runTo l i+1]?:=by rw[List.getElem?_drop];rfl
 unfold nameTo nameLen;simp only[h1,h2]
 by_cases h:l[runTo l i]?=some 64/\(l[runTo l i+1]?.map small)=some true
 ·simp only[qj h]
  show runTo l i+1+runLen (l.drop (runTo l i+1))=_
  rw[List.drop_drop,show i+(runLen (l.drop i)+1)=runTo l i+1 from rfl];unfold runTo;omega
 ·simp only[qd h];rfl
theorem isLong_rel(l:Bs)(i:Nat):isLong l i=longR (l.drop i):=by
 simp only[isLong,longR,pre,runTo,List.drop_drop]
 congr 4
 by_cases h:runLen (l.drop (i+1))=1
 ·rw[h];simp
 ·rw[show(runLen (l.drop (i+1))==1)=false from by simpa using h,show(i+1+runLen (l.drop (i+1))==i+2)=false from by rw[qc];omega]
theorem tokAt_rel(l:Bs)(i:Nat):tokAt l i=(tokR (l.drop i)).map fun p=>(p.1,i+p.2):=by
 unfold tokAt tokR;rw[List.getElem?_drop,Nat.add_zero]
 cases l[i]? with
 |none=>rfl
 |some c =>
  simp only[slice,nameTo_rel,isLong_rel,runTo,List.getElem?_drop,Nat.add_sub_cancel_left]
  split
  ·split
   ·rfl
   ·split <;> rfl
  ·split
   ·rfl
   ·split
    ·rfl
    ·split <;> rfl
def scanS:Nat->List Tok->Nat->Bs->Res
 |0,pre,_,_=>.toks pre
 |f+1,pre,o,r =>
  if r=[] then .toks pre
  else match tokR r with
   |none=>.bad o 10
   |some (k,n) =>
    if pre.length=6000 then .bad o 2
    else if 40 < n then .bad o 11
    else scanS f (pre++[⟨k,r.take n,o⟩]) (o+n+skipC false (r.drop n)) ((r.drop n).drop (skipC false (r.drop n)))
theorem scanT_rel(l:Bs):∀ (f:Nat) (pre:List Tok) (i:Nat),scanT l f pre i=scanS f pre i (l.drop i)
 |0,_,_=>rfl
 |f+1,pre,i=>by
  simp only[scanT,scanS]
  by_cases h:l.length<=i
  ·rw[qj h,qj (List.drop_of_length_le h)]
  ·rw[qd h,qd (by intro e;have:=congrArg List.length e;simp at this;omega),tokAt_rel]
   cases tokR (l.drop i)with
   |none=>rfl
   |some p =>
    obtain⟨k,n⟩:=p;simp only[Option.map_some]
    split
    ·rfl
    ·rw[Nat.add_sub_cancel_left]
     split
     ·rfl
     ·rw[scanT_rel l f,slice,Nat.add_sub_cancel_left,skipTo,List.drop_drop,List.drop_drop]
def scanP(f:Nat)(pre:List Tok)(o:Nat)(r:Bs):Res:=scanS f pre (o+skipC false r) (r.drop (skipC false r))
theorem scanS_step{f:Nat}{pre:List Tok}{o k n:Nat}{r:Bs}(h0:r≠[])(h:tokR r=some (k,n))(h6:pre.length≠6000)(h4:¬ 40 < n) :
  scanS (f+1) pre o r=scanP f (pre++[⟨k,r.take n,o⟩]) (o+n) (r.drop n):=by
 simp only[scanS,scanP];rw[qd h0,h];simp only;rw[qd h6,qd h4]
theorem scan_rel(l:Bs):scan l=if 20000 < l.length then .bad 0 2 else scanP (l.length+1) [] 0 l:=by
 unfold scan;rw[scanT_rel];unfold skipTo scanP;simp only[List.drop_zero,Nat.zero_add]
theorem tokR_lt{r:Bs}{k n:Nat}(h:tokR r=some (k,n)):0 < n/\n<=r.length:=by
 have e:=tokAt_rel r 0;rw[List.drop_zero,h]at e;have:=tokAt_lt (l:=r) (i:=0) (k:=k) (j:=0+n) (by rw[e];rfl);omega
theorem scanS_inv{f:Nat}{pre l:List Tok}{o:Nat}{r:Bs}(h:scanS (f+1) pre o r = .toks l) :
  (r=[]/\l=pre)\/∃ k n,r≠[]/\tokR r=some (k,n)/\pre.length≠6000/\¬ 40 < n/\scanP f (pre++[⟨k,r.take n,o⟩]) (o+n) (r.drop n) = .toks l:=by
 simp only[scanS]at h
 by_cases h0:r=[]
 ·rw[qj h0]at h;exact .inl ⟨h0,by simpa using h.symm⟩
 ·rw[qd h0]at h
  cases ht:tokR r with
  |none=>rw[ht]at h;simp at h
  |some p =>
   obtain⟨k,n⟩:=p;rw[ht]at h;simp only at h
   by_cases h6:pre.length=6000
   ·rw[qj h6]at h;simp at h
   ·rw[qd h6]at h
    by_cases h4:40 < n
    ·rw[qj h4]at h;simp at h
    ·rw[qd h4]at h;exact .inr ⟨k,n,h0,rfl,h6,h4,h⟩
def sh(d:Nat)(t:Tok):Tok:=⟨t.kind,t.text,t.pos+d⟩
theorem scanS_shift(d:Nat):∀ (f:Nat) (pre P l:List Tok) (o:Nat) (r:Bs),P.length<=6000->scanS f pre o r = .toks l ->
  ∃ rest,l=pre++rest/\((P.length+rest.length<=6000/\scanS f P (o+d) r = .toks (P++rest.map (sh d)))\/(6000 < P.length+rest.length/\∃ p,scanS f P (o+d) r = .bad p 2))
 |0,pre,P,l,o,r,hP,h=>by
  simp only[scanS,Res.toks.injEq]at h;subst h;exact⟨[],by simp,.inl ⟨by simpa using hP,by simp[scanS]⟩⟩
 |f+1,pre,P,l,o,r,hP,h=>by
  rcases scanS_inv h with ⟨rfl,rfl⟩|⟨k,n,h0,ht,h6,h4,hs⟩
  ·exact⟨[],by simp,.inl ⟨by simpa using hP,by simp[scanS]⟩⟩
  ·by_cases hP6:P.length=6000
   ·obtain⟨rest,hl,_⟩:=scanS_shift d f _ [] l _ _ (by simp) hs
    refine⟨⟨k,r.take n,o⟩ :: rest,by rw[hl,qn];rfl,.inr ⟨by simp;omega,o+d,?_⟩⟩;simp only[scanS];rw[qd h0,ht];simp only;rw[qj hP6]
   ·obtain⟨rest,hl,hc⟩:=scanS_shift d f _ (P++[⟨k,r.take n,o+d⟩]) l _ _ (by rw[qg,List.length_singleton];omega) hs
    refine⟨⟨k,r.take n,o⟩ :: rest,by rw[hl,qn];rfl,?_⟩;rw[scanS_step h0 ht hP6 h4];unfold scanP;rw[show o+d+n+skipC false (r.drop n)=o+n+skipC false (r.drop n)+d from by omega];rcases hc with ⟨h1,h2⟩|⟨h1,p,h2⟩
    ·refine .inl ⟨by simp only[qg,qr,qz]at h1 ⊢;omega,?_⟩
     rw[h2,qn];rfl
    ·exact .inr ⟨by simp only[qg,qr,qz]at h1 ⊢;omega,p,h2⟩
end Lx
end Go.Proofs.YtkckddojlignpaaGreatDoor
namespace Go.Proofs.YtkckddojlignpaaGreatDoor
open Go.RowKit
theorem xo{a b:Bool}(h:a=b):Ending.returned (.bool a)=Ending.returned (.bool b):=by rw[h]
theorem q7x(c:UInt8)(w:World):Calls Tryz.prog 169 #[.int .u8 c.toNat] w fun e w'=>e = .returned (.bool (Lx.small c))/\w=w':=by
 have hby:=xr c;obtain⟨V,hV⟩:∃ V,Lx.small c=V:=⟨_,rfl⟩;rw[hV];unfold Lx.small at hV;have HV:=qh hV;clear hV
 by_cases h1:(97:Int)<=(c.toNat:Int)
 ·by_cases h2:(c.toNat:Int)<=122
  ·go_enter Tryz.func169,Tryz.ntmps169
   go_wp2;go_ret
   exact ⟨xo       (by rw [<- HV.out]; have : 97 <= c.toNat := by omega
                       have : c.toNat <= 122 := by omega
                       simp[*]), rfl⟩
  ·go_enter Tryz.func169,Tryz.ntmps169
   go_wp2;go_ret
   exact ⟨xo       (by rw [<- HV.out]; have : ¬ c.toNat <= 122 := by omega
                       simp; omega), rfl⟩
 ·go_enter Tryz.func169,Tryz.ntmps169
  go_wp2;go_ret;exact⟨xo (by rw[<-HV.out];simp;omega),rfl⟩
theorem q45(c:UInt8)(w:World):Calls Tryz.prog 167 #[.int .u8 c.toNat] w fun e w'=>e = .returned (.bool (Lx.capital c))/\w=w':=by
 have hby:=xr c;obtain⟨V,hV⟩:∃ V,Lx.capital c=V:=⟨_,rfl⟩;rw[hV];unfold Lx.capital at hV;have HV:=qh hV;clear hV
 by_cases h1:(65:Int)<=(c.toNat:Int)
 ·by_cases h2:(c.toNat:Int)<=90
  ·go_enter Tryz.func167,Tryz.ntmps167
   go_wp2;go_ret;exact⟨xo (by rw[<-HV.out];simp;omega),rfl⟩
  ·go_enter Tryz.func167,Tryz.ntmps167
   go_wp2;go_ret;exact⟨xo (by rw[<-HV.out];simp;omega),rfl⟩
 ·go_enter Tryz.func167,Tryz.ntmps167
  go_wp2;go_ret;exact⟨xo (by rw[<-HV.out];simp;omega),rfl⟩
theorem qlh(c:UInt8):∀ b:Bool,b=(Lx.small c||Lx.capital c||(decide (48<=c.toNat) && decide (c.toNat<=57))||decide (c.toNat=95)||decide (c.toNat=39))->b=Lx.part c:=fun _ h=>h
theorem qkw(c:UInt8)(w:World):Calls Tryz.prog 172 #[.int .u8 c.toNat] w fun e w'=>e = .returned (.bool (Lx.part c))/\w=w':=by
 have hby:=xr c;have CS:=qh (fun w=>q7x c w);have CC:=qh (fun w=>q45 c w);have HV:=qh (qlh c);obtain⟨V,hV⟩:∃ V,Lx.part c=V:=⟨_,rfl⟩;obtain⟨S,hS⟩:∃ S,Lx.small c=S:=⟨_,rfl⟩;obtain⟨C,hC⟩:∃ C,Lx.capital c=C:=⟨_,rfl⟩;rw[hV]at HV ⊢;simp only[hS,hC]at HV CS CC;clear hV hS hC;go_enter Tryz.func172,Tryz.ntmps172
 go_wp2_with fail
 refine(CS.out _).mono ?_;rintro e w1⟨rfl,rfl⟩;clear CS
 cases S
 ·go_wp2_with fail
  refine(CC.out _).mono ?_;rintro e w1⟨rfl,rfl⟩;clear CC
  cases C
  ·by_cases h3:c.toNat=95
   ·have HN:=qh h3
    have h1:(48:Int)<=(c.toNat:Int):=by omega
    have h2:¬ ((c.toNat:Int)<=57):=by omega
    have h3':((c.toNat:Int)==95)=true:=by rw[h3];rfl
    clear h3;go_wp2;go_ret;exact⟨xo (HV.out _ (by rw[HN.out];rfl)),rfl⟩
   ·have h3':((c.toNat:Int)==95)=false:=by rw[qc];omega
    by_cases h4:c.toNat=39
    ·have HN:=qh h4
     have h1:¬ ((48:Int)<=(c.toNat:Int)):=by omega
     have h4':((c.toNat:Int)==39)=true:=by rw[h4];rfl
     clear h3 h4;go_wp2;go_ret;exact⟨xo (HV.out _ (by rw[HN.out];rfl)),rfl⟩
    ·have h4':((c.toNat:Int)==39)=false:=by rw[qc];omega
     have HN:=qh (And.intro h3 h4)
     by_cases h1:48<=c.toNat
     ·have h1':(48:Int)<=(c.toNat:Int):=by omega
      by_cases h2:c.toNat<=57
      ·have h2':(c.toNat:Int)<=57:=by omega
       have HM:=qh (And.intro h1 h2);clear h1 h2 h3 h4;go_wp2;go_ret;exact⟨xo (HV.out _ (by rw[decide_eq_true HM.out.1,decide_eq_true HM.out.2];rfl)),rfl⟩
      ·have h2':¬ ((c.toNat:Int)<=57):=by omega
       have HM:=qh h2;clear h1 h2 h3 h4;go_wp2;go_ret;exact⟨xo (HV.out _ ((decide_eq_false (show ¬ ((c.toNat:Int)<=57)by omega)).trans (by rw[decide_eq_false HM.out,decide_eq_false HN.out.1,decide_eq_false HN.out.2,Bool.and_false];rfl))),rfl⟩
     ·have h1':¬ ((48:Int)<=(c.toNat:Int)):=by omega
      have HM:=qh h1;clear h1 h3 h4;go_wp2;go_ret;exact⟨xo (HV.out _ (by rw[decide_eq_false HM.out,decide_eq_false HN.out.1,decide_eq_false HN.out.2];rfl)),rfl⟩
  ·go_wp2
   go_ret;exact⟨xo (HV.out _ (by simp)),rfl⟩
 ·go_wp2
  go_ret;exact⟨xo (HV.out _ (by simp)),rfl⟩
theorem qjv(s:ByteArray)(i:Nat)(w:World)(hs:s.size < maxLen)(hi:i<=s.size) :
  Calls Tryz.prog 168 #[.string s,.int .i64 i] w fun e w'=>e = .returned (.int .i64 (Lx.runTo (bs s) i))/\w=w':=by
 unfold maxLen at hs;have Hstart:=qh (rfl:Lx.runTo (bs s) i=Lx.runTo (bs s) i);obtain⟨R,hR⟩:∃ R,Lx.runTo (bs s) i=R:=⟨_,rfl⟩;have HR:=qh hR;rw[hR];clear hR Hstart;go_enter Tryz.func168,Tryz.ntmps168;go_wp2
 go_loopw [1] (fun v wr=>∃ k:Nat,k<=s.size/\v = .int .i64 k/\Hid (Lx.runTo (bs s) k=R)/\wr=w) (fun v _=>s.size - (intOf v).toNat)
 case atStart=>exact⟨i,hi,rfl,HR,rfl⟩
 case round =>
  obtain⟨k,hk,rfl,hrun,rfl⟩:=hrel
  by_cases hlt:k < s.size
  ·have hlt':(k:Int) < (s.size:Int):=by omega
   have hby:=xr s[k];have hst:=Lx.runTo_step (l:=bs s) (k:=k) (by rw[zd];exact hlt);rw[jg hlt]at hst;have C:=qh (fun w=>qkw s[k] w);obtain⟨V,hV⟩:∃ V,Lx.part s[k]=V:=⟨_,rfl⟩;rw[hV]at C hst;have HS:=qh hst;clear hst hV
   go_wp2_with fail
   refine(C.out _).mono ?_;rintro e w1⟨rfl,rfl⟩;clear C
   cases V
   ·go_wp2
    go_ret;exact⟨q0s (by rw[<-hrun.out,HS.out];rfl),rfl⟩
   ·go_wp2
    go_roundw
    case rel=>exact⟨k+1,hlt,by push_cast;rfl,by rw[<-hrun.out,HS.out];exact qh rfl,by trivial⟩
    case measure=>simp[intOf];omega
  ·have hlt':¬ ((k:Int) < (s.size:Int)):=by omega
   have he:Lx.runTo (bs s) k=k:=Lx.runTo_end (by rw[zd];omega);have HE:=qh he;clear he;go_wp2;go_ret;exact⟨q0s (by rw[<-hrun.out,HE.out]),rfl⟩
theorem qmy(c:UInt8)(w:World):Calls Tryz.prog 106 #[.int .u8 c.toNat] w fun e w'=>e = .returned (.bool (Lx.blank c))/\w=w':=by
 have hby:=xr c;have HV:Hid (Lx.blank c=(decide (c.toNat=32)||decide (c.toNat=9)||decide (c.toNat=10))):=qh rfl;obtain⟨V,hV⟩:∃ V,Lx.blank c=V:=⟨_,rfl⟩;rw[hV]at HV ⊢;clear hV
 by_cases h1:c.toNat=32
 ·have HN:=qh h1
  have h1':((c.toNat:Int)==32)=true:=by rw[h1];rfl
  clear h1;go_enter Tryz.func106,Tryz.ntmps106;go_wp2;go_ret;exact⟨xo (by rw[HV.out,HN.out];rfl),rfl⟩
 ·have h1':((c.toNat:Int)==32)=false:=by rw[qc];omega
  by_cases h2:c.toNat=9
  ·have HN:=qh h2
   have h2':((c.toNat:Int)==9)=true:=by rw[h2];rfl
   clear h1 h2;go_enter Tryz.func106,Tryz.ntmps106;go_wp2;go_ret;exact⟨xo (by rw[HV.out,HN.out];rfl),rfl⟩
  ·have h2':((c.toNat:Int)==9)=false:=by rw[qc];omega
   by_cases h3:c.toNat=10
   ·have HN:=qh h3
    have h3':((c.toNat:Int)==10)=true:=by rw[h3];rfl
    clear h1 h2 h3;go_enter Tryz.func106,Tryz.ntmps106;go_wp2;go_ret;exact⟨xo (by rw[HV.out,HN.out];rfl),rfl⟩
   ·have h3':((c.toNat:Int)==10)=false:=by rw[qc];omega
    have HN:=qh (And.intro h1 (And.intro h2 h3));clear h1 h2 h3;go_enter Tryz.func106,Tryz.ntmps106;go_wp2;go_ret;exact⟨xo (by rw[HV.out,decide_eq_false HN.out.1,decide_eq_false HN.out.2.1,decide_eq_false HN.out.2.2];rfl),rfl⟩
theorem qkd(s p:ByteArray)(i:Nat)(_h:i+p.size<=s.size):((s.extract i (i+p.size)).toList==p.toList)=Lx.pre (bs s) i (bs p):=by
 rw[ByteArray.toList_eq,ByteArray.toList_eq,show(s.extract i (i+p.size)).data.toList=Lx.slice (bs s) i (i+p.size) from q0d s i _]
 show(Lx.slice (bs s) i (i+p.size)==bs p)=_
 unfold Lx.pre Lx.slice;rw[Nat.add_sub_cancel_left,<-zd p,Bool.eq_iff_iff,List.isPrefixOf_iff_prefix,List.prefix_iff_eq_take,beq_iff_eq];exact⟨fun h=>h.symm,fun h=>h.symm⟩
theorem qke(s p:ByteArray)(i:Nat)(hi:i<=s.size)(h:¬ i+p.size<=s.size):Lx.pre (bs s) i (bs p)=false:=by
 unfold Lx.pre;rw[Bool.eq_false_iff];intro e;rw[List.isPrefixOf_iff_prefix]at e;have:=e.length_le;rw[List.length_drop,zd,zd]at this;omega
theorem qf4(s p:ByteArray)(i:Nat)(w:World)(hs:s.size<=100000)(hp:p.size<=100000)(hi:i<=s.size) :
  Calls Tryz.prog 170 #[.string s,.int .i64 i,.string p] w fun e w'=>e = .returned (.bool (Lx.pre (bs s) i (bs p)))/\w=w':=by
 by_cases h:i+p.size<=s.size
 ·have h':(i:Int)+(p.size:Int)<=(s.size:Int):=by omega
  have HS:=qh (qkd s p i h);obtain⟨V,hV⟩:∃ V,Lx.pre (bs s) i (bs p)=V:=⟨_,rfl⟩;rw[hV]at HS ⊢;clear hV;go_enter Tryz.func170,Tryz.ntmps170;go_wp2;go_ret;exact⟨xo HS.out,rfl⟩
 ·have h':¬ ((i:Int)+(p.size:Int)<=(s.size:Int)):=by omega
  have HS:=qh (qke s p i hi h);obtain⟨V,hV⟩:∃ V,Lx.pre (bs s) i (bs p)=V:=⟨_,rfl⟩;rw[hV]at HS ⊢;clear hV;go_enter Tryz.func170,Tryz.ntmps170;go_wp2;go_ret;exact⟨xo HS.out.symm,rfl⟩
def StrSl(w:World)(v:Value)(L:List ByteArray):Prop :=
 ∃ a cap,v = .slice a L.length cap/\(L≠[]->∃ b o,a=some ⟨b,o,none⟩/\∀ i,(h:i < L.length)->w.cell? ⟨b,o+i,none⟩=some (.string L[i]))
def q1s(L:List ByteArray)(s:ByteArray):Bool:=L.any fun x=>x.toList==s.toList
theorem qj2{L:List ByteArray}{s:ByteArray}{k:Nat}(h:L.length<=k):q1s (L.drop k) s=false:=by
 rw[List.drop_of_length_le h];rfl
theorem qgp{L:List ByteArray}{s:ByteArray}{k:Nat}(h:k < L.length):q1s (L.drop k) s=((L[k].toList==s.toList)||q1s (L.drop (k+1)) s):=by
 rw[List.drop_eq_getElem_cons h];rfl
theorem qb6(v:Value)(L:List ByteArray)(s:ByteArray)(w:World)(hv:StrSl w v L)(hm:L.length<=1000000) :
  Calls Tryz.prog 115 #[v,.string s] w fun e w'=>(∃ n:Int,e = .returned (.int .i64 n)/\decide (0<=n)=q1s L s)/\w=w':=by
 obtain⟨a,cap,rfl,hca⟩:=hv;go_enter Tryz.func115,Tryz.ntmps115;go_wp2
 go_loopw [5] (fun v wr=>∃ k:Nat,k<=L.length/\v = .int .i64 k/\Hid (q1s L s=q1s (L.drop k) s)/\w=wr) (fun v _=>L.length - (intOf v).toNat)
 case atStart=>exact⟨0,qv _,rfl,qh rfl,rfl⟩
 case round =>
  obtain⟨k,hk,rfl,hrun,rfl⟩:=hrel
  by_cases hlt:k < L.length
  ·have hlt':(k:Int) < (L.length:Int):=by omega
   obtain⟨b,o,rfl,hc⟩:=hca (by rintro rfl;simp at hlt);have x0:=hc k hlt;have HS:=qh (qgp (s:=s) hlt);clear hca hc;generalize L[k]=X at x0 HS
   cases hE:(X.toList==s.toList)
   ·rw[hE]at HS
    go_wp2;go_roundw
    case rel=>exact⟨k+1,hlt,by push_cast;rfl,by rw[hrun.out,HS.out];exact qh rfl,by trivial⟩
    case measure=>simp[intOf];omega
   ·rw[hE]at HS
    go_wp2;go_ret;exact⟨⟨_,rfl,by rw[hrun.out,HS.out];simp⟩,rfl⟩
  ·have hlt':¬ ((k:Int) < (L.length:Int)):=by omega
   have HE:=qh (qj2 (s:=s) (show L.length<=k by omega));clear hca;go_wp2;go_ret;exact⟨⟨_,rfl,by rw[hrun.out,HE.out];rfl⟩,rfl⟩
def signsB:List ByteArray:=[⟨#[45,111]⟩,⟨#[111,45]⟩,⟨#[61,62]⟩,⟨#[60,61]⟩,⟨#[45,62]⟩,⟨#[42]⟩,⟨#[38]⟩,⟨#[43]⟩,⟨#[33]⟩,⟨#[123]⟩,⟨#[125]⟩,⟨#[40]⟩,⟨#[41]⟩,⟨#[46]⟩,⟨#[44]⟩,⟨#[58]⟩,⟨#[92]⟩]
theorem q1v(w:World)(L:List ByteArray)(t:TypeId):StrSl (w.alloc (.cells (L.map Value.string).toArray t)) (.slice (some ⟨w.heap.size,0,none⟩) L.length L.length) L:=by
 refine⟨_,L.length,rfl,fun _=>⟨_,0,rfl,fun i hi=>?_⟩⟩;rw[World.cell?_alloc_at _ _ _ _ rfl];simp[hi]
theorem qmt(w:World):Calls Tryz.prog 171 #[] w fun e w'=>e = .returned (.slice (some ⟨w.heap.size,0,none⟩) 17 17)/\w'=w.alloc (.cells (wordsB.map Value.string).toArray 9):=by
 go_enter Tryz.func171,Tryz.ntmps171;go_wp2;go_ret;exact⟨rfl,rfl⟩
theorem qmv(w:World):Calls Tryz.prog 173 #[] w fun e w'=>e = .returned (.slice (some ⟨w.heap.size,0,none⟩) 17 17)/\w'=w.alloc (.cells (signsB.map Value.string).toArray 9):=by
 go_enter Tryz.func173,Tryz.ntmps173;go_wp2;go_ret;exact⟨rfl,rfl⟩
def q66:Option (Nat×Nat)->Value
 |some (k,j)=>.tuple #[.int .i64 k,.int .i64 j]
 |none=>.tuple #[.int .i64 0,.int .i64 0]
theorem q8u(s:ByteArray)(i:Nat)(w:World)(hs:s.size<=100000)(hi:i < s.size)(hc:Lx.capital s[i]=true) :
  Calls Tryz.prog 108 #[.string s,.int .i64 i] w fun e w'=>e = .returned (q66 (Lx.tokAt (bs s) i))/\Below w.heap.size w w':=by
 have hsm:Lx.small s[i]=false:=by
  simp only[Lx.capital,ql,qp]at hc;simp only[Lx.small,Bool.and_eq_false_iff,decide_eq_false_iff_not];omega
 have h0:(bs s)[i]?=some s[i]:=by rw[qq (by rw[zd];exact hi),jg hi]
 have ht:Lx.tokAt (bs s) i=some (2,Lx.runTo (bs s) i):=by simp only[Lx.tokAt,h0,hsm,hc];rfl
 rw[ht];have hby:=xr s[i];have CC:=qh (fun w=>q45 s[i] w);rw[hc]at CC;have CR:=qh (fun w=>qjv s i w (by unfold maxLen;omega) (by omega));have hi':(i:Int) < (s.size:Int):=by omega
 clear ht h0 hsm hc;go_enter Tryz.func108,Tryz.ntmps108
 go_wp2_with fail
 refine(CC.out _).mono ?_;rintro e w1⟨rfl,rfl⟩
 go_wp2_with fail
 refine(CR.out _).mono ?_;rintro e w1⟨rfl,rfl⟩;go_wp2;go_ret2;exact⟨rfl,Below.refl _ _⟩
theorem qgs(x:ByteArray):q1s wordsB x=Lx.words.contains (bs x):=by
 unfold q1s wordsB;rw[List.any_map,Bool.eq_iff_iff,List.any_eq_true,List.contains_iff_mem]
 constructor
 ·rintro⟨l,hl,h⟩
  simp only[Function.comp_apply,ByteArray.toList_eq,beq_iff_eq]at h;rw[show bs x=l from h.symm];exact hl
 ·intro h
  exact⟨_,h,by simp only[Function.comp_apply,ByteArray.toList_eq,beq_iff_eq];rfl⟩
theorem qkn(x:ByteArray)(l:Lx.Bs):(x.toList==l)=decide (bs x=l):=by
 rw[ByteArray.toList_eq,Bool.eq_iff_iff,beq_iff_eq,qp];rfl
theorem qjy(l:Lx.Bs)(j:Nat):Lx.pre l j [45]=decide (l[j]?=some 45):=by
 unfold Lx.pre
 cases h:l.drop j with
 |nil =>
  have:l[j]?=none:=by rw[List.getElem?_eq_none_iff];exact List.drop_eq_nil_iff.1 h
  rw[this];rfl
 |cons c r =>
  have:l[j]?=some c:=by have:=congrArg (fun x=>x[0]?) h;simpa using this
  rw[this]
  by_cases h45:c=45
  ·subst h45;simp[List.isPrefixOf]
  ·have:(45==c)=false:=by rw[qc];exact fun e=>h45 e.symm
   simp[List.isPrefixOf,this,h45]
theorem qb3(s:ByteArray)(i:Nat)(w:World)(hs:s.size<=100000)(hi:i < s.size)(hsm:Lx.small s[i]=true) :
  Calls Tryz.prog 108 #[.string s,.int .i64 i] w fun e w'=>e = .returned (q66 (Lx.tokAt (bs s) i))/\Below w.heap.size w w':=by
 have hc:Lx.capital s[i]=false:=by
  simp only[Lx.small,ql,qp]at hsm;simp only[Lx.capital,Bool.and_eq_false_iff,decide_eq_false_iff_not];omega
 have HT:=qh (q97 (e:=Lx.nameTo (bs s) i) hi hsm rfl);have hnl:=Lx.nameTo_le (l:=bs s) (i:=i) (by rw[zd];omega);have hrl:=Lx.runTo_le (l:=bs s) (i:=i) (by rw[zd];omega);rw[zd]at hnl hrl;have HD:Hid (Lx.nameTo (bs s) i=if(bs s)[Lx.runTo (bs s) i]?=some 64/\((bs s)[Lx.runTo (bs s) i+1]?.map Lx.small)=some true then Lx.runTo (bs s) (Lx.runTo (bs s) i+1) else Lx.runTo (bs s) i):=qh rfl;obtain⟨e,he⟩:∃ e,Lx.nameTo (bs s) i=e:=⟨_,rfl⟩;obtain⟨T,hT⟩:∃ T,Lx.tokAt (bs s) i=T:=⟨_,rfl⟩;have CR:=qh (fun w=>qjv s i w (by unfold maxLen;omega) (by omega));obtain⟨j,hj⟩:∃ j,Lx.runTo (bs s) i=j:=⟨_,rfl⟩;have hby:=xr s[i];have CC:=qh (fun w=>q45 s[i] w);have CM:=qh (fun w=>q7x s[i] w);rw[hc]at CC;rw[hsm]at CM;rw[he]at HT hnl HD;rw[hT]at HT ⊢;rw[hj]at hrl HD CR;have hi':(i:Int) < (s.size:Int):=by omega
 clear hc hsm he hT hj;go_enter Tryz.func108,Tryz.ntmps108
 go_wp2_with fail
 refine(CC.out _).mono ?_;rintro e1 w1⟨rfl,rfl⟩
 go_wp2_with fail
 refine(CM.out _).mono ?_;rintro e1 w1⟨rfl,rfl⟩
 go_wp2_with fail
 refine(CR.out _).mono ?_;rintro e1 w1⟨rfl,rfl⟩;clear CC CM CR;obtain⟨X,hX⟩:∃ X,decide ((bs s)[j]?=some 64/\((bs s)[j+1]?.map Lx.small)=some true)=X:=⟨_,rfl⟩;have HX:=qh hX;clear hX
 go_upto_region 5 with fail
 go_cut [40] (fun v wx=>v = .bool X/\wx=w)
 case first =>
  by_cases h1:j+1 < s.size
  ·have h1':(j:Int)+1 < (s.size:Int):=by omega
   have hj':(j:Int) < (s.size:Int):=by omega
   have g0:(bs s)[j]?=some (s[j]'(by omega)):=by rw[qq (by rw[zd];omega),jg (by omega)]
   have g1:(bs s)[j+1]?=some s[j+1]:=by rw[qq (by rw[zd];omega),jg (by omega)]
   rw[g0,g1]at HX;have hb0:=xr (s[j]'(by omega));have hb1:=xr s[j+1];clear g0 g1
   by_cases h2:(s[j]'(by omega))=64
   ·have h2':(((s[j]'(by omega)).toNat:Int)==64)=true:=by rw[h2];rfl
    have HX2:Hid (X=Lx.small s[j+1]):=qh (by rw[<-HX.out,h2];simp);have CM:=qh (fun w=>q7x s[j+1] w);obtain⟨V,hV⟩:∃ V,Lx.small s[j+1]=V:=⟨_,rfl⟩;rw[hV]at CM HX2;clear h2 hV HX
    go_wp2_with fail
    refine(CM.out _).mono ?_;rintro e1 w1⟨rfl,rfl⟩;go_wp2
    go_meet
    exact⟨by rw[HX2.out],rfl⟩
   ·have h2':(((s[j]'(by omega)).toNat:Int)==64)=false:=by
     rw[qc];intro e;exact h2 (by rw[<-UInt8.toNat_inj];exact Int.ofNat_inj.1 e)
    have HX2:Hid (X=false):=qh (by rw[<-HX.out];simp[h2]);clear h2 HX;go_wp2
    go_meet
    exact⟨by rw[HX2.out],rfl⟩
  ·have h1':¬ ((j:Int)+1 < (s.size:Int)):=by omega
   have HX2:Hid (X=false):=qh (by
    have g1:(bs s)[j+1]?=none:=by rw[List.getElem?_eq_none_iff,zd];omega
    rw[<-HX.out,g1];simp)
   clear HX;go_wp2
   go_meet
   exact⟨by rw[HX2.out],rfl⟩
 case rest =>
  obtain⟨rfl,rfl⟩:=hcut
  go_upto_if 40 with fail
  go_cut [6] (fun v wx=>v = .int .i64 e/\wx=wc)
  case first =>
   cases X
   ·have HE:Hid (e=j):=qh (by rw[HD.out,qd (of_decide_eq_false HX.out)])
    go_wp2
    go_meet
    exact⟨by rw[HE.out],rfl⟩
   ·have hx:=of_decide_eq_true HX.out
    have hj1:j+1 < s.size:=by
     rcases Nat.lt_or_ge (j+1) s.size with h|h
     ·exact h
     ·have g1:(bs s)[j+1]?=none:=by rw[List.getElem?_eq_none_iff,zd];exact h
      rw[g1]at hx;simp at hx
    have HE:Hid (e=Lx.runTo (bs s) (j+1)):=qh (by rw[HD.out,qj hx]);have CR:=qh (fun w=>qjv s (j+1) w (by unfold maxLen;omega) (by omega));rw[<-HE.out]at CR;clear hx;have ej:(((j+1:Nat)):Int)=(j:Int)+1:=by omega
    rw[ej]at CR;clear ej
    go_wp2_with fail
    refine(CR.out _).mono ?_;rintro e1 w1⟨rfl,rfl⟩;go_wp2
    go_meet
    exact⟨rfl,rfl⟩
  case rest =>
   obtain⟨rfl,rfl⟩:=hcut;clear HD HX;have CI:=qh (fun w=>qf4 s ⟨#[45]⟩ e w hs (by decide) hnl.2);rw[show bs ⟨#[45]⟩=[45] from rfl,qjy]at CI;obtain⟨O,hO⟩:∃ O,decide (bs (s.extract i e)=[111])=O:=⟨_,rfl⟩;obtain⟨M,hM⟩:∃ M,decide ((bs s)[e]?=some 45)=M:=⟨_,rfl⟩;have hO2:((s.extract i e).toList==[111])=O:=by rw[qkn];exact hO
   rw[hM]at CI;have HO:=qh hO;have HM:=qh hM;clear hO hM;have hie:(i:Int)<=(e:Int):=by omega
   have hes:(e:Int)<=(s.size:Int):=by omega
   go_upto_region 7 with fail
   go_cut [54] (fun v wx=>v = .bool (O && M)/\wx=wc)
   case first =>
    cases O
    ·go_wp2
     go_meet
     exact⟨rfl,rfl⟩
    ·go_wp2_with fail
     refine(CI.out _).mono ?_;rintro e1 w1⟨rfl,rfl⟩;go_wp2
     go_meet
     exact⟨by simp,rfl⟩
   case rest =>
    obtain⟨rfl,rfl⟩:=hcut;clear CI hO2
    cases hOM:(O && M)
    ·have HT2:Hid (T=if Lx.words.contains (bs (s.extract i e))=true then some (4,e) else some (1,e)):=qh (by
      rw[HT.out,qd];rintro⟨h1,h2⟩;rw[<-HO.out,<-HM.out,decide_eq_true h1,decide_eq_true h2]at hOM
      cases hOM)
     clear HT hOM
     go_upto_region 9 with fail
     obtain⟨Y,hY⟩:∃ Y,Lx.words.contains (bs (s.extract i e))=Y:=⟨_,rfl⟩;have HY:=qh (qgs (s.extract i e));rw[hY]at HT2 HY;clear hY
     go_cut [63] (fun v wx=>v = .bool Y/\Hid (Below wc.heap.size wc wx))
     case first =>
      have CX:=qh (qb6 (.slice (some ⟨wc.heap.size,0,none⟩) 17 17) wordsB (s.extract i e) (wc.alloc (.cells (wordsB.map Value.string).toArray 9)).drew (q1v wc wordsB 9) (by decide));have hbw:Hid (Below wc.heap.size wc (wc.alloc (.cells (wordsB.map Value.string).toArray 9)).drew):=(((Below.refl _ wc).alloc (q9 _) _).drew);have CW:=qh (fun w=>qmt w);generalize wordsB.map Value.string=WV at CX hbw CW
      go_region_with (first
       |(go_at_call 171;refine(CW.out _).mono ?_;rintro e1 w1 ⟨rfl,rfl⟩)
       |(go_at_call 115;refine CX.out.mono ?_;rintro e1 w1 ⟨⟨m,rfl,hm⟩,rfl⟩))
      all_goals go_wp2
      all_goals go_meet
      all_goals exact⟨by rw[HY.out],hbw⟩
     case rest =>
      obtain⟨rfl,hbx⟩:=hcut
      cases Y
      ·go_wp2
       go_ret2;exact⟨by rw[HT2.out];rfl,hbx.out⟩
      ·go_wp2
       go_ret2;exact⟨by rw[HT2.out];rfl,hbx.out⟩
    ·have HT2:Hid (T=some (3,e+1)):=qh (by
      rw[HT.out,qj];rw[ql]at hOM
      exact⟨of_decide_eq_true (HO.out.trans hOM.1),of_decide_eq_true (HM.out.trans hOM.2)⟩)
     clear HT hOM;go_wp2;go_ret2;exact⟨by rw[HT2.out];rfl,Below.refl _ _⟩
theorem qlf(l:Lx.Bs)(j:Nat)(x:UInt8):Lx.pre l j [x]=decide (l[j]?=some x):=by
 unfold Lx.pre
 cases h:l.drop j with
 |nil =>
  have:l[j]?=none:=by rw[List.getElem?_eq_none_iff];exact List.drop_eq_nil_iff.1 h
  rw[this];rfl
 |cons c r =>
  have:l[j]?=some c:=by have:=congrArg (fun x=>x[0]?) h;simpa using this
  rw[this]
  by_cases h45:c=x
  ·subst h45;simp[List.isPrefixOf]
  ·have:(x==c)=false:=by rw[qc];exact fun e=>h45 e.symm
   simp[List.isPrefixOf,this,h45]
def q72(l:Lx.Bs)(i:Nat):List ByteArray->Option (Nat×Nat)
 |[]=>none
 |p :: r=>if Lx.pre l i (bs p) then some (3,i+p.size) else q72 l i r
theorem qja{l:Lx.Bs}{i:Nat}{c:UInt8}(h0:l[i]?=some c)(hs:Lx.small c=false)(hc:Lx.capital c=false)(hd:Lx.pre l i [45,111]=false) :
  Lx.tokAt l i=q72 l i (signsB.drop 2):=by
 have e1:Lx.tokAt l i=if Lx.signB c then some (3,i+1) else if Lx.isLong l i then some (3,i+2) else none:=by
  simp only[Lx.tokAt,h0,hs,hc];rfl
 have e2:Lx.isLong l i=(Lx.pre l i [45,62]||Lx.pre l i [61,62]||Lx.pre l i [60,61]):=by
  unfold Lx.isLong;rw[hd];simp
 rw[e1,e2];have hb:∀ x:UInt8,bs ⟨#[x]⟩=[x]:=fun _=>rfl
 have hb2:∀ x y:UInt8,bs ⟨#[x,y]⟩=[x,y]:=fun _ _=>rfl
 have hz:∀ x:UInt8,(⟨#[x]⟩:ByteArray).size=1:=fun _=>rfl
 have hz2:∀ x y:UInt8,(⟨#[x,y]⟩:ByteArray).size=2:=fun _ _=>rfl
 simp only[signsB,List.drop_succ_cons,List.drop_zero,q72,hb,hb2,hz,hz2,qlf,h0,Option.some.injEq]
 have hf:∀ a b:UInt8,Lx.pre l i [a,b]=true->c=a:=fun a b h=>by
  have:=(Lx.pre_two h).1;rw[h0]at this;exact zn this
 by_cases h1:Lx.pre l i [61,62]=true
 ·have:=hf _ _ h1;subst this;rw[h1];simp[Lx.signB]
 ·by_cases h2:Lx.pre l i [60,61]=true
  ·have:=hf _ _ h2;subst this;rw[h2];simp[Lx.signB,h1]
  ·by_cases h3:Lx.pre l i [45,62]=true
   ·have:=hf _ _ h3;subst this;rw[h3];simp[Lx.signB,h1,h2]
   ·simp only[Bool.not_eq_true]at h1 h2 h3
    rw[h1,h2,h3];simp only[Lx.signB,Bool.or_false,Bool.false_eq_true,if_false,qp]
    by_cases hm:([42,38,43,33,123,125,40,41,46,44,58,92]:List UInt8).contains c=true
    ·rw[qj hm]
     rw[List.contains_iff_mem]at hm;simp only[List.mem_cons,List.not_mem_nil,or_false]at hm;rcases hm with h|h|h|h|h|h|h|h|h|h|h|h <;> subst h <;> rfl
    ·rw[qd hm]
     rw[List.contains_iff_mem]at hm;simp only[List.mem_cons,List.not_mem_nil,or_false,not_or]at hm;simp[hm]
theorem qjc{l:Lx.Bs}{i:Nat}(hd:Lx.pre l i [45,111]=true):Lx.tokAt l i=if(l[i+2]?.map Lx.part)=some true then none else some (3,i+2):=by
 obtain⟨h0,h1⟩:=Lx.pre_two hd;have hl1:i+1 < l.length:=(List.getElem?_eq_some_iff.1 h1).1
 have e1:Lx.tokAt l i=if Lx.isLong l i then some (3,i+2) else none:=by
  simp only[Lx.tokAt,h0];rfl
 have hn:∀ a b:UInt8,(a≠45\/b≠111)->Lx.pre l i [a,b]=false:=fun a b h=>by
  rw[Bool.eq_false_iff];intro e;obtain⟨g0,g1⟩:=Lx.pre_two e;rw[h0]at g0;rw[h1]at g1;rcases h with h|h
  ·exact h (zn g0).symm
  ·exact h (zn g1).symm
 have e2:Lx.isLong l i=(Lx.runTo l (i+1)==i+2):=by
  unfold Lx.isLong;rw[hd,hn 45 62 (.inr (by decide)),hn 61 62 (.inl (by decide)),hn 60 61 (.inl (by decide))];simp
 have e3:Lx.runTo l (i+1)=Lx.runTo l (i+2):=by
  rw[Lx.runTo_step hl1,qj];rw[show l[i+1]=111 from(List.getElem?_eq_some_iff.1 h1).2];decide
 rw[e1,e2,e3]
 by_cases h2:i+2 < l.length
 ·rw[Lx.runTo_step h2,qq h2]
  by_cases hp:Lx.part l[i+2]=true
  ·have hle:=(Lx.runTo_le (l:=l) (i:=i+2+1) (by omega)).1
   rw[qj hp,qd (by rw[beq_iff_eq];omega),qj (by simp[hp])]
  ·rw[qd hp,qj (by simp),qd (by simpa using hp)]
 ·rw[Lx.runTo_end (by omega),List.getElem?_eq_none (by omega)]
  simp
theorem qeo:∀ j:Fin signsB.length,signsB[j].size<=2:=by decide +kernel
theorem qcn(s:ByteArray)(i:Nat)(w:World)(hs:s.size<=100000)(hi:i < s.size)(hsm:Lx.small s[i]=false)(hc:Lx.capital s[i]=false) :
  Calls Tryz.prog 108 #[.string s,.int .i64 i] w fun e w'=>e = .returned (q66 (Lx.tokAt (bs s) i))/\Below w.heap.size w w':=by
 have h0:(bs s)[i]?=some s[i]:=by rw[qq (by rw[zd];exact hi),jg hi]
 have hby:=xr s[i];have CC:=qh (fun w=>q45 s[i] w);have CM:=qh (fun w=>q7x s[i] w);have CI:=qh (fun w=>qf4 s ⟨#[45,111]⟩ i w hs (by decide) (by omega));have HD:=qh (qjc (l:=bs s) (i:=i));have HN:=qh (qja h0 hsm hc);rw[hc]at CC;rw[hsm]at CM;rw[show bs ⟨#[45,111]⟩=[45,111] from rfl]at CI;obtain⟨T,hT⟩:∃ T,Lx.tokAt (bs s) i=T:=⟨_,rfl⟩;rw[hT]at HD HN ⊢;obtain⟨D,hD⟩:∃ D,Lx.pre (bs s) i [45,111]=D:=⟨_,rfl⟩;rw[hD]at HD HN CI;have hi':(i:Int) < (s.size:Int):=by omega
 clear hc hsm hT hD h0;go_enter Tryz.func108,Tryz.ntmps108
 go_wp2_with fail
 refine(CC.out _).mono ?_;rintro e1 w1⟨rfl,rfl⟩
 go_wp2_with fail
 refine(CM.out _).mono ?_;rintro e1 w1⟨rfl,rfl⟩
 go_wp2_with fail
 refine(CI.out _).mono ?_;rintro e1 w1⟨rfl,rfl⟩;clear CC CM CI
 cases D
 ·have HT:=qh (HN.out rfl)
  clear HN HD
  go_wp2_with fail
  refine(qmv _).mono ?_;rintro e1 w1⟨rfl,rfl⟩;have HS:=qh (q1v w signsB 9);have HB:Hid (Below w.heap.size w (w.alloc (.cells (signsB.map Value.string).toArray 9))):=(Below.refl _ w).alloc (q9 _) _;generalize w.alloc (.cells (signsB.map Value.string).toArray 9)=W1 at HS HB ⊢;obtain⟨N,hN⟩:∃ N,w.heap.size=N:=⟨_,rfl⟩;rw[hN]at HS ⊢;clear hN
  have HC:Hid (∀ k,(h:k < signsB.length)->W1.cell? ⟨N,k,none⟩=some (.string signsB[k])):=qh fun k h=>by
   obtain⟨a,cap,he,hl⟩:=HS.out;simp only[Value.slice.injEq]at he;obtain⟨b,o,h1,h2⟩:=hl (by decide);rw[<-he.1,Option.some.injEq,Addr.mk.injEq]at h1;obtain⟨rfl,rfl,_⟩:=h1;have:=h2 k h
   rwa [Nat.zero_add]at this
  clear HS
  go_wp2_with fail
  go_loopw [8] (fun v wr=>∃ k:Nat,k<=17/\v = .int .i64 k/\Hid (T=q72 (bs s) i (signsB.drop k))/\W1=wr) (fun v _=>17 - (intOf v).toNat)
  case atStart=>exact⟨2,by omega,rfl,HT,rfl⟩
  case round =>
   obtain⟨k,hk,rfl,hrun,rfl⟩:=hrel
   by_cases hlt:k < 17
   ·have hlt':(k:Int) < 17:=by omega
    have hkl:k < signsB.length:=hlt;have x0:=HC.out k hkl
    have hst:q72 (bs s) i (signsB.drop k)=if Lx.pre (bs s) i (bs signsB[k]) then some (3,i+signsB[k].size) else q72 (bs s) i (signsB.drop (k+1)):=by
     rw[List.drop_eq_getElem_cons hkl];rfl
    have hsz:signsB[k].size<=2:=qeo ⟨k,hkl⟩;generalize signsB[k]=X at x0 hst hsz;have CI:=qh (fun w=>qf4 s X i w hs (by omega) (by omega));obtain⟨V,hV⟩:∃ V,Lx.pre (bs s) i (bs X)=V:=⟨_,rfl⟩;rw[hV]at CI hst;have HST:=qh hst;have nb:=block_lt_of_cell x0;clear hst hV
    go_wp2_with fail
    refine(CI.out _).mono ?_;rintro e1 w1⟨rfl,rfl⟩;clear CI
    cases V
    ·go_wp2
     go_roundw
     case rel=>exact⟨k+1,by omega,by push_cast;rfl,by rw[hrun.out,HST.out];exact qh rfl,by trivial⟩
     case measure=>simp[intOf];omega
    ·go_upto_region 21 with fail
     go_region
     all_goals go_wp2
     all_goals go_ret2
     all_goals exact⟨by rw[hrun.out,HST.out];rfl,HB.out.drew⟩
   ·have hlt':¬ ((k:Int) < 17):=by omega
    have hz:q72 (bs s) i (signsB.drop k)=none:=by rw[List.drop_of_length_le (show signsB.length<=k from by show 17<=k;omega)];rfl
    have HZ:=qh hz;clear hz;go_wp2;go_ret2;exact⟨by rw[hrun.out,HZ.out];rfl,HB.out⟩
 ·have HT:=qh (HD.out rfl)
  clear HN HD
  by_cases h2:i+2 < s.size
  ·have h2':(i:Int)+2 < (s.size:Int):=by omega
   have hb2:=xr s[i+2];have g2:(bs s)[i+2]?=some s[i+2]:=by rw[qq (by rw[zd];omega),jg (by omega)]
   rw[g2]at HT;have CP:=qh (fun w=>qkw s[i+2] w);obtain⟨V,hV⟩:∃ V,Lx.part s[i+2]=V:=⟨_,rfl⟩;rw[hV]at CP;simp only[Option.map_some,hV]at HT;clear g2 hV
   go_wp2_with fail
   refine(CP.out _).mono ?_;rintro e1 w1⟨rfl,rfl⟩;clear CP
   cases V
   ·go_wp2
    go_ret2;exact⟨by rw[HT.out];rfl,Below.refl _ _⟩
   ·go_wp2
    go_ret2;exact⟨by rw[HT.out];rfl,Below.refl _ _⟩
  ·have h2':¬ ((i:Int)+2 < (s.size:Int)):=by omega
   have g2:(bs s)[i+2]?=none:=by rw[List.getElem?_eq_none_iff,zd];omega
   rw[g2]at HT;clear g2;go_wp2;go_ret2;exact⟨by rw[HT.out];rfl,Below.refl _ _⟩
theorem qmu(s:ByteArray)(i:Nat)(w:World)(hs:s.size<=100000)(hi:i < s.size) :
  Calls Tryz.prog 108 #[.string s,.int .i64 i] w fun e w'=>e = .returned (q66 (Lx.tokAt (bs s) i))/\Below w.heap.size w w':=by
 cases hc:Lx.capital s[i] with
 |true=>exact q8u s i w hs hi hc
 |false =>
  cases hsm:Lx.small s[i] with
  |true=>exact qb3 s i w hs hi hsm
  |false=>exact qcn s i w hs hi hsm hc
theorem StrSl.below{w w':World}{v:Value}{L:List ByteArray}(h:StrSl w v L)(hb:Below w.heap.size w w'):StrSl w' v L:=by
 obtain⟨a,cap,rfl,hl⟩:=h;refine⟨a,cap,rfl,fun hne=>?_⟩;obtain⟨b,o,rfl,hc⟩:=hl hne;exact⟨b,o,rfl,fun i hi=>(hb.cell (p:=⟨b,o+i,none⟩) (block_lt_of_cell (hc i hi))).trans (hc i hi)⟩
theorem q5a(va vb:Value)(L:List ByteArray)(w:World)(ha:StrSl w va L)(hb:StrSl w vb L)(hm:L.length<=1000000) :
  Calls Tryz.prog 30 #[va,vb] w fun e w'=>e = .returned (.bool true)/\Below w.heap.size w w':=by
 obtain⟨a,ca,rfl,hca⟩:=ha;obtain⟨b,cb,rfl,hcb⟩:=hb;go_enter Tryz.func30,Tryz.ntmps30;go_wp2
 go_loopw [5] (fun v wr=>∃ k:Nat,k<=L.length/\v = .int .i64 k/\Hid (Below w.heap.size w wr)) (fun v _=>L.length - (intOf v).toNat)
 case atStart=>exact⟨0,qv _,rfl,Below.refl _ _⟩
 case round =>
  obtain⟨k,hk,rfl,hbl⟩:=hrel
  by_cases hlt:k < L.length
  ·have hlt':(k:Int) < (L.length:Int):=by omega
   obtain⟨ba,oa,rfl,hA⟩:=hca (by rintro rfl;simp at hlt);obtain⟨bb,ob,rfl,hB⟩:=hcb (by rintro rfl;simp at hlt);have x0:=(hbl.out.cell (p:=⟨ba,oa+k,none⟩) (block_lt_of_cell (hA k hlt))).trans (hA k hlt);have y0:=(hbl.out.cell (p:=⟨bb,ob+k,none⟩) (block_lt_of_cell (hB k hlt))).trans (hB k hlt);clear hca hcb hA hB;generalize L[k]=X at x0 y0
   go_upto_region 6 with fail
   go_cut [25] (fun v wx=>v = .bool false/\Hid (Below w.heap.size w wx))
   case first =>
    go_region
    all_goals go_wp2
    all_goals go_meet
    all_goals exact⟨by simp,hbl.out.drew⟩
   case rest =>
    obtain⟨rfl,hbx⟩:=hcut;go_wp2;go_roundw
    case rel=>exact⟨k+1,hlt,by push_cast;rfl,hbx⟩
    case measure=>simp[intOf];omega
  ·have hlt':¬ ((k:Int) < (L.length:Int)):=by omega
   clear hca hcb;go_wp2;go_ret;exact⟨rfl,hbl.out⟩
def q3e(a:AT):Bool:=match Lx.tokAt (bs a.t) 0 with
 |some (k,j)=>decide ((k:Int)=a.k) && decide (j=a.t.size)
 |none=>false
def q44(a:AT):Bool:=match (bs a.t)[0]? with
 |none=>false
 |some c=>decide (a.t.size<=40) && !Lx.blank c && !decide (c.toNat=37) && q3e a
theorem qb9(a:AT)(w:World)(hz:a.t.size=0) :
  Calls Tryz.prog 125 #[.agg #[.int .i64 a.k,.string a.t,.int .i64 a.p]] w fun e w'=>e = .returned (.int .i64 12)/\Below w.heap.size w w':=by
 have hz':(a.t.size:Int)=0:=by omega
 have hz'':((a.t.size:Int)==0)=true:=by rw[hz'];rfl
 clear hz hz';go_enter Tryz.func125,Tryz.ntmps125;go_wp2;go_ret;exact⟨rfl,(Below.refl _ w).alloc (q9 _) _⟩
theorem qco(a:AT)(w:World)(hz:40 < a.t.size) :
  Calls Tryz.prog 125 #[.agg #[.int .i64 a.k,.string a.t,.int .i64 a.p]] w fun e w'=>e = .returned (.int .i64 12)/\Below w.heap.size w w':=by
 have hz':(40:Int) < (a.t.size:Int):=by omega
 have hz'':((a.t.size:Int)==0)=false:=by rw[qc];omega
 go_enter Tryz.func125,Tryz.ntmps125;go_wp2;go_ret;exact⟨rfl,(Below.refl _ w).alloc (q9 _) _⟩
theorem qar{l:Lx.Bs}{i k j:Nat}(h:Lx.tokAt l i=some (k,j)):k≠0/\k<=4:=by
 unfold Lx.tokAt at h
 split at h
 ·cases h
 ·split at h
  ·simp only at h
   split at h
   ·simp at h;omega
   ·split at h <;> (simp at h;omega)
  ·split at h
   ·simp at h;omega
   ·split at h
    ·simp at h;omega
    ·split at h
     ·simp at h;omega
     ·cases h
theorem qf5(V:Bool)(a:AT)(w:World)(h0:0 < a.t.size)(h40:a.t.size<=40)(hV:q44 a=V) :
  Calls Tryz.prog 125 #[.agg #[.int .i64 a.k,.string a.t,.int .i64 a.p]] w fun e w'=>e = .returned (.int .i64 (if V then 0 else 12))/\Below w.heap.size w w':=by
 have g0:(bs a.t)[0]?=some a.t[0]:=by rw[qq (by rw[zd];exact h0),jg h0]
 have hV2:(!Lx.blank a.t[0] && !decide (a.t[0].toNat=37) && q3e a)=V:=by
  rw[<-hV];unfold q44;rw[g0];simp only[decide_eq_true h40,Bool.true_and]
 have HV:=qh hV2;have CB:=qh (fun w=>qmy a.t[0] w);have CT:=qh (fun w=>qmu a.t 0 w (by omega) h0);obtain⟨B,hB⟩:∃ B,Lx.blank a.t[0]=B:=⟨_,rfl⟩;rw[hB]at HV CB;have hby:=xr a.t[0];have hz:((a.t.size:Int)==0)=false:=by rw[qc];omega
 have hz2:¬ ((40:Int) < (a.t.size:Int)):=by omega
 have hz3:(0:Int) < (a.t.size:Int):=by omega
 have HK:Hid (∀ k j,Lx.tokAt (bs a.t) 0=some (k,j)->k≠0/\k<=4):=qh fun k j h=>qar h
 have HR:Hid (q3e a=match Lx.tokAt (bs a.t) 0 with|some (k,j)=>decide ((k:Int)=a.k) && decide (j=a.t.size)|none=>false):=qh rfl;have HJ:Hid (∀ k j,Lx.tokAt (bs a.t) 0=some (k,j)->j<=a.t.size):=qh fun k j h=>by have:=(Lx.tokAt_lt h).2;rwa [zd]at this
 obtain⟨T,hT⟩:∃ T,Lx.tokAt (bs a.t) 0=T:=⟨_,rfl⟩;rw[hT]at CT HR HK HJ;clear hV hV2 g0 hB hT
 by_cases h37:a.t[0].toNat=37
 ·have H37:=qh h37
  have h37':((a.t[0].toNat:Int)==37)=true:=by rw[h37];rfl
  obtain rfl:V=false:=by rw[<-HV.out];simp[h37]
  clear h37;go_enter Tryz.func125,Tryz.ntmps125
  go_wp2_with fail
  refine(CB.out _).mono ?_;rintro e w1⟨rfl,rfl⟩
  cases B
  ·go_wp2
   go_ret;exact⟨rfl,(Below.refl _ w).alloc (q9 _) _⟩
  ·go_wp2
   go_ret;exact⟨rfl,(Below.refl _ w).alloc (q9 _) _⟩
 ·have h37':((a.t[0].toNat:Int)==37)=false:=by rw[qc];omega
  rw[decide_eq_false h37]at HV;clear h37
  cases B
  ·simp only[Bool.not_false,Bool.true_and]at HV
   go_enter Tryz.func125,Tryz.ntmps125
   go_wp2_with fail
   refine(CB.out _).mono ?_;rintro e w1⟨rfl,rfl⟩
   go_wp2_with fail
   refine(CT.out _).mono ?_;rintro e w1⟨rfl,hb1⟩;have Hb:Hid (Below w.heap.size w w1):=((Below.refl _ w).alloc (q9 _) _).trans (hb1.mono (by simp));have x0:w1.cell? ⟨w.heap.size,0,none⟩=some (.int .i64 a.k):=(hb1.cell (p:=⟨w.heap.size,0,none⟩) (by simp)).trans (by rw[World.cell?_alloc_at _ _ _ _ rfl];rfl);have x1:w1.cell? ⟨w.heap.size,1,none⟩=some (.string a.t):=(hb1.cell (p:=⟨w.heap.size,1,none⟩) (by simp)).trans (by rw[World.cell?_alloc_at _ _ _ _ rfl];rfl);have nb:=block_lt_of_cell x0;simp only at nb;clear hb1 CT CB
   cases T with
   |none =>
    obtain rfl:V=false:=by rw[<-HV.out,HR.out]
    unfold q66
    by_cases hk:a.k=0
    ·have hk':((0:Int) != a.k)=false:=by rw[hk];rfl
     have hz4:((0:Int) != (a.t.size:Int))=true:=by rw[bne_iff_ne];omega
     clear hk;go_wp2;go_ret;exact⟨rfl,Hb.out⟩
    ·have hk':((0:Int) != a.k)=true:=by rw[bne_iff_ne];omega
     clear hk;go_wp2;go_ret;exact⟨rfl,Hb.out⟩
   |some p =>
    obtain⟨k,j⟩:=p;unfold q66;have hk0:=(HK.out k j rfl);have hj0:=HJ.out k j rfl;have hne:((k:Int)==0)=false:=by rw[qc];omega
    by_cases hk:(k:Int)=a.k
    ·have hk':((k:Int) != a.k)=false:=by rw[hk];simp
     by_cases hj:j=a.t.size
     ·have hj':((j:Int) != (a.t.size:Int))=false:=by rw[hj];simp
      obtain rfl:V=true:=by rw[<-HV.out,HR.out];simp[hk,hj]
      clear hk hj;go_wp2;go_ret;exact⟨rfl,Hb.out⟩
     ·have hj':((j:Int) != (a.t.size:Int))=true:=by rw[bne_iff_ne];omega
      obtain rfl:V=false:=by rw[<-HV.out,HR.out];simp[hj]
      clear hk hj;go_wp2;go_ret;exact⟨rfl,Hb.out⟩
    ·have hk':((k:Int) != a.k)=true:=by rw[bne_iff_ne];exact hk
     obtain rfl:V=false:=by rw[<-HV.out,HR.out];simp[hk]
     clear hk;go_wp2;go_ret;exact⟨rfl,Hb.out⟩
  ·obtain rfl:V=false:=by rw[<-HV.out];rfl
   go_enter Tryz.func125,Tryz.ntmps125
   go_wp2_with fail
   refine(CB.out _).mono ?_;rintro e w1⟨rfl,rfl⟩;go_wp2;go_ret;exact⟨rfl,(Below.refl _ w).alloc (q9 _) _⟩
theorem qjl{l:Lx.Bs}{k:Nat}(h4:l.length<=40)(h0:l≠[])(hsk:Lx.skipC false l=0)(ht:Lx.tokR l=some (k,l.length)):Lx.scan l = .toks [⟨k,l,0⟩]:=by
 rw[Lx.scan_rel,qd (by omega)];unfold Lx.scanP;rw[hsk,List.drop_zero,Lx.scanS_step h0 ht (by simp) (by omega)];unfold Lx.scanP;rw[List.drop_of_length_le (q9 _),qw (q9 _)];have hpos:0 < l.length:=List.length_pos_iff.2 h0;obtain⟨f,hf⟩:∃ f,l.length=f+1:=⟨l.length - 1,by omega⟩;rw[hf];simp[Lx.scanS,Lx.skipC]
theorem qaw{l:Lx.Bs}{t:Lx.Tok}(h:Lx.scan l = .toks [t])(ht:t.text=l)(h0:l≠[]) :
  l.length<=40/\Lx.skipC false l=0/\Lx.tokR l=some (t.kind,l.length):=by
 rw[Lx.scan_rel]at h
 split at h
 ·cases h
 ·unfold Lx.scanP at h
  rcases Lx.scanS_inv h with ⟨_,e⟩|⟨k,n,hne,htk,_,h40,hs⟩
  ·cases e
  ·have hn:=Lx.tokR_lt htk
   obtain⟨rest,hl,_⟩:=Lx.scanS_shift 0 _ _ [] _ _ _ (by simp) hs;rw[List.nil_append,List.cons_append,List.nil_append,List.cons.injEq]at hl;have e1:=hl.1;subst e1;simp only at ht;have hlen:=congrArg List.length ht;rw[List.length_take,List.length_drop]at hlen;rw[List.length_drop]at hn;have hpos:0 < l.length:=List.length_pos_iff.2 h0;have hk0:Lx.skipC false l=0:=by omega
   rw[hk0,List.drop_zero]at htk;have hnl:n=l.length:=by omega
   subst hnl;exact⟨by omega,hk0,htk⟩
theorem q9c(c:UInt8)(r:Lx.Bs):Lx.skipC false (c :: r)=0↔(Lx.blank c=false/\c.toNat≠37):=by
 simp only[Lx.skipC]
 by_cases hb:Lx.blank c=true
 ·rw[qj hb,hb];simp
 ·rw[qd hb]
  by_cases h37:c.toNat=37
  ·rw[qj h37];simp[h37]
  ·rw[qd h37];simp[h37,hb]
theorem qa6(a:AT):xt a=q44 a:=by
 have hrel:=Lx.tokAt_rel (bs a.t) 0;rw[List.drop_zero]at hrel;have hsz:(bs a.t).length=a.t.size:=zd a.t
 have htext:∀ l:Lx.Bs,(((⟨l.toArray⟩:ByteArray).toList==a.t.toList)=true)↔l=bs a.t:=fun l=>by
  rw[ByteArray.toList_eq,ByteArray.toList_eq,beq_iff_eq];rfl
 rw[Bool.eq_iff_iff];unfold xt qav q44 q3e;rw[hrel]
 constructor
 ·intro h
  cases hs:Lx.scan (bs a.t)with
  |bad p er=>rw[hs]at h;cases h
  |toks ts =>
   rw[hs]at h
   match ts,h with
   |[],h=>simp[q25]at h
   |[t],h =>
    simp only[List.map_cons,List.map_nil,q25,q29,Bool.and_true,ql,beq_iff_eq]at h;have ht:t.text=bs a.t:=(htext _).1 (by rw[beq_iff_eq];exact h.2)
    have h0:bs a.t≠[]:=by
     intro e;rw[e]at hs;simp[Lx.scan,Lx.scanT,Lx.skipTo,Lx.skipC]at hs
    obtain⟨h40,hk,htk⟩:=qaw hs ht h0
    cases hl:bs a.t with
    |nil=>exact absurd hl h0
    |cons c r =>
     rw[hl]at hk;obtain⟨hb,h37⟩:=(q9c c r).1 hk;rw[<-hl,htk];simp only[hl,List.getElem?_cons_zero,Option.map_some,hb,decide_eq_false h37,Bool.not_false,Bool.and_true,ql,qp];exact⟨by omega,h.1,by rw[<-hl];omega⟩
   |t :: u :: ts,h=>simp[q25]at h
 ·intro h
  cases hl:bs a.t with
  |nil=>rw[hl]at h;simp at h
  |cons c r =>
   rw[hl]at h;simp only[List.getElem?_cons_zero,ql,qp,Bool.not_eq_true']at h;obtain⟨⟨⟨h40,hb⟩,h37⟩,hT⟩:=h
   cases htk:Lx.tokR (c :: r)with
   |none=>rw[htk]at hT;simp at hT
   |some p =>
    obtain⟨k,n⟩:=p;rw[htk]at hT;simp only[Option.map_some,ql,qp]at hT;have hn:n=(c :: r).length:=by rw[<-hl,hsz];omega
    subst hn;rw[qjl (by rw[<-hl,hsz];omega) (by simp) ((q9c c r).2 ⟨hb,by simpa using h37⟩) htk];simp only[List.map_cons,List.map_nil,q25,q29,Bool.and_true,ql,beq_iff_eq];exact⟨hT.1,by have:=(htext (c :: r)).2 hl.symm;rwa [beq_iff_eq]at this⟩
theorem qb8(V:Bool)(a:AT)(w:World)(hV:xt a=V) :
  Calls Tryz.prog 125 #[.agg #[.int .i64 a.k,.string a.t,.int .i64 a.p]] w fun e w'=>e = .returned (.int .i64 (if V then 0 else 12))/\Below w.heap.size w w':=by
 rw[qa6]at hV
 by_cases h0:a.t.size=0
 ·have:q44 a=false:=by
   unfold q44;rw[List.getElem?_eq_none (by rw[zd];omega)]
  rw[this]at hV;subst hV;exact qb9 a w h0
 ·by_cases h40:40 < a.t.size
  ·have:q44 a=false:=by
    unfold q44;rw[qq (by rw[zd];omega)];simp only[decide_eq_false (show ¬ a.t.size<=40 by omega),Bool.false_and]
   rw[this]at hV;subst hV;exact qco a w h40
  ·exact qf5 V a w (by omega) (by omega) hV
theorem xg(V:Bool)(s:ByteArray)(w:World)(hV:xt ⟨1,s,0⟩=V) :
  Calls Tryz.prog 65 #[.string s] w fun e w'=>e = .returned (.bool V)/\Below w.heap.size w w':=by
 have C:=qh (qb8 V ⟨1,s,0⟩ w hV);clear hV;go_enter Tryz.func65,Tryz.ntmps65
 go_wp2_with fail
 refine C.out.mono ?_;clear C;rintro e w1⟨rfl,hb⟩
 cases V
 ·go_wp2
  go_ret;exact⟨rfl,hb⟩
 ·go_wp2
  go_ret;exact⟨rfl,hb⟩
theorem q2k(V:Bool)(s:ByteArray)(w:World)(hV:xt ⟨2,s,0⟩=V) :
  Calls Tryz.prog 66 #[.string s] w fun e w'=>e = .returned (.bool V)/\Below w.heap.size w w':=by
 have C:=qh (qb8 V ⟨2,s,0⟩ w hV);clear hV;go_enter Tryz.func66,Tryz.ntmps66
 go_wp2_with fail
 refine C.out.mono ?_;clear C;rintro e w1⟨rfl,hb⟩
 cases V
 ·go_wp2
  go_ret;exact⟨rfl,hb⟩
 ·go_wp2
  go_ret;exact⟨rfl,hb⟩
theorem nd3{w:World}{k:Int}{s:ByteArray}{v2:Value}{t:TypeId}{h:Nat}(hh:w.heap.size=h) :
  (w.alloc (.cells #[.int .i64 k,.string s,v2] t)).cell? ⟨h,0,none⟩=some (.int .i64 k)/\(w.alloc (.cells #[.int .i64 k,.string s,v2] t)).cell? ⟨h,1,none⟩=some (.string s)/\(w.alloc (.cells #[.int .i64 k,.string s,v2] t)).cell? ⟨h,2,none⟩=some v2:=by
 rw[<-hh];exact⟨(World.cell?_alloc_at _ _ _ _ rfl).trans rfl,(World.cell?_alloc_at _ _ _ _ rfl).trans rfl,(World.cell?_alloc_at _ _ _ _ rfl).trans rfl⟩
theorem q3f(n:Nat):∀ (t:Nd) (w:World) (v0 v1 v2:Value),t.sz<=n->NdR w t v0 v1 v2 ->
  Calls Tryz.prog 75 #[.agg #[v0,v1,v2]] w fun e w'=>e = .returned (.bool (x5 t))/\Below w.heap.size w w':=by
 induction n with
 |zero=>intro t w v0 v1 v2 h;cases t;simp only[Nd.sz]at h;omega
 |succ n ih =>
  intro t w v0 v1 v2 hsz ht;obtain⟨k,s,l,a,cap,rfl,rfl,rfl,rfl,hs,hl⟩:=ht.form;have IH:=qh ih;clear ih;unfold maxLen at hl
  by_cases hk:k=31
  ·subst hk
   cases hse:s.toList.isEmpty with
   |false =>
    have HS:Hid (x5 (.mk 31 s l)=false):=qh (by simp only[x5];rw[qj trivial];unfold zb;rw[hse];rfl);clear ht;go_enter Tryz.func75,Tryz.ntmps75;go_wp2;go_ret;exact⟨by rw[HS.out];rfl,(Below.refl _ w).alloc (q9 _) _⟩
   |true =>
    by_cases hll:l.length=2
    ·have hl2:((l.length:Int)==2)=true:=by rw[hll];rfl
     obtain⟨h,hh⟩:∃ h,w.heap.size=h:=⟨_,rfl⟩;obtain⟨b,o,k1,s1,l1,a1,c1,rfl,e1,x0,x1,x2,r1⟩:=ht.kid 0 (by omega);obtain⟨b',o',k2,s2,l2,a2,c2,hbo,e2,y0,y1,y2,r2⟩:=ht.kid 1 (by omega);obtain⟨rfl,rfl⟩:b=b'/\o=o':=by simpa using hbo
     have hsz1:=Nd.kid_lt 31 s l 0 (by omega);have hsz2:=Nd.kid_lt 31 s l 1 (by omega);rw[e1]at hsz1;rw[e2]at hsz2
     have HS:Hid (x5 (.mk 31 s l)=(x5 (.mk k1 s1 l1) && x5 (.mk k2 s2 l2))):=qh (by
      match l,hll,e1,e2 with
      |[p,q],_,e1,e2 =>
       simp only[zk,zi]at e1 e2;subst e1 e2;rw[x5];rw[qj rfl];simp only[yn,Bool.and_true];unfold zb;rw[hse]
       simp)
     obtain⟨V1,hV1⟩:∃ V,x5 (.mk k1 s1 l1)=V:=⟨_,rfl⟩;obtain⟨V2,hV2⟩:∃ V,x5 (.mk k2 s2 l2)=V:=⟨_,rfl⟩;rw[hV1,hV2]at HS;have C1:=qh (fun w h=>IH.out (.mk k1 s1 l1) w _ _ _ (by omega) (h:NdR w _ (.int .i64 k1) (.string s1) (.slice a1 l1.length c1)));have C2:=qh (fun w h=>IH.out (.mk k2 s2 l2) w _ _ _ (by omega) (h:NdR w _ (.int .i64 k2) (.string s2) (.slice a2 l2.length c2)));rw[hV1]at C1;rw[hV2]at C2;simp only[Nat.zero_mul,Nat.add_zero]at x0 x1 x2;have nb:=qi x0;have R1:=qh r1;have R2:=qh r2;have X0:=qh x0;have Y0:=qh (And.intro y0 (And.intro y1 y2));have hb0:=qh ((Below.refl w.heap.size w).alloc (q9 _) (.cells #[.int .i64 31,.string s,.slice (some ⟨b,o,none⟩) l.length cap] 25));have D0:=qh (nd3 (w:=w) (k:=31) (s:=s) (v2:=.slice (some ⟨b,o,none⟩) l.length cap) (t:=25) hh);have HH:=qh hh;have i0:(0:Int) < (l.length:Int):=by omega
     have i1:(1:Int) < (l.length:Int):=by omega
     have j0:0 < l.length:=by omega
     have j1:1 < l.length:=by omega
     clear ht e1 e2 hV1 hV2 hsz hsz1 hsz2 r1 r2 y0 y1 y2 hbo hh hll;go_enter Tryz.func75,Tryz.ntmps75
     go_wp2_with fail
     refine(C1.out _ (R1.out.later hb0.out)).mono ?_;rintro e w1⟨rfl,hb1⟩;have B1:Hid (Below w.heap.size w w1):=qh (hb0.out.trans (hb1.mono hb0.out.size));have hz1:=hb1.size;have hh:=HH.out;rw[q6]at hz1;rw[hh];rw[hh]at hz1 nb;have d2:w1.cell? ⟨h,2,none⟩=some (.slice (some ⟨b,o,none⟩) l.length cap):=(hb1.cell (p:=⟨h,2,none⟩) (by rw[q6,hh];exact Nat.lt_succ_self h)).trans D0.out.2.2;obtain⟨y0,y1,y2⟩:=Y0.out;have z0:=(B1.out.cell (p:=⟨b,o+1*3,none⟩) (by rw[hh];exact nb)).trans y0;have z1:=(B1.out.cell (p:=⟨b,o+1*3+1,none⟩) (by rw[hh];exact nb)).trans y1;have z2:=(B1.out.cell (p:=⟨b,o+1*3+2,none⟩) (by rw[hh];exact nb)).trans y2;simp only[Nat.one_mul]at z0 z1 z2;have l1:=qi z0;clear C1 hb1 x0 x1 x2 y0 y1 y2 hh
     cases V1 with
     |false =>
      go_wp2;go_ret;exact⟨by rw[HS.out];rfl,by rw[HH.out]at *;exact B1.out⟩
     |true =>
      go_wp2_with fail
      refine(C2.out _ (R2.out.later B1.out)).mono ?_;rintro e w2⟨rfl,hb2⟩;have B2:Hid (Below w.heap.size w w2):=qh (B1.out.trans (hb2.mono B1.out.size));clear C2 hb2 z0 z1 z2 d2;go_wp2;go_ret;exact⟨by rw[HS.out];rfl,B2.out⟩
    ·have hl2:((l.length:Int)==2)=false:=by rw[qc];omega
     have HS:Hid (x5 (.mk 31 s l)=false):=qh (by rw[x5,qj rfl,decide_eq_false hll,Bool.false_and,Bool.and_false]);clear ht hll;go_enter Tryz.func75,Tryz.ntmps75;go_wp2;go_ret;exact⟨by rw[HS.out];rfl,(Below.refl _ w).alloc (q9 _) _⟩
  ·have hk2:((k:Int)==31)=false:=by rw[qc];exact hk
   have HS:Hid (x5 (.mk k s l)=(decide (k=15) && (decide (l.length=0) && zf s))):=qh (by rw[x5,qd hk]);obtain⟨V,hV⟩:∃ V,zf s=V:=⟨_,rfl⟩;have C:=qh (fun w=>xg V s w hV);rw[hV]at HS;clear hk ht hsz hV
   by_cases h15:k=15
   ·subst h15
    by_cases hll:l.length=0
    ·have hl2:((l.length:Int)==0)=true:=by rw[hll];rfl
     rw[decide_eq_true rfl,decide_eq_true hll,Bool.true_and,Bool.true_and]at HS;clear hll;go_enter Tryz.func75,Tryz.ntmps75
     go_wp2_with fail
     refine(C.out _).mono ?_;rintro e w1⟨rfl,hb1⟩;have Hb1:=qh hb1;clear C hb1;go_wp2;go_ret;exact⟨by rw[HS.out];rfl,((Below.refl _ w).alloc (q9 _) _).trans (Hb1.out.mono (by simp))⟩
    ·have hl2:((l.length:Int)==0)=false:=by rw[qc];omega
     rw[decide_eq_false hll,Bool.false_and,Bool.and_false]at HS;clear hll;go_enter Tryz.func75,Tryz.ntmps75;go_wp2;go_ret;exact⟨by rw[HS.out];rfl,(Below.refl _ w).alloc (q9 _) _⟩
   ·have hk3:((k:Int)==15)=false:=by rw[qc];exact h15
    rw[decide_eq_false h15,Bool.false_and]at HS;clear h15;go_enter Tryz.func75,Tryz.ntmps75;go_wp2;go_ret;exact⟨by rw[HS.out];rfl,(Below.refl _ w).alloc (q9 _) _⟩
mutual
def Nd.dp:Nd->Nat
 | .mk _ _ l=>1+Nd.dpL l
def Nd.dpL:List Nd->Nat
 |[]=>0
 |a :: l=>max (Nd.dp a) (Nd.dpL l)
end
theorem qbz:∀ (l:List Nd) (i:Nat) (h:i < l.length),Nd.dpL (l.take (i+1))=max (Nd.dpL (l.take i)) (l[i]).dp
 |a :: l,0,_=>by simp[Nd.dpL]
 |a :: l,i+1,h=>by
  have:=qbz l i (by simpa using h);simp only[List.take_succ_cons,Nd.dpL,zi]at this ⊢;omega
theorem qnu(n:Nat):∀ (t:Nd) (m:Nat) (w:World) (v0 v1 v2:Value),t.sz<=n->m<=1000000000->NdR w t v0 v1 v2 ->
  Calls Tryz.prog 100 #[.agg #[v0,v1,v2],.int .i64 (m:Int)] w fun e w'=>e = .returned (.int .i64 ((min t.dp (m+1):Nat):Int))/\Below w.heap.size w w':=by
 induction n with
 |zero=>intro t m w v0 v1 v2 h;cases t;simp only[Nd.sz]at h;omega
 |succ n ih =>
  intro t m w v0 v1 v2 hsz hm ht;obtain⟨k,s,l,a,cap,rfl,rfl,rfl,rfl,hs,hl⟩:=ht.form;have IH:=qh ih;clear ih;unfold maxLen at hl;have HT:=qh ht;have Hsz:Hid (∀ i,(h:i < l.length)->(l[i]).sz<=n):=qh fun i h=>by have:=Nd.kid_lt k s l i h;omega
  obtain⟨K,hK⟩:∃ K,min (Nd.mk k s l).dp (m+1)=K:=⟨_,rfl⟩;have HK:=qh hK;rw[hK];clear ht hsz hK;go_enter Tryz.func100,Tryz.ntmps100;go_wp2;obtain⟨h,hh⟩:∃ h,w.heap.size=h:=⟨_,rfl⟩;obtain⟨wz,hwz⟩:∃ wz,w.alloc (Obj.cells #[Value.int IntKind.i64 k,Value.string s,Value.slice a l.length cap] 25)=wz:=⟨_,rfl⟩;have hB:Hid (Below w.heap.size w wz):=qh (by rw[<-hwz];exact(Below.refl _ w).alloc (q9 _) _);have hz:wz.heap.size=h+1:=by rw[<-hwz];simp[hh]
  have g0:wz.cell? ⟨h,2,none⟩=some (.slice a l.length cap):=by
   rw[<-hwz,<-hh];exact(World.cell?_alloc_at _ _ _ _ rfl).trans rfl
  have HG0:=qh g0;have Hz:=qh hz;have HTz:=qh (HT.out.later hB.out);rw[hwz,hh];clear hwz hh hz g0 HT
  go_loopw [5,6] (fun v5 v6 wr=>∃ i q:Nat,i<=l.length/\q<=m/\v5 = .int .i64 (q:Int)/\v6 = .int .i64 (i:Int)/\Hid (min (Nd.dpL (l.take i)) m=q)/\Hid (Below wz.heap.size wz wr)) (fun _ v6 _=>l.length - (intOf v6).toNat)
  case atStart=>exact⟨0,0,qv _,qv _,rfl,rfl,qh (by simp[Nd.dpL]),Below.refl _ _⟩
  case round =>
   obtain⟨i,q,hi,hqm,rfl,rfl,hrun,hbl⟩:=hrel;have g0:=(hbl.out.cell (p:=⟨h,2,none⟩) (by have:=Hz.out;simp only;omega)).trans HG0.out
   by_cases hlt:i < l.length
   ·have hlt':(i:Int) < (l.length:Int):=by omega
    have hi0:(0:Int)<=(i:Int):=by omega
    by_cases hqq:0 < m
    ·have hqq':(0:Int) < (m:Int):=by omega
     obtain⟨b,o,k1,s1,l1,a1,c1,rfl,e1,x0,x1,x2,r1⟩:=(HTz.out.later hbl.out).kid i hlt;have hsz1:=Hsz.out i hlt;have Hst:=qh (qbz l i hlt);rw[e1]at hsz1 Hst;obtain⟨Q,hQ⟩:∃ Q,min (Nd.mk k1 s1 l1).dp (m - 1+1)=Q:=⟨_,rfl⟩;have C:=qh (IH.out (.mk k1 s1 l1) (m - 1) wr _ _ _ hsz1 (by omega) r1);rw[hQ,show((m - 1:Nat):Int)=(m:Int) - 1 from by omega]at C;have hQm:Q<=m:=by omega
     have HQ:=qh hQ;have L0:=qi g0;have L2:=qi x0;clear e1 hQ r1
     go_wp2_with fail
     refine C.out.mono ?_;clear C;rintro e w5⟨rfl,hb5⟩;have Hb5:Hid (Below wz.heap.size wz w5):=qh (hbl.out.trans (hb5.mono hbl.out.size));clear hb5 x0 x1 x2 g0;go_wp2;go_roundw
     case rel=>exact⟨i+1,max q Q,hlt,by omega,by push_cast;rw[show max (q:Int) (Q:Int)=((max q Q:Nat):Int) from by omega],by push_cast;rfl,qh (by
      have h1:=hrun.out;have h2:=Hst.out;have h3:=HQ.out
      omega),Hb5⟩
     case measure=>simp[intOf];omega
    ·have hqq':¬ ((0:Int) < (m:Int)):=by omega
     have HE:Hid (q+1=K):=qh (by
      have h2:=HK.out;simp only[Nd.dp]at h2
      omega)
     go_wp2;go_ret;exact⟨by rw[<-HE.out];push_cast;rfl,hB.out.trans (hbl.out.mono hB.out.size)⟩
   ·have hlt':¬ ((i:Int) < (l.length:Int)):=by omega
    have HE:Hid (q+1=K):=qh (by
     have h1:=hrun.out;have h2:=HK.out;rw[qw (by omega)]at h1;simp only[Nd.dp]at h2
     omega)
    go_wp2;go_ret;exact⟨by rw[<-HE.out];push_cast;rfl,hB.out.trans (hbl.out.mono hB.out.size)⟩
end Go.Proofs.YtkckddojlignpaaGreatDoor
