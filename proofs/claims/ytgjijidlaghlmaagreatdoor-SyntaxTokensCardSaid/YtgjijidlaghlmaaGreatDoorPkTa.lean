/- A part of the proof, packed: see the last text of this claim. -/
import Derived.Test.YtgjijidlaghlmaaGreatDoorRows
import Derived.Test.YtgjijidlaghlmaaGreatDoorProg
import Derived.WalkKit
import Derived.WalkSpells
import Derived.WalkLawsBesides
import Derived.Lib.Hide
import Derived.Below
import Derived.Deep.QuietTactic
import Derived.Deep.DeepCutAuto
import Derived.Deep.RegionWith
import Derived.Deep.RegionHeld3
import Derived.Deep.DeepFit
import Derived.BigQuiet
import Derived.Shelf.Strings.Builder1
import Derived.Shelf.Small.Strs
import Derived.Shelf.Strings.BuilderF
import Derived.Shelf.Strings.BuilderK
import Derived.Shelf.Utf8.RuneCount
import Derived.Shelf.LaysM
import Derived.Shelf.Strconv.Clone
import Derived.Shelf.Strings.Search1
import Derived.Shelf.Strings.Search2
import Derived.Shelf.Strings.Search3
import Derived.Shelf.Strings.Cut
import Derived.Shelf.Strings.Count
import Derived.Shelf.Strings.Shaped
import Derived.Shelf.Strings.Prefix
import Derived.Shelf.Strings.Split
import Derived.Shelf.Strings.RuneCount
import Derived.Shelf.Slices.Turned
import Derived.Deep.WholeRow
import Derived.Laws.EntriesVeiled
import Derived.RangeFuncRecord
import Derived.RangeFuncNested
import Derived.RangeFuncCalls
import Derived.RangeFuncLeaves
import Derived.RecoverIn
import Derived.OwnWalkIn
import Derived.TacticsInMore
import Derived.LoopNIn
import Derived.LoopIn
import Derived.Deep.AppendLies
import Derived.Maps.OwnSet
import Derived.StillTailTactics
import Derived.WalkSmall
import Derived.Carry
import Derived.Recover
import Derived.Defers
import Derived.RegionDies
namespace Go.Proofs.YtgjijidlaghlmaaGreatDoor
theorem qh {p : Prop} (h : p) : RowKit.Hid p := Lib.hid h
end Go.Proofs.YtgjijidlaghlmaaGreatDoor
namespace Go.Proofs.YtgjijidlaghlmaaGreatDoor
open Go.RowKit
inductive Nd where
 | mk (k:Int) (s:ByteArray) (l:List Nd)
mutual
def Nd.sz:Nd→Nat
 | .mk _ _ l=>1+Nd.szL l
def Nd.szL:List Nd→Nat
 | []=>0
 | a :: l=>Nd.sz a+Nd.szL l
end
theorem szL_get:∀ (l:List Nd) (i:Nat) (h:i < l.length),(l[i]).sz≤Nd.szL l
 | a :: l,0,_=>by simp only [List.getElem_cons_zero,Nd.szL];omega
 | a :: l,i+1,h=>by
  simp only [List.getElem_cons_succ,Nd.szL]
  have:=szL_get l i (by simpa using h)
  omega
theorem Nd.kid_lt (k:Int) (s:ByteArray) (l:List Nd) (i:Nat) (h:i < l.length):(l[i]).sz < (Nd.mk k s l).sz:=by
 have:=szL_get l i h
 simp only [Nd.sz]
 omega
inductive NdR (w:World):Nd→Value→Value→Value→Prop
 | mk (k:Int) (s:ByteArray) (l:List Nd) (a:Option Addr) (cap b o:Nat) (f0 f1 f2:Nat→Value) (hs:s.size≤maxLen) (hl:l.length≤maxLen) (hc:l.length≤cap)
   (ha:l≠[]→a=some ⟨b,o,none⟩)
   (h0:∀ i,i < l.length→w.cell? ⟨b,o+i*3,none⟩=some (f0 i))
   (h1:∀ i,i < l.length→w.cell? ⟨b,o+i*3+1,none⟩=some (f1 i))
   (h2:∀ i,i < l.length→w.cell? ⟨b,o+i*3+2,none⟩=some (f2 i))
   (hr:∀ i (hi:i < l.length),NdR w l[i] (f0 i) (f1 i) (f2 i)):NdR w (.mk k s l) (.int .i64 k) (.string s) (.slice a l.length cap)
theorem lt_of_cell {w:World} {b o:Nat} {v:Value} (h:w.cell? ⟨b,o,none⟩=some v):b < w.heap.size:=by
 have:=World.block_lt_of_cell? w ⟨b,o,none⟩ h
 exact this
theorem NdR.later {w w':World} (hb:Below w.heap.size w w') {t:Nd} {v0 v1 v2:Value} (h:NdR w t v0 v1 v2):NdR w' t v0 v1 v2:=by
 induction h with
 | mk k s l a cap b o f0 f1 f2 hs hl hc ha h0 h1 h2 _ ih =>
  exact .mk k s l a cap b o f0 f1 f2 hs hl hc ha
   (fun i hi=>(hb.cell (p:=⟨b,o+i*3,none⟩) (lt_of_cell (h0 i hi))).trans (h0 i hi))
   (fun i hi=>(hb.cell (p:=⟨b,o+i*3+1,none⟩) (lt_of_cell (h1 i hi))).trans (h1 i hi))
   (fun i hi=>(hb.cell (p:=⟨b,o+i*3+2,none⟩) (lt_of_cell (h2 i hi))).trans (h2 i hi)) ih
theorem NdR.form {w:World} {t:Nd} {v0 v1 v2:Value} (h:NdR w t v0 v1 v2):∃ k s l a cap,t = .mk k s l∧v0 = .int .i64 k∧v1 = .string s∧v2 = .slice a l.length cap∧s.size≤maxLen∧l.length≤maxLen:=by
 cases h with
 | mk k s l a cap b o f0 f1 f2 hs hl hc ha h0 h1 h2 hr=>exact ⟨k,s,l,a,cap,rfl,rfl,rfl,rfl,hs,hl⟩
theorem NdR.cap {w:World} {k:Int} {s:ByteArray} {l:List Nd} {v0 v1:Value} {a:Option Addr} {n cap:Nat} (h:NdR w (.mk k s l) v0 v1 (.slice a n cap)):l.length≤cap:=by
 cases h with
 | mk k s l a cap b o f0 f1 f2 hs hl hc ha h0 h1 h2 hr=>exact hc
theorem NdR.kid {w:World} {k:Int} {s:ByteArray} {l:List Nd} {v0 v1:Value} {a:Option Addr} {n cap:Nat} (h:NdR w (.mk k s l) v0 v1 (.slice a n cap)) (i:Nat) (hi:i < l.length) :
  ∃ (b o:Nat) (k':Int) (s':ByteArray) (l':List Nd) (a':Option Addr) (cap':Nat),a=some ⟨b,o,none⟩∧l[i] = .mk k' s' l' ∧
   w.cell? ⟨b,o+i*3,none⟩=some (.int .i64 k')∧w.cell? ⟨b,o+i*3+1,none⟩=some (.string s')∧w.cell? ⟨b,o+i*3+2,none⟩=some (.slice a' l'.length cap') ∧
   NdR w (.mk k' s' l') (.int .i64 k') (.string s') (.slice a' l'.length cap'):=by
 cases h with
 | mk _ _ _ _ _ b o f0 f1 f2 hs hl hc ha h0 h1 h2 hr =>
  have hk:=hr i hi
  obtain ⟨k',s',l',a',cap',e,e0,e1,e2,_,_⟩:=hk.form
  rw [e,e0,e1,e2] at hk
  exact ⟨b,o,k',s',l',a',cap',ha (by rintro rfl;simp at hi),e,(h0 i hi).trans (congrArg some e0),(h1 i hi).trans (congrArg some e1),(h2 i hi).trans (congrArg some e2),hk⟩
mutual
def sameN:Nd→Nd→Bool
 | .mk k s l,.mk k' s' l'=>(k==k' && s.toList==s'.toList) && sameL l l'
def sameL:List Nd→List Nd→Bool
 | [],[]=>true
 | a :: l,b :: m=>sameN a b && sameL l m
 | _,_=>false
end
theorem sameL_len:∀ (l m:List Nd),l.length≠m.length→sameL l m=false
 | [],[],h=>absurd rfl h
 | [],_ :: _,_=>by simp [sameL]
 | _ :: _,[],_=>by simp [sameL]
 | a :: l,b :: m,h=>by simp only [sameL];rw [sameL_len l m (by simpa using h),Bool.and_false]
theorem sameL_step {l m:List Nd} {k:Nat} (h:k < l.length) (h2:k < m.length):sameL (l.drop k) (m.drop k)=(sameN l[k] m[k] && sameL (l.drop (k+1)) (m.drop (k+1))):=by
 rw [List.drop_eq_getElem_cons h,List.drop_eq_getElem_cons h2]
 simp only [sameL]
theorem sameL_end {l m:List Nd} {k:Nat} (h:l.length≤k) (h2:m.length≤k):sameL (l.drop k) (m.drop k)=true:=by
 rw [List.drop_of_length_le h,List.drop_of_length_le h2];simp only [sameL]
end Go.Proofs.YtgjijidlaghlmaaGreatDoor
namespace Go.Proofs.YtgjijidlaghlmaaGreatDoor
namespace Lx
abbrev Bs:=List UInt8
def small (c:UInt8):Bool:=decide (97≤c.toNat) && decide (c.toNat≤122)
def capital (c:UInt8):Bool:=decide (65≤c.toNat) && decide (c.toNat≤90)
def part (c:UInt8):Bool:=small c || capital c || (decide (48≤c.toNat) && decide (c.toNat≤57)) || decide (c.toNat=95) || decide (c.toNat=39)
def signB (c:UInt8):Bool:=[42,38,43,33,123,125,40,41,46,44,58,92].contains c
def blank (c:UInt8):Bool:=decide (c.toNat=32) || decide (c.toNat=9) || decide (c.toNat=10)
def words:List Bs:=[
 [116,121,112,101],[99,111,110,115,116],[112,114,101,100],[102,97,99,116],[108,97,115,116,105,110,103],[109,111,100,101],
 [114,117,108,101],[111,110,99,101],[109,111,115,116],[113,117,101,114,121],[109,111,100,117,108,101],[117,115,101],
 [101,120,112,111,114,116],[97,108,108],[101,120],[111,110,101],[116,111,112]]
def runLen (r:Bs):Nat:=(r.takeWhile part).length
def runTo (l:Bs) (i:Nat):Nat:=i+runLen (l.drop i)
def skipC:Bool→Bs→Nat
 | _,[]=>0
 | true,c :: r=>if c.toNat=10 then 1+skipC false r else 1+skipC true r
 | false,c :: r=>if blank c then 1+skipC false r else if c.toNat=37 then 1+skipC true r else 0
def skipTo (l:Bs) (i:Nat):Nat:=i+skipC false (l.drop i)
def lineTo (l:Bs) (i:Nat):Nat:=i+((l.drop i).takeWhile (fun c=>decide (c.toNat≠10))).length
def nameTo (l:Bs) (i:Nat):Nat :=
 let j:=runTo l i
 if l[j]?=some 64∧(l[j+1]?.map small)=some true then runTo l (j+1) else j
def slice (l:Bs) (i j:Nat):Bs:=(l.drop i).take (j - i)
def pre (l:Bs) (i:Nat) (p:Bs):Bool:=p.isPrefixOf (l.drop i)
def isLong (l:Bs) (i:Nat):Bool :=
 (pre l i [45,111] && runTo l (i+1)==i+2) || pre l i [45,62] || pre l i [61,62] || pre l i [60,61]
theorem pre_two {l:Bs} {i:Nat} {a b:UInt8} (h:pre l i [a,b]=true):l[i]?=some a∧l[i+1]?=some b:=by
 unfold pre at h
 rw [List.isPrefixOf_iff_prefix] at h
 obtain ⟨r,hr⟩:=h
 have h0:(l.drop i)[0]?=some a:=by rw [←hr];rfl
 have h1:(l.drop i)[1]?=some b:=by rw [←hr];rfl
 rw [List.getElem?_drop] at h0 h1
 exact ⟨by simpa using h0,h1⟩
def tokAt (l:Bs) (i:Nat):Option (Nat×Nat) :=
 match l[i]? with
 | none=>none
 | some c =>
  if small c then
   let j:=nameTo l i
   if slice l i j=[111]∧l[j]?=some 45 then some (3,j+1)
   else if words.contains (slice l i j) then some (4,j) else some (1,j)
  else if capital c then some (2,runTo l i)
  else if signB c then some (3,i+1)
  else if isLong l i then some (3,i+2) else none
structure Tok where
 kind:Nat
 text:Bs
 pos:Nat
 deriving DecidableEq,Repr
inductive Res where
 | toks (l:List Tok)
 | bad (pos:Nat) (err:Nat)
 deriving DecidableEq,Repr
def scanT (l:Bs):Nat→List Tok→Nat→Res
 | 0,pre,_=>.toks pre
 | f+1,pre,i =>
  if l.length≤i then .toks pre
  else match tokAt l i with
   | none=>.bad i 10
   | some (k,j) =>
    if pre.length=6000 then .bad i 2
    else if 40 < j - i then .bad i 11
    else scanT l f (pre++[⟨k,slice l i j,i⟩]) (skipTo l j)
def scan (l:Bs):Res:=if 20000 < l.length then .bad 0 2 else scanT l (l.length+1) [] (skipTo l 0)
theorem runLen_le (r:Bs):runLen r≤r.length:=by
 unfold runLen;exact (List.takeWhile_prefix _).length_le
theorem runTo_le {l:Bs} {i:Nat} (h:i≤l.length):i≤runTo l i∧runTo l i≤l.length:=by
 unfold runTo;have:=runLen_le (l.drop i);simp at this;omega
theorem runLen_cons (c:UInt8) (r:Bs):runLen (c :: r)=if part c then 1+runLen r else 0:=by
 unfold runLen;rw [List.takeWhile_cons];split <;> simp [Nat.add_comm]
theorem runTo_step {l:Bs} {k:Nat} (h:k < l.length):runTo l k=if part l[k] then runTo l (k+1) else k:=by
 unfold runTo;rw [List.drop_eq_getElem_cons h,runLen_cons];split <;> omega
theorem runTo_end {l:Bs} {k:Nat} (h:l.length≤k):runTo l k=k:=by
 unfold runTo;rw [List.drop_of_length_le h];rfl
theorem skipC_le (b:Bool) (r:Bs):skipC b r≤r.length:=by
 induction r generalizing b with
 | nil=>simp [skipC]
 | cons c r ih =>
  cases b
  ·simp only [skipC,List.length_cons]
   split
   ·have:=ih false;omega
   ·split
    ·have:=ih true;omega
    ·omega
  ·simp only [skipC,List.length_cons]
   split
   ·have:=ih false;omega
   ·have:=ih true;omega
theorem skipTo_le {l:Bs} {i:Nat} (h:i≤l.length):i≤skipTo l i∧skipTo l i≤l.length:=by
 unfold skipTo;have:=skipC_le false (l.drop i);simp at this;omega
theorem skipTo_blank {l:Bs} {k:Nat} (h:k < l.length) (hb:blank l[k]=true):skipTo l k=skipTo l (k+1):=by
 unfold skipTo;rw [List.drop_eq_getElem_cons h];simp only [skipC,hb,if_true];omega
theorem skipTo_stop {l:Bs} {k:Nat} (h:k < l.length) (hb:blank l[k]=false) (hp:l[k].toNat≠37):skipTo l k=k:=by
 unfold skipTo;rw [List.drop_eq_getElem_cons h];simp [skipC,hb,hp]
theorem skipTo_end {l:Bs} {k:Nat} (h:l.length≤k):skipTo l k=k:=by
 unfold skipTo;rw [List.drop_of_length_le h];rfl
theorem skipC_true (r:Bs):skipC true r=(r.takeWhile (fun c=>decide (c.toNat≠10))).length+skipC false (r.drop (r.takeWhile (fun c=>decide (c.toNat≠10))).length):=by
 induction r with
 | nil=>simp [skipC]
 | cons c r ih =>
  by_cases h:c.toNat=10
  ·simp [skipC,h,blank]
  ·have e:(c :: r).takeWhile (fun c=>decide (c.toNat≠10))=c :: r.takeWhile (fun c=>decide (c.toNat≠10)):=by
    rw [List.takeWhile_cons,if_pos (by simp [h])]
   rw [e]
   simp only [skipC,List.length_cons,List.drop_succ_cons]
   rw [if_neg h,ih];omega
theorem lineTo_le {l:Bs} {i:Nat} (h:i≤l.length):i≤lineTo l i∧lineTo l i≤l.length:=by
 unfold lineTo;have:=(List.takeWhile_prefix (p:=fun c:UInt8=>decide (c.toNat≠10)) (l:=l.drop i)).length_le;simp at this ⊢;omega
theorem skipTo_comment {l:Bs} {k:Nat} (h:k < l.length) (hp:l[k].toNat=37):skipTo l k=skipTo l (lineTo l k)∧k < lineTo l k:=by
 have e:lineTo l k=k+1+((l.drop (k+1)).takeWhile (fun c=>decide (c.toNat≠10))).length:=by
  unfold lineTo;rw [List.drop_eq_getElem_cons h,List.takeWhile_cons];simp [hp];omega
 refine ⟨?_,by omega⟩
 have hb:blank l[k]=false:=by simp [blank,hp]
 have:skipTo l k=k+(1+skipC true (l.drop (k+1))):=by
  unfold skipTo;rw [List.drop_eq_getElem_cons h];simp [skipC,hb,hp]
 rw [this,skipC_true]
 unfold skipTo;rw [e,List.drop_drop];omega
theorem nameTo_le {l:Bs} {i:Nat} (h:i≤l.length):i≤nameTo l i∧nameTo l i≤l.length:=by
 unfold nameTo
 have h1:=runTo_le h
 simp only
 split
 ·rename_i hc
  have:runTo l i < l.length:=by
   rcases Nat.lt_or_ge (runTo l i) l.length with h | h
   ·exact h
   ·rw [List.getElem?_eq_none h] at hc;simp at hc
  have:=runTo_le (l:=l) (i:=runTo l i+1) (by omega)
  omega
 ·exact h1
theorem nameTo_lt {l:Bs} {i:Nat} (h:i < l.length) (hp:part l[i]=true):i < nameTo l i:=by
 have h0:i < runTo l i:=by rw [runTo_step h,if_pos hp];have:=runTo_le (l:=l) (i:=i+1) (by omega);omega
 unfold nameTo
 simp only
 split
 ·rename_i hc
  have:runTo l i < l.length:=by
   rcases Nat.lt_or_ge (runTo l i) l.length with h | h
   ·exact h
   ·rw [List.getElem?_eq_none h] at hc;simp at hc
  have:=runTo_le (l:=l) (i:=runTo l i+1) (by omega)
  omega
 ·exact h0
theorem small_part {c:UInt8} (h:small c=true):part c=true:=by simp [part,h]
theorem capital_part {c:UInt8} (h:capital c=true):part c=true:=by simp [part,h]
theorem tokAt_lt {l:Bs} {i k j:Nat} (h:tokAt l i=some (k,j)):i < j∧j≤l.length:=by
 have hi:i < l.length:=by
  rcases Nat.lt_or_ge i l.length with h' | h'
  ·exact h'
  ·simp [tokAt,List.getElem?_eq_none h'] at h
 have hlen:∀ {j:Nat} {c:UInt8},l[j]?=some c→j < l.length:=fun {j c} h=>(List.getElem?_eq_some_iff.1 h).1
 simp only [tokAt,List.getElem?_eq_getElem hi] at h
 split at h
 ·rename_i hs
  have h1:=nameTo_lt hi (small_part hs)
  have h2:=nameTo_le (l:=l) (i:=i) (by omega)
  split at h
  ·rename_i hc;have:=hlen hc.2;simp at h;omega
  ·split at h <;> (simp at h;omega)
 ·split at h
  ·rename_i hc
   have:i < runTo l i:=by rw [runTo_step hi,if_pos (capital_part hc)];have:=runTo_le (l:=l) (i:=i+1) (by omega);omega
   have:=runTo_le (l:=l) (i:=i) (by omega)
   simp at h;omega
  ·split at h
   ·simp at h;omega
   ·split at h
    ·rename_i hl
     have:i+1 < l.length:=by
      simp only [isLong,Bool.or_eq_true,Bool.and_eq_true,beq_iff_eq] at hl
      rcases hl with ((⟨h2,_⟩ | h2) | h2) | h2 <;> exact hlen (pre_two h2).2
     simp at h;omega
    ·simp at h
end Lx
end Go.Proofs.YtgjijidlaghlmaaGreatDoor
namespace Go.Proofs
open Go.Shelf
def Tryz.lays137_ren:Go.Shelf.Ren:=⟨fun | 137=>215 | 217=>246 | 266=>264 | n=>n,fun | 9=>9 | 5=>5 | 3=>3 | n=>n,fun | n=>n⟩
theorem Tryz.lays137:Go.Proofs.Lays.n137 Tryz.prog Tryz.lays137_ren:={
 mixed:=by kernel_rfl
 f137:=Tryz.func215.trans (congrArg some (by kernel_rfl))
 f217:=Tryz.func246.trans (congrArg some (by kernel_rfl))
 f266:=Tryz.func264.trans (congrArg some (by kernel_rfl))
 t3:=Tryz.underlying3
 a3:=Tryz.isAgg3
 z3:=Tryz.sizeOf3
 v3:=Tryz.zeroValue3
 t5:=Tryz.underlying5
 a5:=Tryz.isAgg5
 z5:=Tryz.sizeOf5
 v5:=Tryz.zeroValue5
 t9:=Tryz.underlying9
 a9:=Tryz.isAgg9
 z9:=Tryz.sizeOf9
 v9:=Tryz.zeroValue9 }
open Go.RowKit in
theorem Tryz.strings_IndexByte (s:ByteArray) (c:Int) (w:World) :
  Calls Tryz.prog 215 #[.string s,.int .u8 c] w fun e w'=>e = .returned (.int .i64 (Lib.indexByte s.data.toList c.toNat.toUInt8))∧w'=w:=Any.strings_IndexByte Tryz.lays137 s c w
def Tryz.laysM316_ren:Go.Shelf.Ren:=⟨fun | 316=>214 | n=>n,fun | 9=>9 | 3=>3 | 4=>4 | 37=>149 | 0=>0 | 127=>193 | 5=>5 | n=>n,fun | n=>n⟩
theorem Tryz.laysM316:Go.Proofs.LaysM.n316 Tryz.prog Tryz.laysM316_ren:={
 mixed:=by kernel_rfl
 f316:=Tryz.func214.trans (congrArg some (by kernel_rfl))
 t0:=Tryz.underlying0
 a0:=Tryz.isAgg0
 z0:=Tryz.sizeOf0
 v0:=Tryz.zeroValue0
 t3:=Tryz.underlying3
 a3:=Tryz.isAgg3
 z3:=Tryz.sizeOf3
 v3:=Tryz.zeroValue3
 t4:=Tryz.underlying4
 a4:=Tryz.isAgg4
 z4:=Tryz.sizeOf4
 v4:=Tryz.zeroValue4
 t9:=Tryz.underlying9
 a9:=Tryz.isAgg9
 z9:=Tryz.sizeOf9
 v9:=Tryz.zeroValue9
 t37:=Tryz.underlying149
 a37:=Tryz.isAgg149
 z37:=Tryz.sizeOf149
 v37:=Tryz.zeroValue149
 t127:=Tryz.underlying193
 a127:=Tryz.isAgg193
 z127:=Tryz.sizeOf193
 v127:=Tryz.zeroValue193
 t5:=Tryz.underlying5
 a5:=Tryz.isAgg5
 z5:=Tryz.sizeOf5
 v5:=Tryz.zeroValue5
 i0:=by kernel_rfl
 i3:=by kernel_rfl
 i4:=by kernel_rfl
 i5:=by kernel_rfl
 i9:=by kernel_rfl
 i37:=by kernel_rfl
 i127:=by kernel_rfl }
open Go.RowKit in
theorem Tryz.stringslite_Clone (s:ByteArray) (w:World) (hlim:s.size≤281474976710656) :
  Calls Tryz.prog 214 #[.string s] w fun e w'=>e = .returned (.string s)∧Below w.heap.size w w':=Any.stringslite_Clone Tryz.laysM316 s w hlim
def Tryz.lays219_ren:Go.Shelf.Ren:=⟨fun | 219=>243 | 217=>246 | 225=>261 | 224=>262 | 267=>263 | 266=>264 | 314=>267 | n=>n,fun | 9=>9 | 3=>3 | 4=>4 | 5=>5 | 46=>224 | 146=>230 | 51=>229 | n=>n,fun | 1=>2 | n=>n⟩
theorem Tryz.lays219:Go.Proofs.Lays.n219 Tryz.prog Tryz.lays219_ren:={
 mixed:=by kernel_rfl
 f217:=Tryz.func246.trans (congrArg some (by kernel_rfl))
 f219:=Tryz.func243.trans (congrArg some (by kernel_rfl))
 f224:=Tryz.func262.trans (congrArg some (by kernel_rfl))
 f225:=Tryz.func261.trans (congrArg some (by kernel_rfl))
 f266:=Tryz.func264.trans (congrArg some (by kernel_rfl))
 f267:=Tryz.func263.trans (congrArg some (by kernel_rfl))
 f314:=Tryz.func267.trans (congrArg some (by kernel_rfl))
 t3:=Tryz.underlying3
 a3:=Tryz.isAgg3
 z3:=Tryz.sizeOf3
 v3:=Tryz.zeroValue3
 t4:=Tryz.underlying4
 a4:=Tryz.isAgg4
 z4:=Tryz.sizeOf4
 v4:=Tryz.zeroValue4
 t5:=Tryz.underlying5
 a5:=Tryz.isAgg5
 z5:=Tryz.sizeOf5
 v5:=Tryz.zeroValue5
 t9:=Tryz.underlying9
 a9:=Tryz.isAgg9
 z9:=Tryz.sizeOf9
 v9:=Tryz.zeroValue9
 t46:=Tryz.underlying224
 a46:=Tryz.isAgg224
 z46:=Tryz.sizeOf224
 v46:=Tryz.zeroValue224
 t51:=Tryz.underlying229
 a51:=Tryz.isAgg229
 z51:=Tryz.sizeOf229
 v51:=Tryz.zeroValue229
 t146:=Tryz.underlying230
 a146:=Tryz.isAgg230
 z146:=Tryz.sizeOf230
 v146:=Tryz.zeroValue230
 g1:=by kernel_rfl }
open Go.RowKit Go.Lib in
theorem Tryz.stringslite_Index_one (s:ByteArray) (c:UInt8) (w:World) :
  Calls Tryz.prog 243 #[.string s,.string ⟨#[c]⟩] w fun e w'=>e = .returned (.int .i64 (Lib.indexByte s.data.toList c))∧w'=w:=Any.stringslite_Index_one Tryz.lays219 s c w
def Tryz.lays206_ren:Go.Shelf.Ren:=⟨fun | 206=>265 | n=>n,fun | 9=>9 | 4=>4 | 3=>3 | n=>n,fun | n=>n⟩
def Tryz.lays99_ren:Go.Shelf.Ren:=⟨fun | 99=>250 | 206=>265 | n=>n,fun | 9=>9 | 4=>4 | 3=>3 | n=>n,fun | n=>n⟩
theorem Tryz.lays99:Go.Proofs.Lays.n99 Tryz.prog Tryz.lays99_ren:={
 mixed:=by kernel_rfl
 f99:=Tryz.func250.trans (congrArg some (by kernel_rfl))
 f206:=Tryz.func265.trans (congrArg some (by kernel_rfl))
 t3:=Tryz.underlying3
 a3:=Tryz.isAgg3
 z3:=Tryz.sizeOf3
 v3:=Tryz.zeroValue3
 t4:=Tryz.underlying4
 a4:=Tryz.isAgg4
 z4:=Tryz.sizeOf4
 v4:=Tryz.zeroValue4
 t9:=Tryz.underlying9
 a9:=Tryz.isAgg9
 z9:=Tryz.sizeOf9
 v9:=Tryz.zeroValue9 }
open Go.RowKit Go.Lib in
theorem Tryz.strings_HasPrefix (s p:ByteArray) (w:World) :
  Calls Tryz.prog 250 #[.string s,.string p] w fun e w'=>e = .returned (.bool (Lib.hasPrefix s.data.toList p.data.toList))∧w'=w:=Any.strings_HasPrefix Tryz.lays99 s p w
def Tryz.lays110_ren:Go.Shelf.Ren:=⟨fun | 110=>101 | 109=>165 | n=>n,fun | 31=>45 | 9=>9 | 4=>4 | 3=>3 | 0=>0 | n=>n,fun | n=>n⟩
theorem Tryz.lays110:Go.Proofs.Lays.n110 Tryz.prog Tryz.lays110_ren:={
 mixed:=by kernel_rfl
 f109:=Tryz.func165.trans (congrArg some (by kernel_rfl))
 f110:=Tryz.func101.trans (congrArg some (by kernel_rfl))
 t0:=Tryz.underlying0
 a0:=Tryz.isAgg0
 z0:=Tryz.sizeOf0
 v0:=Tryz.zeroValue0
 t3:=Tryz.underlying3
 a3:=Tryz.isAgg3
 z3:=Tryz.sizeOf3
 v3:=Tryz.zeroValue3
 t4:=Tryz.underlying4
 a4:=Tryz.isAgg4
 z4:=Tryz.sizeOf4
 v4:=Tryz.zeroValue4
 t9:=Tryz.underlying9
 a9:=Tryz.isAgg9
 z9:=Tryz.sizeOf9
 v9:=Tryz.zeroValue9
 t31:=Tryz.underlying45
 a31:=Tryz.isAgg45
 z31:=Tryz.sizeOf45
 v31:=Tryz.zeroValue45 }
open Go.Lib in
theorem Tryz.slices_Contains_string (b off n c:Nat) (zs:List ByteArray) (x:ByteArray) (w:World) (hz:n≤zs.length) (hbig:n≤9223372036854775807) (hc:∀ j,j < zs.length→w.cell? ⟨b,off+j,none⟩=some (.string (zs.getD j ByteArray.empty))) :
  Calls Tryz.prog 101 #[.slice (some ⟨b,off,none⟩) n c,.string x] w fun e w'=>e = .returned (.bool (Lib.containsS (zs.take n) x))∧w'=w:=Any.slices_Contains_string Tryz.lays110 b off n c zs x w hz hbig hc
open Go.Lib in
theorem Tryz.slices_Contains_string_empty (a:Option Addr) (c:Nat) (x:ByteArray) (w:World) :
  Calls Tryz.prog 101 #[.slice a 0 c,.string x] w fun e w'=>e = .returned (.bool false)∧w'=w:=Any.slices_Contains_string_empty Tryz.lays110 a c x w
end Go.Proofs
namespace Go.Proofs.YtgjijidlaghlmaaGreatDoor
open Go.RowKit
def bs (s:ByteArray):Lx.Bs:=s.data.toList
theorem bs_get {s:ByteArray} {k:Nat} (h:k < s.size):(bs s)[k]'(by simpa [bs] using h)=s[k]:=by simp [bs];rfl
theorem ret_int {k:IntKind} {a b:Int} (h:a=b):Ending.returned (.int k a)=Ending.returned (.int k b):=by rw [h]
theorem byte_lt (c:UInt8):(c.toNat:Int) < 256:=by have:=c.toNat_lt;omega
theorem bs_len (s:ByteArray):(bs s).length=s.size:=by simp [bs]
set_option maxRecDepth 100000 in
set_option maxHeartbeats 400000 in
theorem nameEnd_any (s:ByteArray) (bT bN:Nat) (i:Nat) (w:World) (hs:s.size≤maxLen) (hi:i≤s.size)
  (hT:w.cell? ⟨bT,0,none⟩=some (.string s))
  (hN:∀ c:UInt8,w.cell? ⟨bN,c.toNat,none⟩=some (.bool (Lx.part c))) :
  Calls Tryz.prog 251 #[.int .i64 i,.pointer (some ⟨bT,0,none⟩),.pointer (some ⟨bN,0,none⟩)] w fun e w'=>e = .returned (.int .i64 (Lx.runTo (bs s) i))∧w=w':=by
 unfold maxLen at hs
 go_enter Tryz.func251,Tryz.ntmps251
 go_wp2
 go_loop [0] (fun a=>∃ k:Nat,k≤s.size∧a = .int .i64 k∧Lx.runTo (bs s) i=Lx.runTo (bs s) k) (fun a=>s.size - (intOf a).toNat)
 case atStart=>exact ⟨i,hi,rfl,rfl⟩
 case round =>
  obtain ⟨k,hk,rfl,hrun⟩:=hrel
  have Hrun:=qh hrun;clear hrun
  have hby:=byte_lt
  by_cases hlt:k < s.size
  ·go_wp2
   ·have hp:Lx.part s[k]=true:=by assumption
    go_round
    case rel=>exact ⟨k+1,by omega,by go_num,by rw [Hrun.out,Lx.runTo_step (by rw [bs_len];exact hlt),bs_get hlt,if_pos hp]⟩
    case measure=>simp [intOf];omega
   ·have hp:Lx.part s[k]=false:=by assumption
    go_ret
    exact ⟨ret_int (by rw [Hrun.out,Lx.runTo_step (by rw [bs_len];exact hlt),bs_get hlt,hp];simp),rfl⟩
  ·go_wp2
   go_ret
   exact ⟨ret_int (by rw [Hrun.out,Lx.runTo_end (by rw [bs_len];omega)]),rfl⟩
theorem nameEnd_int (s:ByteArray) (bT bN:Nat) (i:Int) (w:World) (hs:s.size≤maxLen) (h0:0≤i) (hi:i≤s.size)
  (hT:w.cell? ⟨bT,0,none⟩=some (.string s))
  (hN:∀ c:UInt8,w.cell? ⟨bN,c.toNat,none⟩=some (.bool (Lx.part c))) :
  Calls Tryz.prog 251 #[.int .i64 i,.pointer (some ⟨bT,0,none⟩),.pointer (some ⟨bN,0,none⟩)] w fun e w'=>e = .returned (.int .i64 (Lx.runTo (bs s) i.toNat))∧w=w':=by
 obtain ⟨n,rfl⟩:=Int.eq_ofNat_of_zero_le h0
 exact nameEnd_any s bT bN n w hs (by omega) hT hN
theorem bs_extract (s:ByteArray) (i j:Nat):bs (s.extract i j)=Lx.slice (bs s) i j:=by
 simp [bs,Lx.slice,ByteArray.data_extract,List.extract_eq_take_drop]
theorem bs_extract_end (s:ByteArray) (i:Nat):bs (s.extract i s.size)=(bs s).drop i:=by
 rw [bs_extract,Lx.slice,List.take_of_length_le (by simp [bs_len])]
set_option maxRecDepth 100000 in
set_option maxHeartbeats 400000 in
theorem token_any (s:ByteArray) (t:Nat) (kd:Int) (i j:Nat) (w:World) (_hs:s.size≤maxLen) (hi:i≤j) (hj:j≤s.size)
  (hT:w.cell? ⟨t,0,none⟩=some (.string s)) :
  Calls Tryz.prog 248 #[.int .i64 kd,.int .i64 i,.int .i64 j,.pointer (some ⟨t,0,none⟩)] w fun e w' =>
   e = .returned (.agg #[.int .i64 kd,.string (s.extract i j),.int .i64 i])∧w'=w.alloc (.cells #[.int .i64 kd,.string (s.extract i j),.int .i64 i] 76):=by
 unfold maxLen at _hs
 have ht:=block_lt_of_cell hT
 simp only at ht
 go_enter Tryz.func248,Tryz.ntmps248
 go_wp2
 refine bodyPost_ret (v:=.agg #[.int .i64 kd,.string (s.extract i j),.int .i64 i]) (by simp [results,Tryz.results248,go_sem]) rfl ⟨rfl,rfl⟩
theorem token_int (s:ByteArray) (t:Nat) (kd:Int) (i j:Int) (w:World) (hs:s.size≤maxLen) (h0:0≤i) (hi:i≤j) (hj:j≤s.size)
  (hT:w.cell? ⟨t,0,none⟩=some (.string s)) :
  Calls Tryz.prog 248 #[.int .i64 kd,.int .i64 i,.int .i64 j,.pointer (some ⟨t,0,none⟩)] w fun e w' =>
   e = .returned (.agg #[.int .i64 kd,.string (s.extract i.toNat j.toNat),.int .i64 i])∧w'=w.alloc (.cells #[.int .i64 kd,.string (s.extract i.toNat j.toNat),.int .i64 i] 76):=by
 obtain ⟨n,rfl⟩:=Int.eq_ofNat_of_zero_le h0
 obtain ⟨m,rfl⟩:=Int.eq_ofNat_of_zero_le (show 0≤j by omega)
 exact token_any s t kd n m w hs (by omega) (by omega) hT
set_option maxRecDepth 100000 in
set_option maxHeartbeats 400000 in
theorem follows_any (s p:ByteArray) (t:Nat) (i:Nat) (w:World) (_hs:s.size≤maxLen) (hi:i≤s.size)
  (hT:w.cell? ⟨t,0,none⟩=some (.string s)) :
  Calls Tryz.prog 249 #[.int .i64 i,.string p,.pointer (some ⟨t,0,none⟩)] w fun e w' =>
   e = .returned (.bool (Lx.pre (bs s) i (bs p)))∧w=w':=by
 unfold maxLen at _hs
 go_enter Tryz.func249,Tryz.ntmps249
 go_wp2_with (go_at_call 250;refine (Tryz.strings_HasPrefix _ _ _).mono ?_;rintro e w' ⟨rfl,rfl⟩)
 go_ret
 have e1:List.take (s.size - i) (List.drop i s.data.toList)=(bs s).drop i:=List.take_of_length_le (by simp)
 exact ⟨congrArg (fun x=>Ending.returned (.bool (Lib.hasPrefix x (bs p)))) e1,rfl⟩
theorem follows_int (s p:ByteArray) (t:Nat) (i:Int) (w:World) (hs:s.size≤maxLen) (h0:0≤i) (hi:i≤s.size)
  (hT:w.cell? ⟨t,0,none⟩=some (.string s)) :
  Calls Tryz.prog 249 #[.int .i64 i,.string p,.pointer (some ⟨t,0,none⟩)] w fun e w' =>
   e = .returned (.bool (Lx.pre (bs s) i.toNat (bs p)))∧w=w':=by
 obtain ⟨n,rfl⟩:=Int.eq_ofNat_of_zero_le h0
 exact follows_any s p t n w hs (by omega) hT
end Go.Proofs.YtgjijidlaghlmaaGreatDoor
namespace Go.Proofs.YtgjijidlaghlmaaGreatDoor
open Go.RowKit
theorem small_max {n:Nat} (h:n≤20000):n≤maxLen:=by unfold maxLen;omega
set_option maxRecDepth 100000 in
set_option maxHeartbeats 400000 in
theorem isLong_1 (s:ByteArray) (t fo ne nm:Nat) (i:Nat) (w:World) (hs:s.size≤20000) (hi:i < s.size)
  (hT:w.cell? ⟨t,0,none⟩=some (.string s))
  (hN:∀ c:UInt8,w.cell? ⟨nm,c.toNat,none⟩=some (.bool (Lx.part c)))
  (hFo:w.cell? ⟨fo,0,none⟩=some (.func (.func 249) #[] #[.pointer (some ⟨t,0,none⟩)]))
  (hNe:w.cell? ⟨ne,0,none⟩=some (.func (.func 251) #[] #[.pointer (some ⟨t,0,none⟩),.pointer (some ⟨nm,0,none⟩)]))
  (h1:Lx.pre (bs s) i (bs ⟨#[45,111]⟩)=true) (h2:(((Lx.runTo (bs s) (i+1):Nat):Int)==(i:Int)+2)=true) :
  Calls Tryz.prog 253 #[.int .i64 i,.pointer (some ⟨fo,0,none⟩),.pointer (some ⟨ne,0,none⟩)] w fun e w' =>
   e = .returned (.bool true)∧w=w':=by
 have hm:=small_max hs
 go_enter Tryz.func253,Tryz.ntmps253
 go_wp2_with (first
  | (go_at_call 249;refine (follows_int s _ t i w hm (by omega) (by omega) hT).mono ?_;rintro e w' ⟨rfl,rfl⟩)
  | (go_at_call 251;refine (nameEnd_int s t nm (i+1) w hm (by omega) (by omega) hT hN).mono ?_;rintro e w' ⟨rfl,rfl⟩))
 go_ret
 exact ⟨rfl,rfl⟩
set_option maxRecDepth 100000 in
set_option maxHeartbeats 400000 in
theorem isLong_a1 (s:ByteArray) (t fo ne nm:Nat) (i:Nat) (w:World) (hs:s.size≤20000) (hi:i < s.size)
  (hT:w.cell? ⟨t,0,none⟩=some (.string s))
  (hN:∀ c:UInt8,w.cell? ⟨nm,c.toNat,none⟩=some (.bool (Lx.part c)))
  (hFo:w.cell? ⟨fo,0,none⟩=some (.func (.func 249) #[] #[.pointer (some ⟨t,0,none⟩)]))
  (hNe:w.cell? ⟨ne,0,none⟩=some (.func (.func 251) #[] #[.pointer (some ⟨t,0,none⟩),.pointer (some ⟨nm,0,none⟩)]))
  (h1:Lx.pre (bs s) i (bs ⟨#[45,111]⟩)=true) (h2:(((Lx.runTo (bs s) (i+1):Nat):Int)==(i:Int)+2)=false) (h3:Lx.pre (bs s) i (bs ⟨#[45,62]⟩)=true) :
  Calls Tryz.prog 253 #[.int .i64 i,.pointer (some ⟨fo,0,none⟩),.pointer (some ⟨ne,0,none⟩)] w fun e w' =>
   e = .returned (.bool true)∧w=w':=by
 have hm:=small_max hs
 go_enter Tryz.func253,Tryz.ntmps253
 go_wp2_with (first
  | (go_at_call 249;refine (follows_int s _ t i w hm (by omega) (by omega) hT).mono ?_;rintro e w' ⟨rfl,rfl⟩)
  | (go_at_call 251;refine (nameEnd_int s t nm (i+1) w hm (by omega) (by omega) hT hN).mono ?_;rintro e w' ⟨rfl,rfl⟩))
 go_ret
 exact ⟨rfl,rfl⟩
set_option maxRecDepth 100000 in
set_option maxHeartbeats 400000 in
theorem isLong_a2 (s:ByteArray) (t fo ne nm:Nat) (i:Nat) (w:World) (hs:s.size≤20000) (hi:i < s.size)
  (hT:w.cell? ⟨t,0,none⟩=some (.string s))
  (hN:∀ c:UInt8,w.cell? ⟨nm,c.toNat,none⟩=some (.bool (Lx.part c)))
  (hFo:w.cell? ⟨fo,0,none⟩=some (.func (.func 249) #[] #[.pointer (some ⟨t,0,none⟩)]))
  (hNe:w.cell? ⟨ne,0,none⟩=some (.func (.func 251) #[] #[.pointer (some ⟨t,0,none⟩),.pointer (some ⟨nm,0,none⟩)]))
  (h1:Lx.pre (bs s) i (bs ⟨#[45,111]⟩)=true) (h2:(((Lx.runTo (bs s) (i+1):Nat):Int)==(i:Int)+2)=false) (h3:Lx.pre (bs s) i (bs ⟨#[45,62]⟩)=false) (h4:Lx.pre (bs s) i (bs ⟨#[61,62]⟩)=true) :
  Calls Tryz.prog 253 #[.int .i64 i,.pointer (some ⟨fo,0,none⟩),.pointer (some ⟨ne,0,none⟩)] w fun e w' =>
   e = .returned (.bool true)∧w=w':=by
 have hm:=small_max hs
 go_enter Tryz.func253,Tryz.ntmps253
 go_wp2_with (first
  | (go_at_call 249;refine (follows_int s _ t i w hm (by omega) (by omega) hT).mono ?_;rintro e w' ⟨rfl,rfl⟩)
  | (go_at_call 251;refine (nameEnd_int s t nm (i+1) w hm (by omega) (by omega) hT hN).mono ?_;rintro e w' ⟨rfl,rfl⟩))
 go_ret
 exact ⟨rfl,rfl⟩
set_option maxRecDepth 100000 in
set_option maxHeartbeats 400000 in
theorem isLong_a3 (s:ByteArray) (t fo ne nm:Nat) (i:Nat) (w:World) (hs:s.size≤20000) (hi:i < s.size)
  (hT:w.cell? ⟨t,0,none⟩=some (.string s))
  (hN:∀ c:UInt8,w.cell? ⟨nm,c.toNat,none⟩=some (.bool (Lx.part c)))
  (hFo:w.cell? ⟨fo,0,none⟩=some (.func (.func 249) #[] #[.pointer (some ⟨t,0,none⟩)]))
  (hNe:w.cell? ⟨ne,0,none⟩=some (.func (.func 251) #[] #[.pointer (some ⟨t,0,none⟩),.pointer (some ⟨nm,0,none⟩)]))
  (h1:Lx.pre (bs s) i (bs ⟨#[45,111]⟩)=true) (h2:(((Lx.runTo (bs s) (i+1):Nat):Int)==(i:Int)+2)=false) (h3:Lx.pre (bs s) i (bs ⟨#[45,62]⟩)=false) (h4:Lx.pre (bs s) i (bs ⟨#[61,62]⟩)=false) :
  Calls Tryz.prog 253 #[.int .i64 i,.pointer (some ⟨fo,0,none⟩),.pointer (some ⟨ne,0,none⟩)] w fun e w' =>
   e = .returned (.bool (Lx.pre (bs s) i (bs ⟨#[60,61]⟩)))∧w=w':=by
 have hm:=small_max hs
 go_enter Tryz.func253,Tryz.ntmps253
 go_wp2_with (first
  | (go_at_call 249;refine (follows_int s _ t i w hm (by omega) (by omega) hT).mono ?_;rintro e w' ⟨rfl,rfl⟩)
  | (go_at_call 251;refine (nameEnd_int s t nm (i+1) w hm (by omega) (by omega) hT hN).mono ?_;rintro e w' ⟨rfl,rfl⟩))
 go_ret
 exact ⟨rfl,rfl⟩
set_option maxRecDepth 100000 in
set_option maxHeartbeats 400000 in
theorem isLong_b1 (s:ByteArray) (t fo ne nm:Nat) (i:Nat) (w:World) (hs:s.size≤20000) (hi:i < s.size)
  (hT:w.cell? ⟨t,0,none⟩=some (.string s))
  (_hN:∀ c:UInt8,w.cell? ⟨nm,c.toNat,none⟩=some (.bool (Lx.part c)))
  (hFo:w.cell? ⟨fo,0,none⟩=some (.func (.func 249) #[] #[.pointer (some ⟨t,0,none⟩)]))
  (_hNe:w.cell? ⟨ne,0,none⟩=some (.func (.func 251) #[] #[.pointer (some ⟨t,0,none⟩),.pointer (some ⟨nm,0,none⟩)]))
  (h1:Lx.pre (bs s) i (bs ⟨#[45,111]⟩)=false) (h3:Lx.pre (bs s) i (bs ⟨#[45,62]⟩)=true) :
  Calls Tryz.prog 253 #[.int .i64 i,.pointer (some ⟨fo,0,none⟩),.pointer (some ⟨ne,0,none⟩)] w fun e w' =>
   e = .returned (.bool true)∧w=w':=by
 have hm:=small_max hs
 go_enter Tryz.func253,Tryz.ntmps253
 go_wp2_with (first
  | (go_at_call 249;refine (follows_int s _ t i w hm (by omega) (by omega) hT).mono ?_;rintro e w' ⟨rfl,rfl⟩)
  | (go_at_call 251;refine (nameEnd_int s t nm (i+1) w hm (by omega) (by omega) hT hN).mono ?_;rintro e w' ⟨rfl,rfl⟩))
 go_ret
 exact ⟨rfl,rfl⟩
set_option maxRecDepth 100000 in
set_option maxHeartbeats 400000 in
theorem isLong_b2 (s:ByteArray) (t fo ne nm:Nat) (i:Nat) (w:World) (hs:s.size≤20000) (hi:i < s.size)
  (hT:w.cell? ⟨t,0,none⟩=some (.string s))
  (_hN:∀ c:UInt8,w.cell? ⟨nm,c.toNat,none⟩=some (.bool (Lx.part c)))
  (hFo:w.cell? ⟨fo,0,none⟩=some (.func (.func 249) #[] #[.pointer (some ⟨t,0,none⟩)]))
  (_hNe:w.cell? ⟨ne,0,none⟩=some (.func (.func 251) #[] #[.pointer (some ⟨t,0,none⟩),.pointer (some ⟨nm,0,none⟩)]))
  (h1:Lx.pre (bs s) i (bs ⟨#[45,111]⟩)=false) (h3:Lx.pre (bs s) i (bs ⟨#[45,62]⟩)=false) (h4:Lx.pre (bs s) i (bs ⟨#[61,62]⟩)=true) :
  Calls Tryz.prog 253 #[.int .i64 i,.pointer (some ⟨fo,0,none⟩),.pointer (some ⟨ne,0,none⟩)] w fun e w' =>
   e = .returned (.bool true)∧w=w':=by
 have hm:=small_max hs
 go_enter Tryz.func253,Tryz.ntmps253
 go_wp2_with (first
  | (go_at_call 249;refine (follows_int s _ t i w hm (by omega) (by omega) hT).mono ?_;rintro e w' ⟨rfl,rfl⟩)
  | (go_at_call 251;refine (nameEnd_int s t nm (i+1) w hm (by omega) (by omega) hT hN).mono ?_;rintro e w' ⟨rfl,rfl⟩))
 go_ret
 exact ⟨rfl,rfl⟩
set_option maxRecDepth 100000 in
set_option maxHeartbeats 400000 in
theorem isLong_b3 (s:ByteArray) (t fo ne nm:Nat) (i:Nat) (w:World) (hs:s.size≤20000) (hi:i < s.size)
  (hT:w.cell? ⟨t,0,none⟩=some (.string s))
  (_hN:∀ c:UInt8,w.cell? ⟨nm,c.toNat,none⟩=some (.bool (Lx.part c)))
  (hFo:w.cell? ⟨fo,0,none⟩=some (.func (.func 249) #[] #[.pointer (some ⟨t,0,none⟩)]))
  (_hNe:w.cell? ⟨ne,0,none⟩=some (.func (.func 251) #[] #[.pointer (some ⟨t,0,none⟩),.pointer (some ⟨nm,0,none⟩)]))
  (h1:Lx.pre (bs s) i (bs ⟨#[45,111]⟩)=false) (h3:Lx.pre (bs s) i (bs ⟨#[45,62]⟩)=false) (h4:Lx.pre (bs s) i (bs ⟨#[61,62]⟩)=false) :
  Calls Tryz.prog 253 #[.int .i64 i,.pointer (some ⟨fo,0,none⟩),.pointer (some ⟨ne,0,none⟩)] w fun e w' =>
   e = .returned (.bool (Lx.pre (bs s) i (bs ⟨#[60,61]⟩)))∧w=w':=by
 have hm:=small_max hs
 go_enter Tryz.func253,Tryz.ntmps253
 go_wp2_with (first
  | (go_at_call 249;refine (follows_int s _ t i w hm (by omega) (by omega) hT).mono ?_;rintro e w' ⟨rfl,rfl⟩)
  | (go_at_call 251;refine (nameEnd_int s t nm (i+1) w hm (by omega) (by omega) hT hN).mono ?_;rintro e w' ⟨rfl,rfl⟩))
 go_ret
 exact ⟨rfl,rfl⟩
theorem isLong_any (s:ByteArray) (t fo ne nm:Nat) (i:Nat) (w:World) (hs:s.size≤20000) (hi:i < s.size)
  (hT:w.cell? ⟨t,0,none⟩=some (.string s))
  (hN:∀ c:UInt8,w.cell? ⟨nm,c.toNat,none⟩=some (.bool (Lx.part c)))
  (hFo:w.cell? ⟨fo,0,none⟩=some (.func (.func 249) #[] #[.pointer (some ⟨t,0,none⟩)]))
  (hNe:w.cell? ⟨ne,0,none⟩=some (.func (.func 251) #[] #[.pointer (some ⟨t,0,none⟩),.pointer (some ⟨nm,0,none⟩)])) :
  Calls Tryz.prog 253 #[.int .i64 i,.pointer (some ⟨fo,0,none⟩),.pointer (some ⟨ne,0,none⟩)] w fun e w' =>
   e = .returned (.bool (Lx.isLong (bs s) i))∧w=w':=by
 have hd:Lx.isLong (bs s) i=((Lx.pre (bs s) i (bs ⟨#[45,111]⟩) && (((Lx.runTo (bs s) (i+1):Nat):Int)==(i:Int)+2)) || Lx.pre (bs s) i (bs ⟨#[45,62]⟩) || Lx.pre (bs s) i (bs ⟨#[61,62]⟩) || Lx.pre (bs s) i (bs ⟨#[60,61]⟩)):=by
  have e2:(((Lx.runTo (bs s) (i+1):Nat):Int)==(i:Int)+2)=(Lx.runTo (bs s) (i+1)==i+2):=by
   rw [Bool.eq_iff_iff,beq_iff_eq,beq_iff_eq];omega
  rw [e2];rfl
 rw [hd]
 rcases Bool.eq_false_or_eq_true (Lx.pre (bs s) i (bs ⟨#[45,111]⟩)) with h1 | h1
 ·rcases Bool.eq_false_or_eq_true (((Lx.runTo (bs s) (i+1):Nat):Int)==(i:Int)+2) with h2 | h2
  ·refine (isLong_1 s t fo ne nm i w hs hi hT hN hFo hNe h1 h2).mono ?_;rintro e w' ⟨rfl,h⟩;exact ⟨by rw [h1,h2];rfl,h⟩
  ·rcases Bool.eq_false_or_eq_true (Lx.pre (bs s) i (bs ⟨#[45,62]⟩)) with h3 | h3
   ·refine (isLong_a1 s t fo ne nm i w hs hi hT hN hFo hNe h1 h2 h3).mono ?_;rintro e w' ⟨rfl,h⟩;exact ⟨by rw [h1,h2,h3];rfl,h⟩
   ·rcases Bool.eq_false_or_eq_true (Lx.pre (bs s) i (bs ⟨#[61,62]⟩)) with h4 | h4
    ·refine (isLong_a2 s t fo ne nm i w hs hi hT hN hFo hNe h1 h2 h3 h4).mono ?_;rintro e w' ⟨rfl,h⟩;exact ⟨by rw [h1,h2,h3,h4];rfl,h⟩
    ·refine (isLong_a3 s t fo ne nm i w hs hi hT hN hFo hNe h1 h2 h3 h4).mono ?_;rintro e w' ⟨rfl,h⟩;exact ⟨by rw [h1,h2,h3,h4];rfl,h⟩
 ·rcases Bool.eq_false_or_eq_true (Lx.pre (bs s) i (bs ⟨#[45,62]⟩)) with h3 | h3
  ·refine (isLong_b1 s t fo ne nm i w hs hi hT hN hFo hNe h1 h3).mono ?_;rintro e w' ⟨rfl,h⟩;exact ⟨by rw [h1,h3];rfl,h⟩
  ·rcases Bool.eq_false_or_eq_true (Lx.pre (bs s) i (bs ⟨#[61,62]⟩)) with h4 | h4
   ·refine (isLong_b2 s t fo ne nm i w hs hi hT hN hFo hNe h1 h3 h4).mono ?_;rintro e w' ⟨rfl,h⟩;exact ⟨by rw [h1,h3,h4];rfl,h⟩
   ·refine (isLong_b3 s t fo ne nm i w hs hi hT hN hFo hNe h1 h3 h4).mono ?_;rintro e w' ⟨rfl,h⟩;exact ⟨by rw [h1,h3,h4];rfl,h⟩
end Go.Proofs.YtgjijidlaghlmaaGreatDoor
namespace Go.Proofs.YtgjijidlaghlmaaGreatDoor
open Go.RowKit
def tokV (s:ByteArray) (kd i j:Nat):Value:=.agg #[.int .i64 kd,.string (s.extract i j),.int .i64 i]
def FoundTok (s:ByteArray) (i:Nat) (w:World) (e:Ending) (w':World):Prop :=
 ∃ kd j,Lx.tokAt (bs s) i=some (kd,j)∧e = .returned (tokV s kd i j)∧Below w.heap.size w w'
def wordsB:List ByteArray:=Lx.words.map fun l=>⟨l.toArray⟩
theorem bs_inj {a b:ByteArray} (h:bs a=bs b):a=b:=by
 cases a;cases b;simp only [bs] at h;congr;exact Array.toList_inj.1 h
theorem contains_words (x:ByteArray):Lib.containsS (wordsB.take 17) x=Lx.words.contains (bs x):=by
 rw [Bool.eq_iff_iff,Lib.containsS_iff,List.contains_iff_mem]
 rw [List.take_of_length_le (by simp [wordsB,Lx.words])]
 simp only [wordsB,List.mem_map]
 constructor
 ·rintro ⟨l,hl,rfl⟩;simpa [bs] using hl
 ·intro h;exact ⟨_,h,bs_inj (by simp [bs])⟩
theorem tok_small {s:ByteArray} {i e:Nat} (hi:i < s.size) (hsm:Lx.small s[i]=true) (hE:Lx.nameTo (bs s) i=e) :
  Lx.tokAt (bs s) i=if bs (s.extract i e)=[111]∧(bs s)[e]?=some 45 then some (3,e+1) else if Lx.words.contains (bs (s.extract i e)) then some (4,e) else some (1,e):=by
 have h0:(bs s)[i]?=some s[i]:=by rw [List.getElem?_eq_getElem (by rw [bs_len];exact hi),bs_get hi]
 simp only [Lx.tokAt,h0,hsm,if_true,hE,bs_extract]
def extB (l:Lx.Bs) (j:Nat):Bool:=Lx.pre l j [64] && (l[j+1]?.map Lx.small).getD false
theorem ext_no1 {s:ByteArray} {j:Nat} (h:¬ Lx.pre (bs s) j (bs ⟨#[64]⟩)=true):extB (bs s) j=false:=by
 have h':Lx.pre (bs s) j [64]=false:=by simpa [bs] using h
 simp [extB,h']
theorem ext_no2 {s:ByteArray} {j:Nat} (h:¬ (j:Int)+1 < s.size):extB (bs s) j=false:=by
 have:(bs s)[j+1]?=none:=List.getElem?_eq_none (by rw [bs_len];omega)
 simp [extB,this]
theorem ext_yes {s:ByteArray} {j:Nat} (h:Lx.pre (bs s) j (bs ⟨#[64]⟩)=true) (h2:j+1 < s.size):extB (bs s) j=Lx.small s[j+1]:=by
 have h':Lx.pre (bs s) j [64]=true:=h
 have:(bs s)[j+1]?=some s[j+1]:=by rw [List.getElem?_eq_getElem (by rw [bs_len];exact h2),bs_get h2]
 simp [extB,this,h']
theorem pre_one {l:Lx.Bs} {i:Nat} {a:UInt8}:Lx.pre l i [a]=true↔l[i]?=some a:=by
 unfold Lx.pre
 rw [List.isPrefixOf_iff_prefix]
 have e:(l.drop i)[0]?=l[i]?:=by rw [List.getElem?_drop];simp
 constructor
 ·rintro ⟨r,hr⟩
  have h0:(l.drop i)[0]?=some a:=by rw [←hr];rfl
  exact e.symm.trans h0
 ·intro h
  rw [←e] at h
  cases hd:l.drop i with
  | nil=>rw [hd] at h;simp at h
  | cons b r=>rw [hd] at h;simp at h;subst h;exact ⟨r,rfl⟩
theorem nameTo_ext {l:Lx.Bs} {i j:Nat} (hj:Lx.runTo l i=j) (h:extB l j=true):Lx.nameTo l i=Lx.runTo l (j+1)∧j+1 < l.length:=by
 simp only [extB,Bool.and_eq_true] at h
 have h1:=pre_one.1 h.1
 have hlt:j+1 < l.length:=by
  rcases Nat.lt_or_ge (j+1) l.length with h' | h'
  ·exact h'
  ·rw [List.getElem?_eq_none h'] at h;simp at h
 refine ⟨?_,hlt⟩
 unfold Lx.nameTo
 simp only [hj]
 have hg:(l[j+1]?.map Lx.small)=some true:=by
  cases hq:l[j+1]? with
  | none=>rw [hq] at h;simp at h
  | some c=>rw [hq] at h;simpa using h.2
 rw [if_pos ⟨h1,hg⟩]
theorem nameTo_not {l:Lx.Bs} {i j:Nat} (hj:Lx.runTo l i=j) (h:extB l j=false):Lx.nameTo l i=j:=by
 unfold Lx.nameTo
 simp only [hj]
 rw [if_neg]
 rintro ⟨h1,h2⟩
 have h1':=pre_one.2 h1
 simp only [extB,h1',Bool.true_and] at h
 cases hq:l[j+1]? with
 | none=>rw [hq] at h2;simp at h2
 | some c=>rw [hq] at h h2;simp at h h2;simp [h] at h2
set_option maxRecDepth 100000 in
set_option maxHeartbeats 1600000 in
theorem small_any (s:ByteArray) (t fo ne nm sm tk wd wl:Nat) (i:Nat) (w:World) (hs:s.size≤20000) (hi:i < s.size)
  (hT:w.cell? ⟨t,0,none⟩=some (.string s))
  (hN:∀ c:UInt8,w.cell? ⟨nm,c.toNat,none⟩=some (.bool (Lx.part c)))
  (hS:∀ c:UInt8,w.cell? ⟨sm,c.toNat,none⟩=some (.bool (Lx.small c)))
  (hFo:w.cell? ⟨fo,0,none⟩=some (.func (.func 249) #[] #[.pointer (some ⟨t,0,none⟩)]))
  (hTk:w.cell? ⟨tk,0,none⟩=some (.func (.func 248) #[] #[.pointer (some ⟨t,0,none⟩)]))
  (hWd:w.cell? ⟨wd,0,none⟩=some (.slice (some ⟨wl,0,none⟩) 17 17))
  (hWl:∀ k,k < wordsB.length→w.cell? ⟨wl,0+k,none⟩=some (.string (wordsB.getD k ByteArray.empty)))
  (hsm:Lx.small (s[i]'hi)=true)
  (hNe:w.cell? ⟨ne,0,none⟩=some (.func (.func 251) #[] #[.pointer (some ⟨t,0,none⟩),.pointer (some ⟨nm,0,none⟩)])) :
  Calls Tryz.prog 252 #[.int .i64 i,.pointer (some ⟨ne,0,none⟩),.pointer (some ⟨fo,0,none⟩),.pointer (some ⟨t,0,none⟩),.pointer (some ⟨sm,0,none⟩),.pointer (some ⟨tk,0,none⟩),.pointer (some ⟨wd,0,none⟩)] w (FoundTok s i w):=by
 have hm:=small_max hs
 have b1:=block_lt_of_cell hT
 have b2:=block_lt_of_cell hFo
 have b3:=block_lt_of_cell hTk
 have b4:=block_lt_of_cell hNe
 have b5:=block_lt_of_cell (hN 0)
 have b6:=block_lt_of_cell (hS 0)
 have b7:=block_lt_of_cell hWd
 have b8:=block_lt_of_cell (hWl 0 (by decide))
 simp only at b1 b2 b3 b4 b5 b6 b7 b8
 have hr:=Lx.runTo_le (l:=bs s) (i:=i) (by rw [bs_len];omega)
 rw [bs_len] at hr
 obtain ⟨j,hj⟩:∃ j,Lx.runTo (bs s) i=j:=⟨_,rfl⟩
 rw [hj] at hr
 have Hj:=qh hj;clear hj
 have hby:=byte_lt
 have hT':=fun o=>(World.cell?_alloc_past (w:=w) o t 0 b1).trans hT
 have hN':=fun o (c:UInt8)=>(World.cell?_alloc_past (w:=w) o nm c.toNat b5).trans (hN c)
 go_enter Tryz.func252,Tryz.ntmps252
 go_upto_region 2 with (first
  | (go_at_call 251;refine (nameEnd_int s t nm i _ hm (by omega) (by omega) (hT' _) (hN' _)).mono ?_;rintro e w' ⟨rfl,rfl⟩;rw [Int.toNat_natCast,Hj.out]))
 go_cut [31] (fun v wx=>v = .bool (extB (bs s) j)∧wx=w.alloc (.cells #[.int .i64 0,.string ⟨#[]⟩,.int .i64 0] 76))
 case first =>
  go_wp2_with (first
   | (go_at_call 249;refine (follows_int s _ t j _ hm (by omega) (by omega) (hT' _)).mono ?_;rintro e w' ⟨rfl,rfl⟩))
  ·have h1:Lx.pre (bs s) j (bs ⟨#[64]⟩)=true:=by assumption
   have h2:(j:Int)+1 < s.size:=by assumption
   go_meet
   exact ⟨congrArg Value.bool (ext_yes h1 (by omega)).symm,rfl⟩
  ·have h2:¬ (j:Int)+1 < s.size:=by omega
   go_meet
   exact ⟨congrArg Value.bool (ext_no2 h2).symm,rfl⟩
  ·have h1:¬ Lx.pre (bs s) j (bs ⟨#[64]⟩)=true:=by assumption
   go_meet
   exact ⟨congrArg Value.bool (ext_no1 h1).symm,rfl⟩
 case rest =>
  obtain ⟨rfl,rfl⟩:=hcut
  go_upto_if 31 with fail
  go_cut [9] (fun v wx=>v = .int .i64 (Lx.nameTo (bs s) i)∧wx=w.alloc (.cells #[.int .i64 0,.string ⟨#[]⟩,.int .i64 0] 76))
  case first =>
   cases h:extB (bs s) j
   ·have Hn:=qh (nameTo_not Hj.out h)
    clear h
    go_wp2
    go_meet
    exact ⟨by rw [Hn.out],rfl⟩
   ·obtain ⟨hn,hlt⟩:=nameTo_ext Hj.out h
    clear h
    rw [bs_len] at hlt
    have Hn:=qh hn;clear hn
    go_wp2_with (first
     | (go_at_call 251;refine (nameEnd_int s t nm (j+1) _ hm (by omega) (by omega) (hT' _) (hN' _)).mono ?_;rintro e w' ⟨rfl,rfl⟩))
    go_meet
    exact ⟨by rw [Hn.out],rfl⟩
  case rest =>
   obtain ⟨rfl,rfl⟩:=hcut
   have he:=Lx.nameTo_le (l:=bs s) (i:=i) (by rw [bs_len];omega)
   rw [bs_len] at he
   obtain ⟨e,hE⟩:∃ e,Lx.nameTo (bs s) i=e:=⟨_,rfl⟩
   rw [hE] at he ⊢
   have HE:=qh hE;clear hE
   have hWd':=fun o=>(World.cell?_alloc_past (w:=w) o wd 0 b7).trans hWd
   have hWl':=fun o k hk=>(World.cell?_alloc_past (w:=w) o wl (0+k) b8).trans (hWl k hk)
   have HT:=qh (tok_small hi hsm HE.out)
   by_cases h5:(s.extract i e).toList=[111]
   ·cases h6:Lx.pre (bs s) e (bs ⟨#[45]⟩)
    ·have H6:=qh h6
     go_wp2_with (first
      | (go_at_call 249;refine (follows_int s _ t e _ hm (by omega) (by omega) (hT' _)).mono ?_;rintro e w' ⟨rfl,rfl⟩)
      | (go_at_call 101;refine (Tryz.slices_Contains_string wl 0 17 17 wordsB _ _ (by decide) (by omega) (hWl' _)).mono ?_;rintro e w' ⟨rfl,hw⟩;obtain rfl:=hw.symm;rw [contains_words])
      | (go_at_call 248;refine (token_int s t _ i e _ hm (by omega) (by omega) (by omega) (hT' _)).mono ?_;rintro e w' ⟨rfl,rfl⟩))
     ·refine bodyPost_ret (v:=tokV s 4 i e) (by simp [results,Tryz.results252,go_sem,tokV]) rfl ⟨4,e,?_,rfl,?_⟩
      ·have hw:bs (s.extract i e)∈Lx.words:=by assumption
       rw [HT.out,if_neg (by intro h;have:=pre_one.2 h.2;rw [show ([45]:Lx.Bs)=bs ⟨#[45]⟩ from rfl,H6.out] at this;cases this),if_pos (by rw [List.contains_iff_mem];exact hw)]
      ·exact (((Below.refl _ w).alloc (Nat.le_refl _) _).alloc (by simp) _)
     ·refine bodyPost_ret (v:=tokV s 1 i e) (by simp [results,Tryz.results252,go_sem,tokV]) rfl ⟨1,e,?_,rfl,?_⟩
      ·have hw:¬ bs (s.extract i e)∈Lx.words:=by assumption
       rw [HT.out,if_neg (by intro h;have:=pre_one.2 h.2;rw [show ([45]:Lx.Bs)=bs ⟨#[45]⟩ from rfl,H6.out] at this;cases this),if_neg (by rw [List.contains_iff_mem];exact hw)]
      ·exact (((Below.refl _ w).alloc (Nat.le_refl _) _).alloc (by simp) _)
    ·have H6:=qh h6
     have h45:=pre_one.1 (show Lx.pre (bs s) e [45]=true from h6)
     have hlt:e < s.size:=by rw [←bs_len];exact (List.getElem?_eq_some_iff.1 h45).1
     have H45:=qh h45;clear h45
     go_wp2_with (first
      | (go_at_call 249;refine (follows_int s _ t e _ hm (by omega) (by omega) (hT' _)).mono ?_;rintro e w' ⟨rfl,rfl⟩)
      | (go_at_call 101;refine (Tryz.slices_Contains_string wl 0 17 17 wordsB _ _ (by decide) (by omega) (hWl' _)).mono ?_;rintro e w' ⟨rfl,hw⟩;obtain rfl:=hw.symm;rw [contains_words])
      | (go_at_call 248;refine (token_int s t _ i (e+1) _ hm (by omega) (by omega) (by omega) (hT' _)).mono ?_;rintro e w' ⟨rfl,rfl⟩))
     refine bodyPost_ret (v:=tokV s 3 i (e+1)) (by simp [results,Tryz.results252,go_sem,tokV]) rfl ⟨3,e+1,?_,rfl,?_⟩
     ·rw [HT.out,if_pos ⟨by rw [bs,←ByteArray.toList_eq];exact h5,H45.out⟩]
     ·exact (((Below.refl _ w).alloc (Nat.le_refl _) _).alloc (by simp) _)
   ·go_wp2_with (first
      | (go_at_call 249;refine (follows_int s _ t e _ hm (by omega) (by omega) (hT' _)).mono ?_;rintro e w' ⟨rfl,rfl⟩)
      | (go_at_call 101;refine (Tryz.slices_Contains_string wl 0 17 17 wordsB _ _ (by decide) (by omega) (hWl' _)).mono ?_;rintro e w' ⟨rfl,hw⟩;obtain rfl:=hw.symm;rw [contains_words])
      | (go_at_call 248;refine (token_int s t _ i e _ hm (by omega) (by omega) (by omega) (hT' _)).mono ?_;rintro e w' ⟨rfl,rfl⟩))
    ·refine bodyPost_ret (v:=tokV s 4 i e) (by simp [results,Tryz.results252,go_sem,tokV]) rfl ⟨4,e,?_,rfl,?_⟩
     ·have hw:bs (s.extract i e)∈Lx.words:=by assumption
      rw [HT.out,if_neg (by intro h;exact h5 (by rw [ByteArray.toList_eq];exact h.1)),if_pos (by rw [List.contains_iff_mem];exact hw)]
     ·exact (((Below.refl _ w).alloc (Nat.le_refl _) _).alloc (by simp) _)
    ·refine bodyPost_ret (v:=tokV s 1 i e) (by simp [results,Tryz.results252,go_sem,tokV]) rfl ⟨1,e,?_,rfl,?_⟩
     ·have hw:¬ bs (s.extract i e)∈Lx.words:=by assumption
      rw [HT.out,if_neg (by intro h;exact h5 (by rw [ByteArray.toList_eq];exact h.1)),if_neg (by rw [List.contains_iff_mem];exact hw)]
     ·exact (((Below.refl _ w).alloc (Nat.le_refl _) _).alloc (by simp) _)
end Go.Proofs.YtgjijidlaghlmaaGreatDoor
namespace Go.Proofs.YtgjijidlaghlmaaGreatDoor
open Go.RowKit
structure FA where
 (t sm ca sg nm wd wl tk fo ne sc lo:Nat)
structure FEnv (q:FA) (s:ByteArray) (w:World):Prop where
 hT:w.cell? ⟨q.t,0,none⟩=some (.string s)
 hS:∀ c:UInt8,w.cell? ⟨q.sm,c.toNat,none⟩=some (.bool (Lx.small c))
 hC:∀ c:UInt8,w.cell? ⟨q.ca,c.toNat,none⟩=some (.bool (Lx.capital c))
 hG:∀ c:UInt8,w.cell? ⟨q.sg,c.toNat,none⟩=some (.bool (Lx.signB c))
 hN:∀ c:UInt8,w.cell? ⟨q.nm,c.toNat,none⟩=some (.bool (Lx.part c))
 hWd:w.cell? ⟨q.wd,0,none⟩=some (.slice (some ⟨q.wl,0,none⟩) 17 17)
 hWl:∀ k,k < wordsB.length→w.cell? ⟨q.wl,0+k,none⟩=some (.string (wordsB.getD k ByteArray.empty))
 hTk:w.cell? ⟨q.tk,0,none⟩=some (.func (.func 248) #[] #[.pointer (some ⟨q.t,0,none⟩)])
 hFo:w.cell? ⟨q.fo,0,none⟩=some (.func (.func 249) #[] #[.pointer (some ⟨q.t,0,none⟩)])
 hNe:w.cell? ⟨q.ne,0,none⟩=some (.func (.func 251) #[] #[.pointer (some ⟨q.t,0,none⟩),.pointer (some ⟨q.nm,0,none⟩)])
 hSc:w.cell? ⟨q.sc,0,none⟩=some (.func (.func 252) #[] #[.pointer (some ⟨q.ne,0,none⟩),.pointer (some ⟨q.fo,0,none⟩),.pointer (some ⟨q.t,0,none⟩),.pointer (some ⟨q.sm,0,none⟩),.pointer (some ⟨q.tk,0,none⟩),.pointer (some ⟨q.wd,0,none⟩)])
 hLo:w.cell? ⟨q.lo,0,none⟩=some (.func (.func 253) #[] #[.pointer (some ⟨q.fo,0,none⟩),.pointer (some ⟨q.ne,0,none⟩)])
structure FA.lt (q:FA) (n:Nat):Prop where
 t:q.t < n
 sm:q.sm < n
 ca:q.ca < n
 sg:q.sg < n
 nm:q.nm < n
 wd:q.wd < n
 wl:q.wl < n
 tk:q.tk < n
 fo:q.fo < n
 ne:q.ne < n
 sc:q.sc < n
 lo:q.lo < n
theorem FEnv.lt {q:FA} {s:ByteArray} {w:World} (h:FEnv q s w):q.lt w.heap.size :=
 ⟨block_lt_of_cell h.hT,block_lt_of_cell (h.hS 0),block_lt_of_cell (h.hC 0),block_lt_of_cell (h.hG 0),block_lt_of_cell (h.hN 0),block_lt_of_cell h.hWd,block_lt_of_cell (h.hWl 0 (by decide)),
  block_lt_of_cell h.hTk,block_lt_of_cell h.hFo,block_lt_of_cell h.hNe,block_lt_of_cell h.hSc,block_lt_of_cell h.hLo⟩
theorem FEnv.below {q:FA} {s:ByteArray} {w w':World} {n:Nat} (h:FEnv q s w) (hl:q.lt n) (hb:Below n w w'):FEnv q s w' :=
 ⟨(hb.cell (p:=⟨q.t,0,none⟩) hl.t).trans h.hT,fun c=>(hb.cell (p:=⟨q.sm,c.toNat,none⟩) hl.sm).trans (h.hS c),fun c=>(hb.cell (p:=⟨q.ca,c.toNat,none⟩) hl.ca).trans (h.hC c),
  fun c=>(hb.cell (p:=⟨q.sg,c.toNat,none⟩) hl.sg).trans (h.hG c),fun c=>(hb.cell (p:=⟨q.nm,c.toNat,none⟩) hl.nm).trans (h.hN c),(hb.cell (p:=⟨q.wd,0,none⟩) hl.wd).trans h.hWd,
  fun k hk=>(hb.cell (p:=⟨q.wl,0+k,none⟩) hl.wl).trans (h.hWl k hk),(hb.cell (p:=⟨q.tk,0,none⟩) hl.tk).trans h.hTk,(hb.cell (p:=⟨q.fo,0,none⟩) hl.fo).trans h.hFo,
  (hb.cell (p:=⟨q.ne,0,none⟩) hl.ne).trans h.hNe,(hb.cell (p:=⟨q.sc,0,none⟩) hl.sc).trans h.hSc,(hb.cell (p:=⟨q.lo,0,none⟩) hl.lo).trans h.hLo⟩
theorem FEnv.alloc {q:FA} {s:ByteArray} {w:World} (h:FEnv q s w) (o:Obj):FEnv q s (w.alloc o):=h.below h.lt ((Below.refl _ w).alloc (Nat.le_refl _) o)
theorem FEnv.drew {q:FA} {s:ByteArray} {w:World} (h:FEnv q s w):FEnv q s w.drew:=h.below h.lt ((Below.refl _ w).drew)
def refuse (i er:Nat):Value:=.iface 174 (.agg #[.int .i64 i,.int .i64 er])
def FoundAt (s:ByteArray) (i:Nat) (w:World) (e:Ending) (w':World):Prop :=
 FoundTok s i w e w'∨(Lx.tokAt (bs s) i=none∧e = .panicked [{ v:=refuse i 10,recovered:=false }]∧Below w.heap.size w w')
def findArgs (q:FA) (i:Int):Array Value :=
 #[.int .i64 i,.pointer (some ⟨q.t,0,none⟩),.pointer (some ⟨q.sm,0,none⟩),.pointer (some ⟨q.sc,0,none⟩),.pointer (some ⟨q.ca,0,none⟩),.pointer (some ⟨q.tk,0,none⟩),.pointer (some ⟨q.ne,0,none⟩),.pointer (some ⟨q.sg,0,none⟩),.pointer (some ⟨q.lo,0,none⟩)]
theorem tok_class {s:ByteArray} {i:Nat} (hi:i < s.size) (h1:Lx.small s[i]=false) :
  Lx.tokAt (bs s) i=if Lx.capital s[i] then some (2,Lx.runTo (bs s) i) else if Lx.signB s[i] then some (3,i+1) else if Lx.isLong (bs s) i then some (3,i+2) else none:=by
 have h0:(bs s)[i]?=some s[i]:=by rw [List.getElem?_eq_getElem (by rw [bs_len];exact hi),bs_get hi]
 simp only [Lx.tokAt,h0,h1,Bool.false_eq_true,if_false]
theorem small_env {q:FA} {s:ByteArray} {i:Nat} {w:World} (hs:s.size≤20000) (hi:i < s.size) (h:FEnv q s w) (hsm:Lx.small (s[i]'hi)=true) :
  Calls Tryz.prog 252 #[.int .i64 i,.pointer (some ⟨q.ne,0,none⟩),.pointer (some ⟨q.fo,0,none⟩),.pointer (some ⟨q.t,0,none⟩),.pointer (some ⟨q.sm,0,none⟩),.pointer (some ⟨q.tk,0,none⟩),.pointer (some ⟨q.wd,0,none⟩)] w (FoundTok s i w) :=
 small_any s q.t q.fo q.ne q.nm q.sm q.tk q.wd q.wl i w hs hi h.hT h.hN h.hS h.hFo h.hTk h.hWd h.hWl hsm h.hNe
theorem new_cells {w w1:World} {a b c:Value} {t:TypeId} (hb:Below (w.alloc (.cells #[a,b,c] t)).heap.size (w.alloc (.cells #[a,b,c] t)) w1) :
  (w1.cell? ⟨w.heap.size,0,none⟩=some a∧w1.cell? ⟨w.heap.size,1,none⟩=some b∧w1.cell? ⟨w.heap.size,2,none⟩=some c) ∧
  (w1.frozen? ⟨w.heap.size,0,none⟩=false∧w1.frozen? ⟨w.heap.size,1,none⟩=false∧w1.frozen? ⟨w.heap.size,2,none⟩=false):=by
 have hc:=fun j=>hb.cell (p:=⟨w.heap.size,j,none⟩) (by simp)
 have hf:=fun j=>hb.frozen (p:=⟨w.heap.size,j,none⟩) (by simp)
 refine ⟨⟨(hc 0).trans ?_,(hc 1).trans ?_,(hc 2).trans ?_⟩,(hf 0).trans ?_,(hf 1).trans ?_,(hf 2).trans ?_⟩ <;> simp [World.cell?_alloc_at,World.frozen?_alloc_at]
theorem below_alloc {w w1:World} {o:Obj} (hb:Below (w.alloc o).heap.size (w.alloc o) w1):Below w.heap.size w w1 :=
 ((Below.refl _ w).alloc (Nat.le_refl _) o).trans (hb.mono (by simp))
set_option maxRecDepth 100000 in
set_option maxHeartbeats 400000 in
theorem find_small (q:FA) (s:ByteArray) (i:Nat) (w:World) (hs:s.size≤20000) (hi:i < s.size) (h:FEnv q s w) (h1:Lx.small (s[i]'hi)=true) :
  Calls Tryz.prog 254 (findArgs q i) w (FoundTok s i w):=by
 unfold findArgs
 have hby:=byte_lt
 have hE:=qh (fun o=>h.alloc o)
 have l:=h.lt
 have b1:=l.t
 have b2:=l.sm
 have b3:=l.sc
 have hT:=h.hT
 have hS:=h.hS
 have hSc:=h.hSc
 clear l h
 go_enter Tryz.func254,Tryz.ntmps254
 go_wp2_with fail
 refine (small_env hs hi (hE.out _) h1).mono ?_
 rintro e w1 ⟨kd,j,htok,rfl,hb⟩
 have Htok:=qh htok
 have Hb:=qh (below_alloc hb)
 obtain ⟨⟨c0,c1,c2⟩,f0,f1,f2⟩:=new_cells hb
 clear htok hb hE hT hS hSc h1
 unfold tokV
 go_wp2
 refine bodyPost_ret (v:=tokV s kd i j) (by simp [results,Tryz.results254,go_sem,tokV,c0,c1,c2]) rfl ⟨kd,j,Htok.out,rfl,?_⟩
 exact ((Hb.out.setCell (p:=⟨w.heap.size,0,none⟩) (Nat.le_refl _) _).setCell (p:=⟨w.heap.size,1,none⟩) (Nat.le_refl _) _).setCell (p:=⟨w.heap.size,2,none⟩) (Nat.le_refl _) _
set_option maxRecDepth 100000 in
set_option maxHeartbeats 400000 in
theorem find_sign (q:FA) (s:ByteArray) (i:Nat) (w:World) (hs:s.size≤20000) (hi:i < s.size) (h:FEnv q s w)
  (h1:Lx.small (s[i]'hi)=false) (h2:Lx.capital (s[i]'hi)=false) (h3:Lx.signB (s[i]'hi)=true) :
  Calls Tryz.prog 254 (findArgs q i) w (FoundTok s i w):=by
 unfold findArgs
 have htok:Lx.tokAt (bs s) i=some (3,i+1):=by rw [tok_class hi h1];simp [h2,h3]
 have Htok:=qh htok;clear htok
 have hby:=byte_lt
 have hE:=qh (fun o=>h.alloc o)
 have l:=h.lt
 have b1:=l.t
 have b2:=l.sm
 have b3:=l.ca
 have b4:=l.sg
 have b5:=l.tk
 have hT:=h.hT
 have hS:=h.hS
 have hC:=h.hC
 have hG:=h.hG
 have hTk:=h.hTk
 have hm:=small_max hs
 clear l h
 go_enter Tryz.func254,Tryz.ntmps254
 go_wp2_with (go_at_call 248;refine (token_int s q.t _ i (i+1) _ hm (by omega) (by omega) (by omega) ((hE.out _).hT)).mono ?_;rintro e w' ⟨rfl,rfl⟩)
 refine bodyPost_ret (v:=tokV s 3 i (i+1)) (by simp [results,Tryz.results254,go_sem,tokV]) rfl ⟨3,i+1,Htok.out,rfl,?_⟩
 exact (((Below.refl _ w).alloc (Nat.le_refl _) _).alloc (by simp) _)
set_option maxRecDepth 100000 in
set_option maxHeartbeats 400000 in
theorem find_long (q:FA) (s:ByteArray) (i:Nat) (w:World) (hs:s.size≤20000) (hi:i < s.size) (h:FEnv q s w)
  (h1:Lx.small (s[i]'hi)=false) (h2:Lx.capital (s[i]'hi)=false) (h3:Lx.signB (s[i]'hi)=false) (h4:Lx.isLong (bs s) i=true) :
  Calls Tryz.prog 254 (findArgs q i) w (FoundTok s i w):=by
 unfold findArgs
 have htok:Lx.tokAt (bs s) i=some (3,i+2):=by rw [tok_class hi h1];simp [h2,h3,h4]
 have hlt:=(Lx.tokAt_lt htok).2
 rw [bs_len] at hlt
 have Htok:=qh htok;clear htok
 have H4:=qh h4;clear h4
 have hby:=byte_lt
 have hE:=qh (fun o=>h.alloc o)
 have l:=h.lt
 have b1:=l.t
 have b2:=l.sm
 have b3:=l.ca
 have b4:=l.sg
 have b5:=l.tk
 have b6:=l.lo
 have hT:=h.hT
 have hS:=h.hS
 have hC:=h.hC
 have hG:=h.hG
 have hTk:=h.hTk
 have hLo:=h.hLo
 have hm:=small_max hs
 clear l h
 go_enter Tryz.func254,Tryz.ntmps254
 go_wp2_with (first
  | (go_at_call 253;refine (isLong_any s q.t q.fo q.ne q.nm i _ hs hi ((hE.out _).hT) ((hE.out _).hN) ((hE.out _).hFo) ((hE.out _).hNe)).mono ?_;rintro e w' ⟨rfl,rfl⟩;rw [H4.out])
  | (go_at_call 248;refine (token_int s q.t _ i (i+2) _ hm (by omega) (by omega) (by omega) ((hE.out _).hT)).mono ?_;rintro e w' ⟨rfl,rfl⟩))
 refine bodyPost_ret (v:=tokV s 3 i (i+2)) (by simp [results,Tryz.results254,go_sem,tokV]) rfl ⟨3,i+2,Htok.out,rfl,?_⟩
 exact (((Below.refl _ w).alloc (Nat.le_refl _) _).alloc (by simp) _)
set_option maxRecDepth 100000 in
set_option maxHeartbeats 400000 in
theorem find_none (q:FA) (s:ByteArray) (i:Nat) (w:World) (hs:s.size≤20000) (hi:i < s.size) (h:FEnv q s w)
  (h1:Lx.small (s[i]'hi)=false) (h2:Lx.capital (s[i]'hi)=false) (h3:Lx.signB (s[i]'hi)=false) (h4:Lx.isLong (bs s) i=false) :
  Calls Tryz.prog 254 (findArgs q i) w fun e w'=>e = .panicked [{ v:=refuse i 10,recovered:=false }]∧Below w.heap.size w w':=by
 unfold findArgs
 have H4:=qh h4;clear h4
 have hby:=byte_lt
 have hE:=qh (fun o=>h.alloc o)
 have l:=h.lt
 have b1:=l.t
 have b2:=l.sm
 have b3:=l.ca
 have b4:=l.sg
 have b6:=l.lo
 have hT:=h.hT
 have hS:=h.hS
 have hC:=h.hC
 have hG:=h.hG
 have hLo:=h.hLo
 clear l h
 go_enter Tryz.func254,Tryz.ntmps254
 go_wp2_with (first
  | (go_at_call 253;refine (isLong_any s q.t q.fo q.ne q.nm i _ hs hi ((hE.out _).hT) ((hE.out _).hN) ((hE.out _).hFo) ((hE.out _).hNe)).mono ?_;rintro e w' ⟨rfl,rfl⟩;rw [H4.out]))
 exact ⟨rfl,rfl,(Below.refl _ w).alloc (Nat.le_refl _) _⟩
set_option maxRecDepth 100000 in
set_option maxHeartbeats 400000 in
theorem find_capital (q:FA) (s:ByteArray) (i:Nat) (w:World) (hs:s.size≤20000) (hi:i < s.size) (h:FEnv q s w)
  (h1:Lx.small (s[i]'hi)=false) (h2:Lx.capital (s[i]'hi)=true) :
  Calls Tryz.prog 254 (findArgs q i) w (FoundTok s i w):=by
 unfold findArgs
 have htok:Lx.tokAt (bs s) i=some (2,Lx.runTo (bs s) i):=by rw [tok_class hi h1];simp [h2]
 have hlt:=Lx.tokAt_lt htok
 rw [bs_len] at hlt
 obtain ⟨j,hj⟩:∃ j,Lx.runTo (bs s) i=j:=⟨_,rfl⟩
 rw [hj] at htok hlt
 have Hj:=qh hj;clear hj
 have Htok:=qh htok;clear htok
 have hby:=byte_lt
 have hE:=qh (fun o=>h.alloc o)
 have l:=h.lt
 have b1:=l.t
 have b2:=l.sm
 have b3:=l.ca
 have b4:=l.ne
 have b5:=l.tk
 have hT:=h.hT
 have hS:=h.hS
 have hC:=h.hC
 have hTk:=h.hTk
 have hNe:=h.hNe
 have hm:=small_max hs
 clear l h
 have e0:(i:Int).toNat=i:=Int.toNat_natCast i
 have HN:Hid (Calls Tryz.prog 251 #[.int .i64 i,.pointer (some ⟨q.t,0,none⟩),.pointer (some ⟨q.nm,0,none⟩)] (w.alloc (.cells #[.int .i64 0,.string ⟨#[]⟩,.int .i64 0] 76)).drew
   fun e w'=>e = .returned (.int .i64 j)∧(w.alloc (.cells #[.int .i64 0,.string ⟨#[]⟩,.int .i64 0] 76)).drew=w'):=by
  have:=nameEnd_int s q.t q.nm i (w.alloc (.cells #[.int .i64 0,.string ⟨#[]⟩,.int .i64 0] 76)).drew hm (by omega) (by omega) (hE.out _).drew.hT (hE.out _).drew.hN
  rw [e0,Hj.out] at this
  exact qh this
 have HK:Hid (Calls Tryz.prog 248 #[.int .i64 2,.int .i64 i,.int .i64 j,.pointer (some ⟨q.t,0,none⟩)] (w.alloc (.cells #[.int .i64 0,.string ⟨#[]⟩,.int .i64 0] 76)).drew
   fun e w'=>e = .returned (tokV s 2 i j)∧w'=(w.alloc (.cells #[.int .i64 0,.string ⟨#[]⟩,.int .i64 0] 76)).drew.alloc (.cells #[.int .i64 2,.string (s.extract i j),.int .i64 i] 76)) :=
  qh (token_any s q.t 2 i j (w.alloc (.cells #[.int .i64 0,.string ⟨#[]⟩,.int .i64 0] 76)).drew hm (by omega) (by omega) (hE.out _).drew.hT)
 clear hE e0
 go_enter Tryz.func254,Tryz.ntmps254
 go_upto_region 5 with fail
 go_region_with (first
  | (go_at_call 251;refine HN.out.mono ?_;rintro e w' ⟨rfl,rfl⟩)
  | (go_at_call 248;refine HK.out.mono ?_;rintro e w' ⟨rfl,rfl⟩;unfold tokV))
 all_goals
  go_wp2
  refine bodyPost_ret (v:=tokV s 2 i j) (by simp [results,Tryz.results254,go_sem,tokV]) rfl ⟨2,j,Htok.out,rfl,?_⟩
  exact ((((Below.refl _ w).alloc (Nat.le_refl _) _).alloc (by simp) _).drew)
theorem find_any (q:FA) (s:ByteArray) (i:Nat) (w:World) (hs:s.size≤20000) (hi:i < s.size) (h:FEnv q s w) :
  Calls Tryz.prog 254 (findArgs q i) w (FoundAt s i w):=by
 cases h1:Lx.small s[i]
 ·cases h2:Lx.capital s[i]
  ·cases h3:Lx.signB s[i]
   ·cases h4:Lx.isLong (bs s) i
    ·exact (find_none q s i w hs hi h h1 h2 h3 h4).mono fun e w' r=>.inr ⟨by rw [tok_class hi h1];simp [h2,h3,h4],r.1,r.2⟩
    ·exact (find_long q s i w hs hi h h1 h2 h3 h4).mono fun e w' r=>.inl r
   ·exact (find_sign q s i w hs hi h h1 h2 h3).mono fun e w' r=>.inl r
  ·exact (find_capital q s i w hs hi h h1 h2).mono fun e w' r=>.inl r
 ·exact (find_small q s i w hs hi h h1).mono fun e w' r=>.inl r
end Go.Proofs.YtgjijidlaghlmaaGreatDoor
namespace Go.Proofs.YtgjijidlaghlmaaGreatDoor
open Go.RowKit
def clsArr (l:Lx.Bs):Array Value:=Array.ofFn (n:=256) fun i=>.bool (l.any fun c=>decide (c.toNat=i.val))
theorem clsArr_size (l:Lx.Bs):(clsArr l).size=256:=by simp [clsArr]
theorem clsArr_get (l:Lx.Bs) (c:UInt8):(clsArr l)[c.toNat]?=some (.bool (l.any fun d=>decide (d.toNat=c.toNat))):=by
 have:=c.toNat_lt
 simp [clsArr,this]
theorem clsArr_snoc (l:Lx.Bs) (c:UInt8):clsArr (l++[c])=(clsArr l).setIfInBounds c.toNat (.bool true):=by
 have:=c.toNat_lt
 apply Array.ext
 ·simp [clsArr]
 ·intro i h1 h2
  simp only [clsArr_size] at h1
  by_cases e:c.toNat=i
  ·subst e;simp [clsArr]
  ·rw [Array.getElem_setIfInBounds_ne (by simpa [clsArr] using h1) (by simpa using e)]
   simp [clsArr,e]
theorem clsArr_cells (l:Lx.Bs):(clsArr l).all (·.oneCell')=true:=by
 rw [Array.all_eq_true];intro i hi;simp [clsArr,Value.oneCell']
theorem clsArr_nil:clsArr []=Tryz.zeroCells219:=by kernel_rfl
theorem take_snoc (s:ByteArray) (k:Nat) (h:k < s.size):(bs s).take (k+1)=(bs s).take k++[s[k]]:=by
 rw [List.take_succ_eq_append_getElem (by rw [bs_len];exact h),bs_get h]
theorem infoArr:(Tryz.prog.info? 219).map (·.size)=some 256:=by kernel_rfl
set_option maxRecDepth 100000 in
set_option maxHeartbeats 400000 in
theorem class_any (s:ByteArray) (w:World) (hs:s.size≤maxLen) :
  Calls Tryz.prog 247 #[.string s] w fun e w'=>e = .returned (.agg (clsArr (bs s)))∧Below w.heap.size w w':=by
 unfold maxLen at hs
 have hg:=clsArr_get
 have hby:=byte_lt
 go_enter Tryz.func247,Tryz.ntmps247
 go_wp2
 go_loopw [7] (fun v wr=>∃ k:Nat,k≤s.size∧v = .int .i64 k∧wr=(w.alloc (.cells Tryz.zeroCells219 219)).alloc (.cells (clsArr ((bs s).take k)) 219)) (fun v _=>s.size - (intOf v).toNat)
 case atStart=>exact ⟨0,Nat.zero_le _,rfl,by rw [List.take_zero,clsArr_nil]⟩
 case round =>
  obtain ⟨k,hk,rfl,rfl⟩:=hrel
  by_cases hlt:k < s.size
  ·go_wp2
   go_roundw
   case rel=>exact ⟨k+1,by omega,by go_num,by rw [take_snoc s k hlt,clsArr_snoc]⟩
   case measure=>simp [intOf];omega
  ·obtain rfl:k=s.size:=by omega
   have hta:List.take s.size (bs s)=bs s:=List.take_of_length_le (by rw [bs_len];exact Nat.le_refl _)
   rw [hta]
   have HH:=qh (heap_alloc2_new w (.cells Tryz.zeroCells219 219) (.cells (clsArr (bs s)) 219))
   have HO:=qh (heap_alloc2_old w (.cells Tryz.zeroCells219 219) (.cells (clsArr (bs s)) 219))
   have HI:Hid ((Tryz.prog.info? 219).map (·.size)=some (clsArr (bs s)).size):=by rw [clsArr_size];exact infoArr
   have HZ:Hid (Tryz.zeroCells219.size=(clsArr (bs s)).size):=by rw [clsArr_size,←clsArr_nil,clsArr_size];rfl
   have HC:=qh (clsArr_cells (bs s))
   clear hta hg
   go_wp2_with fail
   refine wp_load_row 219 (.tmp 3) rfl (w.heap.size+1) rfl 219 (clsArr (bs s)) (0,0) (.array 256 4) HH.out Tryz.underlying219 rfl HI.out ?_
   rename_i hK
   refine hK _ _ ?_
   clear hK
   refine wpList_store_row rfl 219 (.tmp 2) (.tmp 15) rfl w.heap.size (clsArr (bs s)) rfl rfl 219 Tryz.zeroCells219 HO.out HI.out HZ.out HC.out ?_
   go_wp2
   refine bodyPost_ret (v:=.agg (clsArr (bs s))) (results_cell_row rfl _ _ w.heap.size 219 (clsArr (bs s)) (0,0) (.array 256 4) rfl (setRow_heap _ _ _ _ _ _ HO.out) Tryz.underlying219 rfl HI.out) rfl ⟨rfl,?_⟩
   refine ((((Below.refl _ w).alloc (Nat.le_refl _) _).alloc (by simp) _)).trans ⟨rfl,rfl,rfl,by simp,fun i hi=>setRow_other _ _ _ _ (by omega)⟩
end Go.Proofs.YtgjijidlaghlmaaGreatDoor
namespace Go.Proofs.YtgjijidlaghlmaaGreatDoor
open Go.RowKit
def wordsArr:Array Value:=(wordsB.map Value.string).toArray
set_option maxRecDepth 100000 in
set_option maxHeartbeats 400000 in
theorem words_any (w:World) :
  Calls Tryz.prog 200 #[] w fun e w'=>e = .returned (.slice (some ⟨w.heap.size,0,none⟩) 17 17)∧w'=w.alloc (.cells wordsArr 9):=by
 go_enter Tryz.func200,Tryz.ntmps200
 go_wp2
 go_ret
 exact ⟨rfl,rfl⟩
theorem setRow_alloc_old (W:World) (g:Nat) (c:Array Value) (o:Obj) (h:g < W.heap.size):(W.alloc o).setRow g c=(W.setRow g c).alloc o:=by
 simp only [World.setRow,World.alloc]
 congr 1
 apply Array.ext_getElem?
 intro i
 rw [Array.getElem?_modify,Array.getElem?_push,Array.getElem?_push,Array.size_modify,Array.getElem?_modify]
 by_cases e:i=W.heap.size
 ·subst e
  rw [if_pos rfl,if_pos rfl,if_neg (by omega)]
 ·rw [if_neg e,if_neg e]
def sml:ByteArray:=⟨#[97,98,99,100,101,102,103,104,105,106,107,108,109,110,111,112,113,114,115,116,117,118,119,120,121,122]⟩
def cpt:ByteArray:=⟨#[65,66,67,68,69,70,71,72,73,74,75,76,77,78,79,80,81,82,83,84,85,86,87,88,89,90]⟩
def sgn:ByteArray:=⟨#[42,38,43,33,123,125,40,41,46,44,58,92]⟩
theorem three1 (W:World) (z c:Array Value) (t:TypeId) (o1 o2:Obj):(((W.alloc (.cells z t)).alloc o1).alloc o2).setRow W.heap.size c=((W.alloc (.cells c t)).alloc o1).alloc o2:=by
 rw [setRow_alloc_old _ _ _ _ (by simp;omega),setRow_alloc_old _ _ _ _ (by simp),World.setRow_alloc_new]
theorem three2 (W:World) (z c:Array Value) (t:TypeId) (o1 o2:Obj):(((W.alloc o1).alloc (.cells z t)).alloc o2).setRow (W.heap.size+1) c=((W.alloc o1).alloc (.cells c t)).alloc o2:=by
 have e:W.heap.size+1=(W.alloc o1).heap.size:=by simp
 rw [e,setRow_alloc_old _ _ _ _ (by simp),World.setRow_alloc_new]
theorem three3 (W:World) (z c:Array Value) (t:TypeId) (o1 o2:Obj):(((W.alloc o1).alloc o2).alloc (.cells z t)).setRow (W.heap.size+2) c=((W.alloc o1).alloc o2).alloc (.cells c t):=by
 have e:W.heap.size+2=((W.alloc o1).alloc o2).heap.size:=by simp
 rw [e,World.setRow_alloc_new]
theorem heap3_1 (W:World) (a b c:Obj):(((W.alloc a).alloc b).alloc c).heap[W.heap.size]?=some a:=by
 rw [Below.heap_alloc _ _ _ (by simp;omega),Below.heap_alloc _ _ _ (by simp)];exact World.alloc_heap_new W a
theorem heap3_2 (W:World) (a b c:Obj):(((W.alloc a).alloc b).alloc c).heap[W.heap.size+1]?=some b:=by
 rw [Below.heap_alloc _ _ _ (by simp)];exact heap_alloc2_new W a b
theorem heap3_3 (W:World) (a b c:Obj):(((W.alloc a).alloc b).alloc c).heap[W.heap.size+2]?=some c:=by
 have:=World.alloc_heap_new ((W.alloc a).alloc b) c
 simpa using this
def nmc:ByteArray:=⟨#[97,98,99,100,101,102,103,104,105,106,107,108,109,110,111,112,113,114,115,116,117,118,119,120,121,122,65,66,67,68,69,70,71,72,73,74,75,76,77,78,79,80,81,82,83,84,85,86,87,88,89,90,48,49,50,51,52,53,54,55,56,57,95,39]⟩
def findF (q:FA):Value:=.func (.func 254) #[] #[.pointer (some ⟨q.t,0,none⟩),.pointer (some ⟨q.sm,0,none⟩),.pointer (some ⟨q.sc,0,none⟩),.pointer (some ⟨q.ca,0,none⟩),.pointer (some ⟨q.tk,0,none⟩),.pointer (some ⟨q.ne,0,none⟩),.pointer (some ⟨q.sg,0,none⟩),.pointer (some ⟨q.lo,0,none⟩)]
def FA.ge (q:FA) (n:Nat):Prop:=n≤q.t∧n≤q.sm∧n≤q.ca∧n≤q.sg∧n≤q.nm∧n≤q.wd∧n≤q.wl∧n≤q.tk∧n≤q.fo∧n≤q.ne∧n≤q.sc∧n≤q.lo
def FinderOut (s:ByteArray) (w:World) (e:Ending) (w':World):Prop:=∃ q:FA,e = .returned (findF q)∧FEnv q s w'∧Below w.heap.size w w'∧q.ge w.heap.size
theorem all_bytes {p:Nat→Bool} (h:∀ n,n < 256→p n=true) (c:UInt8):p c.toNat=true:=h _ c.toNat_lt
theorem sml_small (c:UInt8):(bs sml).any (fun d=>decide (d.toNat=c.toNat))=Lx.small c:=by
 have:=all_bytes (p:=fun n=>(bs sml).any (fun d=>decide (d.toNat=n))==(decide (97≤n) && decide (n≤122))) (by decide +kernel) c
 simpa [Lx.small] using this
theorem cpt_capital (c:UInt8):(bs cpt).any (fun d=>decide (d.toNat=c.toNat))=Lx.capital c:=by
 have:=all_bytes (p:=fun n=>(bs cpt).any (fun d=>decide (d.toNat=n))==(decide (65≤n) && decide (n≤90))) (by decide +kernel) c
 simpa [Lx.capital] using this
theorem sgn_sign (c:UInt8):(bs sgn).any (fun d=>decide (d.toNat=c.toNat))=Lx.signB c:=by
 have h:∀ d:UInt8,decide (d.toNat=c.toNat)=(c==d):=fun d=>by
  rw [Bool.eq_iff_iff,decide_eq_true_eq,beq_iff_eq,←UInt8.toNat_inj];exact eq_comm
 simp only [h]
 simp only [bs,sgn,Lx.signB,List.contains_eq_any_beq]
theorem nmc_part (c:UInt8):(bs nmc).any (fun d=>decide (d.toNat=c.toNat))=Lx.part c:=by
 have:=all_bytes (p:=fun n=>(bs nmc).any (fun d=>decide (d.toNat=n))==((decide (97≤n) && decide (n≤122)) || (decide (65≤n) && decide (n≤90)) || (decide (48≤n) && decide (n≤57)) || decide (n=95) || decide (n=39))) (by decide +kernel) c
 simpa [Lx.part,Lx.small,Lx.capital] using this
theorem last_cell (X:World) (v:Value) (t:TypeId) (F:World) (hb:Below (X.alloc (.cells #[v] t)).heap.size (X.alloc (.cells #[v] t)) F) (n:Nat) (hn:n=X.heap.size):F.cell? ⟨n,0,none⟩=some v:=by
 subst hn
 exact (hb.cell (p:=⟨X.heap.size,0,none⟩) (by simp)).trans (by simp [World.cell?_alloc_at])
theorem env_of (s:ByteArray) (w w1 w2 w3 w4 w5 F:World) (o1 o2 o3 o4 o5 o6:Obj)
  (hb1:Below (w.alloc (.cells #[.string s] 9)).heap.size (w.alloc (.cells #[.string s] 9)) w1) (hb2:Below w1.heap.size w1 w2) (hb3:Below w2.heap.size w2 w3)
  (hb4:Below (((w3.alloc (.cells (clsArr (bs sml)) 219)).alloc (.cells (clsArr (bs cpt)) 219)).alloc (.cells (clsArr (bs sgn)) 219)).heap.size
   (((w3.alloc (.cells (clsArr (bs sml)) 219)).alloc (.cells (clsArr (bs cpt)) 219)).alloc (.cells (clsArr (bs sgn)) 219)) w4)
  (hw5:w5=(w4.alloc (.cells (clsArr (bs nmc)) 219)).alloc (.cells wordsArr 9))
  (hF:F=(((((w5.alloc o1).alloc o2).alloc o3).alloc o4).alloc o5).alloc o6)
  (h1:o1 = .cells #[.slice (some ⟨w4.heap.size+1,0,none⟩) 17 17] 45)
  (h2:∃ t,o2 = .cells #[.func (.func 248) #[] #[.pointer (some ⟨w.heap.size,0,none⟩)]] t)
  (h3:∃ t,o3 = .cells #[.func (.func 249) #[] #[.pointer (some ⟨w.heap.size,0,none⟩)]] t)
  (h4:∃ t,o4 = .cells #[.func (.func 251) #[] #[.pointer (some ⟨w.heap.size,0,none⟩),.pointer (some ⟨w4.heap.size,0,none⟩)]] t)
  (h5:∃ t,o5 = .cells #[.func (.func 252) #[] #[.pointer (some ⟨w5.heap.size+1+1+1,0,none⟩),.pointer (some ⟨w5.heap.size+1+1,0,none⟩),.pointer (some ⟨w.heap.size,0,none⟩),.pointer (some ⟨w3.heap.size,0,none⟩),.pointer (some ⟨w5.heap.size+1,0,none⟩),.pointer (some ⟨w5.heap.size,0,none⟩)]] t)
  (h6:∃ t,o6 = .cells #[.func (.func 253) #[] #[.pointer (some ⟨w5.heap.size+1+1,0,none⟩),.pointer (some ⟨w5.heap.size+1+1+1,0,none⟩)]] t) :
  FEnv ⟨w.heap.size,w3.heap.size,w3.heap.size+1,w3.heap.size+1+1,w4.heap.size,w5.heap.size,w4.heap.size+1,w5.heap.size+1,w5.heap.size+1+1,w5.heap.size+1+1+1,w5.heap.size+1+1+1+1,w5.heap.size+1+1+1+1+1⟩ s F ∧
   Below w.heap.size w F:=by
 obtain ⟨t2,rfl⟩:=h2
 obtain ⟨t3,rfl⟩:=h3
 obtain ⟨t4,rfl⟩:=h4
 obtain ⟨t5,rfl⟩:=h5
 obtain ⟨t6,rfl⟩:=h6
 have z1:=hb1.size
 have z2:=hb2.size
 have z3:=hb3.size
 have z4:=hb4.size
 simp only [World.size_alloc] at z1 z4
 have hz5:w5.heap.size=w4.heap.size+1+1:=by rw [hw5];simp
 have b5:Below w5.heap.size w5 F:=by
  rw [hF]
  exact (((((((Below.refl _ w5).alloc (Nat.le_refl _) _).alloc (by simp) _).alloc (by simp;omega) _).alloc (by simp;omega) _).alloc (by simp;omega) _).alloc (by simp;omega) _)
 have b4:Below w4.heap.size w4 F:=by
  have:Below w4.heap.size w4 w5:=by rw [hw5];exact ((Below.refl _ w4).alloc (Nat.le_refl _) _).alloc (by simp) _
  exact this.trans (b5.mono (by omega))
 have b3:=hb4.trans (b4.mono (by simp only [World.size_alloc];omega))
 have b3':Below w3.heap.size w3 F:=(((((Below.refl _ w3).alloc (Nat.le_refl _) _).alloc (by simp) _).alloc (by simp;omega) _)).trans (b3.mono (by simp;omega))
 have b0:=hb1.trans ((hb2.trans ((hb3.trans (b3'.mono z3)).mono z2)).mono (by simp only [World.size_alloc];omega))
 refine ⟨⟨?_,?_,?_,?_,?_,?_,?_,?_,?_,?_,?_,?_⟩,((Below.refl _ w).alloc (Nat.le_refl _) _).trans (b0.mono (by simp))⟩
 ·exact (b0.cell (p:=⟨w.heap.size,0,none⟩) (by simp)).trans (by simp [World.cell?_alloc_at])
 ·intro c
  refine (b3.cell (p:=⟨w3.heap.size,c.toNat,none⟩) (by simp;omega)).trans ?_
  rw [cell_of_row _ _ _ _ _ _ (heap3_1 w3 _ _ _),clsArr_get,sml_small]
 ·intro c
  refine (b3.cell (p:=⟨w3.heap.size+1,c.toNat,none⟩) (by simp)).trans ?_
  rw [cell_of_row _ _ _ _ _ _ (heap3_2 w3 _ _ _),clsArr_get,cpt_capital]
 ·intro c
  refine (b3.cell (p:=⟨w3.heap.size+1+1,c.toNat,none⟩) (by simp)).trans ?_
  rw [cell_of_row _ _ _ _ _ _ (heap3_3 w3 _ _ _),clsArr_get,sgn_sign]
 ·intro c
  refine (b5.cell (p:=⟨w4.heap.size,c.toNat,none⟩) (by simp;omega)).trans ?_
  have hh:w5.heap[w4.heap.size]?=some (.cells (clsArr (bs nmc)) 219):=by rw [hw5];exact heap_alloc2_old w4 _ _
  rw [cell_of_row _ _ _ _ _ _ hh,clsArr_get,nmc_part]
 ·rw [hF,h1];exact last_cell w5 _ _ _ ((((((Below.refl _ _).alloc (by simp only [World.size_alloc];omega) _).alloc (by simp only [World.size_alloc];omega) _).alloc (by simp only [World.size_alloc];omega) _).alloc (by simp only [World.size_alloc];omega) _).alloc (by simp only [World.size_alloc];omega) _) _ rfl
 ·intro k hk
  refine (b5.cell (p:=⟨w4.heap.size+1,0+k,none⟩) (by simp;omega)).trans ?_
  have hh:w5.heap[w4.heap.size+1]?=some (.cells wordsArr 9):=by rw [hw5];exact heap_alloc2_new w4 _ _
  rw [cell_of_row _ _ _ _ _ _ hh,Nat.zero_add,wordsArr]
  simp [hk,List.getD_eq_getElem?_getD]
 ·rw [hF];exact last_cell _ _ _ _ (((((Below.refl _ _).alloc (by simp only [World.size_alloc];omega) _).alloc (by simp only [World.size_alloc];omega) _).alloc (by simp only [World.size_alloc];omega) _).alloc (by simp only [World.size_alloc];omega) _) _ (by simp only [World.size_alloc])
 ·rw [hF];exact last_cell _ _ _ _ ((((Below.refl _ _).alloc (by simp only [World.size_alloc];omega) _).alloc (by simp only [World.size_alloc];omega) _).alloc (by simp only [World.size_alloc];omega) _) _ (by simp only [World.size_alloc])
 ·rw [hF];exact last_cell _ _ _ _ (((Below.refl _ _).alloc (by simp only [World.size_alloc];omega) _).alloc (by simp only [World.size_alloc];omega) _) _ (by simp only [World.size_alloc])
 ·rw [hF];exact last_cell _ _ _ _ ((Below.refl _ _).alloc (by simp only [World.size_alloc];omega) _) _ (by simp only [World.size_alloc])
 ·rw [hF];exact last_cell _ _ _ _ (Below.refl _ _) _ (by simp only [World.size_alloc])
set_option maxRecDepth 100000 in
set_option maxHeartbeats 1600000 in
theorem finder_any (s:ByteArray) (w:World) (_hs:s.size≤20000) :
  Calls Tryz.prog 218 #[.string s] w (FinderOut s w):=by
 have hmf:∀ (fn:Fn) (first cap:Array Value) (w:World),(Instr.makeFunc fn first cap).run Tryz.prog w = .ok (.func fn first cap) w:=fun _ _ _ _=>rfl
 have HI:∀ b,Hid ((Tryz.prog.info? 219).map (·.size)=some (clsArr (bs b)).size):=fun b=>by rw [clsArr_size];exact infoArr
 have HZ:∀ b,Hid (Tryz.zeroCells219.size=(clsArr (bs b)).size):=fun b=>by rw [clsArr_size,←clsArr_nil,clsArr_size];rfl
 have HC:=fun b=>qh (clsArr_cells (bs b))
 go_enter Tryz.func218,Tryz.ntmps218
 go_wp2_with fail
 refine (class_any sml _ (by unfold maxLen;decide)).mono ?_
 rintro e w1 ⟨rfl,hb1⟩
 have Hb1:=qh hb1;clear hb1
 go_wp2_with fail
 refine (class_any cpt _ (by unfold maxLen;decide)).mono ?_
 rintro e w2 ⟨rfl,hb2⟩
 have Hb2:=qh hb2;clear hb2
 go_wp2_with fail
 refine (class_any sgn _ (by unfold maxLen;decide)).mono ?_
 rintro e w3 ⟨rfl,hb3⟩
 have Hb3:=qh hb3;clear hb3
 go_wp2_with (first
  | (refine wpList_store_row (o:=⟨none,.store 219 (.tmp 3) (.tmp 13),_,_,_,_⟩) rfl 219 (.tmp 3) (.tmp 13) rfl w3.heap.size (clsArr (bs sml)) rfl rfl 219 Tryz.zeroCells219 (heap3_1 _ _ _ _) (HI _).out (HZ _).out (HC _).out ?_;rw [three1])
  | (refine wpList_store_row (o:=⟨none,.store 219 (.tmp 4) (.tmp 14),_,_,_,_⟩) rfl 219 (.tmp 4) (.tmp 14) rfl (w3.heap.size+1) (clsArr (bs cpt)) rfl rfl 219 Tryz.zeroCells219 (heap3_2 _ _ _ _) (HI _).out (HZ _).out (HC _).out ?_;rw [three2])
  | (refine wpList_store_row (o:=⟨none,.store 219 (.tmp 5) (.tmp 15),_,_,_,_⟩) rfl 219 (.tmp 5) (.tmp 15) rfl (w3.heap.size+2) (clsArr (bs sgn)) rfl rfl 219 Tryz.zeroCells219 (heap3_3 _ _ _ _) (HI _).out (HZ _).out (HC _).out ?_;rw [three3]))
 refine (class_any nmc _ (by unfold maxLen;decide)).mono ?_
 rintro e w4 ⟨rfl,hb4⟩
 have Hb4:=qh hb4;clear hb4
 go_wp2_with (first
  | (refine wpList_store_row (o:=⟨none,.store 219 (.tmp 6) (.tmp 16),_,_,_,_⟩) rfl 219 (.tmp 6) (.tmp 16) rfl w4.heap.size (clsArr (bs nmc)) rfl rfl 219 Tryz.zeroCells219 (World.alloc_heap_new _ _) (HI _).out (HZ _).out (HC _).out ?_;rw [World.setRow_alloc_new]))
 refine (words_any _).mono ?_
 rintro e w5 ⟨rfl,hw5⟩
 have hz:w5.heap.size=w4.heap.size+2:=by rw [hw5];simp
 have Hw5:=qh hw5;clear hw5
 have Hz:=qh hz;clear hz
 go_wp2
 obtain ⟨hE,hB⟩:=env_of s w w1 w2 w3 w4 w5 _ _ _ _ _ _ _ Hb1.out Hb2.out Hb3.out Hb4.out Hw5.out rfl rfl ⟨_,rfl⟩ ⟨_,rfl⟩ ⟨_,rfl⟩ ⟨_,rfl⟩ ⟨_,rfl⟩
 go_ret
 refine ⟨_,rfl,hE,hB,?_⟩
 have z1:=Hb1.out.size
 have z2:=Hb2.out.size
 have z3:=Hb3.out.size
 have z4:=Hb4.out.size
 have z5:=Hz.out
 simp only [World.size_alloc] at z1 z4
 refine ⟨?_,?_,?_,?_,?_,?_,?_,?_,?_,?_,?_,?_⟩ <;> simp only <;> omega
end Go.Proofs.YtgjijidlaghlmaaGreatDoor
namespace Go.Proofs.YtgjijidlaghlmaaGreatDoor
open Go.RowKit
theorem idx_line (r:Lx.Bs):(Lib.indexByte r 10 = -1∧(r.takeWhile fun c=>decide (c.toNat≠10)).length=r.length) ∨
  (0≤Lib.indexByte r 10∧Lib.indexByte r 10=(r.takeWhile fun c=>decide (c.toNat≠10)).length):=by
 induction r with
 | nil=>left;exact ⟨rfl,rfl⟩
 | cons b r ih =>
  unfold Lib.indexByte
  by_cases h:b=10
  ·subst h;right;simp
  ·have hn:b.toNat≠10:=fun e=>h (by rw [←UInt8.toNat_inj];exact e)
   have hb:(b==(10:UInt8))=false:=by simpa using h
   have e:(b :: r).takeWhile (fun c=>decide (c.toNat≠10))=b :: r.takeWhile (fun c=>decide (c.toNat≠10)):=by
    rw [List.takeWhile_cons,if_pos (by simpa using hn)]
   rw [hb,e]
   simp only [Bool.false_eq_true,if_false,List.length_cons]
   rcases ih with ⟨h1,h2⟩ | ⟨h1,h2⟩
   ·left;rw [h1,h2];exact ⟨rfl,rfl⟩
   ·right
    have h3:(Lib.indexByte r 10 == -1)=false:=by rw [beq_eq_false_iff_ne];omega
    rw [h3];simp only [Bool.false_eq_true,if_false];omega
set_option maxRecDepth 100000 in
set_option maxHeartbeats 400000 in
theorem lineEnd_any (s:ByteArray) (i:Nat) (w:World) (hs:s.size≤maxLen) (hi:i≤s.size) :
  Calls Tryz.prog 255 #[.string s,.int .i64 i] w fun e w'=>e = .returned (.int .i64 (Lx.lineTo (bs s) i))∧w=w':=by
 unfold maxLen at hs
 have hx:=idx_line ((bs s).drop i)
 have hl:=Lx.lineTo_le (l:=bs s) (i:=i) (by rw [bs_len];omega)
 have hd:((bs s).drop i).length=s.size - i:=by simp [bs]
 have e1:List.take (s.size - i) (List.drop i s.data.toList)=(bs s).drop i:=List.take_of_length_le (by simp)
 have E1:=qh e1;clear e1
 have hL:Lx.lineTo (bs s) i=i+(((bs s).drop i).takeWhile fun c=>decide (c.toNat≠10)).length:=rfl
 rw [bs_len] at hl
 rw [hd] at hx
 obtain ⟨n,hn⟩:∃ n,Lib.indexByte ((bs s).drop i) 10=n:=⟨_,rfl⟩
 rw [hn] at hx
 have Hn:=qh hn;clear hn hd
 rw [hL] at hl ⊢
 obtain ⟨m,hm⟩:∃ m,(((bs s).drop i).takeWhile fun c=>decide (c.toNat≠10)).length=m:=⟨_,rfl⟩
 rw [hm] at hx hl ⊢
 clear hm hL
 rcases hx with ⟨h1,h2⟩ | ⟨h1,h2⟩
 ·have H2:=qh h2;clear h2
  subst h1
  go_enter Tryz.func255,Tryz.ntmps255
  go_wp2_with (go_at_call 215;refine (Tryz.strings_IndexByte _ _ _).mono ?_;rintro e w' ⟨rfl,hw⟩;obtain rfl:=hw.symm;rw [show (10:Int).toNat.toUInt8=(10:UInt8) from rfl,show (s.extract i s.size).data.toList=(bs s).drop i from (bs_extract_end s i),Hn.out])
  go_ret
  exact ⟨ret_int (by have:=H2.out;omega),rfl⟩
 ·subst h2
  go_enter Tryz.func255,Tryz.ntmps255
  go_wp2_with (go_at_call 215;refine (Tryz.strings_IndexByte _ _ _).mono ?_;rintro e w' ⟨rfl,hw⟩;obtain rfl:=hw.symm;rw [show (10:Int).toNat.toUInt8=(10:UInt8) from rfl,show (s.extract i s.size).data.toList=(bs s).drop i from (bs_extract_end s i),Hn.out])
  go_ret
  exact ⟨ret_int (by omega),rfl⟩
theorem lineEnd_int (s:ByteArray) (i:Int) (w:World) (hs:s.size≤maxLen) (h0:0≤i) (hi:i≤s.size) :
  Calls Tryz.prog 255 #[.string s,.int .i64 i] w fun e w'=>e = .returned (.int .i64 (Lx.lineTo (bs s) i.toNat))∧w=w':=by
 obtain ⟨n,rfl⟩:=Int.eq_ofNat_of_zero_le h0
 exact lineEnd_any s n w hs (by omega)
theorem nat_of {c:UInt8} {n:Nat} (h:((c.toNat:Int)==(n:Int))=true):c.toNat=n:=by rw [beq_iff_eq] at h;omega
theorem nnat_of {c:UInt8} {n:Nat} (h:((c.toNat:Int)==(n:Int))=false):c.toNat≠n:=by rw [beq_eq_false_iff_ne] at h;omega
theorem blank_of {c:UInt8} (h:((c.toNat:Int)==32)=true∨((c.toNat:Int)==9)=true∨((c.toNat:Int)==10)=true):Lx.blank c=true:=by
 simp only [beq_iff_eq] at h
 simp only [Lx.blank,Bool.or_eq_true,decide_eq_true_eq];omega
theorem noblank_of {c:UInt8} (h1:((c.toNat:Int)==32)=false) (h2:((c.toNat:Int)==9)=false) (h3:((c.toNat:Int)==10)=false):Lx.blank c=false:=by
 simp only [beq_eq_false_iff_ne,ne_eq] at h1 h2 h3
 simp only [Lx.blank,Bool.or_eq_false_iff,decide_eq_false_iff_not];omega
set_option maxRecDepth 100000 in
set_option maxHeartbeats 400000 in
theorem skip_any (s:ByteArray) (i:Nat) (w:World) (hs:s.size≤maxLen) (hi:i≤s.size) :
  Calls Tryz.prog 219 #[.string s,.int .i64 i] w fun e w'=>e = .returned (.int .i64 (Lx.skipTo (bs s) i))∧w=w':=by
 have hm:=hs
 unfold maxLen at hs
 go_enter Tryz.func219,Tryz.ntmps219
 go_wp2
 go_loop [1] (fun a=>∃ k:Nat,k≤s.size∧a = .int .i64 k∧Lx.skipTo (bs s) i=Lx.skipTo (bs s) k) (fun a=>s.size - (intOf a).toNat)
 case atStart=>exact ⟨i,hi,rfl,rfl⟩
 case round =>
  obtain ⟨k,hk,rfl,hrun⟩:=hrel
  have Hrun:=qh hrun;clear hrun
  by_cases hlt:k < s.size
  ·go_wp2_with (go_at_call 255;refine (lineEnd_int s k _ hm (by omega) (by omega)).mono ?_;rintro e w' ⟨rfl,rfl⟩)
   ·have h:((s[k].toNat:Int)==32)=true:=by assumption
    go_round
    case rel=>exact ⟨k+1,by omega,by go_num,Hrun.out.trans (Lx.skipTo_blank (by rw [bs_len];exact hlt) (by rw [bs_get hlt];exact blank_of (.inl h)))⟩
    case measure=>simp [intOf];omega
   ·have h:((s[k].toNat:Int)==9)=true:=by assumption
    go_round
    case rel=>exact ⟨k+1,by omega,by go_num,Hrun.out.trans (Lx.skipTo_blank (by rw [bs_len];exact hlt) (by rw [bs_get hlt];exact blank_of (.inr (.inl h))))⟩
    case measure=>simp [intOf];omega
   ·have h:((s[k].toNat:Int)==10)=true:=by assumption
    go_round
    case rel=>exact ⟨k+1,by omega,by go_num,Hrun.out.trans (Lx.skipTo_blank (by rw [bs_len];exact hlt) (by rw [bs_get hlt];exact blank_of (.inr (.inr h))))⟩
    case measure=>simp [intOf];omega
   ·have h:((s[k].toNat:Int)==37)=true:=by assumption
    have hc:=Lx.skipTo_comment (l:=bs s) (k:=k) (by rw [bs_len];exact hlt) (by rw [bs_get hlt];exact nat_of h)
    have hl:=Lx.lineTo_le (l:=bs s) (i:=k) (by rw [bs_len];omega)
    rw [bs_len] at hl
    go_round
    case rel=>exact ⟨Lx.lineTo (bs s) k,by omega,rfl,Hrun.out.trans hc.1⟩
    case measure=>simp [intOf];omega
   ·have h1:((s[k].toNat:Int)==32)=false:=by assumption
    have h2:((s[k].toNat:Int)==9)=false:=by assumption
    have h3:((s[k].toNat:Int)==10)=false:=by assumption
    have h4:((s[k].toNat:Int)==37)=false:=by assumption
    go_ret
    exact ⟨ret_int (by rw [Hrun.out,Lx.skipTo_stop (by rw [bs_len];exact hlt) (by rw [bs_get hlt];exact noblank_of h1 h2 h3) (by rw [bs_get hlt];exact nnat_of h4)]),rfl⟩
  ·go_wp2
   go_ret
   exact ⟨ret_int (by rw [Hrun.out,Lx.skipTo_end (by rw [bs_len];omega)]),rfl⟩
theorem skip_int (s:ByteArray) (i:Int) (w:World) (hs:s.size≤maxLen) (h0:0≤i) (hi:i≤s.size) :
  Calls Tryz.prog 219 #[.string s,.int .i64 i] w fun e w'=>e = .returned (.int .i64 (Lx.skipTo (bs s) i.toNat))∧w=w':=by
 obtain ⟨n,rfl⟩:=Int.eq_ofNat_of_zero_le h0
 exact skip_any s n w hs (by omega)
end Go.Proofs.YtgjijidlaghlmaaGreatDoor
namespace Go.Proofs.YtgjijidlaghlmaaGreatDoor
open Go.RowKit
variable {F:Fence} {n:Nat} {P:Program}
def roundPostP (P:Program) (l:Nat) (R:Ending→World→Prop):Exit→Act→World→Prop
 | .normal,_,w=>∃ v w',(Instr.endRound l none).run P w = .ok v w'∧R (.returned v) w'
 | .ret,_,w=>∃ v w',(Instr.endRound l (some .ret)).run P w = .ok v w'∧R (.returned v) w'
 | .exit id,_,w=>∃ v w',(Instr.endRound l (some (.exit id))).run P w = .ok v w'∧R (.returned v) w'
 | .goto t,_,w=>∃ v w',(Instr.endRound l (some (.goto t))).run P w = .ok v w'∧R (.returned v) w'
 | .panic chain,a,w=>a.defers=[]∧R (.panicked chain) w
 | .outgrown,_,_=>False
theorem roundIn_of_wpIn_p {l:Nat} {f:FuncId} {fn:Func} {tmps:Array Value} {assign body:Code} {w:World} {R:Ending→World→Prop} (hF:F.fn f) (hfn:P.funcs[f]?=some fn)
  (h:assign.wpIn (F.inRound l) n P (Exit.then (fun a₁ w₁=>∃ w₂,(Instr.beginRound l).run P w₁ = .ok () w₂∧body.wpIn (F.inRound l) n P (roundPostP P l R) a₁ w₂) (fun _ _ _=>False))
   { tmps:=tmps,defers:=[] } w) :
  RoundIn F n P l f tmps assign body w R:=by
 refine ⟨hF,fun c cs hr=>?_⟩
 let b:Frame:={ (default:Frame) with fn:=f,kind:=.normal,roundOf:=some l }
 have hb0:Frame.round l f tmps assign body .normal=b.atR { tmps:=tmps,defers:=[] } [.code assign,.beginRound,.code body]:=by
  simp [Frame.round,Frame.atR,b]
 have hr':(F.inRound l).room ((c :: cs).length+1+n):=hr
 have hF':(F.inRound l).fn b.fn:=hF
 obtain ⟨e,a₁,w₁,hq,harr⟩:=h b [.beginRound,.code body] (c :: cs) rfl hF' hr'
 rw [←hb0] at harr
 cases e with
 | normal =>
  obtain ⟨w₂,hbr,hbody⟩:=hq
  have s1:StepsIn (Machine.fenced P (F.inRound l)) P (lone (b.atR a₁ [.beginRound,.code body]) (c :: cs) w₁) (lone (b.atR a₁ [.code body]) (c :: cs) w₂) :=
   .one (fenced_calm (fr:=b.atR a₁ [.beginRound,.code body]) hF' hr' rfl) (stepR_beginRound rfl hbr)
  obtain ⟨e₂,a₂,w₃,hq₂,harr₂⟩:=hbody b [] (c :: cs) rfl hF' hr'
  cases e₂ with
  | normal =>
   obtain ⟨v,w₄,hend,hR⟩:=hq₂
   exact ⟨.returned v,w₄,hR,(StepsIn.trans harr s1).trans (StepsIn.trans harr₂ (.one (fenced_calm (fr:=b.atR a₂ []) hF' hr' rfl) (stepR_round_end rfl rfl hend)))⟩
  | ret =>
   obtain ⟨v,w₄,hend,hR⟩:=hq₂
   obtain ⟨k₁,hs⟩:=harr₂.2 rfl
   exact ⟨.returned v,w₄,hR,(StepsIn.trans harr s1).trans (StepsIn.trans hs (.one (fenced_calm (fr:=b.atR a₂ (.code .ret :: k₁)) hF' hr' rfl) (stepR_round_ret rfl rfl hend)))⟩
  | exit id =>
   obtain ⟨v,w₄,hend,hR⟩:=hq₂
   obtain ⟨k₁,hk,hs⟩:=harr₂.2 rfl rfl
   exact ⟨.returned v,w₄,hR,(StepsIn.trans harr s1).trans (StepsIn.trans hs (.one (fenced_calm (fr:=b.atR a₂ (.code (.exit id) :: k₁)) hF' hr' rfl) (stepR_round_exit rfl rfl hk hend)))⟩
  | goto t =>
   obtain ⟨v,w₄,hend,hR⟩:=hq₂
   obtain ⟨k₁,hk,hs⟩:=harr₂.2 rfl rfl
   exact ⟨.returned v,w₄,hR,(StepsIn.trans harr s1).trans (StepsIn.trans hs (.one (fenced_calm (fr:=b.atR a₂ (.code (.goto t) :: k₁)) hF' hr' rfl) (stepR_round_goto rfl rfl hk hend)))⟩
  | panic chain =>
   obtain ⟨hd,hR⟩:=hq₂
   obtain ⟨todo,hs⟩:=harr₂
   have hl:({ b.atR a₂ todo with mode:=.panicking chain }:Frame).leaving P w₃ (.panicked chain):=⟨rfl,hd,fn,hfn⟩
   have hfen:(lone { b.atR a₂ todo with mode:=.panicking chain } (c :: cs) w₃).fenced P F:=fenced_leaving (n:=n) hF hr hl
   exact ⟨.panicked chain,w₃,hR,(StepsIn.trans harr s1).trans (StepsIn.trans hs (.one hfen (step_leave_panicked hl)))⟩
  | outgrown=>exact hq₂.elim
 | exit id=>exact hq.elim
 | goto t=>exact hq.elim
 | ret=>exact hq.elim
 | panic chain=>exact hq.elim
 | outgrown=>exact hq.elim
def wpAt (f0:FuncId) (_n:Nat) (P:Program) (c:Code) (Q:Exit→Act→World→Prop) (a:Act) (w:World):Prop :=
 ∀ (b:Frame) (k:List Item) (cs:List Frame),b.roundOf=none→b.fn=f0 →
  ∃ e a' w',Q e a' w'∧ArrivesIn (Machine.fenced P Fence.wide) P (lone (b.atR a (.code c :: k)) cs w) b k cs e a' w'
section
variable {f0:FuncId} {Q:Exit→Act→World→Prop} {a:Act} {w:World}
theorem wpAt_of_wpIn {c:Code} (h:c.wpIn Fence.wide n P Q a w):wpAt f0 n P c Q a w:=fun b k cs hro _=>h b k cs hro trivial (room_wide _)
theorem wpAt_seq {x y:Code} (h:wpAt f0 n P x (Exit.then (wpAt f0 n P y Q) Q) a w):wpAt f0 n P (Code.seq x y) Q a w:=by
 intro b k cs hro hb
 have h0:(lone (b.atR a (.code (.seq x y) :: k)) cs w).fenced P Fence.wide:=fenced_wide P _
 obtain ⟨e,a₁,w₁,hq,harr⟩:=h b (.code y :: k) cs hro hb
 cases e with
 | normal =>
  obtain ⟨e₂,a₂,w₂,hq₂,harr₂⟩:=hq b k cs hro hb
  exact ⟨e₂,a₂,w₂,hq₂,.of_steps (.head h0 stepR_seq harr) harr₂⟩
 | exit id=>exact ⟨_,a₁,w₁,hq,.of_steps (.one h0 stepR_seq) (.pass (x:=.code y) rfl (fun _ _=>.inl (by simp)) harr)⟩
 | goto l=>exact ⟨_,a₁,w₁,hq,.of_steps (.one h0 stepR_seq) (.pass (x:=.code y) rfl (fun _ _=>.inl (by simp)) harr)⟩
 | ret=>exact ⟨_,a₁,w₁,hq,.of_steps (.one h0 stepR_seq) (.pass (x:=.code y) rfl (fun _ _=>.inl (by simp)) harr)⟩
 | panic ch=>exact ⟨_,a₁,w₁,hq,.of_steps (.one h0 stepR_seq) (.pass (x:=.code y) rfl (fun _ _=>.inl (by simp)) harr)⟩
 | outgrown=>exact ⟨_,a₁,w₁,hq,.of_steps (.one h0 stepR_seq) (.pass (x:=.code y) rfl (fun _ _=>.inl (by simp)) harr)⟩
theorem wpAt_block {id:Nat} {c:Code} (h:wpAt f0 n P c (Exit.inBlock id Q) a w):wpAt f0 n P (Code.block id c) Q a w:=by
 intro b k cs hro hb
 have h0:(lone (b.atR a (.code (.block id c) :: k)) cs w).fenced P Fence.wide:=fenced_wide P _
 obtain ⟨e,a₁,w₁,hq,harr⟩:=h b (.inBlock id :: k) cs hro hb
 cases e with
 | normal=>exact ⟨.normal,a₁,w₁,hq,.head h0 stepR_block (StepsIn.trans harr (.one (fenced_wide P _) stepR_inBlock))⟩
 | exit id' =>
  by_cases hid:id'=id
  ·simp only [Exit.inBlock,hid,if_true] at hq
   exact ⟨.normal,a₁,w₁,hq,.head h0 stepR_block (harr.1 k (by simp [exitTo,hid]))⟩
  ·simp only [Exit.inBlock,hid,if_false] at hq
   have this:(id==id')=false:=by simp;exact fun h=>hid h.symm
   have hx:exitTo id' (.inBlock id :: k)=exitTo id' k:=by simp [exitTo,this]
   exact ⟨.exit id',a₁,w₁,hq,fun k' hk=>.head h0 stepR_block (harr.1 k' (by rw [hx];exact hk)),
    fun hr' hk=>let ⟨k₁,h1,h2⟩:=harr.2 hr' (by rw [hx];exact hk);⟨k₁,h1,.head h0 stepR_block h2⟩⟩
 | goto l =>
  have hx:gotoIn l (.inBlock id :: k)=gotoIn l k:=by simp [gotoIn]
  exact ⟨_,a₁,w₁,hq,fun k' hk=>.head h0 stepR_block (harr.1 k' (by rw [hx];exact hk)),
   fun hr' hk=>let ⟨k₁,h1,h2⟩:=harr.2 hr' (by rw [hx];exact hk);⟨k₁,h1,.head h0 stepR_block h2⟩⟩
 | ret=>exact ⟨_,a₁,w₁,hq,.of_steps (.one h0 stepR_block) harr⟩
 | panic ch=>exact ⟨_,a₁,w₁,hq,.of_steps (.one h0 stepR_block) harr⟩
 | outgrown=>exact ⟨_,a₁,w₁,hq,.of_steps (.one h0 stepR_block) harr⟩
theorem wpAt_rangeFunc {g:Operand} {ps:Array Tmp} {assign body:Code}
  (h:∃ (l:Nat) (mark:List Deferred) (w₁:World) (d:Deferred) (w₁':World) (f:FuncId) (args:Array Value) (w₂:World),
   (Instr.enterLoop f0 a.tmps ps assign body none).run P w = .ok (l,mark) w₁ ∧
   (resolve a.eval (rangeCall g l) 0).run P w₁ = .ok d w₁' ∧
   (invoke d.target d.args).run P w₁' = .ok (.enter f args) w₂ ∧
   CallsIn Fence.wide (n - 1) P f args w₂ (rangePost Fence.wide n P l Q { a with defers:=mark++a.defers })) :
  wpAt f0 n P (Code.rangeFunc g ps assign body) Q a w:=by
 intro b k cs hro hb
 obtain ⟨l,mark,w₁,d,w₁',f,args,w₂,he,hres,hinv,hF,hcall⟩:=h
 rw [←hro,←hb] at he
 have h0:(lone (b.atR a (.code (.rangeFunc g ps assign body) :: k)) cs w).fenced P Fence.wide:=fenced_wide P _
 have henter:=stepR_rangeFunc (P:=P) (b:=b) (a:=a) (k:=k) (cs:=cs) (w:=w) he hres hinv
 obtain ⟨e,w₃,fr,hR,hsteps,hfn,hleave⟩:=hcall (b.atR { a with defers:=mark++a.defers } (.inRangeFunc l :: k) :: cs) (room_wide _)
 cases e with
 | outgrown =>
  obtain ⟨a₀,w₀,hq⟩:=hR
  exact ⟨.outgrown,a₀,w₀,hq,.inr (Outgrown.of_steps (.one henter) hsteps)⟩
 | returned v =>
  have hl:(lone fr (b.atR { a with defers:=mark++a.defers } (.inRangeFunc l :: k) :: cs) w₃).fenced P Fence.wide:=fenced_wide P _
  obtain ⟨jump,w₄,hend,hj⟩:=hR
  have sback:StepsIn (Machine.fenced P Fence.wide) P (lone (b.atR a (.code (.rangeFunc g ps assign body) :: k)) cs w) (lone (b.atR { a with defers:=mark++a.defers } ((jump.map Item.code).toList++k)) cs w₄):=by
   refine .head h0 henter (StepsIn.trans hsteps (.head hl ?_ (.one (fenced_wide P _) (stepR_endRangeFunc hend))))
   rw [←finish_atR_inRangeFunc l v];exact step_leave_returned hleave
  cases jump with
  | none=>exact ⟨.normal,_,w₄,hj,sback⟩
  | some c =>
   obtain ⟨e',a'',w₅,hq,harr⟩:=hj b k cs hro trivial (room_wide _)
   exact ⟨e',a'',w₅,hq,.of_steps sback harr⟩
 | panicked chain =>
  have hl:(lone fr (b.atR { a with defers:=mark++a.defers } (.inRangeFunc l :: k) :: cs) w₃).fenced P Fence.wide:=fenced_wide P _
  refine ⟨.panic chain,_,w₃,hR,.inRangeFunc l :: k,.head h0 henter (StepsIn.trans hsteps (.one hl ?_))⟩
  rw [←Frame.raise_atR];exact step_leave_panicked hleave
theorem wpAt_rangeFunc_fn {g:Operand} {ps:Array Tmp} {assign body:Code} {gf:Nat} {lb:Array Value} (hg:a.eval g = .func (.func gf) #[] lb) (eg:∀ args w,(callFunc gf args).run P w = .ok (.enter gf args) w)
  (h:∀ r:Loop,r = { state:=.ready,pending:=none,fn:=f0,tmps:=a.tmps,params:=ps,assign,body,defers:=w.heap.size } →
   CallsIn Fence.wide (n - 1) P gf (#[.func (.yield (w.heap.size+1)) #[] #[]]++lb) ((w.alloc (.deferred (some []))).alloc (.loop r))
    (rangePost Fence.wide n P (w.heap.size+1) Q { a with defers:=[{ target:=.collected w.heap.size,args:=#[] }]++a.defers })) :
  wpAt f0 n P (Code.rangeFunc g ps assign body) Q a w:=by
 obtain ⟨r,hr⟩:∃ r:Loop,r = { state:=.ready,pending:=none,fn:=f0,tmps:=a.tmps,params:=ps,assign,body,defers:=w.heap.size }:=⟨_,rfl⟩
 obtain ⟨W1,hW1⟩:∃ W1,(w.alloc (.deferred (some []))).alloc (.loop r)=W1:=⟨_,rfl⟩
 have hc:=h r hr
 rw [hW1] at hc
 have e1:(Instr.enterLoop f0 a.tmps ps assign body none).run P w = .ok (w.heap.size+1,[{ target:=.collected w.heap.size,args:=#[] }]) W1:=by
  rw [←hW1,hr];exact run_enterLoop_outer _ _ _ _ _
 have e2:(resolve a.eval (rangeCall g (w.heap.size+1)) 0).run P W1 = .ok { target:=.fn (.func gf) lb,args:=#[.func (.yield (w.heap.size+1)) #[] #[]] } W1:=by
  simp only [resolve,hg]
  simp [go_sem]
 have e3:(invoke (.fn (.func gf) lb) #[.func (.yield (w.heap.size+1)) #[] #[]]).run P W1 = .ok (.enter gf (#[.func (.yield (w.heap.size+1)) #[] #[]]++lb)) W1:=by
  simp [invoke,go_sem,eg]
 exact wpAt_rangeFunc ⟨w.heap.size+1,[{ target:=.collected w.heap.size,args:=#[] }],W1,_,W1,gf,_,W1,e1,e2,e3,hc⟩
theorem callsIn_of_wpAt {fn:Func} {c:Code} {args:Array Value} {R:Ending→World→Prop} (hf:P.funcs[f0]?=some fn) (hb:fn.body=some c)
  (h:wpAt f0 n P c (bodyPostM Fence.wide n P fn R) { tmps:=args++Array.replicate (fn.ntmps - args.size) undef,defers:=[] } w):CallsIn Fence.wide n P f0 args w R:=by
 refine ⟨trivial,fun cs hr=>?_⟩
 let b:Frame:={ (default:Frame) with fn:=f0,kind:=.normal,roundOf:=none }
 have henter:Frame.enter P f0 args .normal =
   b.atR { tmps:=args++Array.replicate (fn.ntmps - args.size) undef,defers:=[] } [.code c]:=by
  simp [Frame.enter,Frame.atR,hf,hb,b]
 obtain ⟨e,a',w',hq,harr⟩:=h b [] cs rfl rfl
 rw [←henter] at harr
 cases e with
 | normal =>
  obtain ⟨e',w'',fr',hR,hs,hfn,hl⟩:=leaves_stepsInM a'.defers .returning w' { b.atR a' [] with mode:=.returning } cs rfl rfl rfl hf rfl trivial hr hq
  exact ⟨e',w'',fr',hR,ComesIn.of_steps (StepsIn.trans harr (.one (fenced_wide P _) (stepR_end rfl))) hs,hfn,hl⟩
 | ret =>
  obtain ⟨todo,hs₀⟩:=harr.1 rfl
  obtain ⟨e',w'',fr',hR,hs,hfn,hl⟩:=leaves_stepsInM a'.defers .returning w' { b.atR a' todo with mode:=.returning } cs rfl rfl rfl hf rfl trivial hr hq
  exact ⟨e',w'',fr',hR,ComesIn.of_steps hs₀ hs,hfn,hl⟩
 | panic chain =>
  obtain ⟨todo,hs₀⟩:=harr
  obtain ⟨e',w'',fr',hR,hs,hfn,hl⟩:=leaves_stepsInM a'.defers (.panicking chain) w' { b.atR a' todo with mode:=.panicking chain } cs rfl rfl rfl hf rfl trivial hr hq
  exact ⟨e',w'',fr',hR,ComesIn.of_steps hs₀ hs,hfn,hl⟩
 | exit id=>exact hq.elim
 | goto l=>exact hq.elim
 | outgrown=>exact ⟨.outgrown,w',b,hq,harr.resolve_left (by simp [b]),rfl,trivial⟩
end
end Go.Proofs.YtgjijidlaghlmaaGreatDoor
namespace Go.Proofs.YtgjijidlaghlmaaGreatDoor
open Go.RowKit
attribute [local go_sem] Oper.semAt_some
def mkTok (l:Lx.Bs) (k i j:Nat):Lx.Tok:=⟨k,Lx.slice l i j,i⟩
def IterOut (s:ByteArray) (J:Nat→List Lx.Tok→World→Prop) (Jx:World→Prop) (e:Ending) (w':World):Prop :=
 (∃ v E pre,e = .returned v∧Lx.scan (bs s) = .toks pre∧J E pre w')∨(∃ i er,e = .panicked [{ v:=refuse i er,recovered:=false }]∧Lx.scan (bs s) = .bad i er∧Jx w')
theorem scan_start {s:ByteArray} (hs:s.size≤20000):Lx.scan (bs s)=Lx.scanT (bs s) (s.size+1) [] (Lx.skipTo (bs s) 0):=by
 unfold Lx.scan
 rw [if_neg (by rw [bs_len];omega),bs_len]
theorem scan_step {l:Lx.Bs} {f i k j:Nat} {pre:List Lx.Tok} (hi:i < l.length) (h:Lx.tokAt l i=some (k,j)) (h6:pre.length≠6000) (h4:¬ 40 < j - i) :
  Lx.scanT l (f+1) pre i=Lx.scanT l f (pre++[mkTok l k i j]) (Lx.skipTo l j):=by
 simp only [Lx.scanT,h,mkTok]
 rw [if_neg (by omega),if_neg h6,if_neg h4]
theorem scan_bad {l:Lx.Bs} {f i k j er:Nat} {pre:List Lx.Tok} (hi:i < l.length) (h:Lx.tokAt l i=some (k,j)) (hc:pre.length=6000∧er=2∨pre.length≠6000∧40 < j - i∧er=11) :
  Lx.scanT l (f+1) pre i = .bad i er:=by
 simp only [Lx.scanT,h]
 rw [if_neg (by omega)]
 rcases hc with ⟨h1,rfl⟩ | ⟨h1,h2,rfl⟩
 ·rw [if_pos h1]
 ·rw [if_neg h1,if_pos h2]
theorem scan_none {l:Lx.Bs} {f i:Nat} {pre:List Lx.Tok} (hi:i < l.length) (h:Lx.tokAt l i=none):Lx.scanT l (f+1) pre i = .bad i 10:=by
 simp only [Lx.scanT,h]
 rw [if_neg (by omega)]
theorem scan_end {l:Lx.Bs} {f i:Nat} {pre:List Lx.Tok} (hi:l.length≤i):Lx.scanT l f pre i = .toks pre:=by
 cases f with
 | zero=>rfl
 | succ f=>simp only [Lx.scanT];rw [if_pos hi]
def Kept (X:Nat→Prop) (E b:Nat) (w w':World):Prop:=w.heap.size≤w'.heap.size∧∀ k,k < w.heap.size→(k < E∨b≤k)→¬ X k→w'.heap[k]?=w.heap[k]?
def RoundOut (s:ByteArray) (J:Nat→List Lx.Tok→World→Prop) (Jx:World→Prop) (X:Nat→Prop) (E b:Nat) (pre:List Lx.Tok) (k i j:Nat) (w:World) (e:Ending) (w':World):Prop :=
 (e = .returned (.bool true)∧J E (pre++[mkTok (bs s) k i j]) w'∧Kept X E b w w'∧pre.length≠6000∧¬ 40 < j - i) ∨
 (∃ er,e = .panicked [{ v:=refuse i er,recovered:=false }]∧Jx w'∧(pre.length=6000∧er=2∨pre.length≠6000∧40 < j - i∧er=11))
theorem FEnv.kept {q:FA} {s:ByteArray} {w w':World} {X:Nat→Prop} {E b n:Nat} (h:FEnv q s w) (hl:q.lt E) (hg:q.ge n) (hX:∀ k,X k→k < n) (hk:Kept X E b w w'):FEnv q s w':=by
 have hw:=h.lt
 obtain ⟨g1,g2,g3,g4,g5,g6,g7,g8,g9,g10,g11,g12⟩:=hg
 have cl:∀ a o,a < w.heap.size→a < E→n≤a→w'.cell? ⟨a,o,none⟩=w.cell? ⟨a,o,none⟩:=fun a o h1 h2 h3 =>
  World.cell?_of_block (w:=w) (hk.2 a h1 (.inl h2) (fun hx=>by have:=hX a hx;omega))
 exact ⟨(cl _ _ hw.t hl.t g1).trans h.hT,fun c=>(cl _ _ hw.sm hl.sm g2).trans (h.hS c),fun c=>(cl _ _ hw.ca hl.ca g3).trans (h.hC c),fun c=>(cl _ _ hw.sg hl.sg g4).trans (h.hG c),
  fun c=>(cl _ _ hw.nm hl.nm g5).trans (h.hN c),(cl _ _ hw.wd hl.wd g6).trans h.hWd,fun k hk=>(cl _ _ hw.wl hl.wl g7).trans (h.hWl k hk),(cl _ _ hw.tk hl.tk g8).trans h.hTk,
  (cl _ _ hw.fo hl.fo g9).trans h.hFo,(cl _ _ hw.ne hl.ne g10).trans h.hNe,(cl _ _ hw.sc hl.sc g11).trans h.hSc,(cl _ _ hw.lo hl.lo g12).trans h.hLo⟩
set_option maxRecDepth 100000 in
set_option maxHeartbeats 400000 in
theorem iter_in (n:Nat) (hn:1≤n) (s:ByteArray) (T l:Nat) (hs:s.size≤20000) (J:Nat→List Lx.Tok→World→Prop) (Jx:World→Prop) (X:Nat→Prop) (W:World)
  (hX:∀ k,X k→k < W.heap.size) (hXT:¬ X T)
  (hJ:∀ E pre w w',J E pre w→Below w.heap.size w w'→J E pre w') (hJx:∀ E pre w w',J E pre w→Below w.heap.size w w'→Jx w')
  (hY:∀ E pre w0 w k i j,J E pre w0→W.heap.size≤E→E≤w0.heap.size→Below w0.heap.size w0 w→Lx.tokAt (bs s) i=some (k,j)→YieldAt Fence.wide (n - 1) Tryz.prog l #[tokV s k i j] w (RoundOut s J Jx X E w0.heap.size pre k i j w))
  (hT:W.cell? ⟨T,0,none⟩=some (.string s)) (h0:∀ w',Below W.heap.size W w'→J w'.heap.size [] w') :
  CallsIn Fence.wide n Tryz.prog 217 #[.func (.yield l) #[] #[],.pointer (some ⟨T,0,none⟩)] W (IterOut s J Jx):=by
 have hm:=small_max hs
 have hTl:=block_lt_of_cell hT
 simp only at hTl
 refine callsIn_of_wp Tryz.func217 rfl trivial ?_ rfl
 simp only [Tryz.ntmps217,List.size_toArray,List.length_cons,List.length_nil,Nat.reduceAdd,Nat.reduceSub,Array.replicate_succ,Array.replicate_zero,List.push_toArray,List.append_toArray,List.nil_append,List.cons_append]
 gi_wp2_with fail
 refine ⟨trivial,((callsIn_wide (n:=n - 1)).2 (finder_any s _ hs)).mono ?_⟩
 rintro e w1 ⟨q,rfl,hE,hb,hg⟩
 have hT1:w1.cell? ⟨T,0,none⟩=some (.string s):=(hb.cell (p:=⟨T,0,none⟩) hTl).trans hT
 unfold findF
 gi_wp2_with fail
 refine ⟨trivial,((callsIn_wide (n:=n - 1)).2 (skip_int s 0 _ hm (by omega) (by omega))).mono ?_⟩
 rintro e w2 ⟨rfl,rfl⟩
 gi_wp2_with fail
 obtain ⟨E,hEq⟩:∃ E,w1.heap.size=E:=⟨_,rfl⟩
 have hqE:q.lt E:=hEq▸hE.lt
 have hWE:W.heap.size≤E:=hEq▸hb.size
 have hJ0:J E [] w1:=hEq▸h0 w1 hb
 have hE1:E≤w1.heap.size:=by omega
 clear hEq
 have hlen:=bs_len s
 have hsk:=Lx.skipTo_le (l:=bs s) (i:=0) (Nat.zero_le _)
 rw [hlen] at hsk
 have Hscan:=qh (scan_start hs)
 have Hlen:=qh hlen;clear hlen
 gi_loopw [4] (fun a wr=>∃ (f:Nat) (pre:List Lx.Tok) (i:Nat),a = .int .i64 i∧i≤s.size∧s.size+1≤i+f∧Hid (Lx.scan (bs s)=Lx.scanT (bs s) f pre i)∧J E pre wr∧FEnv q s wr∧wr.cell? ⟨T,0,none⟩=some (.string s)∧E≤wr.heap.size)
  (fun a _=>s.size - (intOf a).toNat)
 case atStart =>
  exact ⟨s.size+1,[],_,rfl,hsk.2,by omega,Hscan,hJ0,hE,hT1,hE1⟩
 case round =>
  obtain ⟨f,pre,i,rfl,hi,hf,hsc,hJr,hEr,hTr,hle⟩:=hrel
  clear hE hT1 hE1 hJ0 hb
  by_cases hlt:i < s.size
  ·obtain ⟨f,rfl⟩:∃ f',f=f'+1:=⟨f - 1,by omega⟩
   gi_wp2_with fail
   refine ⟨trivial,((callsIn_wide (n:=n - 1)).2 (find_any q s i wr hs hlt hEr)).mono ?_⟩
   rintro e w2 (⟨k,j,htok,rfl,hb2⟩ | ⟨hnone,rfl,hb2⟩)
   ·obtain ⟨hij,hj⟩:=Lx.tokAt_lt htok
    rw [Hlen.out] at hj
    have hJ2:=hJ E pre wr w2 hJr hb2
    have hE2:=hEr.below hEr.lt hb2
    have hT2:w2.cell? ⟨T,0,none⟩=some (.string s):=(hb2.cell (p:=⟨T,0,none⟩) (by simp only;omega)).trans hTr
    have hs2:=hb2.size
    have hz2:∀ o,E≤(w2.alloc o).heap.size:=fun o=>by rw [World.size_alloc];omega
    obtain ⟨fn,tmps,assign,body,hy,hR⟩:=hY E pre w2 (w2.alloc (.cells #[.int .i64 k,.string (s.extract i j),.int .i64 i] 76)) k i j hJ2 hWE (by omega) ((Below.refl _ _).alloc (Nat.le_refl _) _) htok
    unfold tokV at hy ⊢
    have Htok:=qh htok
    clear htok hb2 hJr hEr hTr
    gi_wp2_with fail
    refine hR.mono ?_
    clear hy hR
    rintro e w3 (⟨rfl,hJ3,hk3,h6,h40⟩ | ⟨er,rfl,hx,hc⟩)
    ·have hE3:=FEnv.kept (n:=W.heap.size) (hE2.alloc _) hqE hg hX hk3
     have hT3:w3.cell? ⟨T,0,none⟩=some (.string s) :=
      (World.cell?_of_block (w:=w2.alloc _) (hk3.2 T (by rw [World.size_alloc];omega) (.inl (by omega)) hXT)).trans ((World.cell?_alloc_past _ _ _ (by omega)).trans hT2)
     have hc3:w3.cell? ⟨w2.heap.size,1,none⟩=some (.string (s.extract i j)) :=
      (World.cell?_of_block (w:=w2.alloc _) (hk3.2 w2.heap.size (by rw [World.size_alloc];omega) (.inr (Nat.le_refl _)) (fun hx=>by have:=hX _ hx;omega))).trans (by simp [World.cell?_alloc_at])
     have hl3:E≤w3.heap.size:=Nat.le_trans (hz2 _) hk3.1
     have Hst:=qh (hsc.out.trans (scan_step (by rw [Hlen.out];exact hlt) Htok.out h6 h40))
     clear hE2 hT2 hk3 h6 h40 hz2
     have hsj:=Lx.skipTo_le (l:=bs s) (i:=j) (by rw [Hlen.out];exact hj)
     rw [Hlen.out] at hsj
     gi_wp2_with fail
     refine ⟨trivial,((callsIn_wide (n:=n - 1)).2 (skip_int s _ _ hm (by omega) (by omega))).mono ?_⟩
     rintro e w4 ⟨rfl,rfl⟩
     rw [show ((i:Int)+((j - i:Nat):Int)).toNat=j from by omega]
     gi_wp2_with fail
     go_roundw
     case rel=>exact ⟨f,pre++[mkTok (bs s) k i j],Lx.skipTo (bs s) j,rfl,hsj.2,by omega,Hst,hJ3,hE3,hT3,hl3⟩
     case measure=>simp [intOf];omega
    ·exact ⟨rfl,.inr ⟨i,er,rfl,hsc.out.trans (scan_bad (by rw [Hlen.out];exact hlt) Htok.out hc),hx⟩⟩
   ·exact ⟨rfl,.inr ⟨i,10,rfl,hsc.out.trans (scan_none (by rw [Hlen.out];exact hlt) hnone),hJx E pre wr w2 hJr hb2⟩⟩
  ·gi_wp2
   refine bodyPost_ret (results_none rfl _ _ _) rfl ?_
   exact .inl ⟨_,E,pre,rfl,hsc.out.trans (scan_end (by rw [Hlen.out];omega)),hJr⟩
end Go.Proofs.YtgjijidlaghlmaaGreatDoor
namespace Go.Proofs.YtgjijidlaghlmaaGreatDoor
open Go.RowKit
set_option maxRecDepth 100000 in
set_option maxHeartbeats 400000 in
theorem clone_any (s:ByteArray) (w:World) (hs:s.size≤20000) :
  Calls Tryz.prog 158 #[.string s] w fun e w'=>e = .returned (.string s)∧Below w.heap.size w w':=by
 go_enter Tryz.func158,Tryz.ntmps158
 go_wp2_with (go_at_call 214;refine (Tryz.stringslite_Clone s _ (by omega)).mono ?_;rintro e w' ⟨rfl,hb⟩)
 go_ret
 exact ⟨rfl,hb⟩
set_option maxRecDepth 100000 in
set_option maxHeartbeats 400000 in
theorem tokens_any (s:ByteArray) (w:World) :
  Calls Tryz.prog 177 #[.string s] w fun e w'=>e = .returned (.func (.func 217) #[] #[.pointer (some ⟨w.heap.size,0,none⟩)])∧w'=w.alloc (.cells #[.string s] 9):=by
 have hmf:∀ (fn:Fn) (first cap:Array Value) (w:World),(Instr.makeFunc fn first cap).run Tryz.prog w = .ok (.func fn first cap) w:=fun _ _ _ _=>rfl
 go_enter Tryz.func177,Tryz.ntmps177
 go_wp2
 go_ret
 exact ⟨rfl,rfl⟩
theorem assert_nil (w:World):(Instr.typeAssert Value.nilIface 20 174 true).run Tryz.prog w = .ok (.tuple #[.agg #[.int .i64 0,.int .i64 0],.bool false]) w:=by kernel_rfl
theorem assert_yes (v:Value) (w:World):(Instr.typeAssert (.iface 174 v) 20 174 true).run Tryz.prog w = .ok (.tuple #[v,.bool true]) w:=by kernel_rfl
set_option maxRecDepth 100000 in
set_option maxHeartbeats 400000 in
theorem catch_idle (n h:Nat) (w:World) :
  CallsDIn Fence.wide n Tryz.prog 176 #[.pointer (some ⟨h,0,none⟩),.pointer (some ⟨h+1,0,none⟩),.pointer (some ⟨h+1+1,0,none⟩)] .returning w fun e u' w' =>
   e = .returned (.tuple #[])∧u' = .returning∧w'=w.alloc (.cells #[.int .i64 0,.int .i64 0] 174):=by
 have hta:=assert_nil
 have hwd:∀ x,Fence.wide.fn x:=fun _=>trivial
 refine callsDIn_of_wpSIn Tryz.func176 rfl trivial fun c₀ cs hu=>?_
 apply wpSIn_seq
 apply wpSIn_region
 simp [wpOpsSIn,go_sem,recoverD,hu,Tryz.ntmps176,Exit.thenS,hta,hwd]
 refine wpSIn_of_wpIn rfl (wpIn_wide.2 ?_)
 simp only [Array.replicate_succ,Array.replicate_zero,List.push_toArray,List.nil_append,List.cons_append,List.append_toArray,List.setIfInBounds_toArray,List.set_cons_succ,List.set_cons_zero]
 go_wp2
 refine ⟨rfl,.returning,by cases c₀;simp_all,.tuple #[],by simp [results,Tryz.results176],rfl,rfl,rfl⟩
set_option maxRecDepth 100000 in
set_option maxHeartbeats 400000 in
theorem catch_panic (n h i er:Nat) (older:List PanicEntry) (lv:Value) (x y:Int) (w:World)
  (c0:w.cell? ⟨h,0,none⟩=some lv) (c1:w.cell? ⟨h+1,0,none⟩=some (.int .i64 x)) (c2:w.cell? ⟨h+1+1,0,none⟩=some (.int .i64 y))
  (f0:w.frozen? ⟨h,0,none⟩=false) (f1:w.frozen? ⟨h+1,0,none⟩=false) (f2:w.frozen? ⟨h+1+1,0,none⟩=false) (_hlv:lv.oneCell'=true) :
  CallsDIn Fence.wide n Tryz.prog 176 #[.pointer (some ⟨h,0,none⟩),.pointer (some ⟨h+1,0,none⟩),.pointer (some ⟨h+1+1,0,none⟩)] (.panicking ({ v:=refuse i er,recovered:=false } :: older)) w fun e u' w' =>
   e = .returned (.tuple #[])∧u' = .panicking ({ v:=refuse i er,recovered:=true } :: older)∧Below h w w'∧w'.cell? ⟨h,0,none⟩=some (.slice none 0 0)∧w'.cell? ⟨h+1,0,none⟩=some (.int .i64 i)∧w'.cell? ⟨h+1+1,0,none⟩=some (.int .i64 er):=by
 have b0:=block_lt_of_cell c0
 have b1:=block_lt_of_cell c1
 have b2:=block_lt_of_cell c2
 simp only at b0 b1 b2
 have hta:=assert_yes
 have hwd:∀ x,Fence.wide.fn x:=fun _=>trivial
 unfold refuse
 refine callsDIn_of_wpSIn Tryz.func176 rfl trivial fun c₀ cs hu=>?_
 apply wpSIn_seq
 apply wpSIn_region
 simp [wpOpsSIn,go_sem,recoverD,hu,Tryz.ntmps176,Exit.thenS,hta,hwd]
 refine wpSIn_of_wpIn rfl (wpIn_wide.2 ?_)
 simp only [Array.replicate_succ,Array.replicate_zero,List.push_toArray,List.nil_append,List.cons_append,List.append_toArray,List.setIfInBounds_toArray,List.set_cons_succ,List.set_cons_zero]
 clear hwd hta
 go_wp2
 go_region
 refine ⟨rfl,.panicking ({ v:=.iface 174 (.agg #[.int .i64 i,.int .i64 er]),recovered:=true } :: older),rfl,.tuple #[],by simp [results,Tryz.results176],rfl,rfl,?_,?_,?_,?_⟩
 ·exact (((((Below.refl h w).setCell (p:=⟨h,0,none⟩) (Nat.le_refl _) _).setCell (p:=⟨h+1,0,none⟩) (by simp) _).setCell (p:=⟨h+1+1,0,none⟩) (by simp only;omega) _).alloc (by simp [World.setCell];omega) _).drew
 ·simp [go_sem,b0,c0]
 ·simp [go_sem,b1,c1]
 ·simp [go_sem,b2,c2]
end Go.Proofs.YtgjijidlaghlmaaGreatDoor
namespace Go.Proofs.YtgjijidlaghlmaaGreatDoor
open Go.RowKit
attribute [local go_sem] Oper.semAt_some
def flat (l:List Lx.Tok):List Value:=l.flatMap fun t=>[.int .i64 t.kind,.string ⟨t.text.toArray⟩,.int .i64 t.pos]
theorem slice_bytes (s:ByteArray) (i j:Nat):(⟨(Lx.slice (bs s) i j).toArray⟩:ByteArray)=s.extract i j:=by
 rw [←bs_extract];exact bs_inj (by simp [bs])
theorem flat_snoc (s:ByteArray) (pre:List Lx.Tok) (k i j:Nat):flat (pre++[mkTok (bs s) k i j])=flat pre++[.int .i64 k,.string (s.extract i j),.int .i64 i]:=by
 rw [flat,List.flatMap_append]
 simp only [flat,mkTok,List.flatMap_cons,List.flatMap_nil,List.append_nil,slice_bytes]
def Toks (B:Nat) (v:Value) (l:List Lx.Tok) (w:World):Prop:=w.ownsRow B 76 3 v l.length (flat l)
def ScanOut (s:ByteArray) (w:World) (e:Ending) (w':World):Prop :=
 Below w.heap.size w w'∧match Lx.scan (bs s) with
  | .toks l=>∃ v,e = .returned (.tuple #[v,.int .i64 0,.int .i64 0])∧Toks w.heap.size v l w'
  | .bad i er=>e = .returned (.tuple #[.slice none 0 0,.int .i64 i,.int .i64 er])
set_option maxRecDepth 100000 in
set_option maxHeartbeats 400000 in
theorem scan_big (n:Nat) (s:ByteArray) (w:World) (hs:s.size≤maxLen) (hb:20000 < s.size):CallsIn Fence.wide n Tryz.prog 121 #[.string s] w (ScanOut s w):=by
 have Hsc:Lx.scan (bs s) = .bad 0 2:=by unfold Lx.scan;rw [if_pos (by rw [bs_len];exact hb)]
 have HS:=qh Hsc;clear Hsc
 unfold maxLen at hs
 refine callsIn_wide.2 ?_
 go_enter Tryz.func121,Tryz.ntmps121
 go_wp2
 refine bodyPost_ret (v:=.tuple #[.slice none 0 0,.int .i64 0,.int .i64 2]) (by simp [results,Tryz.results121,go_sem]) rfl ⟨?_,?_⟩
 ·exact ((((Below.refl _ w).alloc (Nat.le_refl _) _).alloc (by simp) _).alloc (by simp;omega) _)
 ·rw [HS.out];rfl
def JS (w:World) (h D L:Nat) (r:Loop) (E:Nat) (pre:List Lx.Tok) (W:World):Prop :=
 Below h w W∧E≤W.heap.size∧(L < E∧pre.length≤6000)∧Boxed W (h+1) 3 (.int .i64 0)∧Boxed W (h+1+1) 26 (.int .i64 0)∧W.heap[D]?=some (.deferred (some []))∧W.heap[L]?=some (.loop r)∧∃ v,Boxed W h 68 v∧Toks E v pre W
def JX (w:World) (h D:Nat) (W:World):Prop :=
 Below h w W∧Boxed W (h+1) 3 (.int .i64 0)∧Boxed W (h+1+1) 26 (.int .i64 0)∧W.heap[D]?=some (.deferred (some []))∧∃ v,Boxed W h 68 v∧v.oneCell'=true
theorem heap_lt {W:World} {k:Nat} {o:Obj} (h:W.heap[k]?=some o):k < W.heap.size:=(Array.getElem?_eq_some_iff.1 h).1
theorem boxed_below {W W':World} {B:Nat} {t:TypeId} {v:Value} {n:Nat} (h:Boxed W B t v) (hb:Below n W W') (hn:B < n):Boxed W' B t v:=(hb.block B hn).trans h
theorem ownsRow_blocks {W W':World} {base e size n:Nat} {v:Value} {xs:List Value} (h:W.ownsRow base e size v n xs) (hk:∀ k,base≤k→k < W.heap.size→v.ownBlock=some k→W'.heap[k]?=W.heap[k]?):W'.ownsRow base e size v n xs:=by
 obtain ⟨h1,h2⟩:=h
 refine ⟨h1,?_⟩
 rcases h2 with h2 | ⟨g,cap,cur,rfl,hg,hh,r⟩
 ·exact .inl h2
 ·exact .inr ⟨g,cap,cur,rfl,hg,(hk g hg (heap_lt hh) rfl).trans hh,r⟩
theorem ownsRow_below' {W W':World} {base e size n:Nat} {v:Value} {xs:List Value} (h:W.ownsRow base e size v n xs) (hb:Below W.heap.size W W'):W'.ownsRow base e size v n xs :=
 ownsRow_blocks h fun k _ hk _=>hb.block k hk
theorem ownsRow_shape {W:World} {base e size n:Nat} {v:Value} {xs:List Value} (h:W.ownsRow base e size v n xs):∃ a cap,v = .slice a n cap:=by
 rcases h.2 with ⟨rfl,rfl⟩ | ⟨g,cap,_,rfl,_⟩
 ·exact ⟨none,0,rfl⟩
 ·exact ⟨_,_,rfl⟩
theorem JS.later {w:World} {h D L:Nat} {r:Loop} {E:Nat} {pre:List Lx.Tok} {W W':World} (hDL:D < L) (hh:h+1+1 < L) (hj:JS w h D L r E pre W) (hb:Below W.heap.size W W'):JS w h D L r E pre W':=by
 obtain ⟨j1,j2,j3,j4,j5,j6,j7,v,j8,j9⟩:=hj
 exact ⟨j1.trans (hb.mono (by omega)),Nat.le_trans j2 hb.size,j3,boxed_below j4 hb (by omega),boxed_below j5 hb (by omega),(hb.block D (by omega)).trans j6,(hb.block L (by omega)).trans j7,v,boxed_below j8 hb (by omega),ownsRow_below' j9 hb⟩
theorem JS.jx {w:World} {h D L:Nat} {r:Loop} {E:Nat} {pre:List Lx.Tok} {W:World} (hj:JS w h D L r E pre W):JX w h D W:=by
 obtain ⟨j1,j2,j3,j4,j5,j6,j7,v,j8,j9⟩:=hj
 obtain ⟨a,cap,rfl⟩:=ownsRow_shape j9
 exact ⟨j1,j4,j5,j6,_,j8,rfl⟩
theorem boxed_alloc {W:World} {B:Nat} {t:TypeId} {v:Value} (h:Boxed W B t v) (o:Obj):Boxed (W.alloc o) B t v:=h.alloc o
theorem boxed_put {W:World} {B b':Nat} {t:TypeId} {v:Value} {o:Obj} (h:Boxed W B t v) (hne:B≠b'):Boxed (W.putObj b' o) B t v:=(World.putObj_heap_other hne).trans h
theorem boxed_other {W:World} {B B':Nat} {t:TypeId} {v u:Value} (h:Boxed W B t v) (hne:B≠B'):Boxed (W.setCell ⟨B',0,none⟩ u) B t v:=(Below.heap_setCell _ _ _ _ (by simp only;omega)).trans h
theorem below_put {w W:World} {n:Nat} (h:Below n w W) (b:Nat) (o:Obj) (hb:n≤b):Below n w (W.putObj b o) :=
 ⟨h.os,h.tape,h.output,by rw [World.putObj_size];exact h.size,fun k hk=>(World.putObj_heap_other (by omega)).trans (h.block k hk)⟩
theorem ownsRow_base {W:World} {base base' e size n:Nat} {v:Value} {xs:List Value} (h:W.ownsRow base e size v n xs) (hb:base'≤base):W.ownsRow base' e size v n xs:=by
 obtain ⟨h1,h2⟩:=h
 refine ⟨h1,?_⟩
 rcases h2 with h2 | ⟨g,cap,cur,rfl,hg,hh,r⟩
 ·exact .inl h2
 ·exact .inr ⟨g,cap,cur,rfl,by omega,hh,r⟩
theorem infoTok:(Tryz.prog.info? 76).map (fun i=>(i.zero,i.size,i.bytes))=some (some (.agg #[.int .i64 0,.string ⟨#[]⟩,.int .i64 0]),3,32):=by kernel_rfl
theorem cells3 (W:World) (a b c:Value) (t:TypeId) (n:Nat) (hn:n=W.heap.size):∀ (j:Nat) (u:Value),[a,b,c][j]?=some u→(W.alloc (.cells #[a,b,c] t)).cell? ((⟨n,0,none⟩:Addr).add j)=some u:=by
 intro j u hj
 subst hn
 have hadd:(⟨W.heap.size,0,none⟩:Addr).add j=⟨W.heap.size,j,none⟩:=by unfold Addr.add;split <;> simp_all
 rw [hadd,World.cell?_alloc_at _ _ _ _ rfl]
 simpa using hj
theorem ownBlock_lt {W:World} {base e size n:Nat} {v:Value} {xs:List Value} (h:W.ownsRow base e size v n xs):∀ g,v.ownBlock=some g→base≤g∧g < W.heap.size:=by
 intro g hg
 rcases h.2 with ⟨rfl,_⟩ | ⟨g',cap,cur,rfl,hb,hh,_⟩
 ·simp [Value.ownBlock] at hg
 ·obtain rfl:g'=g:=by simpa [Value.ownBlock] using hg
  exact ⟨hb,heap_lt hh⟩
set_option maxRecDepth 100000 in
set_option maxHeartbeats 400000 in
theorem scan_small (n:Nat) (hn:3≤n) (s:ByteArray) (w:World) (hs:s.size≤20000):CallsIn Fence.wide n Tryz.prog 121 #[.string s] w (ScanOut s w):=by
 have hmf:∀ (fn:Fn) (first cap:Array Value) (w:World),(Instr.makeFunc fn first cap).run Tryz.prog w = .ok (.func fn first cap) w:=fun _ _ _ _=>rfl
 have eg:∀ args w,(callFunc 217 args).run Tryz.prog w = .ok (.enter 217 args) w:=enters_of Tryz.func217 (by kernel_rfl) rfl
 have eg2:∀ args w,(callFunc 176 args).run Tryz.prog w = .ok (.enter 176 args) w:=enters_of Tryz.func176 (by kernel_rfl) rfl
 have hn1:1≤n:=by omega
 refine callsIn_of_wpAt Tryz.func121 rfl ?_
 simp only [Tryz.ntmps121,List.size_toArray,List.length_cons,List.length_nil,Nat.reduceAdd,Nat.reduceSub,Array.replicate_succ,Array.replicate_zero,List.push_toArray,List.append_toArray,List.nil_append,List.cons_append]
 refine wpAt_seq (wpAt_of_wpIn ?_)
 gi_wp2
 refine wpAt_seq (wpAt_of_wpIn ?_)
 gi_wp2
 refine wpAt_seq (wpAt_of_wpIn ?_)
 gi_wp2
 refine wpAt_seq (wpAt_seq (wpAt_of_wpIn ?_))
 gi_wp2_with fail
 refine ⟨trivial,((callsIn_wide (n:=n - 1)).2 (clone_any s _ hs)).mono ?_⟩
 rintro e w1 ⟨rfl,hb1⟩
 have Hb1:=qh hb1;clear hb1
 gi_wp2_with fail
 refine ⟨trivial,((callsIn_wide (n:=n - 1)).2 (tokens_any s _)).mono ?_⟩
 rintro e w2 ⟨rfl,rfl⟩
 gi_wp2
 refine wpAt_block (wpAt_rangeFunc_fn (gf:=217) (lb:=#[.pointer (some ⟨w1.heap.size,0,none⟩)]) rfl eg ?_)
 intro r hr
 have hr1:r.state = .ready:=by rw [hr]
 have hr2:r.pending=none:=by rw [hr]
 have hr3:r.params=#[13]:=by rw [hr]
 have z1:=Hb1.out.size
 simp only [World.size_alloc] at z1
 have hB1:Below w.heap.size w w1:=((((Below.refl _ w).alloc (Nat.le_refl _) _).alloc (by simp) _).alloc (by simp;omega) _).trans (Hb1.out.mono (by simp;omega))
 obtain ⟨h,hh⟩:∃ h,w.heap.size=h:=⟨_,rfl⟩
 have bx0:Boxed w1 h 68 (.slice none 0 0):=(Hb1.out.block h (by simp;omega)).trans (by rw [←hh];exact heap3_1 w _ _ _)
 have bx1:Boxed w1 (h+1) 3 (.int .i64 0):=(Hb1.out.block (h+1) (by simp;omega)).trans (by rw [←hh];exact heap3_2 w _ _ _)
 have bx2:Boxed w1 (h+1+1) 26 (.int .i64 0):=(Hb1.out.block (h+1+1) (by simp;omega)).trans (by rw [←hh];exact heap3_3 w _ _ _)
 obtain ⟨T,hT⟩:∃ T,w1.heap.size=T:=⟨_,rfl⟩
 have hD:(w1.alloc (.cells #[.string s] 9)).heap.size=T+1:=by simp [hT]
 have hcall:CallsIn Fence.wide (n - 1) Tryz.prog 217 #[.func (.yield (T+1+1)) #[] #[],.pointer (some ⟨T,0,none⟩)] (((w1.alloc (.cells #[.string s] 9)).alloc (.deferred (some []))).alloc (.loop r))
   (IterOut s (JS w h (T+1) (T+1+1) r) (JX w h (T+1))):=by
  refine iter_in (n - 1) (by omega) s T (T+1+1) hs (JS w h (T+1) (T+1+1) r) (JX w h (T+1)) (fun k=>k=h∨k=T+1+1) _ ?_ ?_ ?_ ?_ ?_ ?_ ?_
  ·rintro k (rfl | rfl) <;> simp [hT];omega
  ·rintro (e | e) <;> omega
  ·exact fun E pre w w' hj hb=>hj.later (by omega) (by omega) hb
  ·exact fun E pre w w' hj hb=>(hj.later (by omega) (by omega) hb).jx
  ·intro E pre w0 W k i j hj hWE hE0 hb htok
   have hJ:=hj.later (by omega) (by omega) hb
   obtain ⟨R,hR⟩:∃ R,RoundOut s (JS w h (T+1) (T+1+1) r) (JX w h (T+1)) (fun k=>k=h∨k=T+1+1) E w0.heap.size pre k i j W=R:=⟨_,rfl⟩
   rw [hR]
   have HR:=qh hR;clear hR
   obtain ⟨j1,j2,⟨j3,jlen⟩,j4,j5,j6,j7,_⟩:=hJ
   obtain ⟨_,_,_,_,_,_,_,v,i8,i9⟩:=hj
   obtain ⟨a,cap,rfl⟩:=ownsRow_shape i9
   have j8:=boxed_below i8 hb i8.lt
   have j9:Toks E (.slice a pre.length cap) pre W:=ownsRow_below' i9 hb
   have hrow0:=ownBlock_lt i9
   have hkp:=hb.size
   refine ⟨_,_,_,_,run_yield (P:=Tryz.prog) j7 (by rw [hr3];rfl),?_⟩
   have hr4:r.fn=121:=by rw [hr]
   have hrs:=hr1
   rw [hr4]
   refine roundIn_of_wpIn_p trivial Tryz.func121 ?_
   simp only [hr]
   have HRQ:=qh (show ({ r with state:=.ready,pending:=none }:Loop)=r from by rw [hr])
   clear hr hr1 hr2 hr3 hr4
   unfold tokV
   gi_wp2
   refine ⟨_,run_beginRound (r:=r) ((Below.heap_alloc _ _ _ (heap_lt j7)).trans j7) hrs,?_⟩
   obtain ⟨W2,hW2⟩:∃ W2,(W.alloc (.cells #[.int .i64 k,.string (s.extract i j),.int .i64 i] 76)).putObj (T+1+1) (.loop { r with state:=.busy })=W2:=⟨_,rfl⟩
   have ltL:=heap_lt j7
   have m7:W2.heap[T+1+1]?=some (.loop { r with state:=.busy }):=by rw [←hW2];exact World.putObj_heap_same (by rw [World.size_alloc];omega)
   have ko:∀ b,b < W.heap.size→b≠T+1+1→W2.heap[b]?=W.heap[b]?:=fun b hb1 hb2=>by
    rw [←hW2];exact (World.putObj_heap_other hb2).trans (Below.heap_alloc _ _ _ hb1)
   have mz:W2.heap.size=W.heap.size+1:=by rw [←hW2,World.putObj_size,World.size_alloc]
   have mt:W2.heap[W.heap.size]?=some (.cells #[.int .i64 k,.string (s.extract i j),.int .i64 i] 76 (0,0)):=by
    rw [←hW2];exact (World.putObj_heap_other (by omega)).trans (World.alloc_heap_new _ _)
   have mb:Below h w W2:=by rw [←hW2];exact below_put (j1.alloc (by have:=j1.size;omega) _) _ _ (by omega)
   rw [hW2]
   have m4:Boxed W2 (h+1) 3 (.int .i64 0):=(ko _ (by omega) (by omega)).trans j4
   have m5:Boxed W2 (h+1+1) 26 (.int .i64 0):=(ko _ (by omega) (by omega)).trans j5
   have m6:=(ko (T+1) (by omega) (by omega)).trans j6
   have m8:Boxed W2 h 68 (.slice a pre.length cap):=(ko _ (by omega) (by omega)).trans j8
   have m9:Toks E (.slice a pre.length cap) pre W2:=ownsRow_blocks j9 fun b hb1 hb2 _=>ko b hb2 (by omega)
   have t0:W2.cell? ⟨W.heap.size,0,none⟩=some (.int .i64 k):=cell_of_row _ _ _ _ _ _ mt
   have t1:W2.cell? ⟨W.heap.size,1,none⟩=some (.string (s.extract i j)):=cell_of_row _ _ _ _ _ _ mt
   have t2:W2.cell? ⟨W.heap.size,2,none⟩=some (.int .i64 i):=cell_of_row _ _ _ _ _ _ mt
   have c0:=m8.cell
   have f0:=m8.frozen
   have koH:=qh ko
   clear hW2 ko mt
   have hij:=Lx.tokAt_lt htok
   rw [bs_len] at hij
   have Htok:=qh htok
   clear htok hb hE0 hWE hD i8 i9
   by_cases h6:pre.length=6000
   ·have h6':((pre.length:Int)==6000)=true:=by rw [h6];rfl
    have H6:=qh h6;clear h6
    gi_wp2
    refine ⟨rfl,?_⟩
    rw [←HR.out]
    exact .inr ⟨2,rfl,⟨mb,m4,m5,m6,_,m8,rfl⟩,.inl ⟨H6.out,rfl⟩⟩
   ·have h6':((pre.length:Int)==6000)=false:=by rw [beq_eq_false_iff_ne];omega
    by_cases h40:40 < j - i
    ·have h40':(40:Int) < ((j - i:Nat):Int):=by omega
     gi_wp2
     refine ⟨rfl,?_⟩
     rw [←HR.out]
     exact .inr ⟨11,rfl,⟨mb,m4,m5,m6,_,m8,rfl⟩,.inr ⟨h6,h40,rfl⟩⟩
    ·have h40':¬ (40:Int) < ((j - i:Nat):Int):=by omega
     obtain ⟨i0,hi0,hz0,hz1,hz2⟩:=info_parts infoTok
     have m9':Hid (W2.ownsRow E 76 3 (.slice a pre.length cap) pre.length (flat pre)):=m9
     have hz3:=qh mz
     clear mz
     gi_wp2_with (gi_at_builtin;refine wpListIn_append_own _ rfl _ _ 68 rfl E 76 i0 _ 3 32 Tryz.underlying68 hi0 hz0 hz1 hz2 rfl (by decide) _ _ _ rfl (m9'.out.alloc _) ⟨W2.heap.size,0,none⟩ 1 1 [.int .i64 k,.string (s.extract i j),.int .i64 i] (by rw [hz3.out];rfl) rfl (cells3 W2 _ _ _ _ _ rfl) (by simp [Value.oneCell']) (by unfold maxLen;omega) (by omega) (by simp only [World.size_alloc];have:=hz3.out;omega) ?_;intro v' w3 hown' hgrow _;obtain ⟨g,cap',rfl⟩:=ownsRow_succ hown';have hv1:Boxed w3 h 68 (.slice a pre.length cap):=(boxed_alloc m8 _).kept hgrow (m8.not_row (by decide) m9);have hvc:=hv1.cell;have hvf:=hv1.frozen;have Hown:=qh hown';have Hgrow:Hid ((W2.alloc (.cells #[.int .i64 k,.string (s.extract i j),.int .i64 i] 76)).grownBy w3 (Value.slice a pre.length cap).ownBlock):=hgrow;clear hown' hgrow)
     have hsz:=hz3.out
     have gl:∀ b,b < W2.heap.size→(∀ g0,(Value.slice a pre.length cap).ownBlock=some g0→b≠g0)→w3.heap[b]?=W2.heap[b]?:=fun b hb1 hb2 =>
      (Hgrow.out.block b (by rw [World.size_alloc];omega) (fun e=>hb2 b e.symm rfl)).trans (Below.heap_alloc _ _ _ hb1)
     have gE:∀ b,b < E→∀ g0,(Value.slice a pre.length cap).ownBlock=some g0→b≠g0:=fun b hb1 g0 hg0=>by have:=(hrow0 g0 hg0).1;omega
     have l3:w3.heap[T+1+1]?=some (.loop { r with state:=.busy }):=(gl _ (by omega) (gE _ (by omega))).trans m7
     obtain ⟨W5,hW5⟩:∃ W5,w3.setCell ⟨h,0,none⟩ (.slice (some ⟨g,0,none⟩) (pre.length+1) cap')=W5:=⟨_,rfl⟩
     have so:∀ b,b≠h→W5.heap[b]?=w3.heap[b]?:=fun b hb1=>by rw [←hW5];exact Below.heap_setCell _ _ _ _ hb1
     have sz:W5.heap.size=w3.heap.size:=by rw [←hW5];simp [World.setCell]
     have gz:W2.heap.size+1≤w3.heap.size:=by have:=Hgrow.out.size;rwa [World.size_alloc] at this
     have l5:W5.heap[T+1+1]?=some (.loop { r with state:=.busy }):=(so _ (by omega)).trans l3
     have b5:Boxed W5 h 68 (.slice (some ⟨g,0,none⟩) (pre.length+1) cap'):=by rw [←hW5];exact hv1.set _
     have o5:W5.ownsRow E 76 3 (.slice (some ⟨g,0,none⟩) (pre.length+1) cap') (pre.length+1) (flat pre++[.int .i64 k,.string (s.extract i j),.int .i64 i]):=by
      rw [←hW5];exact Hown.out.kept (grownBy_setCell' w3 h _) (.inr (hv1.not_row (by decide) Hown.out).symm)
     have bl5:Below h w W5:=by
      rw [←hW5]
      exact ((mb.alloc (by have:=mb.size;omega) _).grown Hgrow.out (by rw [World.size_alloc];omega) (fun b hb1=>by have:=(hrow0 b hb1).1;omega)).setCell (p:=⟨h,0,none⟩) (Nat.le_refl _) _
     rw [hW5]
     refine ⟨_,_,run_endRound none l5,?_⟩
     have HQ:=HRQ.out
     have e0:({ ({ r with state:=.busy }:Loop) with state:=.ready,pending:=none }:Loop)=r:=HQ
     simp only [Option.isNone_none,if_true]
     rw [e0,←HR.out]
     have po:∀ b,b≠T+1+1→(W5.putObj (T+1+1) (.loop r)).heap[b]?=W5.heap[b]?:=fun b hb1=>World.putObj_heap_other hb1
     refine .inl ⟨rfl,⟨below_put bl5 _ _ (by omega),by rw [World.putObj_size];omega,⟨j3,by rw [List.length_append];simp only [List.length_singleton];omega⟩,?_,?_,?_,World.putObj_heap_same (by omega),_,boxed_put b5 (by omega),?_⟩,⟨by rw [World.putObj_size];omega,fun b hb1 hb2 hb3=>?_⟩,h6,h40⟩
     ·exact (po _ (by omega)).trans ((so _ (by omega)).trans ((gl _ (by omega) (gE _ (by omega))).trans m4))
     ·exact (po _ (by omega)).trans ((so _ (by omega)).trans ((gl _ (by omega) (gE _ (by omega))).trans m5))
     ·exact (po _ (by omega)).trans ((so _ (by omega)).trans ((gl _ (by omega) (gE _ (by omega))).trans m6))
     ·have ht:flat (pre++[mkTok (bs s) k i j])=flat pre++[.int .i64 k,.string (s.extract i j),.int .i64 i]:=flat_snoc s pre k i j
      unfold Toks
      rw [ht,List.length_append]
      exact ownsRow_blocks o5 fun b hb1 hb2 _=>po b (by omega)
     ·have n1:b≠T+1+1:=fun e=>hb3 (.inr e)
      have n2:b≠h:=fun e=>hb3 (.inl e)
      refine (po _ n1).trans ((so _ n2).trans ((gl _ (by omega) ?_).trans (koH.out b hb1 n1)))
      rcases hb2 with hb2 | hb2
      ·exact gE b hb2
      ·exact fun g0 hg0=>by have:=(hrow0 g0 hg0).2;omega
  ·exact (World.cell?_alloc_past _ _ _ (by simp [hT];omega)).trans ((World.cell?_alloc_past _ _ _ (by simp [hT])).trans ((World.cell?_alloc_at _ _ _ _ hT.symm).trans rfl))
  ·intro W' hb
   have hb':Below h w W':=by rw [←hh];exact hB1.trans ((((((Below.refl _ w1).alloc (Nat.le_refl _) _).alloc (by simp only [World.size_alloc];omega) _).alloc (by simp only [World.size_alloc];omega) _).mono (by omega)).trans (hb.mono (by simp only [World.size_alloc];omega)))
   have hk:∀ k o,w1.heap[k]?=some o→W'.heap[k]?=some o:=fun k o hko=>(hb.block k (by have:=heap_lt hko;simp only [World.size_alloc];omega)).trans
    (((Below.heap_alloc _ _ k (by have:=heap_lt hko;simp only [World.size_alloc];omega)).trans ((Below.heap_alloc _ _ k (by have:=heap_lt hko;simp only [World.size_alloc];omega)).trans (Below.heap_alloc _ _ k (heap_lt hko)))).trans hko)
   have hz:=hb.size
   simp only [World.size_alloc,hT] at hz
   exact ⟨hb',Nat.le_refl _,⟨by omega,by simp⟩,hk _ _ bx1,hk _ _ bx2,(hb.block (T+1) (by simp only [World.size_alloc,hT];omega)).trans (by rw [←hT];exact heap3_2 w1 _ _ _),(hb.block (T+1+1) (by simp only [World.size_alloc,hT];omega)).trans (by rw [←hT];exact heap3_3 w1 _ _ _),_,hk _ _ bx0,World.ownsRow_nil _ _ _ _⟩
 rw [hD,hT,hh]
 refine hcall.mono ?_
 rintro e w' (⟨v,E,pre,rfl,hsc,hJ⟩ | ⟨i,er,rfl,hsc,hx⟩)
 ·obtain ⟨j1,j2,⟨j3,jlen⟩,j4,j5,j6,j7,v,j8,j9⟩:=hJ
  refine ⟨none,w'.putObj (T+1+1) (.loop { r with state:=.exhausted }),?_,?_⟩
  ·refine (run_endLoop (P:=Tryz.prog) j7 (by rw [hr1];simp)).trans ?_
   rw [hr2]
  ·obtain ⟨W4,hW4⟩:∃ W4,w'.putObj (T+1+1) (.loop { r with state:=.exhausted })=W4:=⟨_,rfl⟩
   have ko:∀ k,k≠T+1+1→W4.heap[k]?=w'.heap[k]?:=fun k hk=>by rw [←hW4];exact World.putObj_heap_other hk
   have kz:W4.heap.size=w'.heap.size:=by rw [←hW4];exact World.putObj_size
   have kb:Below h w W4:=by rw [←hW4];exact ⟨j1.os,j1.tape,j1.output,by rw [World.putObj_size];exact j1.size,fun k hk=>(World.putObj_heap_other (by omega)).trans (j1.block k hk)⟩
   rw [hW4]
   clear hW4
   have k4:Boxed W4 (h+1) 3 (.int .i64 0):=(ko _ (by omega)).trans j4
   have k5:Boxed W4 (h+1+1) 26 (.int .i64 0):=(ko _ (by omega)).trans j5
   have k8:Boxed W4 h 68 v:=(ko _ (by omega)).trans j8
   have k9:Toks E v pre W4:=ownsRow_blocks j9 fun k hk _ _=>ko k (by omega)
   have k6:=(ko (T+1) (by omega)).trans j6
   obtain ⟨a,cap,rfl⟩:=ownsRow_shape k9
   have c0:=k8.cell
   have c1:=k4.cell
   have c2:=k5.cell
   have f0:=k8.frozen
   have f1:=k4.frozen
   have f2:=k5.frozen
   clear hcall ko j1 j2 j4 j5 j6 j7 j8 j9 bx0 bx1 bx2 hB1
   refine wpAt_of_wpIn (n:=n) ?_
   dsimp only [List.cons_append,List.nil_append]
   gi_wp2
   refine ⟨by simp,.inl ⟨_,_,rfl,run_takeDeferred (((Below.heap_setCell _ _ _ _ (by simp only;omega)).trans ((Below.heap_setCell _ _ _ _ (by simp only;omega)).trans (Below.heap_setCell _ _ _ _ (by simp only;omega)))).trans k6),?_⟩⟩
   refine ⟨by simp,.inr ⟨fun _=>hn1,_,_,_,_,rfl,by simp [invoke,go_sem,eg2],fun _ _=>trivial,(catch_idle (n - 1) h _).mono ?_⟩⟩
   rintro e u' F ⟨rfl,rfl,hF⟩
   have q0:Boxed F h 68 (.slice a pre.length cap):=by
    rw [hF]
    exact boxed_alloc (boxed_put (boxed_other (boxed_other (k8.set _) (by omega)) (by omega)) (by omega)) _
   have q1:Boxed F (h+1) 3 (.int .i64 0):=by
    rw [hF]
    exact boxed_alloc (boxed_put (boxed_other (Boxed.set _ (boxed_other k4 (by omega))) (by omega)) (by omega)) _
   have q2:Boxed F (h+1+1) 26 (.int .i64 0):=by
    rw [hF]
    exact boxed_alloc (boxed_put (Boxed.set _ (boxed_other (boxed_other k5 (by omega)) (by omega))) (by omega)) _
   have q3:Toks E (.slice a pre.length cap) pre F:=by
    rw [hF]
    refine ownsRow_blocks k9 fun k hk hl _=>?_
    exact (Below.heap_alloc _ _ k (by simpa [World.setCell] using hl)).trans ((World.putObj_heap_other (by omega)).trans ((Below.heap_setCell _ _ _ _ (by simp only;omega)).trans ((Below.heap_setCell _ _ _ _ (by simp only;omega)).trans (Below.heap_setCell _ _ _ _ (by simp only;omega)))))
   have q4:Below h w F:=by
    rw [hF]
    have kbs:=kb.size
    refine Below.alloc ?_ (by simp [World.setCell];omega) _
    exact below_put (((kb.setCell (p:=⟨h,0,none⟩) (Nat.le_refl _) _).setCell (p:=⟨h+1,0,none⟩) (by simp) _).setCell (p:=⟨h+1+1,0,none⟩) (by simp only;omega) _) _ _ (by omega)
   have c0':=q0.cell
   have c1':=q1.cell
   have c2':=q2.cell
   refine ⟨.tuple #[.slice a pre.length cap,.int .i64 0,.int .i64 0],by simp [results,Tryz.results121,go_sem,c0',c1',c2'],?_⟩
   refine ⟨hh▸q4,?_⟩
   rw [hsc]
   exact ⟨_,rfl,ownsRow_base q3 (by omega)⟩
 ·obtain ⟨j1,k4,k5,k6,v,k8,hv⟩:=hx
  have lt5:=k5.lt
  refine ⟨by simp,.inl ⟨_,_,rfl,run_takeDeferred k6,?_⟩⟩
  have k4':=boxed_put (b':=T+1) (o:=.deferred none) k4 (by omega)
  have k5':=boxed_put (b':=T+1) (o:=.deferred none) k5 (by omega)
  have k8':=boxed_put (b':=T+1) (o:=.deferred none) k8 (by omega)
  refine ⟨by simp,.inr ⟨fun _=>hn1,_,_,_,_,rfl,by simp [invoke,go_sem,eg2],fun _ _=>trivial,(catch_panic (n - 1) h i er [] v 0 0 _ k8'.cell k4'.cell k5'.cell k8'.frozen k4'.frozen k5'.frozen hv).mono ?_⟩⟩
  rintro e u' F ⟨rfl,rfl,hb,c0,c1,c2⟩
  refine ⟨.tuple #[.slice none 0 0,.int .i64 i,.int .i64 er],by simp [results,Tryz.results121,go_sem,c0,c1,c2],?_⟩
  refine ⟨hh▸(below_put j1 _ _ (by omega)).trans hb,?_⟩
  rw [hsc]
theorem scan_any (s:ByteArray) (w:World) (hs:s.size≤maxLen):Calls Tryz.prog 121 #[.string s] w (ScanOut s w):=by
 refine (callsIn_wide (n:=3)).1 ?_
 by_cases h:20000 < s.size
 ·exact scan_big 3 s w hs h
 ·exact scan_small 3 (by omega) s w (by omega)
end Go.Proofs.YtgjijidlaghlmaaGreatDoor
namespace Go.Proofs.YtgjijidlaghlmaaGreatDoor
open Go.RowKit
inductive NdS (S:Nat→Prop) (w:World):Nd→Value→Value→Value→Prop
 | mk (k:Int) (s:ByteArray) (l:List Nd) (a:Option Addr) (cap b o:Nat) (f0 f1 f2:Nat→Value) (hs:s.size≤maxLen) (hl:l.length≤maxLen) (hc:l.length≤cap)
   (ha:l≠[]→a=some ⟨b,o,none⟩) (hS:l≠[]→S b)
   (h0:∀ i,i < l.length→w.cell? ⟨b,o+i*3,none⟩=some (f0 i))
   (h1:∀ i,i < l.length→w.cell? ⟨b,o+i*3+1,none⟩=some (f1 i))
   (h2:∀ i,i < l.length→w.cell? ⟨b,o+i*3+2,none⟩=some (f2 i))
   (hr:∀ i (hi:i < l.length),NdS S w l[i] (f0 i) (f1 i) (f2 i)):NdS S w (.mk k s l) (.int .i64 k) (.string s) (.slice a l.length cap)
theorem NdS.toR {S:Nat→Prop} {w:World} {t:Nd} {v0 v1 v2:Value} (h:NdS S w t v0 v1 v2):NdR w t v0 v1 v2:=by
 induction h with
 | mk k s l a cap b o f0 f1 f2 hs hl hc ha hS h0 h1 h2 _ ih=>exact .mk k s l a cap b o f0 f1 f2 hs hl hc ha h0 h1 h2 ih
theorem NdS.keep {S S':Nat→Prop} {w w':World} (hk:∀ b,S b→b < w.heap.size→w'.heap[b]?=w.heap[b]?∧S' b) {t:Nd} {v0 v1 v2:Value} (h:NdS S w t v0 v1 v2):NdS S' w' t v0 v1 v2:=by
 induction h with
 | mk k s l a cap b o f0 f1 f2 hs hl hc ha hS h0 h1 h2 _ ih =>
  have hlt:∀ i,i < l.length→b < w.heap.size:=fun i hi=>lt_of_cell (h0 i hi)
  have hne:∀ i,i < l.length→l≠[]:=fun i hi e=>by rw [e] at hi;simp at hi
  have hcell:∀ i,i < l.length→∀ p,w'.cell? ⟨b,p,none⟩=w.cell? ⟨b,p,none⟩:=fun i hi p=>World.cell?_of_block (w:=w) (hk b (hS (hne i hi)) (hlt i hi)).1
  refine .mk k s l a cap b o f0 f1 f2 hs hl hc ha (fun e=>?_) (fun i hi=>(hcell i hi _).trans (h0 i hi)) (fun i hi=>(hcell i hi _).trans (h1 i hi)) (fun i hi=>(hcell i hi _).trans (h2 i hi)) ih
  have hpos:0 < l.length:=by cases l with | nil=>exact absurd rfl e | cons _ _=>simp
  exact (hk b (hS e) (hlt 0 hpos)).2
theorem NdS.mono {S S':Nat→Prop} {w:World} (hk:∀ b,S b→b < w.heap.size→S' b) {t:Nd} {v0 v1 v2:Value} (h:NdS S w t v0 v1 v2):NdS S' w t v0 v1 v2:=h.keep fun b h1 h2=>⟨rfl,hk b h1 h2⟩
theorem NdS.leaf (S:Nat→Prop) (w:World) (k:Int) (s:ByteArray) (hs:s.size≤maxLen) (a:Option Addr) (cap:Nat):NdS S w (.mk k s []) (.int .i64 k) (.string s) (.slice a 0 cap) :=
 .mk k s [] a cap 0 0 (fun _=>undef) (fun _=>undef) (fun _=>undef) hs (Nat.zero_le _) (Nat.zero_le _) (fun e=>absurd rfl e) (fun e=>absurd rfl e) (fun i hi=>absurd hi (Nat.not_lt_zero i)) (fun i hi=>absurd hi (Nat.not_lt_zero i)) (fun i hi=>absurd hi (Nat.not_lt_zero i)) (fun i hi=>absurd hi (Nat.not_lt_zero i))
theorem NdS.form {S:Nat→Prop} {w:World} {t:Nd} {v0 v1 v2:Value} (h:NdS S w t v0 v1 v2):∃ k s l a cap,t = .mk k s l∧v0 = .int .i64 k∧v1 = .string s∧v2 = .slice a l.length cap∧s.size≤maxLen∧l.length≤maxLen:=h.toR.form
theorem NdS.ones {S:Nat→Prop} {w:World} {t:Nd} {v0 v1 v2:Value} (h:NdS S w t v0 v1 v2):∀ u∈[v0,v1,v2],u.oneCell'=true:=by
 obtain ⟨k,s,l,a,cap,rfl,rfl,rfl,rfl,_,_⟩:=h.form
 intro u hu
 simp only [List.mem_cons,List.not_mem_nil,or_false] at hu
 rcases hu with rfl | rfl | rfl <;> rfl
def Kids (h:Nat) (w:World) (v:Value) (l:List Nd):Prop :=
 ∃ xs,w.ownsRow h 25 3 v l.length xs∧∀ i (hi:i < l.length),∃ v0 v1 v2,xs[i*3]?=some v0∧xs[i*3+1]?=some v1∧xs[i*3+2]?=some v2∧NdS (fun b=>h≤b∧v.ownBlock≠some b) w l[i] v0 v1 v2
theorem Kids.nil (h:Nat) (w:World):Kids h w (.slice none 0 0) []:=⟨[],World.ownsRow_nil _ _ _ _,fun i hi=>absurd hi (Nat.not_lt_zero i)⟩
theorem Kids.shape {h:Nat} {w:World} {v:Value} {l:List Nd} (hk:Kids h w v l):∃ a cap,v = .slice a l.length cap∧l.length≤cap:=by
 obtain ⟨xs,h1,_⟩:=hk
 rcases h1.2 with ⟨rfl,h0⟩ | ⟨g,cap,cur,rfl,hg,hh,hle,_⟩
 ·exact ⟨none,0,by rw [h0],by omega⟩
 ·exact ⟨_,_,rfl,hle⟩
theorem Kids.own {h:Nat} {w:World} {v:Value} {l:List Nd} (hk:Kids h w v l):∀ g,v.ownBlock=some g→h≤g∧g < w.heap.size:=by
 obtain ⟨xs,h1,_⟩:=hk
 exact h1.lt
theorem Kids.keep {h:Nat} {w w':World} {v:Value} {l:List Nd} (hk:Kids h w v l) (he:∀ b,h≤b→b < w.heap.size→w'.heap[b]?=w.heap[b]?):Kids h w' v l:=by
 obtain ⟨xs,h1,h2⟩:=hk
 refine ⟨xs,ownsRow_blocks h1 fun k hk hl _=>he k hk hl,fun i hi=>?_⟩
 obtain ⟨v0,v1,v2,e0,e1,e2,hn⟩:=h2 i hi
 exact ⟨v0,v1,v2,e0,e1,e2,hn.keep fun b hb hl=>⟨he b hb.1 hl,hb⟩⟩
theorem Kids.base {h h':Nat} {w:World} {v:Value} {l:List Nd} (hk:Kids h w v l) (hh:h'≤h):Kids h' w v l:=by
 obtain ⟨xs,h1,h2⟩:=hk
 refine ⟨xs,ownsRow_base h1 hh,fun i hi=>?_⟩
 obtain ⟨v0,v1,v2,e0,e1,e2,hn⟩:=h2 i hi
 exact ⟨v0,v1,v2,e0,e1,e2,hn.mono fun b hb _=>⟨Nat.le_trans hh hb.1,hb.2⟩⟩
theorem Kids.node {h:Nat} {w:World} {v:Value} {l:List Nd} (hk:Kids h w v l) (k:Int) (s:ByteArray) (hs:s.size≤maxLen) (hl:l.length≤maxLen):NdS (fun b=>h≤b) w (.mk k s l) (.int .i64 k) (.string s) v:=by
 obtain ⟨xs,h1,h2⟩:=hk
 rcases h1.2 with ⟨rfl,h0⟩ | ⟨g,cap,cur,rfl,hg,hh,hle,_,_,htake⟩
 ·obtain rfl:l=[]:=List.eq_nil_of_length_eq_zero h0
  exact .leaf _ _ _ _ hs _ _
 ·have hx:∀ j u,xs[j]?=some u→w.cell? ⟨g,j,none⟩=some u:=fun j u hj=>by
   have:=h1.cells (g:=g) rfl j u hj
   have hadd:(⟨g,0,none⟩:Addr).add j=⟨g,j,none⟩:=by unfold Addr.add;split <;> simp_all
   rwa [hadd] at this
  refine .mk k s l (some ⟨g,0,none⟩) cap g 0 (fun i=>(xs[i*3]?).getD undef) (fun i=>(xs[i*3+1]?).getD undef) (fun i=>(xs[i*3+2]?).getD undef) hs hl hle (fun _=>rfl) (fun _=>hg) ?_ ?_ ?_ ?_
  ·intro i hi
   obtain ⟨v0,v1,v2,e0,e1,e2,hn⟩:=h2 i hi
   rw [Nat.zero_add,e0]
   exact hx _ _ e0
  ·intro i hi
   obtain ⟨v0,v1,v2,e0,e1,e2,hn⟩:=h2 i hi
   rw [Nat.zero_add,e1]
   exact hx _ _ e1
  ·intro i hi
   obtain ⟨v0,v1,v2,e0,e1,e2,hn⟩:=h2 i hi
   rw [Nat.zero_add,e2]
   exact hx _ _ e2
  ·intro i hi
   obtain ⟨v0,v1,v2,e0,e1,e2,hn⟩:=h2 i hi
   simp only [e0,e1,e2,Option.getD_some]
   exact hn.mono fun b hb _=>hb.1
theorem infoNode:(Tryz.prog.info? 25).map (fun i=>(i.zero,i.size,i.bytes))=some (some (.agg #[.int .i64 0,.string ⟨#[]⟩,.slice none 0 0]),3,48):=by kernel_rfl
theorem Kids.snoc {h:Nat} {w w':World} {v:Value} {l:List Nd} {xs:List Value} {v0 v1 v2:Value} {x:Nd} {g cap:Nat}
  (h1:w.ownsRow h 25 3 v l.length xs) (h2:∀ i (hi:i < l.length),∃ v0 v1 v2,xs[i*3]?=some v0∧xs[i*3+1]?=some v1∧xs[i*3+2]?=some v2∧NdS (fun b=>h≤b∧v.ownBlock≠some b) w l[i] v0 v1 v2)
  (hx:NdS (fun b=>h≤b∧v.ownBlock≠some b) w x v0 v1 v2)
  (ho:w'.ownsRow h 25 3 (.slice (some ⟨g,0,none⟩) (l.length+1) cap) (l.length+1) (xs++[v0,v1,v2])) (hg:w.grownBy w' v.ownBlock) (hw:v.ownBlock=some g∨g=w.heap.size) :
  Kids h w' (.slice (some ⟨g,0,none⟩) (l.length+1) cap) (l++[x]):=by
 have hk:∀ b,(h≤b∧v.ownBlock≠some b)→b < w.heap.size→w'.heap[b]?=w.heap[b]?∧(h≤b∧(Value.slice (some ⟨g,0,none⟩) (l.length+1) cap).ownBlock≠some b):=by
  rintro b ⟨hb1,hb2⟩ hb3
  refine ⟨hg.block b hb3 (fun e=>hb2 e.symm),hb1,?_⟩
  intro e
  have e':g=b:=by simpa [Value.ownBlock] using e
  rcases hw with hw | hw
  ·exact hb2 (by rw [hw,e'])
  ·omega
 have hxl:xs.length=l.length*3:=h1.1
 refine ⟨xs++[v0,v1,v2],by rw [List.length_append];exact ho,fun i hi=>?_⟩
 by_cases hlt:i < l.length
 ·obtain ⟨u0,u1,u2,e0,e1,e2,hn⟩:=h2 i hlt
  refine ⟨u0,u1,u2,?_,?_,?_,?_⟩
  ·rw [List.getElem?_append_left (by omega)];exact e0
  ·rw [List.getElem?_append_left (by omega)];exact e1
  ·rw [List.getElem?_append_left (by omega)];exact e2
  ·rw [List.getElem_append_left hlt]
   exact hn.keep hk
 ·have hi':i=l.length:=by simp only [List.length_append,List.length_singleton] at hi;omega
  subst hi'
  refine ⟨v0,v1,v2,?_,?_,?_,?_⟩
  ·rw [List.getElem?_append_right (by omega),show l.length*3 - xs.length=0 from by omega];rfl
  ·rw [List.getElem?_append_right (by omega),show l.length*3+1 - xs.length=1 from by omega];rfl
  ·rw [List.getElem?_append_right (by omega),show l.length*3+2 - xs.length=2 from by omega];rfl
  ·simp only [List.getElem_append_right (Nat.le_refl _),Nat.sub_self,List.getElem_cons_zero]
   exact hx.keep hk
section
variable {ops:Array Oper} {rest:List Oper} {o:Oper} {a:Act} {Q:Exit→Act→World→Prop} {w:World}
theorem wpList_append_kid (hgd:o.guard=none) (s x:Operand)
  (ho:o.op = .call { callee:=.builtin .append,args:=#[s,x],argTypes:=#[23,23] })
  (h:Nat) (v:Value) (l:List Nd) (hs:a.eval s=v) (hk:Kids h w v l) (ad:Addr) (c:Nat) (hx:a.eval x = .slice (some ad) 1 c) (t:Nd) (v0 v1 v2:Value)
  (hnews:∀ j u,[v0,v1,v2][j]?=some u→w.cell? (ad.add j)=some u) (hn:NdS (fun b=>h≤b∧v.ownBlock≠some b) w t v0 v1 v2) (hlen:l.length≤1000000) (hbase:h≤w.heap.size) (H:Nat) (hH:w.heap.size=H)
  (hK:∀ g cap w',Kids h w' (.slice (some ⟨g,0,none⟩) (l.length+1) cap) (l++[t])→w.grownBy w' v.ownBlock→(v.ownBlock=some g∨g=H)→g < w'.heap.size→wpList Tryz.prog ops Q rest (a.put o.dst (.slice (some ⟨g,0,none⟩) (l.length+1) cap)) w') :
  wpList Tryz.prog ops Q (o :: rest) a w:=by
 obtain ⟨i0,hi0,hz0,hz1,hz2⟩:=info_parts infoNode
 obtain ⟨xs,h1,h2⟩:=hk
 refine wpList_append_lies w hgd s x 23 ho h 25 i0 _ 3 48 Tryz.underlying23 hi0 hz0 hz1 hz2 rfl (by decide) v l.length xs hs h1 ad 1 c [v0,v1,v2] hx rfl hnews hn.ones (by decide) (by unfold maxLen;omega) (by omega) hbase H hH ?_
 intro g cap w' h3 h4 h5 h6
 exact hK g cap w' (Kids.snoc h1 h2 hn h3 h4 (by rw [hH];exact h5)) h4 h5 h6
end
end Go.Proofs.YtgjijidlaghlmaaGreatDoor
namespace Go.Proofs.YtgjijidlaghlmaaGreatDoor
namespace Sx
open Lx (Bs Tok)
def txt (ts:List Tok) (p:Nat):Bs:=match ts[p]? with | some t=>t.text | none=>[]
def knd (ts:List Tok) (p:Nat):Nat:=match ts[p]? with | some t=>t.kind | none=>0
inductive PR (α:Type) where
 | ok (a:α) (p:Nat)
 | bad (p:Nat)
def noS:ByteArray:=⟨#[]⟩
def str (l:Bs):ByteArray:=⟨l.toArray⟩
def leaf (k:Int) (l:Bs):Nd:=.mk k (str l) []
def small (ts:List Tok) (p:Nat):PR Nd:=if knd ts p=1 then .ok (leaf 15 (txt ts p)) (p+1) else .bad p
def nameA (ts:List Tok) (p:Nat):PR Nd:=if knd ts p=1 then .ok (leaf 15 (txt ts p)) (p+1) else if knd ts p=2 then .ok (leaf 16 (txt ts p)) (p+1) else .bad p
mutual
def typed (ts:List Tok):Nat→Nat→PR Nd
 | 0,p=>.bad p
 | f+1,p=>match simple ts f p with
  | .bad q=>.bad q
  | .ok a q=>if txt ts q=[45,62] then (match typed ts f (q+1) with
   | .bad r=>.bad r
   | .ok b r=>.ok (.mk 31 noS [a,b]) r) else .ok a q
def simple (ts:List Tok):Nat→Nat→PR Nd
 | 0,p=>.bad p
 | f+1,p=>if txt ts p=[40] then (match typed ts f (p+1) with
   | .bad q=>.bad q
   | .ok a q=>if txt ts q=[41] then .ok a (q+1) else .bad q) else small ts p
end
def binder (ty body:Nat→PR Nd) (ts:List Tok) (k:Int) (p:Nat):PR Nd :=
 match nameA ts p with
 | .bad q=>.bad q
 | .ok (.mk _ s _) q =>
  if txt ts q=[58] then (match ty (q+1) with
   | .bad r=>.bad r
   | .ok t r=>if txt ts r=[46] then (match body (r+1) with
    | .bad u=>.bad u
    | .ok b u=>.ok (.mk k s [t,b]) u) else .bad r)
  else if txt ts q=[46] then (match body (q+1) with
   | .bad u=>.bad u
   | .ok b u=>.ok (.mk k s [b]) u) else .bad q
mutual
def term (ts:List Tok):Nat→Nat→PR Nd
 | 0,p=>.bad p
 | f+1,p =>
  if txt ts p=[92] then binder (typed ts f) (term ts f) ts 17 (p+1)
  else if txt ts p=[40] then (match term ts f (p+1) with
   | .bad q=>.bad q
   | .ok a q=>if txt ts q=[41] then .ok a (q+1) else .bad q)
  else (match nameA ts p with
   | .bad q=>.bad q
   | .ok (.mk k s _) q=>(match args ts f [] q with
    | .bad r=>.bad r
    | .ok l r=>.ok (.mk k s l) r))
def args (ts:List Tok):Nat→List Nd→Nat→PR (List Nd)
 | 0,_,p=>.bad p
 | f+1,acc,p =>
  if txt ts p=[40] then (match term ts f (p+1) with
   | .bad q=>.bad q
   | .ok a q=>if txt ts q=[41] then args ts f (acc++[a]) (q+1) else .bad q)
  else (match nameA ts p with
   | .bad _=>.ok acc p
   | .ok a q=>args ts f (acc++[a]) q)
end
def applied (ts:List Tok) (f:Nat) (p:Nat):PR Nd :=
 match nameA ts p with
 | .bad q=>.bad q
 | .ok (.mk k s _) q=>(match args ts f [] q with
  | .bad r=>.bad r
  | .ok l r=>.ok (.mk k s l) r)
def sgn (ts:List Tok) (b:Nat) (p:Nat):Option Int :=
 if b=0 then (if txt ts p=[111,45] then some 27 else if txt ts p=[60,61] then some 28 else none)
 else if b=1 then (if txt ts p=[45,111] then some 25 else if txt ts p=[61,62] then some 26 else none)
 else if b=2 then (if txt ts p=[43] then some 24 else none)
 else if b=3 then (if txt ts p=[38] then some 23 else none)
 else if b=4 then (if txt ts p=[42] then some 22 else none)
 else none
mutual
def part (ts:List Tok):Nat→Nat→PR Nd
 | 0,p=>.bad p
 | f+1,p =>
  if knd ts p=1 then applied ts f p
  else if txt ts p=[33] then (match part ts f (p+1) with
   | .bad q=>.bad q
   | .ok a q=>.ok (.mk 29 noS [a]) q)
  else if txt ts p=[97,108,108] then binder (typed ts f) (form ts f) ts 18 (p+1)
  else if txt ts p=[101,120] then binder (typed ts f) (form ts f) ts 19 (p+1)
  else if txt ts p=[111,110,101] then .ok (.mk 20 noS []) (p+1)
  else if txt ts p=[116,111,112] then .ok (.mk 21 noS []) (p+1)
  else if txt ts p=[123] then (match form ts f (p+1) with
   | .bad q=>.bad q
   | .ok a q=>if txt ts q=[125] then .ok (.mk 30 noS [a]) (q+1) else .bad q)
  else if txt ts p=[40] then (match form ts f (p+1) with
   | .bad q=>.bad q
   | .ok a q=>if txt ts q=[41] then .ok a (q+1) else .bad q)
  else .bad p
def right (ts:List Tok):Nat→Nat→Nat→PR Nd
 | 0,_,p=>.bad p
 | f+1,b,p =>
  if 5≤b then part ts f p
  else (match right ts f (b+1) p with
   | .bad q=>.bad q
   | .ok a q=>(match sgn ts b q with
    | none=>.ok a q
    | some k=>(match right ts f b (q+1) with
     | .bad r=>.bad r
     | .ok c r=>.ok (.mk k noS [a,c]) r)))
def form (ts:List Tok):Nat→Nat→PR Nd
 | 0,p=>.bad p
 | f+1,p=>match right ts f 1 p with
  | .bad q=>.bad q
  | .ok a q=>formR ts f a q
def formR (ts:List Tok):Nat→Nd→Nat→PR Nd
 | 0,_,p=>.bad p
 | f+1,a,q=>match sgn ts 0 q with
  | none=>.ok a q
  | some k=>(match right ts f 1 (q+1) with
   | .bad r=>.bad r
   | .ok c r=>formR ts f (.mk k noS [a,c]) r)
end
def namesR (ts:List Tok):Nat→List Nd→Nat→PR (List Nd)
 | 0,_,p=>.bad p
 | f+1,acc,p=>if txt ts p=[44] then (match small ts (p+1) with
   | .bad q=>.bad q
   | .ok a q=>namesR ts f (acc++[a]) q) else .ok acc p
def names (ts:List Tok) (f:Nat) (p:Nat):PR (List Nd) :=
 match small ts p with
 | .bad q=>.bad q
 | .ok a q=>namesR ts f [a] q
def simples (ts:List Tok):Nat→List Nd→Nat→PR (List Nd)
 | 0,_,p=>.bad p
 | f+1,acc,p=>if txt ts p=[40]∨knd ts p=1 then (match simple ts f p with
   | .bad q=>.bad q
   | .ok a q=>simples ts f (acc++[a]) q) else .ok acc p
def smalls (ts:List Tok):Nat→List Nd→Nat→PR (List Nd)
 | 0,_,p=>.bad p
 | f+1,acc,p=>if knd ts p=1 then smalls ts f (acc++[leaf 15 (txt ts p)]) (p+1) else .ok acc p
def kindOf (s:Bs):Int :=
 if s=[116,121,112,101] then 2
 else if s=[99,111,110,115,116] then 3
 else if s=[112,114,101,100] then 4
 else if s=[102,97,99,116] then 5
 else if s=[108,97,115,116,105,110,103] then 6
 else if s=[109,111,100,101] then 7
 else if s=[114,117,108,101] then 8
 else if s=[111,110,99,101] then 9
 else if s=[109,111,115,116] then 10
 else if s=[113,117,101,114,121] then 11
 else if s=[109,111,100,117,108,101] then 12
 else if s=[117,115,101] then 13
 else if s=[101,120,112,111,114,116] then 14
 else 0
def behind (ts:List Tok) (f:Nat) (k:Int) (s:ByteArray) (p:Nat):PR Nd :=
 if k=4∨k=5∨k=6 then (match simples ts f [] p with
  | .bad q=>.bad q
  | .ok l q=>.ok (.mk k s l) q)
 else if k=7 then (match smalls ts f [] p with
  | .bad q=>.bad q
  | .ok l q=>.ok (.mk k s l) q)
 else if k=8∨k=9∨k=10∨k=11 then (if txt ts p=[58] then (match form ts f (p+1) with
  | .bad q=>.bad q
  | .ok a q=>.ok (.mk k s [a]) q) else .bad p)
 else .ok (.mk k s []) p
def itemB (ts:List Tok) (f:Nat) (k:Int) (p:Nat):PR Nd :=
 if k=2∨k=14 then (match names ts f p with
  | .bad q=>.bad q
  | .ok l q=>.ok (.mk k noS l) q)
 else if k=3 then (match names ts f p with
  | .bad q=>.bad q
  | .ok l q=>if txt ts q=[58] then (match typed ts f (q+1) with
   | .bad r=>.bad r
   | .ok t r=>.ok (.mk 3 noS (l++[t])) r) else .bad q)
 else (match small ts p with
  | .bad q=>.bad q
  | .ok (.mk _ s _) q=>behind ts f k s q)
def item (ts:List Tok) (f:Nat) (p:Nat):PR Nd :=
 if kindOf (txt ts p)=0 then .bad p
 else (match itemB ts f (kindOf (txt ts p)) (p+1) with
  | .bad q=>.bad q
  | .ok a q=>if txt ts q=[46] then .ok a (q+1) else .bad q)
def items (ts:List Tok):Nat→List Nd→Nat→PR (List Nd)
 | 0,_,p=>.bad p
 | f+1,acc,p=>if p < ts.length then (match item ts f p with
   | .bad q=>.bad q
   | .ok a q=>items ts f (acc++[a]) q) else .ok acc p
def whole (ts:List Tok) (f:Nat) (what:Int):PR Nd :=
 if what=18 then form ts f 0
 else if what=17 then term ts f 0
 else if what=31 then typed ts f 0
 else (match items ts f [] 0 with
  | .bad q=>.bad q
  | .ok l q=>.ok (.mk 1 noS l) q)
def fuel (ts:List Tok):Nat:=16*ts.length+16
theorem txt_lt {ts:List Tok} {p:Nat} (h:txt ts p≠[]):p < ts.length:=by
 by_cases hp:p < ts.length
 ·exact hp
 ·exact absurd (by unfold txt;rw [List.getElem?_eq_none (by omega)]) h
theorem knd_lt {ts:List Tok} {p:Nat} (h:knd ts p≠0):p < ts.length:=by
 by_cases hp:p < ts.length
 ·exact hp
 ·exact absurd (by unfold knd;rw [List.getElem?_eq_none (by omega)]) h
theorem txt_at {ts:List Tok} {p:Nat} {s:Bs} (h:txt ts p=s) (hs:s≠[]:=by decide):p < ts.length:=txt_lt (by rw [h];exact hs)
theorem small_ok {ts:List Tok} {p q:Nat} {a:Nd} (h:small ts p = .ok a q):q=p+1∧q≤ts.length∧a=leaf 15 (txt ts p)∧knd ts p=1:=by
 unfold small at h
 split at h
 ·rename_i hk
  cases h
  exact ⟨rfl,knd_lt (by omega),rfl,hk⟩
 ·cases h
theorem nameA_ok {ts:List Tok} {p q:Nat} {a:Nd} (h:nameA ts p = .ok a q):q=p+1∧q≤ts.length:=by
 unfold nameA at h
 split at h
 ·rename_i hk
  cases h
  exact ⟨rfl,knd_lt (by omega)⟩
 ·split at h
  ·rename_i hk
   cases h
   exact ⟨rfl,knd_lt (by omega)⟩
  ·cases h
theorem sgn_lt {ts:List Tok} {b p:Nat} {k:Int} (h:sgn ts b p=some k):p < ts.length:=by
 unfold sgn at h
 repeat' (split at h)
 all_goals first
  | (cases h;done)
  | exact txt_at ‹_›
def Goes (ts:List Tok) (p:Nat) {α:Type} (r:PR α):Prop:=∀ a q,r = .ok a q→p < q∧q≤ts.length
def Stays (ts:List Tok) (p:Nat) {α:Type} (r:PR α):Prop:=p≤ts.length→∀ a q,r = .ok a q→p≤q∧q≤ts.length
theorem typed_goes (ts:List Tok):∀ f,(∀ p,Goes ts p (typed ts f p))∧(∀ p,Goes ts p (simple ts f p))
 | 0=>⟨fun p a q h=>(by simp only [typed] at h;cases h),fun p a q h=>(by simp only [simple] at h;cases h)⟩
 | f+1=>by
  obtain ⟨h1,h2⟩:=typed_goes ts f
  refine ⟨fun p a q h=>?_,fun p a q h=>?_⟩
  ·simp only [typed] at h
   split at h
   ·cases h
   ·rename_i a1 q1 e1
    have g1:=h2 p _ _ e1
    split at h
    ·split at h
     ·cases h
     ·rename_i a2 q2 e2
      have g2:=h1 _ _ _ e2
      cases h
      omega
    ·cases h
     exact g1
  ·simp only [simple] at h
   split at h
   ·split at h
    ·cases h
    ·rename_i a1 q1 e1
     have g1:=h1 _ _ _ e1
     split at h
     ·rename_i e2
      have:=txt_at e2
      cases h
      omega
     ·cases h
   ·have:=small_ok h
    omega
theorem binder_goes {ts:List Tok} {ty body:Nat→PR Nd} {k:Int} (h1:∀ p,Goes ts p (ty p)) (h2:∀ p,Goes ts p (body p)) (p:Nat):Goes ts p (binder ty body ts k p):=by
 intro a q h
 unfold binder at h
 split at h
 ·cases h
 ·rename_i k1 s1 l1 q1 e1
  have g1:=nameA_ok e1
  split at h
  ·split at h
   ·cases h
   ·rename_i t r e2
    have g2:=h1 _ _ _ e2
    split at h
    ·split at h
     ·cases h
     ·rename_i b u e3
      have g3:=h2 _ _ _ e3
      cases h
      omega
    ·cases h
  ·split at h
   ·split at h
    ·cases h
    ·rename_i b u e3
     have g3:=h2 _ _ _ e3
     cases h
     omega
   ·cases h
theorem term_goes (ts:List Tok):∀ f,(∀ p,Goes ts p (term ts f p))∧(∀ acc p,Stays ts p (args ts f acc p))
 | 0=>⟨fun p a q h=>(by simp only [term] at h;cases h),fun acc p _ a q h=>(by simp only [args] at h;cases h)⟩
 | f+1=>by
  obtain ⟨h1,h2⟩:=term_goes ts f
  refine ⟨fun p a q h=>?_,fun acc p hp a q h=>?_⟩
  ·simp only [term] at h
   split at h
   ·have:=binder_goes (typed_goes ts f).1 h1 _ _ _ h
    omega
   ·split at h
    ·split at h
     ·cases h
     ·rename_i a1 q1 e1
      have g1:=h1 _ _ _ e1
      split at h
      ·rename_i e2
       have:=txt_at e2
       cases h
       omega
      ·cases h
    ·split at h
     ·cases h
     ·rename_i k1 s1 l1 q1 e1
      have g1:=nameA_ok e1
      split at h
      ·cases h
      ·rename_i l r e2
       have g2:=h2 _ _ (by omega) _ _ e2
       cases h
       omega
  ·simp only [args] at h
   split at h
   ·split at h
    ·cases h
    ·rename_i a1 q1 e1
     have g1:=h1 _ _ _ e1
     split at h
     ·rename_i e2
      have g2:=txt_at e2
      have g3:=h2 _ _ (by omega) _ _ h
      omega
     ·cases h
   ·split at h
    ·cases h
     omega
    ·rename_i a1 q1 e1
     have g1:=nameA_ok e1
     have g3:=h2 _ _ (by omega) _ _ h
     omega
theorem applied_goes (ts:List Tok) (f p:Nat):Goes ts p (applied ts f p):=by
 intro a q h
 unfold applied at h
 split at h
 ·cases h
 ·rename_i k1 s1 l1 q1 e1
  have g1:=nameA_ok e1
  split at h
  ·cases h
  ·rename_i l r e2
   have g2:=(term_goes ts f).2 _ _ (by omega) _ _ e2
   cases h
   omega
theorem form_goes (ts:List Tok):∀ f,(∀ p,Goes ts p (part ts f p))∧(∀ b p,Goes ts p (right ts f b p))∧(∀ p,Goes ts p (form ts f p))∧(∀ a p,Stays ts p (formR ts f a p))
 | 0=>⟨fun p a q h=>(by simp only [part] at h;cases h),fun b p a q h=>(by simp only [right] at h;cases h),fun p a q h=>(by simp only [form] at h;cases h),fun b p _ a q h=>(by simp only [formR] at h;cases h)⟩
 | f+1=>by
  obtain ⟨h1,h2,h3,h4⟩:=form_goes ts f
  refine ⟨fun p a q h=>?_,fun b p a q h=>?_,fun p a q h=>?_,fun b p hp a q h=>?_⟩
  ·simp only [part] at h
   split at h
   ·exact applied_goes ts f p _ _ h
   ·split at h
    ·split at h
     ·cases h
     ·rename_i a1 q1 e1
      have g1:=h1 _ _ _ e1
      cases h
      omega
    ·split at h
     ·have:=binder_goes (typed_goes ts f).1 h3 _ _ _ h
      omega
     ·split at h
      ·have:=binder_goes (typed_goes ts f).1 h3 _ _ _ h
       omega
      ·split at h
       ·rename_i e
        have:=txt_at e
        cases h
        omega
       ·split at h
        ·rename_i e
         have:=txt_at e
         cases h
         omega
        ·split at h
         ·split at h
          ·cases h
          ·rename_i a1 q1 e1
           have g1:=h3 _ _ _ e1
           split at h
           ·rename_i e2
            have:=txt_at e2
            cases h
            omega
           ·cases h
         ·split at h
          ·split at h
           ·cases h
           ·rename_i a1 q1 e1
            have g1:=h3 _ _ _ e1
            split at h
            ·rename_i e2
             have:=txt_at e2
             cases h
             omega
            ·cases h
          ·cases h
  ·simp only [right] at h
   split at h
   ·exact h1 _ _ _ h
   ·split at h
    ·cases h
    ·rename_i a1 q1 e1
     have g1:=h2 _ _ _ _ e1
     split at h
     ·cases h
      exact g1
     ·split at h
      ·cases h
      ·rename_i a2 q2 e2
       have g2:=h2 _ _ _ _ e2
       cases h
       omega
  ·simp only [form] at h
   split at h
   ·cases h
   ·rename_i a1 q1 e1
    have g1:=h2 _ _ _ _ e1
    have g2:=h4 _ _ g1.2 _ _ h
    omega
  ·simp only [formR] at h
   split at h
   ·cases h
    omega
   ·split at h
    ·cases h
    ·rename_i a2 q2 e2
     have g2:=h2 _ _ _ _ e2
     have g3:=h4 _ _ g2.2 _ _ h
     omega
end Sx
end Go.Proofs.YtgjijidlaghlmaaGreatDoor
namespace Go.Proofs.YtgjijidlaghlmaaGreatDoor
open Go.RowKit
structure PE where
 pb:Nat
 ts:List Lx.Tok
 a:Option Addr
 tb:Nat
 off:Nat
 cap:Nat
 en:Nat
 mi:Nat
 mp:Nat
def PE.pos (E:PE) (q:Nat):Nat:=match E.ts[q]? with | some t=>t.pos | none=>E.en
def misfit (E:PE) (q:Nat):Value:=.iface 126 (.agg #[.int .i64 (E.pos q:Nat)])
def S_ (l:List UInt8):Value:=.string ⟨l.toArray⟩
def openL:List (List UInt8×Int):=[([116,121,112,101],2),([101,120,112,111,114,116],14),([99,111,110,115,116],3),([112,114,101,100],4),([102,97,99,116],5),([108,97,115,116,105,110,103],6),([109,111,100,101],7),([114,117,108,101],8),([111,110,99,101],9),([109,111,115,116],10),([113,117,101,114,121],11),([109,111,100,117,108,101],12),([117,115,101],13),([33],29),([97,108,108],18),([101,120],19),([111,110,101],20),([116,111,112],21),([123],30),([92],17)]
def opsL:List (List UInt8×Int×Nat):=[([111,45],27,0),([60,61],28,0),([45,111],25,1),([61,62],26,1),([43],24,2),([38],23,3),([42],22,4),([45,62],31,6)]
def openArr:Array Value:=(openL.flatMap fun o=>[S_ o.1,.int .i64 o.2]).toArray
def opsArr:Array Value:=(opsL.flatMap fun o=>[S_ o.1,.int .i64 o.2.1,.int .i64 (o.2.2:Nat)]).toArray
structure GLw (w:World):Prop where
 g0:∃ t fr,w.heap[(0:Nat)]?=some (.cells openArr t fr)
 g1:∃ t fr,w.heap[(1:Nat)]?=some (.cells opsArr t fr)
theorem GLw.keep {w w':World} (h:GLw w) (he:∀ b,b < 2→b < w.heap.size→w'.heap[b]?=w.heap[b]?):GLw w':=by
 obtain ⟨⟨t,fr,h0⟩,⟨u,gr,h1⟩⟩:=h
 exact ⟨⟨t,fr,(he 0 (by omega) (heap_lt h0)).trans h0⟩,⟨u,gr,(he 1 (by omega) (heap_lt h1)).trans h1⟩⟩
def StrMap (w:World) (b:Nat) (L:List (List UInt8×Value)):Prop:=∃ es clock,w.heap[b]?=some (.map es clock)∧es.toList.map (fun e=>(e.key,e.val))=L.map fun p=>(S_ p.1,p.2)
theorem StrMap.lt {w:World} {b:Nat} {L:List (List UInt8×Value)} (h:StrMap w b L):b < w.heap.size:=by
 obtain ⟨es,c,h1,_⟩:=h
 exact heap_lt h1
theorem StrMap.keep {w w':World} {b:Nat} {L:List (List UInt8×Value)} (h:StrMap w b L) (he:w'.heap[b]?=w.heap[b]?):StrMap w' b L:=by
 obtain ⟨es,c,h1,h2⟩:=h
 exact ⟨es,c,he.trans h1,h2⟩
def F_ (f:Nat):Value:=.func (.func f) #[] #[]
def itemsL:List (List UInt8×Value):=[([116,121,112,101],F_ 178),([101,120,112,111,114,116],F_ 178),([99,111,110,115,116],F_ 179),([112,114,101,100],F_ 180),([102,97,99,116],F_ 180),([108,97,115,116,105,110,103],F_ 180),([109,111,100,101],F_ 181),([114,117,108,101],F_ 182),([111,110,99,101],F_ 182),([109,111,115,116],F_ 182),([113,117,101,114,121],F_ 182),([109,111,100,117,108,101],F_ 183),([117,115,101],F_ 183)]
def partsL:List (List UInt8×Value):=[([33],F_ 184),([97,108,108],F_ 185),([101,120],F_ 185),([111,110,101],F_ 186),([116,111,112],F_ 186),([123],F_ 187),([40],F_ 188)]
structure PG (E:PE) (w:World):Prop where
 few:E.ts.length≤6000
 small:∀ t∈E.ts,t.text.length≤40∧t.pos≤20000∧t.kind≤4
 endS:E.en≤20000
 ha:E.ts≠[]→E.a=some ⟨E.tb,E.off,none⟩
 hb:E.ts≠[]→E.tb≠E.pb
 hc:E.ts.length≤E.cap
 c0:∀ i (hi:i < E.ts.length),w.cell? ⟨E.tb,E.off+i*3,none⟩=some (.int .i64 (E.ts[i].kind:Nat))
 c1:∀ i (hi:i < E.ts.length),w.cell? ⟨E.tb,E.off+i*3+1,none⟩=some (.string (Sx.str E.ts[i].text))
 c2:∀ i (hi:i < E.ts.length),w.cell? ⟨E.tb,E.off+i*3+2,none⟩=some (.int .i64 (E.ts[i].pos:Nat))
 hp:2≤E.pb
 gl:GLw w
 hmi:E.mi≠E.pb
 hmp:E.mp≠E.pb
 mi:StrMap w E.mi itemsL
 mp:StrMap w E.mp partsL
def PE.row (E:PE) (q:Nat):Array Value:=#[.slice E.a E.ts.length E.cap,.int .i64 (q:Nat),.int .i64 (E.en:Nat),.map (some E.mi),.map (some E.mp)]
structure PS (E:PE) (q:Nat) (w:World):Prop where
 row:w.heap[E.pb]?=some (.cells (E.row q) 131 (0,0))
 le:q≤E.ts.length
 g:PG E w
theorem PS.lt {E:PE} {q:Nat} {w:World} (h:PS E q w):E.pb < w.heap.size:=heap_lt h.row
theorem PG.keep {E:PE} {w w':World} (h:PG E w) (he:∀ b,b < w.heap.size→b≠E.pb→w'.heap[b]?=w.heap[b]?):PG E w':=by
 have hc:∀ i,i < E.ts.length→∀ p,w'.cell? ⟨E.tb,p,none⟩=w.cell? ⟨E.tb,p,none⟩:=fun i hi p =>
  World.cell?_of_block (w:=w) (he E.tb (lt_of_cell (h.c0 i hi)) (h.hb (fun e=>by rw [e] at hi;simp at hi)))
 exact ⟨h.few,h.small,h.endS,h.ha,h.hb,h.hc,fun i hi=>(hc i hi _).trans (h.c0 i hi),fun i hi=>(hc i hi _).trans (h.c1 i hi),fun i hi=>(hc i hi _).trans (h.c2 i hi),h.hp,h.gl.keep (fun b hb hl=>he b hl (by have:=h.hp;omega)),h.hmi,h.hmp,h.mi.keep (he _ h.mi.lt h.hmi),h.mp.keep (he _ h.mp.lt h.hmp)⟩
def Mv (E:PE) (q':Nat) (w w':World):Prop:=Below w.heap.size (w.setCell ⟨E.pb,1,none⟩ (.int .i64 (q':Nat))) w'
theorem setCell_size (w:World) (p:Addr) (u:Value):(w.setCell p u).heap.size=w.heap.size:=by simp [World.setCell]
theorem setCell_row {w:World} {b o:Nat} {u:Value} {cs:Array Value} {t:TypeId} (h:w.heap[b]?=some (.cells cs t (0,0))):(w.setCell ⟨b,o,none⟩ u).heap[b]?=some (.cells (cs.setIfInBounds o u) t (0,0)):=by
 simp [World.setCell,Array.getElem?_modify,h]
theorem Mv.size {E:PE} {q':Nat} {w w':World} (h:Mv E q' w w'):w.heap.size≤w'.heap.size:=by
 have:=Below.size h
 rwa [setCell_size] at this
theorem Mv.blk {E:PE} {q':Nat} {w w':World} (h:Mv E q' w w') (b:Nat) (hb:b < w.heap.size) (hne:b≠E.pb):w'.heap[b]?=w.heap[b]? :=
 (Below.block h b hb).trans (Below.heap_setCell _ _ _ _ hne)
theorem Mv.row {E:PE} {q q':Nat} {w w':World} (h:Mv E q' w w') (hp:PS E q w):w'.heap[E.pb]?=some (.cells (E.row q') 131 (0,0)):=by
 rw [Below.block h E.pb hp.lt,setCell_row hp.row]
 rfl
theorem Mv.ps {E:PE} {q q':Nat} {w w':World} (h:Mv E q' w w') (hp:PS E q w) (hq:q'≤E.ts.length):PS E q' w' :=
 ⟨h.row hp,hq,hp.g.keep fun b hb hne=>h.blk b hb hne⟩
theorem Mv.of {E:PE} {q q':Nat} {w w':World} (hp:PS E q w) (h1:w'.os=w.os) (h2:w'.tape=w.tape) (h3:w'.output=w.output) (h4:w.heap.size≤w'.heap.size) (h5:∀ b,b < w.heap.size→b≠E.pb→w'.heap[b]?=w.heap[b]?)
  (h6:w'.heap[E.pb]?=some (.cells (E.row q') 131 (0,0))):Mv E q' w w' :=
 ⟨h1,h2,h3,by rw [setCell_size];exact h4,fun k hk=>by
  by_cases hkp:k=E.pb
  ·subst hkp
   rw [h6,setCell_row hp.row]
   rfl
  ·exact (h5 k hk hkp).trans (Below.heap_setCell _ _ _ _ hkp).symm⟩
theorem Mv.os' {E:PE} {q':Nat} {w w':World} (h:Mv E q' w w'):w'.os=w.os:=by
 have h':Below w.heap.size (w.setCell ⟨E.pb,1,none⟩ (.int .i64 (q':Nat))) w':=h
 exact h'.os
theorem Mv.tape' {E:PE} {q':Nat} {w w':World} (h:Mv E q' w w'):w'.tape=w.tape:=by
 have h':Below w.heap.size (w.setCell ⟨E.pb,1,none⟩ (.int .i64 (q':Nat))) w':=h
 exact h'.tape
theorem Mv.output' {E:PE} {q':Nat} {w w':World} (h:Mv E q' w w'):w'.output=w.output:=by
 have h':Below w.heap.size (w.setCell ⟨E.pb,1,none⟩ (.int .i64 (q':Nat))) w':=h
 exact h'.output
theorem Mv.below {E:PE} {q:Nat} {w w':World} (hp:PS E q w) (h:Below w.heap.size w w'):Mv E q w w' :=
 Mv.of hp h.os h.tape h.output h.size (fun b hb _=>h.block b hb) ((h.block _ hp.lt).trans hp.row)
theorem Mv.trans {E:PE} {q q1 q2:Nat} {w w1 w2:World} (hp:PS E q w) (h1:Mv E q1 w w1) (hq:q1≤E.ts.length) (h2:Mv E q2 w1 w2):Mv E q2 w w2 :=
 Mv.of hp (h2.os'.trans h1.os') (h2.tape'.trans h1.tape') (h2.output'.trans h1.output') (Nat.le_trans h1.size h2.size)
  (fun b hb hne=>(h2.blk b (Nat.lt_of_lt_of_le hb h1.size) hne).trans (h1.blk b hb hne)) (h2.row (h1.ps hp hq))
theorem Mv.later {E:PE} {q':Nat} {w w1 w2:World} (h1:Mv E q' w w1) (h2:Below w.heap.size w1 w2):Mv E q' w w2:=Below.trans h1 h2
theorem Mv.before {E:PE} {q q':Nat} {w w1 w2:World} (hp:PS E q w) (h1:Below w.heap.size w w1) (h2:Mv E q' w1 w2):Mv E q' w w2 :=
 Mv.of hp (h2.os'.trans h1.os) (h2.tape'.trans h1.tape) (h2.output'.trans h1.output) (Nat.le_trans h1.size h2.size)
  (fun b hb hne=>(h2.blk b (Nat.lt_of_lt_of_le hb h1.size) hne).trans (h1.block b hb)) (h2.row (q:=q) ((Mv.below hp h1).ps hp hp.le))
theorem PS.later {E:PE} {q:Nat} {w w':World} (hp:PS E q w) (h:Below w.heap.size w w'):PS E q w':=(Mv.below hp h).ps hp hp.le
theorem NdS.step {E:PE} {q':Nat} {h:Nat} {w w':World} (hm:Mv E q' w w') (hb:E.pb < h) {t:Nd} {v0 v1 v2:Value} (hn:NdS (fun b=>h≤b) w t v0 v1 v2):NdS (fun b=>h≤b) w' t v0 v1 v2 :=
 hn.keep fun b h1 h2=>⟨hm.blk b h2 (by omega),h1⟩
theorem NdS.from {h h':Nat} {w:World} (hh:h'≤h) {t:Nd} {v0 v1 v2:Value} (hn:NdS (fun b=>h≤b) w t v0 v1 v2):NdS (fun b=>h'≤b) w t v0 v1 v2:=hn.mono fun _b h1 _=>Nat.le_trans hh h1
theorem Kids.step {E:PE} {q':Nat} {h:Nat} {w w':World} (hm:Mv E q' w w') (hb:E.pb < h) {v:Value} {l:List Nd} (hn:Kids h w v l):Kids h w' v l :=
 hn.keep fun b h1 h2=>hm.blk b h2 (by omega)
def Gr (E:PE) (w:World) (r:Sx.PR Nd) (e:Ending) (w':World):Prop :=
 match r with
 | .ok (.mk k s l) q=>(∃ a cap,e = .returned (.agg #[.int .i64 k,.string s,.slice a l.length cap])∧NdS (fun b=>w.heap.size≤b) w' (.mk k s l) (.int .i64 k) (.string s) (.slice a l.length cap))∧Mv E q w w'∧q≤E.ts.length
 | .bad q=>e = .panicked [{ v:=misfit E q,recovered:=false }]∧Mv E q w w'∧q≤E.ts.length
theorem txt_max (E:PE) {w:World} (h:PG E w) (q:Nat):(Sx.str (Sx.txt E.ts q)).size≤maxLen:=by
 unfold Sx.txt maxLen
 cases ht:E.ts[q]? with
 | none=>decide
 | some t =>
  have:=(h.small t (List.mem_of_getElem? ht)).1
  simp only [Sx.str]
  show t.text.toArray.size≤_
  simp
  omega
theorem pos_at {E:PE} {q:Nat} (h:q < E.ts.length):E.pos q=E.ts[q].pos:=by unfold PE.pos;rw [List.getElem?_eq_getElem h]
theorem pos_end {E:PE} {q:Nat} (h:E.ts.length≤q):E.pos q=E.en:=by unfold PE.pos;rw [List.getElem?_eq_none h]
theorem txt_get {ts:List Lx.Tok} {q:Nat} (h:q < ts.length):Sx.txt ts q=ts[q].text:=by unfold Sx.txt;rw [List.getElem?_eq_getElem h]
theorem knd_get {ts:List Lx.Tok} {q:Nat} (h:q < ts.length):Sx.knd ts q=ts[q].kind:=by unfold Sx.knd;rw [List.getElem?_eq_getElem h]
theorem txt_end {ts:List Lx.Tok} {q:Nat} (h:ts.length≤q):Sx.txt ts q=[]:=by unfold Sx.txt;rw [List.getElem?_eq_none h]
theorem knd_end {ts:List Lx.Tok} {q:Nat} (h:ts.length≤q):Sx.knd ts q=0:=by unfold Sx.knd;rw [List.getElem?_eq_none h]
end Go.Proofs.YtgjijidlaghlmaaGreatDoor
namespace Go.Proofs.YtgjijidlaghlmaaGreatDoor
open Go.RowKit
section
variable {P:Program} {w:World} {ops:Array Oper} {rest:List Oper} {o:Oper} {a:Act} {Q:Exit→Act→World→Prop}
theorem wpList_load_glob (hg:o.guard=none) (t:TypeId) (g:Nat) (ho:o.op=Op.load t (Operand.global g)) {v:Value} (hrun:(loadVar t ⟨g,0,none⟩).run P w = .ok v w)
  (hK:wpList P ops Q rest (a.put o.dst v) w):wpList P ops Q (o :: rest) a w:=by
 refine wpList_plain hg fun K' hK'=>?_
 unfold Oper.wp
 simp [execOp,ho,Act.eval,Instr.loadAt,Instr.sureAddr,hrun,Result.andThen]
 exact hK' _ _ hK
theorem wpList_index_run (hg:o.guard=none) (t:TypeId) (x i:Operand) (ho:o.op=Op.index t x i) {u j v:Value} (hx:a.eval x=u) (hi:a.eval i=j) (hrun:(Instr.index t u j).run P w = .ok v w)
  (hK:wpList P ops Q rest (a.put o.dst v) w):wpList P ops Q (o :: rest) a w:=by
 refine wpList_plain hg fun K' hK'=>?_
 unfold Oper.wp
 simp [execOp,ho,hx,hi,hrun,Result.andThen]
 exact hK' _ _ hK
end
def found (L:List (List UInt8×Value)) (t:List UInt8):Option Value:=(L.find? fun p=>p.1==t).map (·.2)
theorem data_beq (a b:List UInt8):((⟨a.toArray⟩:ByteArray)==⟨b.toArray⟩)=(a==b):=by
 show (a.toArray==b.toArray)=_
 simp
theorem checkStr {P:Program} (w:World) (e:Bool) {k:TypeId} (hk:P.underlying k=some .string) (s:ByteArray):(Instr.checkKey e 10000 k (.string s)).run P w = .ok () w:=by
 rw [show (10000:Nat)=9999+1 from rfl,Instr.checkKey]
 simp [run_underlying hk]
theorem findNow_str (t:List UInt8):∀ (es:List MapEntry) (L:List (List UInt8×Value)) (i:Nat),es.map (fun e=>(e.key,e.val))=L.map (fun p=>(S_ p.1,p.2)) →
  ∃ r,Instr.findNow .string (S_ t) es i=some r∧r.map (·.2)=found L t
 | [],[],i,_=>⟨none,rfl,rfl⟩
 | [],_ :: _,_,h=>by simp at h
 | _ :: _,[],_,h=>by simp at h
 | e :: es,(k,v) :: L,i,h=>by
  simp only [List.map_cons,List.cons.injEq,Prod.mk.injEq] at h
  obtain ⟨⟨hk,hv⟩,ht⟩:=h
  obtain ⟨r,h1,h2⟩:=findNow_str t es L (i+1) ht
  by_cases hc:k=t
  ·subst hc
   refine ⟨some (i,v),?_,?_⟩
   ·have h3:((⟨k.toArray⟩:ByteArray)==⟨k.toArray⟩)=true:=by rw [data_beq];simp
    simp only [Instr.findNow,hk,S_,Instr.sameNow,h3,hv]
   ·simp [found]
  ·have h3:((⟨t.toArray⟩:ByteArray)==⟨k.toArray⟩)=false:=by rw [data_beq,beq_eq_false_iff_ne];exact fun e=>hc e.symm
   have h4:(k==t)=false:=by rw [beq_eq_false_iff_ne];exact hc
   refine ⟨r,?_,?_⟩
   ·simp only [Instr.findNow,hk,S_,Instr.sameNow,h3]
    exact h1
   ·rw [h2]
    simp [found,h4]
section
variable {P:Program} {w:World}
theorem run_lookup_str {t k e:TypeId} (ht:P.underlying t=some (.map k e)) (hk:P.underlying k=some .string) {z:Value} (hz:(zeroValue e).run P w = .ok z w) {b:Nat} {L:List (List UInt8×Value)} (hm:StrMap w b L) (s:List UInt8) :
  (Instr.lookup t (.map (some b)) (S_ s) true).run P w = .ok (.tuple #[(found L s).getD z,.bool (found L s).isSome]) w:=by
 obtain ⟨es,c,h1,h2⟩:=hm
 obtain ⟨r,h3,h4⟩:=findNow_str s es.toList L 0 h2
 unfold S_ at h3 ⊢
 cases r with
 | none =>
  have h5:found L s=none:=by rw [←h4];rfl
  simp [Instr.lookup,run_underlying ht,MapKept.run_getObj_map h1,checkStr,hk,run_underlying hk,Instr.findKey,h3,hz,Result.andThen,h5]
 | some p =>
  have h5:found L s=some p.2:=by rw [←h4];rfl
  simp [Instr.lookup,run_underlying ht,MapKept.run_getObj_map h1,checkStr,hk,run_underlying hk,Instr.findKey,h3,Result.andThen,h5]
theorem run_insert_str {t k e:TypeId} (ht:P.underlying t=some (.map k e)) (hk:P.underlying k=some .string) {b:Nat} {L:List (List UInt8×Value)} (hm:StrMap w b L) (s:List UInt8) (v:Value) (hs:found L s=none) :
  ∃ w',(Instr.mapUpdate t (.map (some b)) (S_ s) v).run P w = .ok () w'∧StrMap w' b (L++[(s,v)])∧w'.heap.size=w.heap.size∧w'.os=w.os∧w'.tape=w.tape∧w'.output=w.output∧∀ j,j≠b→w'.heap[j]?=w.heap[j]?:=by
 obtain ⟨es,c,h1,h2⟩:=hm
 obtain ⟨r,h3,h4⟩:=findNow_str s es.toList L 0 h2
 have hr:r=none:=by
  cases r with
  | none=>rfl
  | some p=>rw [hs] at h4;cases h4
 subst hr
 unfold S_ at h3
 refine ⟨w.putObj b (.map (es.push { key:=S_ s,val:=v,born:=c }) (c+1)),?_,⟨_,_,World.putObj_heap_same (heap_lt h1),?_⟩,World.putObj_size,rfl,rfl,rfl,fun j hj=>World.putObj_heap_other hj⟩
 ·simp [Instr.mapUpdate,S_,run_underlying ht,MapKept.run_getObj_map h1,MapKept.run_setObj_map _ h1,World.putObj,checkStr,hk,run_underlying hk,Instr.findKey,h3,Result.andThen]
 ·simp [h2]
end
section
variable {P:Program} {w:World} {ops:Array Oper} {rest:List Oper} {o:Oper} {a:Act} {Q:Exit→Act→World→Prop}
theorem wpList_lookup_str (hg:o.guard=none) (m x:Operand) (t:TypeId) (ho:o.op=Op.lookup t m x true) {k e:TypeId} (ht:P.underlying t=some (.map k e)) (hk:P.underlying k=some .string) {z:Value} (hz:(zeroValue e).run P w = .ok z w)
  {b:Nat} {L:List (List UInt8×Value)} (hM:a.eval m = .map (some b)) (hm:StrMap w b L) (s:List UInt8) (hx:a.eval x=S_ s)
  (hK:wpList P ops Q rest (a.put o.dst (.tuple #[(found L s).getD z,.bool (found L s).isSome])) w):wpList P ops Q (o :: rest) a w:=by
 refine wpList_plain hg fun K' hK'=>?_
 unfold Oper.wp
 simp [execOp,ho,hM,hx,run_lookup_str ht hk hz hm s,Result.andThen]
 exact hK' _ _ hK
theorem wpList_insert_str (hg:o.guard=none) (m x v:Operand) (t:TypeId) (ho:o.op=Op.insert t m x v) {k e:TypeId} (ht:P.underlying t=some (.map k e)) (hk:P.underlying k=some .string)
  {b:Nat} {L:List (List UInt8×Value)} (hM:a.eval m = .map (some b)) (hm:StrMap w b L) (s:List UInt8) (hx:a.eval x=S_ s) {u:Value} (hv:a.eval v=u) (hs:found L s=none)
  (hK:∀ w',StrMap w' b (L++[(s,u)])→w'.heap.size=w.heap.size→w'.os=w.os→w'.tape=w.tape→w'.output=w.output→(∀ j,j≠b→w'.heap[j]?=w.heap[j]?)→wpList P ops Q rest a w') (hd:o.dst=none):wpList P ops Q (o :: rest) a w:=by
 refine wpList_plain hg fun K' hK'=>?_
 obtain ⟨w',hrun,h1,h2,h3,h4,h5,h6⟩:=run_insert_str (P:=P) ht hk hm s u hs
 unfold Oper.wp
 simp [execOp,ho,hM,hx,hv,hrun,Result.andThen]
 first
  | exact hK' _ _ (hK w' h1 h2 h3 h4 h5 h6)
  | (have:=hK' _ _ (hK w' h1 h2 h3 h4 h5 h6);simpa [hd,Act.put,Oper.upon] using this)
end
end Go.Proofs.YtgjijidlaghlmaaGreatDoor
namespace Go.Proofs.YtgjijidlaghlmaaGreatDoor
open Go.RowKit
section
variable {P:Program} {w w0:World} {ops:Array Oper} {rest:List Oper} {o:Oper} {a:Act} {Q:Exit→Act→World→Prop}
theorem insert_step (hg:o.guard=none) (m x v:Operand) (t:TypeId) (ho:o.op=Op.insert t m x v) {k e:TypeId} (ht:P.underlying t=some (.map k e)) (hk:P.underlying k=some .string)
  {b:Nat} {L:List (List UInt8×Value)} (hM:a.eval m = .map (some b)) (hm:StrMap w b L) {B:Nat} (hB:B≤b) (hb:Below B w0 w) (s:List UInt8) (hx:a.eval x=S_ s) {u:Value} (hv:a.eval v=u) (hs:found L s=none) (hd:o.dst=none)
  (hK:∀ w',StrMap w' b (L++[(s,u)])→Below B w0 w'→wpList P ops Q rest a w'):wpList P ops Q (o :: rest) a w :=
 wpList_insert_str hg m x v t ho ht hk hM hm s hx hv hs (fun w' h1 h2 h3 h4 h5 h6=>hK w' h1 (hb.trans ⟨h3,h4,h5,Nat.le_of_eq h2.symm,fun j hj=>h6 j (by have:=hb.size;omega)⟩)) hd
theorem strMap_made (w:World):StrMap (w.alloc (.map #[] 0)) w.heap.size []:=⟨#[],0,by show (w.heap.push _)[w.heap.size]?=_;simp,by simp⟩
end
set_option maxRecDepth 100000 in
set_option maxHeartbeats 1000000 in
theorem items_made (w:World):Calls Tryz.prog 123 #[] w fun e w'=>e = .returned (.map (some w.heap.size))∧StrMap w' w.heap.size itemsL∧Below w.heap.size w w':=by
 have hmm:=@run_makeMap Tryz.prog
 have m0:=qh (strMap_made w)
 have b0:=qh ((Below.refl w.heap.size w).alloc (Nat.le_refl _) (.map #[] 0))
 go_enter Tryz.func123,Tryz.ntmps123
 go_wp2_with (first
  | (refine insert_step (by rfl) _ _ _ _ (by rfl) Tryz.underlying128 Tryz.underlying9 (by rfl) m0.out (Nat.le_refl _) b0.out [116,121,112,101] (by rfl) (u:=F_ 178) (by rfl) (by rfl) (by rfl) ?_;intro w1 m b;have m1:=qh m;have b1:=qh b;clear m b m0 b0)
  | (refine insert_step (by rfl) _ _ _ _ (by rfl) Tryz.underlying128 Tryz.underlying9 (by rfl) m1.out (Nat.le_refl _) b1.out [101,120,112,111,114,116] (by rfl) (u:=F_ 178) (by rfl) (by rfl) (by rfl) ?_;intro w2 m b;have m2:=qh m;have b2:=qh b;clear m b m1 b1)
  | (refine insert_step (by rfl) _ _ _ _ (by rfl) Tryz.underlying128 Tryz.underlying9 (by rfl) m2.out (Nat.le_refl _) b2.out [99,111,110,115,116] (by rfl) (u:=F_ 179) (by rfl) (by rfl) (by rfl) ?_;intro w3 m b;have m3:=qh m;have b3:=qh b;clear m b m2 b2)
  | (refine insert_step (by rfl) _ _ _ _ (by rfl) Tryz.underlying128 Tryz.underlying9 (by rfl) m3.out (Nat.le_refl _) b3.out [112,114,101,100] (by rfl) (u:=F_ 180) (by rfl) (by rfl) (by rfl) ?_;intro w4 m b;have m4:=qh m;have b4:=qh b;clear m b m3 b3)
  | (refine insert_step (by rfl) _ _ _ _ (by rfl) Tryz.underlying128 Tryz.underlying9 (by rfl) m4.out (Nat.le_refl _) b4.out [102,97,99,116] (by rfl) (u:=F_ 180) (by rfl) (by rfl) (by rfl) ?_;intro w5 m b;have m5:=qh m;have b5:=qh b;clear m b m4 b4)
  | (refine insert_step (by rfl) _ _ _ _ (by rfl) Tryz.underlying128 Tryz.underlying9 (by rfl) m5.out (Nat.le_refl _) b5.out [108,97,115,116,105,110,103] (by rfl) (u:=F_ 180) (by rfl) (by rfl) (by rfl) ?_;intro w6 m b;have m6:=qh m;have b6:=qh b;clear m b m5 b5)
  | (refine insert_step (by rfl) _ _ _ _ (by rfl) Tryz.underlying128 Tryz.underlying9 (by rfl) m6.out (Nat.le_refl _) b6.out [109,111,100,101] (by rfl) (u:=F_ 181) (by rfl) (by rfl) (by rfl) ?_;intro w7 m b;have m7:=qh m;have b7:=qh b;clear m b m6 b6)
  | (refine insert_step (by rfl) _ _ _ _ (by rfl) Tryz.underlying128 Tryz.underlying9 (by rfl) m7.out (Nat.le_refl _) b7.out [114,117,108,101] (by rfl) (u:=F_ 182) (by rfl) (by rfl) (by rfl) ?_;intro w8 m b;have m8:=qh m;have b8:=qh b;clear m b m7 b7)
  | (refine insert_step (by rfl) _ _ _ _ (by rfl) Tryz.underlying128 Tryz.underlying9 (by rfl) m8.out (Nat.le_refl _) b8.out [111,110,99,101] (by rfl) (u:=F_ 182) (by rfl) (by rfl) (by rfl) ?_;intro w9 m b;have m9:=qh m;have b9:=qh b;clear m b m8 b8)
  | (refine insert_step (by rfl) _ _ _ _ (by rfl) Tryz.underlying128 Tryz.underlying9 (by rfl) m9.out (Nat.le_refl _) b9.out [109,111,115,116] (by rfl) (u:=F_ 182) (by rfl) (by rfl) (by rfl) ?_;intro w10 m b;have m10:=qh m;have b10:=qh b;clear m b m9 b9)
  | (refine insert_step (by rfl) _ _ _ _ (by rfl) Tryz.underlying128 Tryz.underlying9 (by rfl) m10.out (Nat.le_refl _) b10.out [113,117,101,114,121] (by rfl) (u:=F_ 182) (by rfl) (by rfl) (by rfl) ?_;intro w11 m b;have m11:=qh m;have b11:=qh b;clear m b m10 b10)
  | (refine insert_step (by rfl) _ _ _ _ (by rfl) Tryz.underlying128 Tryz.underlying9 (by rfl) m11.out (Nat.le_refl _) b11.out [109,111,100,117,108,101] (by rfl) (u:=F_ 183) (by rfl) (by rfl) (by rfl) ?_;intro w12 m b;have m12:=qh m;have b12:=qh b;clear m b m11 b11)
  | (refine insert_step (by rfl) _ _ _ _ (by rfl) Tryz.underlying128 Tryz.underlying9 (by rfl) m12.out (Nat.le_refl _) b12.out [117,115,101] (by rfl) (u:=F_ 183) (by rfl) (by rfl) (by rfl) ?_;intro w13 m b;have m13:=qh m;have b13:=qh b;clear m b m12 b12))
 go_ret
 exact ⟨rfl,m13.out,b13.out⟩
set_option maxRecDepth 100000 in
set_option maxHeartbeats 1000000 in
theorem parts_made (w:World):Calls Tryz.prog 124 #[] w fun e w'=>e = .returned (.map (some w.heap.size))∧StrMap w' w.heap.size partsL∧Below w.heap.size w w':=by
 have hmm:=@run_makeMap Tryz.prog
 have m0:=qh (strMap_made w)
 have b0:=qh ((Below.refl w.heap.size w).alloc (Nat.le_refl _) (.map #[] 0))
 go_enter Tryz.func124,Tryz.ntmps124
 go_wp2_with (first
  | (refine insert_step (by rfl) _ _ _ _ (by rfl) Tryz.underlying128 Tryz.underlying9 (by rfl) m0.out (Nat.le_refl _) b0.out [33] (by rfl) (u:=F_ 184) (by rfl) (by rfl) (by rfl) ?_;intro w1 m b;have m1:=qh m;have b1:=qh b;clear m b m0 b0)
  | (refine insert_step (by rfl) _ _ _ _ (by rfl) Tryz.underlying128 Tryz.underlying9 (by rfl) m1.out (Nat.le_refl _) b1.out [97,108,108] (by rfl) (u:=F_ 185) (by rfl) (by rfl) (by rfl) ?_;intro w2 m b;have m2:=qh m;have b2:=qh b;clear m b m1 b1)
  | (refine insert_step (by rfl) _ _ _ _ (by rfl) Tryz.underlying128 Tryz.underlying9 (by rfl) m2.out (Nat.le_refl _) b2.out [101,120] (by rfl) (u:=F_ 185) (by rfl) (by rfl) (by rfl) ?_;intro w3 m b;have m3:=qh m;have b3:=qh b;clear m b m2 b2)
  | (refine insert_step (by rfl) _ _ _ _ (by rfl) Tryz.underlying128 Tryz.underlying9 (by rfl) m3.out (Nat.le_refl _) b3.out [111,110,101] (by rfl) (u:=F_ 186) (by rfl) (by rfl) (by rfl) ?_;intro w4 m b;have m4:=qh m;have b4:=qh b;clear m b m3 b3)
  | (refine insert_step (by rfl) _ _ _ _ (by rfl) Tryz.underlying128 Tryz.underlying9 (by rfl) m4.out (Nat.le_refl _) b4.out [116,111,112] (by rfl) (u:=F_ 186) (by rfl) (by rfl) (by rfl) ?_;intro w5 m b;have m5:=qh m;have b5:=qh b;clear m b m4 b4)
  | (refine insert_step (by rfl) _ _ _ _ (by rfl) Tryz.underlying128 Tryz.underlying9 (by rfl) m5.out (Nat.le_refl _) b5.out [123] (by rfl) (u:=F_ 187) (by rfl) (by rfl) (by rfl) ?_;intro w6 m b;have m6:=qh m;have b6:=qh b;clear m b m5 b5)
  | (refine insert_step (by rfl) _ _ _ _ (by rfl) Tryz.underlying128 Tryz.underlying9 (by rfl) m6.out (Nat.le_refl _) b6.out [40] (by rfl) (u:=F_ 188) (by rfl) (by rfl) (by rfl) ?_;intro w7 m b;have m7:=qh m;have b7:=qh b;clear m b m6 b6))
 go_ret
 exact ⟨rfl,m7.out,b7.out⟩
end Go.Proofs.YtgjijidlaghlmaaGreatDoor
namespace Go.Proofs.YtgjijidlaghlmaaGreatDoor
open Go.RowKit
theorem PS.cells {E:PE} {q:Nat} {w:World} (h:PS E q w):w.cell? ⟨E.pb,0,none⟩=some (.slice E.a E.ts.length E.cap)∧w.cell? ⟨E.pb,1,none⟩=some (.int .i64 (q:Nat))∧w.cell? ⟨E.pb,2,none⟩=some (.int .i64 (E.en:Nat)) ∧
  w.cell? ⟨E.pb,3,none⟩=some (.map (some E.mi))∧w.cell? ⟨E.pb,4,none⟩=some (.map (some E.mp)) :=
 ⟨cell_of_row _ _ _ _ _ _ h.row,cell_of_row _ _ _ _ _ _ h.row,cell_of_row _ _ _ _ _ _ h.row,cell_of_row _ _ _ _ _ _ h.row,cell_of_row _ _ _ _ _ _ h.row⟩
theorem PS.frozen {E:PE} {q:Nat} {w:World} (h:PS E q w) (o:Nat):w.frozen? ⟨E.pb,o,none⟩=false:=by
 simp [World.frozen?,h.row]
theorem below3 {B:Nat} {a w:World} (h:Below B a w) {b:Nat} (hb:B≤b) (u0 u1 u2:Value):Below B a (((w.setCell ⟨b,0,none⟩ u0).setCell ⟨b,1,none⟩ u1).setCell ⟨b,2,none⟩ u2) :=
 ((h.setCell (p:=⟨b,0,none⟩) hb _).setCell (p:=⟨b,1,none⟩) hb _).setCell (p:=⟨b,2,none⟩) hb _
theorem str_eq {l:Lx.Bs} {s:ByteArray} (h:l=bs s):Sx.str l=s:=by rw [h];rfl
theorem toList_injP {a b:ByteArray} (h:a.toList=b.toList):a=b:=by
 rw [ByteArray.toList_eq,ByteArray.toList_eq] at h
 cases a;cases b;congr;exact Array.toList_inj.1 h
theorem beq_no {a b:ByteArray} (h:a≠b):(a.toList==b.toList)=false:=by
 rw [beq_eq_false_iff_ne]
 exact fun e=>h (toList_injP e)
theorem str_ne {l:Lx.Bs} {s:ByteArray} (h:l≠bs s):Sx.str l≠s:=fun e=>h (by rw [←e];rfl)
set_option maxRecDepth 100000 in
theorem fieldTok0 (k:Int) (b c:Value) (w:World):(Instr.field 76 (.agg #[.int .i64 k,b,c]) 0).run Tryz.prog w = .ok (.int .i64 k) w:=by rfl
set_option maxRecDepth 100000 in
theorem fieldTok1 (a c:Value) (s:ByteArray) (w:World):(Instr.field 76 (.agg #[a,.string s,c]) 1).run Tryz.prog w = .ok (.string s) w:=by rfl
set_option maxRecDepth 100000 in
theorem fieldTok2 (a b:Value) (k:Int) (w:World):(Instr.field 76 (.agg #[a,b,.int .i64 k]) 2).run Tryz.prog w = .ok (.int .i64 k) w:=by rfl
attribute [local go_sem] fieldTok0 fieldTok1 fieldTok2
def tokF (E:PE) (q:Nat):Value:=.agg #[.int .i64 (Sx.knd E.ts q:Nat),.string (Sx.str (Sx.txt E.ts q)),.int .i64 (E.pos q:Nat)]
set_option maxRecDepth 100000 in
set_option maxHeartbeats 1000000 in
theorem peek_any (E:PE) (q:Nat) (w:World) (h:PS E q w):Calls Tryz.prog 189 #[.pointer (some ⟨E.pb,0,none⟩)] w fun e w'=>e = .returned (tokF E q)∧Below w.heap.size w w':=by
 obtain ⟨c0,c1,c2,c3,c4⟩:=h.cells
 have hlt:=h.lt
 have hfew:=h.g.few
 clear c3 c4
 by_cases hq:q < E.ts.length
 ·have d0:=h.g.c0 q hq
  have d1:=h.g.c1 q hq
  have d2:=h.g.c2 q hq
  have HA:=qh (h.g.ha (fun e=>by rw [e] at hq;simp at hq))
  have dl:=lt_of_cell d0
  obtain ⟨R,hR⟩:∃ R,tokF E q=R:=⟨_,rfl⟩
  have HR:Hid (Value.agg #[.int .i64 (E.ts[q].kind:Nat),.string (Sx.str E.ts[q].text),.int .i64 (E.ts[q].pos:Nat)]=R):=qh (by rw [←hR];unfold tokF;rw [knd_get hq,txt_get hq,pos_at hq])
  rw [hR]
  clear hR h
  rw [HA.out] at c0
  obtain ⟨k0,hk0⟩:∃ k,(E.ts[q].kind:Int)=k:=⟨_,rfl⟩
  obtain ⟨k1,hk1⟩:∃ k,Sx.str E.ts[q].text=k:=⟨_,rfl⟩
  obtain ⟨k2,hk2⟩:∃ k,(E.ts[q].pos:Int)=k:=⟨_,rfl⟩
  rw [hk0,hk1,hk2] at HR
  rw [hk0] at d0
  rw [hk1] at d1
  rw [hk2] at d2
  clear hk0 hk1 hk2
  obtain ⟨n,hn⟩:∃ n,E.ts.length=n:=⟨_,rfl⟩
  rw [hn] at hq c0 hfew
  clear hn
  have i0:(q:Int) < (n:Int):=by omega
  have i1:(0:Int)≤(q:Int):=by omega
  go_enter Tryz.func189,Tryz.ntmps189
  go_wp2
  go_quiet (fail)
  go_wp2
  go_region
  all_goals go_wp2
  all_goals rw [←HR.out]
  all_goals refine bodyPost_ret (v:=.agg #[.int .i64 k0,.string k1,.int .i64 k2]) (by simp [results,Tryz.results189,go_sem]) rfl ⟨rfl,?_⟩
  all_goals exact below3 (below_drewN ((Below.refl _ w).alloc (Nat.le_refl _) _) _) (Nat.le_refl _) _ _ _
 ·have hq':¬ ((q:Int) < (E.ts.length:Int)):=by omega
  obtain ⟨R,hR⟩:∃ R,tokF E q=R:=⟨_,rfl⟩
  have HR:Hid (Value.agg #[.int .i64 0,.string ⟨#[]⟩,.int .i64 (E.en:Nat)]=R):=qh (by rw [←hR];unfold tokF;rw [knd_end (by omega),txt_end (by omega),pos_end (by omega)];rfl)
  rw [hR]
  clear hR h
  obtain ⟨n,hn⟩:∃ n,E.ts.length=n:=⟨_,rfl⟩
  rw [hn] at hq hq' c0 hfew
  clear hn
  go_enter Tryz.func189,Tryz.ntmps189
  go_wp2
  go_quiet (fail)
  go_wp2
  rw [←HR.out]
  refine bodyPost_ret (v:=.agg #[.int .i64 0,.string ⟨#[]⟩,.int .i64 E.en]) (by simp [results,Tryz.results189,go_sem]) rfl ⟨rfl,?_⟩
  exact below3 (below_drewN ((Below.refl _ w).alloc (Nat.le_refl _) _) _) (Nat.le_refl _) _ _ _
set_option maxRecDepth 100000 in
set_option maxHeartbeats 1000000 in
theorem refuse_any (E:PE) (q:Nat) (w:World) (h:PS E q w):Calls Tryz.prog 125 #[.pointer (some ⟨E.pb,0,none⟩)] w fun e w'=>e = .panicked [{ v:=misfit E q,recovered:=false }]∧Below w.heap.size w w':=by
 have C:=qh (peek_any E q w h)
 clear h
 go_enter Tryz.func125,Tryz.ntmps125
 unfold tokF at C
 go_wp2_with fail
 refine C.out.mono ?_
 rintro e w1 ⟨rfl,hb⟩
 go_wp2
 exact ⟨rfl,rfl,hb⟩
theorem Mv.step {E:PE} {q q':Nat} {w w1:World} (hp:PS E q w) (hb:Below w.heap.size w w1):Mv E q' w (w1.setCell ⟨E.pb,1,none⟩ (.int .i64 (q':Nat))):=by
 have hp1:=hp.later hb
 refine Mv.of hp hb.os hb.tape hb.output (by rw [setCell_size];exact hb.size) (fun b h1 h2=>(Below.heap_setCell _ _ _ _ h2).trans (hb.block b h1)) ?_
 rw [setCell_row hp1.row]
 rfl
set_option maxRecDepth 100000 in
set_option maxHeartbeats 1000000 in
theorem take_yes (E:PE) (q:Nat) (s:ByteArray) (w:World) (h:PS E q w) (hs:Sx.txt E.ts q=bs s) (h0:bs s≠[]):Calls Tryz.prog 131 #[.pointer (some ⟨E.pb,0,none⟩),.string s] w fun e w'=>e = .returned (.bool true)∧Mv E (q+1) w w'∧PS E (q+1) w':=by
 have C:=qh (peek_any E q w h)
 have hq:q < E.ts.length:=Sx.txt_lt (by rw [hs];exact h0)
 have hfew:=h.g.few
 have HP:=qh h
 have e1:=str_eq hs
 clear h hs h0
 unfold tokF at C
 rw [e1] at C
 clear e1
 go_enter Tryz.func131,Tryz.ntmps131
 go_wp2_with fail
 refine C.out.mono ?_
 rintro e w1 ⟨rfl,hb⟩
 have h1:=HP.out.later hb
 obtain ⟨c0,c1,_⟩:=h1.cells
 have f1:=h1.frozen 1
 have HB:=qh hb
 have H1:=qh h1
 have hl:=h1.lt
 clear hb h1 C c0
 go_wp2
 go_ret
 have hm:=Mv.step (q':=q+1) HP.out HB.out
 push_cast at hm
 exact ⟨rfl,hm,hm.ps HP.out hq⟩
set_option maxRecDepth 100000 in
set_option maxHeartbeats 1000000 in
theorem take_no (E:PE) (q:Nat) (s:ByteArray) (w:World) (h:PS E q w) (hs:Sx.txt E.ts q≠bs s):Calls Tryz.prog 131 #[.pointer (some ⟨E.pb,0,none⟩),.string s] w fun e w'=>e = .returned (.bool false)∧Below w.heap.size w w':=by
 have C:=qh (peek_any E q w h)
 have e1:=str_ne hs
 obtain ⟨x,hx⟩:∃ x,Sx.str (Sx.txt E.ts q)=x:=⟨_,rfl⟩
 unfold tokF at C
 rw [hx] at C e1
 have e2:(!(x.toList==s.toList))=true:=by rw [beq_no e1];rfl
 clear h hs hx e1
 go_enter Tryz.func131,Tryz.ntmps131
 go_wp2_with fail
 refine C.out.mono ?_
 rintro e w1 ⟨rfl,hb⟩
 have HB:=qh hb
 clear hb C
 go_wp2
 refine bodyPost_ret (v:=.bool false) (by simp [results,Tryz.results131,go_sem]) rfl ?_
 exact ⟨rfl,HB.out⟩
set_option maxRecDepth 100000 in
set_option maxHeartbeats 1000000 in
theorem need_yes (E:PE) (q:Nat) (s:ByteArray) (w:World) (h:PS E q w) (hs:Sx.txt E.ts q=bs s) (h0:bs s≠[]):Calls Tryz.prog 127 #[.pointer (some ⟨E.pb,0,none⟩),.string s] w fun e w'=>e = .returned (.tuple #[])∧Mv E (q+1) w w'∧PS E (q+1) w':=by
 have C:=qh (take_yes E q s w h hs h0)
 clear h hs h0
 go_enter Tryz.func127,Tryz.ntmps127
 go_wp2_with fail
 refine C.out.mono ?_
 rintro e w1 ⟨rfl,hb⟩
 clear C
 go_wp2
 go_end0
 exact ⟨rfl,hb⟩
set_option maxRecDepth 100000 in
set_option maxHeartbeats 1000000 in
theorem need_no (E:PE) (q:Nat) (s:ByteArray) (w:World) (h:PS E q w) (hs:Sx.txt E.ts q≠bs s):Calls Tryz.prog 127 #[.pointer (some ⟨E.pb,0,none⟩),.string s] w fun e w'=>e = .panicked [{ v:=misfit E q,recovered:=false }]∧Below w.heap.size w w':=by
 have C:=qh (take_no E q s w h hs)
 have HP:=qh h
 clear h hs
 go_enter Tryz.func127,Tryz.ntmps127
 go_wp2_with fail
 refine C.out.mono ?_
 rintro e w1 ⟨rfl,hb⟩
 have HB:=qh hb
 have C2:=qh (refuse_any E q w1 (HP.out.later hb))
 clear C hb
 go_wp2_with fail
 refine C2.out.mono ?_
 rintro e w2 ⟨rfl,hb⟩
 clear C2
 go_wp2
 exact ⟨rfl,rfl,HB.out.trans (hb.mono HB.out.size)⟩
def Row3 (W:World) (b:Nat) (v0 v1 v2:Value):Prop:=W.heap[b]?=some (.cells #[v0,v1,v2] 25 (0,0))
section
variable {W:World} {b:Nat} {v0 v1 v2:Value}
theorem Row3.lt (h:Row3 W b v0 v1 v2):b < W.heap.size:=heap_lt h
theorem Row3.new (W:World) (v0 v1 v2:Value):Row3 (W.alloc (.cells #[v0,v1,v2] 25)) W.heap.size v0 v1 v2:=World.alloc_heap_new W _
theorem Row3.newAt {W:World} {n:Nat} {v0 v1 v2:Value} (hn:n=W.heap.size):Row3 (W.alloc (.cells #[v0,v1,v2] 25)) n v0 v1 v2:=by subst hn;exact Row3.new W v0 v1 v2
theorem alloc_at {W:World} {n:Nat} {o:Obj} (hn:n=W.heap.size):(W.alloc o).heap[n]?=some o:=by subst hn;exact World.alloc_heap_new W _
theorem Row3.alloc (h:Row3 W b v0 v1 v2) (o:Obj):Row3 (W.alloc o) b v0 v1 v2:=(Below.heap_alloc _ _ _ h.lt).trans h
theorem Row3.below {W':World} {n:Nat} (h:Row3 W b v0 v1 v2) (hb:Below n W W') (hn:b < n):Row3 W' b v0 v1 v2:=(hb.block b hn).trans h
theorem Row3.mv {E:PE} {q':Nat} {W':World} (h:Row3 W b v0 v1 v2) (hm:Mv E q' W W') (hn:b≠E.pb):Row3 W' b v0 v1 v2:=(hm.blk b h.lt hn).trans h
theorem Row3.other (h:Row3 W b v0 v1 v2) {p:Addr} (u:Value) (hn:b≠p.block):Row3 (W.setCell p u) b v0 v1 v2:=(Below.heap_setCell _ _ _ _ hn).trans h
theorem Row3.put3o (h:Row3 W b v0 v1 v2) {c:Nat} (hn:b≠c) (u0 u1 u2:Value):Row3 (((W.setCell ⟨c,0,none⟩ u0).setCell ⟨c,1,none⟩ u1).setCell ⟨c,2,none⟩ u2) b v0 v1 v2:=((h.other _ hn).other _ hn).other _ hn
theorem Row3.drewN (h:Row3 W b v0 v1 v2) (n:Nat):Row3 (W.drewN n) b v0 v1 v2:=h
theorem Row3.put (h:Row3 W b v0 v1 v2) (u0 u1 u2:Value):Row3 (((W.setCell ⟨b,0,none⟩ u0).setCell ⟨b,1,none⟩ u1).setCell ⟨b,2,none⟩ u2) b u0 u1 u2:=by
 have h0:W.heap[b]?=some (.cells #[v0,v1,v2] 25 (0,0)):=h
 exact (setCell_row (setCell_row (setCell_row h0))).trans rfl
theorem Row3.put2 (h:Row3 W b v0 v1 v2) (u2:Value):Row3 (W.setCell ⟨b,2,none⟩ u2) b v0 v1 u2:=by
 have h0:W.heap[b]?=some (.cells #[v0,v1,v2] 25 (0,0)):=h
 exact (setCell_row h0).trans rfl
theorem Row3.cells (h:Row3 W b v0 v1 v2):(W.cell? ⟨b,0,none⟩=some v0∧W.cell? ⟨b,1,none⟩=some v1∧W.cell? ⟨b,2,none⟩=some v2)∧W.frozen? ⟨b,0,none⟩=false∧W.frozen? ⟨b,1,none⟩=false∧W.frozen? ⟨b,2,none⟩=false:=by
 have h0:W.heap[b]?=some (.cells #[v0,v1,v2] 25 (0,0)):=h
 exact ⟨⟨cell_of_row _ _ _ _ _ _ h0,cell_of_row _ _ _ _ _ _ h0,cell_of_row _ _ _ _ _ _ h0⟩,by simp [World.frozen?,h0],by simp [World.frozen?,h0],by simp [World.frozen?,h0]⟩
theorem ret_node2 {fn:Func} {t u:Nat} {a:Act} {R:Ending→World→Prop} {v:Value} (h:Row3 W b v0 v1 v2) (hr:fn.results=#[ResultVar.cell t 25,ResultVar.tmp u]) (hv:(a.tmps[u]?).getD undef=v) (hd:a.defers=[]) (ha:(a.tmps[t]?).getD undef = .pointer (some ⟨b,0,none⟩))
  (hR:R (.returned (.tuple #[.agg #[v0,v1,v2],v])) W):bodyPost Tryz.prog fn R .ret a W:=by
 obtain ⟨⟨c0,c1,c2⟩,_⟩:=h.cells
 exact bodyPost_ret (v:=.tuple #[.agg #[v0,v1,v2],v]) (by simp [results,hr,go_sem,ha,hv,c0,c1,c2]) hd hR
theorem ret_node {fn:Func} {t:Nat} {a:Act} {R:Ending→World→Prop} (h:Row3 W b v0 v1 v2) (hr:fn.results=#[ResultVar.cell t 25]) (hd:a.defers=[]) (ha:(a.tmps[t]?).getD undef = .pointer (some ⟨b,0,none⟩))
  (hR:R (.returned (.agg #[v0,v1,v2])) W):bodyPost Tryz.prog fn R .ret a W:=by
 obtain ⟨⟨c0,c1,c2⟩,_⟩:=h.cells
 exact bodyPost_ret (v:=.agg #[v0,v1,v2]) (by simp [results,hr,go_sem,ha,c0,c1,c2]) hd hR
end
theorem Mv.put3 {E:PE} {q':Nat} {w W:World} (hm:Mv E q' w W) {b:Nat} (hb:w.heap.size≤b) (u0 u1 u2:Value):Mv E q' w (((W.setCell ⟨b,0,none⟩ u0).setCell ⟨b,1,none⟩ u1).setCell ⟨b,2,none⟩ u2):=below3 hm hb _ _ _
theorem Mv.alloc {E:PE} {q':Nat} {w W:World} (hm:Mv E q' w W) (o:Obj):Mv E q' w (W.alloc o):=Below.alloc hm hm.size o
def nameV (k:Int) (s:ByteArray):Value:=.tuple #[.agg #[.int .i64 k,.string s,.slice none 0 0],.bool true]
set_option maxRecDepth 100000 in
set_option maxHeartbeats 1000000 in
theorem name_one (E:PE) (q:Nat) (w:World) (h:PS E q w) (hk:Sx.knd E.ts q=1):Calls Tryz.prog 196 #[.pointer (some ⟨E.pb,0,none⟩)] w fun e w'=>e = .returned (nameV 15 (Sx.str (Sx.txt E.ts q)))∧Mv E (q+1) w w'∧PS E (q+1) w':=by
 have C:=qh (fun o=>peek_any E q (w.alloc o) (h.later ((Below.refl _ w).alloc (Nat.le_refl _) o)))
 have hq:q < E.ts.length:=Sx.knd_lt (by omega)
 have hfew:=h.g.few
 have HP:=qh h
 have hpl:=h.lt
 obtain ⟨x,hx⟩:∃ x,Sx.str (Sx.txt E.ts q)=x:=⟨_,rfl⟩
 unfold tokF at C
 rw [hk,hx] at C
 rw [hx]
 have C':Hid (∀ o:Obj,Calls Tryz.prog 189 #[.pointer (some ⟨E.pb,0,none⟩)] (w.alloc o) fun e w'=>e = .returned (.agg #[.int .i64 1,.string x,.int .i64 (E.pos q:Nat)])∧Below (w.alloc o).heap.size (w.alloc o) w'):=C
 clear h hk hx C
 go_enter Tryz.func196,Tryz.ntmps196
 go_wp2_with fail
 refine (C'.out _).mono ?_
 rintro e w1 ⟨rfl,hb⟩
 have hB:Below w.heap.size w w1:=((Below.refl _ w).alloc (Nat.le_refl _) _).trans (hb.mono (by simp))
 have h1:=HP.out.later hB
 obtain ⟨c0,c1,_⟩:=h1.cells
 have f1:=h1.frozen 1
 have HB:=qh hB
 have hl:=h1.lt
 have hz:w.heap.size < w1.heap.size:=by have:=hb.size;simp at this;omega
 have hr:=(Row3.new w (.int .i64 0) (.string ⟨#[]⟩) (.slice none 0 0)).below hb (by simp)
 have hz:w.heap.size < w1.heap.size:=hr.lt
 obtain ⟨⟨n0,n1,n2⟩,g0,g1,g2⟩:=hr.cells
 have HRo:=qh hr
 clear hb hB h1 C' c0 hr
 go_wp2
 have hm:=Mv.step (q':=q+1) HP.out HB.out
 push_cast at hm
 have hM:=(hm.put3 (b:=w.heap.size) (Nat.le_refl _) (.int .i64 15) (.string x) (.slice none 0 0)).alloc (.cells #[.int .i64 1,.string x,.int .i64 (E.pos q:Nat)] 76)
 exact ret_node2 (((HRo.out.other _ (by simp only;omega)).put _ _ _).alloc _) Tryz.results196 rfl rfl rfl ⟨rfl,hM,hM.ps HP.out hq⟩
set_option maxRecDepth 100000 in
set_option maxHeartbeats 1000000 in
theorem name_two (E:PE) (q:Nat) (w:World) (h:PS E q w) (hk:Sx.knd E.ts q=2):Calls Tryz.prog 196 #[.pointer (some ⟨E.pb,0,none⟩)] w fun e w'=>e = .returned (nameV 16 (Sx.str (Sx.txt E.ts q)))∧Mv E (q+1) w w'∧PS E (q+1) w':=by
 have C:=qh (fun o=>peek_any E q (w.alloc o) (h.later ((Below.refl _ w).alloc (Nat.le_refl _) o)))
 have hq:q < E.ts.length:=Sx.knd_lt (by omega)
 have hfew:=h.g.few
 have HP:=qh h
 have hpl:=h.lt
 obtain ⟨x,hx⟩:∃ x,Sx.str (Sx.txt E.ts q)=x:=⟨_,rfl⟩
 unfold tokF at C
 rw [hk,hx] at C
 rw [hx]
 have C':Hid (∀ o:Obj,Calls Tryz.prog 189 #[.pointer (some ⟨E.pb,0,none⟩)] (w.alloc o) fun e w'=>e = .returned (.agg #[.int .i64 2,.string x,.int .i64 (E.pos q:Nat)])∧Below (w.alloc o).heap.size (w.alloc o) w'):=C
 clear h hk hx C
 go_enter Tryz.func196,Tryz.ntmps196
 go_wp2_with fail
 refine (C'.out _).mono ?_
 rintro e w1 ⟨rfl,hb⟩
 have hB:Below w.heap.size w w1:=((Below.refl _ w).alloc (Nat.le_refl _) _).trans (hb.mono (by simp))
 have h1:=HP.out.later hB
 obtain ⟨c0,c1,_⟩:=h1.cells
 have f1:=h1.frozen 1
 have HB:=qh hB
 have hl:=h1.lt
 have hr:=(Row3.new w (.int .i64 0) (.string ⟨#[]⟩) (.slice none 0 0)).below hb (by simp)
 have hz:w.heap.size < w1.heap.size:=hr.lt
 obtain ⟨⟨n0,n1,n2⟩,g0,g1,g2⟩:=hr.cells
 have HRo:=qh hr
 clear hb hB h1 C' c0 hr
 go_wp2
 have hm:=Mv.step (q':=q+1) HP.out HB.out
 push_cast at hm
 have hM:=(hm.put3 (b:=w.heap.size) (Nat.le_refl _) (.int .i64 16) (.string x) (.slice none 0 0)).alloc (.cells #[.int .i64 2,.string x,.int .i64 (E.pos q:Nat)] 76)
 exact ret_node2 (((HRo.out.other _ (by simp only;omega)).put _ _ _).alloc _) Tryz.results196 rfl rfl rfl ⟨rfl,hM,hM.ps HP.out hq⟩
def noName:Value:=.tuple #[.agg #[.int .i64 0,.string ⟨#[]⟩,.slice none 0 0],.bool false]
set_option maxRecDepth 100000 in
set_option maxHeartbeats 1000000 in
theorem name_no (E:PE) (q:Nat) (w:World) (h:PS E q w) (h1:Sx.knd E.ts q≠1) (h2:Sx.knd E.ts q≠2):Calls Tryz.prog 196 #[.pointer (some ⟨E.pb,0,none⟩)] w fun e w'=>e = .returned noName∧Below w.heap.size w w':=by
 have C:=qh (fun o=>peek_any E q (w.alloc o) (h.later ((Below.refl _ w).alloc (Nat.le_refl _) o)))
 have e1:(((Sx.knd E.ts q:Nat):Int)==1)=false:=by rw [beq_eq_false_iff_ne];omega
 have e2:(((Sx.knd E.ts q:Nat):Int)==2)=false:=by rw [beq_eq_false_iff_ne];omega
 unfold tokF at C
 obtain ⟨k,hk⟩:∃ k,((Sx.knd E.ts q:Nat):Int)=k:=⟨_,rfl⟩
 rw [hk] at C e1 e2
 clear h h1 h2 hk
 go_enter Tryz.func196,Tryz.ntmps196
 go_wp2_with fail
 refine (C.out _).mono ?_
 rintro e w1 ⟨rfl,hb⟩
 have HB:=qh (((Below.refl _ w).alloc (Nat.le_refl _) (.cells #[.int .i64 0,.string ⟨#[]⟩,.slice none 0 0] 25)).trans (hb.mono (by simp)))
 have hr:=(Row3.new w (.int .i64 0) (.string ⟨#[]⟩) (.slice none 0 0)).below hb (by simp)
 have hz:w.heap.size < w1.heap.size:=hr.lt
 obtain ⟨⟨n0,n1,n2⟩,g0,g1,g2⟩:=hr.cells
 have HRo:=qh hr
 have hl:=hr.lt
 clear hb C hr
 go_wp2
 exact ret_node2 ((HRo.out.put _ _ _).alloc _) Tryz.results196 rfl rfl rfl ⟨rfl,(below3 HB.out (Nat.le_refl _) _ _ _).alloc (by simp only [setCell_size];exact HB.out.size) _⟩
end Go.Proofs.YtgjijidlaghlmaaGreatDoor
namespace Go.Proofs.YtgjijidlaghlmaaGreatDoor
open Go.RowKit
theorem massert_nil (w:World):(Instr.typeAssert Value.nilIface 20 126 true).run Tryz.prog w = .ok (.tuple #[.agg #[.int .i64 0],.bool false]) w:=by kernel_rfl
theorem massert_yes (v:Value) (w:World):(Instr.typeAssert (.iface 126 v) 20 126 true).run Tryz.prog w = .ok (.tuple #[v,.bool true]) w:=by kernel_rfl
set_option maxRecDepth 100000 in
set_option maxHeartbeats 400000 in
theorem pcatch_idle (h:Nat) (w:World) :
  CallsD Tryz.prog 122 #[.pointer (some ⟨h,0,none⟩),.pointer (some ⟨h+1,0,none⟩),.pointer (some ⟨h+1+1,0,none⟩)] .returning w fun e u' w' =>
   e = .returned (.tuple #[])∧u' = .returning∧w'=w.alloc (.cells #[.int .i64 0] 126):=by
 have hta:=massert_nil
 have hwd:∀ x,Fence.wide.fn x:=fun _=>trivial
 refine callsD_of_wpS Tryz.func122 rfl fun c₀ cs hu=>?_
 apply wpS_seq
 apply wpS_region
 simp [wpOpsS,go_sem,recoverD,hu,Tryz.ntmps122,Exit.thenS,hta]
 refine wpS_of_wp ?_
 simp only [Array.replicate_succ,Array.replicate_zero,List.push_toArray,List.nil_append,List.cons_append,List.append_toArray,List.setIfInBounds_toArray,List.set_cons_succ,List.set_cons_zero]
 go_wp2
 refine ⟨rfl,.returning,by cases c₀;simp_all,.tuple #[],by simp [results,Tryz.results122],rfl,rfl,rfl⟩
set_option maxRecDepth 100000 in
set_option maxHeartbeats 400000 in
theorem pcatch_panic (h i:Nat) (older:List PanicEntry) (u0 u1 u2:Value) (x y:Int) (w:World) (hR:Row3 w h u0 u1 u2)
  (c1:w.cell? ⟨h+1,0,none⟩=some (.int .i64 x)) (c2:w.cell? ⟨h+1+1,0,none⟩=some (.int .i64 y))
  (f1:w.frozen? ⟨h+1,0,none⟩=false) (f2:w.frozen? ⟨h+1+1,0,none⟩=false) :
  CallsD Tryz.prog 122 #[.pointer (some ⟨h,0,none⟩),.pointer (some ⟨h+1,0,none⟩),.pointer (some ⟨h+1+1,0,none⟩)] (.panicking ({ v:=.iface 126 (.agg #[.int .i64 i]),recovered:=false } :: older)) w fun e u' w' =>
   e = .returned (.tuple #[])∧u' = .panicking ({ v:=.iface 126 (.agg #[.int .i64 i]),recovered:=true } :: older)∧Below h w w'∧Row3 w' h (.int .i64 0) (.string ⟨#[]⟩) (.slice none 0 0)∧w'.cell? ⟨h+1,0,none⟩=some (.int .i64 i)∧w'.cell? ⟨h+1+1,0,none⟩=some (.int .i64 20):=by
 obtain ⟨⟨r0,r1,r2⟩,g0,g1,g2⟩:=hR.cells
 have b0:=hR.lt
 have b1:=block_lt_of_cell c1
 have b2:=block_lt_of_cell c2
 simp only at b1 b2
 have hta:=massert_yes
 have hwd:∀ x,Fence.wide.fn x:=fun _=>trivial
 have HR:=qh hR
 clear hR
 refine callsD_of_wpS Tryz.func122 rfl fun c₀ cs hu=>?_
 apply wpS_seq
 apply wpS_region
 simp [wpOpsS,go_sem,recoverD,hu,Tryz.ntmps122,Exit.thenS,hta]
 refine wpS_of_wp ?_
 simp only [Array.replicate_succ,Array.replicate_zero,List.push_toArray,List.nil_append,List.cons_append,List.append_toArray,List.setIfInBounds_toArray,List.set_cons_succ,List.set_cons_zero]
 clear hwd hta
 go_wp2
 go_region
 refine ⟨rfl,.panicking ({ v:=.iface 126 (.agg #[.int .i64 i]),recovered:=true } :: older),rfl,.tuple #[],by simp [results,Tryz.results122],rfl,rfl,?_,?_,?_,?_⟩
 ·exact ((((below3 (Below.refl h w) (Nat.le_refl _) _ _ _).setCell (p:=⟨h+1,0,none⟩) (by simp) _).setCell (p:=⟨h+1+1,0,none⟩) (by simp only;omega) _).alloc (by simp [World.setCell];omega) _).drew
 ·exact ((((HR.out.put _ _ _).other (p:=⟨h+1,0,none⟩) _ (by simp)).other (p:=⟨h+1+1,0,none⟩) _ (by simp only;omega)).alloc _).drewN 1
 ·simp [go_sem,b1,c1]
 ·simp [go_sem,b2,c2]
end Go.Proofs.YtgjijidlaghlmaaGreatDoor
namespace Go.Proofs.YtgjijidlaghlmaaGreatDoor
open Go.RowKit
attribute [local go_sem] fieldTok0 fieldTok1 fieldTok2
def leafV (k:Int) (s:ByteArray):Value:=.agg #[.int .i64 k,.string s,.slice none 0 0]
set_option maxRecDepth 100000 in
set_option maxHeartbeats 1000000 in
theorem small_yes (E:PE) (q:Nat) (w:World) (h:PS E q w) (hk:Sx.knd E.ts q=1):Calls Tryz.prog 220 #[.pointer (some ⟨E.pb,0,none⟩)] w fun e w'=>e = .returned (leafV 15 (Sx.str (Sx.txt E.ts q)))∧Mv E (q+1) w w'∧PS E (q+1) w':=by
 have C:=qh (fun w h=>peek_any E q w h)
 have D:=qh (fun w h=>name_one E q w h hk)
 have HP:=qh h
 obtain ⟨x,hx⟩:∃ x,Sx.str (Sx.txt E.ts q)=x:=⟨_,rfl⟩
 unfold tokF at C
 rw [hk,hx] at C
 rw [hx] at D ⊢
 have C':Hid (∀ w,PS E q w→Calls Tryz.prog 189 #[.pointer (some ⟨E.pb,0,none⟩)] w fun e w'=>e = .returned (.agg #[.int .i64 1,.string x,.int .i64 (E.pos q:Nat)])∧Below w.heap.size w w'):=C
 have hq:q < E.ts.length:=Sx.knd_lt (by omega)
 have Hq:=qh hq
 have hpl:=h.lt
 unfold nameV at D
 clear h hk hx C hq
 go_enter Tryz.func220,Tryz.ntmps220
 go_wp2_with fail
 refine (C'.out _ (HP.out.later ((Below.refl _ w).alloc (Nat.le_refl _) _))).mono ?_
 rintro e w1 ⟨rfl,hb⟩
 have B1:=qh (((Below.refl _ w).alloc (Nat.le_refl _) (.cells #[.int .i64 0,.string ⟨#[]⟩,.slice none 0 0] 25)).trans (hb.mono (by simp)))
 have R1:=qh ((Row3.new w (.int .i64 0) (.string ⟨#[]⟩) (.slice none 0 0)).below hb (by simp))
 clear hb C'
 go_wp2_with fail
 refine (D.out _ (HP.out.later B1.out)).mono ?_
 rintro e w2 ⟨rfl,hm,hp⟩
 have M2:=qh (Mv.before HP.out B1.out hm)
 have R2:=qh (R1.out.mv hm (by omega))
 obtain ⟨⟨n0,n1,n2⟩,g0,g1,g2⟩:=R2.out.cells
 have hz:=R2.out.lt
 clear D hm hp R1
 go_wp2
 have hM:=(M2.out.put3 (b:=w.heap.size) (Nat.le_refl _) (.int .i64 15) (.string x) (.slice none 0 0)).alloc (.cells #[.int .i64 15,.string x,.slice none 0 0] 25)
 exact ret_node ((R2.out.put _ _ _).alloc _) Tryz.results220 rfl rfl ⟨rfl,hM,hM.ps HP.out Hq.out⟩
set_option maxRecDepth 100000 in
set_option maxHeartbeats 1000000 in
theorem small_no (E:PE) (q:Nat) (w:World) (h:PS E q w) (hk:Sx.knd E.ts q≠1):Calls Tryz.prog 220 #[.pointer (some ⟨E.pb,0,none⟩)] w fun e w'=>e = .panicked [{ v:=misfit E q,recovered:=false }]∧Below w.heap.size w w':=by
 have C:=qh (fun w h=>peek_any E q w h)
 have D:=qh (fun w h=>refuse_any E q w h)
 have HP:=qh h
 have e1:(((Sx.knd E.ts q:Nat):Int) != 1)=true:=by rw [bne_iff_ne];omega
 unfold tokF at C
 obtain ⟨k,hk⟩:∃ k,((Sx.knd E.ts q:Nat):Int)=k:=⟨_,rfl⟩
 rw [hk] at C e1
 clear h hk
 go_enter Tryz.func220,Tryz.ntmps220
 go_wp2_with fail
 refine (C.out _ (HP.out.later ((Below.refl _ w).alloc (Nat.le_refl _) _))).mono ?_
 rintro e w1 ⟨rfl,hb⟩
 have B1:=qh (((Below.refl _ w).alloc (Nat.le_refl _) (.cells #[.int .i64 0,.string ⟨#[]⟩,.slice none 0 0] 25)).trans (hb.mono (by simp)))
 clear hb C
 go_wp2_with fail
 refine (D.out _ (HP.out.later B1.out)).mono ?_
 rintro e w2 ⟨rfl,hb⟩
 go_wp2
 exact ⟨rfl,rfl,B1.out.trans (hb.mono B1.out.size)⟩
end Go.Proofs.YtgjijidlaghlmaaGreatDoor
namespace Go.Proofs.YtgjijidlaghlmaaGreatDoor
open Go.RowKit
attribute [local go_sem] fieldTok0 fieldTok1 fieldTok2
theorem indexOps (i:Nat) (hi:i < 8) (w:World):∃ s k b,opsL[i]?=some (s,k,b)∧s≠[]∧(Instr.index 188 (.agg opsArr) (.int .i64 (i:Nat))).run Tryz.prog w = .ok (.agg #[S_ s,.int .i64 k,.int .i64 (b:Nat)]) w:=by
 match i,hi with
 | 0,_=>exact ⟨_,_,_,rfl,by decide,by kernel_rfl⟩
 | 1,_=>exact ⟨_,_,_,rfl,by decide,by kernel_rfl⟩
 | 2,_=>exact ⟨_,_,_,rfl,by decide,by kernel_rfl⟩
 | 3,_=>exact ⟨_,_,_,rfl,by decide,by kernel_rfl⟩
 | 4,_=>exact ⟨_,_,_,rfl,by decide,by kernel_rfl⟩
 | 5,_=>exact ⟨_,_,_,rfl,by decide,by kernel_rfl⟩
 | 6,_=>exact ⟨_,_,_,rfl,by decide,by kernel_rfl⟩
 | 7,_=>exact ⟨_,_,_,rfl,by decide,by kernel_rfl⟩
theorem runOps {E:PE} {q:Nat} {w:World} (h:PS E q w):(loadVar 188 ⟨1,0,none⟩).run Tryz.prog w = .ok (.agg opsArr) w:=by
 obtain ⟨t,fr,h1⟩:=h.g.gl.g1
 exact run_loadVar_row w 1 t _ opsArr fr _ h1 Tryz.underlying188 rfl (by kernel_rfl)
def opFind (t:Lx.Bs) (b:Nat):List (List UInt8×Int×Nat)→Option Int
 | []=>none
 | (s,k,c) :: l=>if c=b∧t=s then some k else opFind t b l
theorem opFind_step {t:Lx.Bs} {b i:Nat} {s:List UInt8} {k:Int} {c:Nat} (h:opsL[i]?=some (s,k,c)):opFind t b (opsL.drop i)=if c=b∧t=s then some k else opFind t b (opsL.drop (i+1)):=by
 have hi:i < opsL.length:=(List.getElem?_eq_some_iff.1 h).1
 rw [List.drop_eq_getElem_cons hi,(List.getElem?_eq_some_iff.1 h).2]
 rfl
def OpOut (E:PE) (q:Nat) (w:World) (r:Option Int) (e:Ending) (w':World):Prop :=
 (r=none→e = .returned (.tuple #[.int .i64 0,.bool false])∧Below w.heap.size w w')∧∀ k,r=some k→e = .returned (.tuple #[.int .i64 k,.bool true])∧Mv E (q+1) w w'∧PS E (q+1) w'
set_option maxRecDepth 100000 in
set_option maxHeartbeats 2000000 in
theorem operator_any (E:PE) (q b:Nat) (w:World) (h:PS E q w) (hb:b≤7):Calls Tryz.prog 130 #[.pointer (some ⟨E.pb,0,none⟩),.int .i64 (b:Nat)] w (OpOut E q w (opFind (Sx.txt E.ts q) b opsL)):=by
 have hl:=runOps h
 have HP:=qh h
 obtain ⟨t,ht⟩:∃ t,Sx.txt E.ts q=t:=⟨_,rfl⟩
 have HT:=qh ht
 rw [ht]
 have Hl:=qh hl
 clear h ht hl
 go_enter Tryz.func130,Tryz.ntmps130
 go_wp2_with (refine wpList_load_glob rfl _ _ rfl Hl.out ?_)
 go_loopw [9] (fun v9 wr=>∃ i:Nat,i≤8∧v9 = .int .i64 i∧Hid (opFind t b opsL=opFind t b (opsL.drop i))∧Hid (Below w.heap.size w wr)) (fun v9 _=>8 - (intOf v9).toNat)
 case atStart=>exact ⟨0,Nat.zero_le _,rfl,rfl,Below.refl _ _⟩
 case round =>
  obtain ⟨i,hi,rfl,hrun,hbl⟩:=hrel
  by_cases hlt:i < 8
  ·have hlt':(i:Int) < 8:=by omega
   obtain ⟨s,k,c,hget,hne,hidx⟩:=indexOps i hlt wr
   have Hidx:=qh hidx
   have Hst:=qh (opFind_step (t:=t) (b:=b) hget)
   have hm:(i:Int)+1≤8:=by omega
   clear hidx
   by_cases hc:c=b
   ·subst hc
    have hc':((c:Int)==(c:Int))=true:=by rw [beq_iff_eq]
    have B1:=qh (hbl.out.alloc hbl.out.size (.cells #[S_ s,.int .i64 k,.int .i64 (c:Nat)] 187))
    by_cases hs:t=s
    ·have HF:=qh (hrun.out.trans (Hst.out.trans (if_pos ⟨rfl,hs⟩)))
     have C:=qh (fun w h=>take_yes E q ⟨s.toArray⟩ w h (HT.out.trans (hs.trans (by simp [bs]))) (by simpa [bs] using hne))
     unfold S_ at Hidx B1
     clear hget hs hne
     go_wp2_with (refine wpList_index_run rfl _ _ _ rfl rfl rfl Hidx.out ?_)
     refine (C.out _ (HP.out.later B1.out)).mono ?_
     rintro e w5 ⟨rfl,hm5,hp5⟩
     have M5:=qh (Mv.before HP.out B1.out hm5)
     have P5:=qh hp5
     have hpb:E.pb < wr.heap.size:=Nat.lt_of_lt_of_le HP.out.lt hbl.out.size
     have k1:w5.cell? ⟨wr.heap.size,1,none⟩=some (.int .i64 k):=(World.cell?_of_block (w:=wr.alloc (.cells #[.string ⟨s.toArray⟩,.int .i64 k,.int .i64 (c:Nat)] 187)) (hm5.blk wr.heap.size (by simp) (by omega))).trans ((World.cell?_alloc_at _ _ _ _ rfl).trans rfl)
     clear C hm5 hp5 hpb
     go_wp2
     go_ret2
     exact ⟨fun h=>(by rw [HF.out] at h;cases h),fun k' hk=>by rw [HF.out] at hk;cases hk;exact ⟨rfl,M5.out,P5.out⟩⟩
    ·have HF:=qh (hrun.out.trans (Hst.out.trans (if_neg (fun h=>hs h.2))))
     have C:=qh (fun w h=>take_no E q ⟨s.toArray⟩ w h (fun e=>hs (HT.out.symm.trans (e.trans (by simp [bs])))))
     unfold S_ at Hidx B1
     clear hget hs hne
     go_wp2_with (refine wpList_index_run rfl _ _ _ rfl rfl rfl Hidx.out ?_)
     refine (C.out _ (HP.out.later B1.out)).mono ?_
     rintro e w5 ⟨rfl,hb5⟩
     have B5:=qh (B1.out.trans (hb5.mono B1.out.size))
     clear C hb5
     go_wp2
     go_roundw
     case rel=>exact ⟨i+1,hlt,by push_cast;rfl,HF,B5⟩
     case measure=>simp [intOf];omega
   ·have hc':((c:Int)==(b:Int))=false:=by rw [beq_eq_false_iff_ne];omega
    have HF:=qh (hrun.out.trans (Hst.out.trans (if_neg (fun h=>hc h.1))))
    unfold S_ at Hidx
    clear hc hget
    go_wp2_with (refine wpList_index_run rfl _ _ _ rfl rfl rfl Hidx.out ?_)
    go_roundw
    case rel=>exact ⟨i+1,hlt,by push_cast;rfl,HF,hbl.out.alloc hbl.out.size _⟩
    case measure=>simp [intOf];omega
  ·have hlt':¬ ((i:Int) < 8):=by omega
   obtain rfl:i=8:=by omega
   have HN:Hid (opFind t b opsL=none):=qh hrun.out
   go_wp2
   go_ret2
   exact ⟨fun _=>⟨rfl,hbl.out⟩,fun k hk=>by rw [HN.out] at hk;cases hk⟩
theorem opFind_sgn (ts:List Lx.Tok) (q b:Nat) (hb:b≤4):opFind (Sx.txt ts q) b opsL=Sx.sgn ts b q:=by
 unfold Sx.sgn
 generalize Sx.txt ts q=t
 match b,hb with
 | 0,_=>simp [opFind,opsL]
 | 1,_=>simp [opFind,opsL]
 | 2,_=>simp [opFind,opsL]
 | 3,_=>simp [opFind,opsL]
 | 4,_=>simp [opFind,opsL]
theorem opFind_arrow (ts:List Lx.Tok) (q:Nat):opFind (Sx.txt ts q) 6 opsL=if Sx.txt ts q=[45,62] then some 31 else none:=by
 generalize Sx.txt ts q=t
 simp [opFind,opsL]
end Go.Proofs.YtgjijidlaghlmaaGreatDoor
namespace Go.Proofs.YtgjijidlaghlmaaGreatDoor
open Go.RowKit
def Two (w':World) (g:Nat) (u0 u1 u2 v0 v1 v2:Value):Prop:=∃ t,w'.heap[g]?=some (.cells #[u0,u1,u2,v0,v1,v2] t (0,0))
theorem NdS.two {S:Nat→Prop} {w':World} {g:Nat} {a c:Nd} {u0 u1 u2 v0 v1 v2:Value} (ht:Two w' g u0 u1 u2 v0 v1 v2) (hg:S g) (ha:NdS S w' a u0 u1 u2) (hc:NdS S w' c v0 v1 v2) (k:Int) (cap:Nat) (hcap:2≤cap) :
  NdS S w' (.mk k Sx.noS [a,c]) (.int .i64 k) (.string ⟨#[]⟩) (.slice (some ⟨g,0,none⟩) 2 cap):=by
 obtain ⟨t,ht⟩:=ht
 have hx:=fun j=>cell_of_row w' g j _ _ _ ht
 refine .mk k Sx.noS [a,c] (some ⟨g,0,none⟩) cap g 0 (fun i=>if i=0 then u0 else v0) (fun i=>if i=0 then u1 else v1) (fun i=>if i=0 then u2 else v2) (by unfold maxLen;decide) (by unfold maxLen;simp) hcap (fun _=>rfl) (fun _=>hg) ?_ ?_ ?_ ?_
 ·intro i hi
  match i,hi with
  | 0,_=>exact (hx 0).trans rfl
  | 1,_=>exact (hx 3).trans rfl
 ·intro i hi
  match i,hi with
  | 0,_=>exact (hx 1).trans rfl
  | 1,_=>exact (hx 4).trans rfl
 ·intro i hi
  match i,hi with
  | 0,_=>exact (hx 2).trans rfl
  | 1,_=>exact (hx 5).trans rfl
 ·intro i hi
  match i,hi with
  | 0,_=>exact ha
  | 1,_=>exact hc
set_option maxRecDepth 100000 in
set_option maxHeartbeats 1000000 in
theorem pair_any (k k1 k2:Int) (s1 s2:ByteArray) (a1 a2:Option Addr) (n1 n2 c1 c2:Nat) (w:World) :
  Calls Tryz.prog 110 #[.int .i64 k,.agg #[.int .i64 k1,.string s1,.slice a1 n1 c1],.agg #[.int .i64 k2,.string s2,.slice a2 n2 c2]] w fun e w' =>
   ∃ g,e = .returned (.agg #[.int .i64 k,.string ⟨#[]⟩,.slice (some ⟨g,0,none⟩) 2 2])∧w.heap.size≤g∧Two w' g (.int .i64 k1) (.string s1) (.slice a1 n1 c1) (.int .i64 k2) (.string s2) (.slice a2 n2 c2)∧Below w.heap.size w w':=by
 obtain ⟨R,hR⟩:∃ R:Ending→World→Prop,(fun e w'=>∃ g,e = .returned (.agg #[.int .i64 k,.string ⟨#[]⟩,.slice (some ⟨g,0,none⟩) 2 2])∧w.heap.size≤g∧Two w' g (.int .i64 k1) (.string s1) (.slice a1 n1 c1) (.int .i64 k2) (.string s2) (.slice a2 n2 c2)∧Below w.heap.size w w')=R:=⟨_,rfl⟩
 rw [hR]
 have HR:=qh hR
 clear hR
 go_enter Tryz.func110,Tryz.ntmps110
 go_wp2
 refine ret_node ((Row3.newAt (by simp)).alloc _) Tryz.results110 rfl rfl ?_
 rw [←HR.out]
 exact ⟨w.heap.size+1+1+1,rfl,by omega,⟨_,alloc_at (by simp)⟩,((((Below.refl _ w).alloc (Nat.le_refl _) _).alloc (by simp) _).alloc (by simp;omega) _).alloc (by simp;omega) _⟩
structure Kp (h:Nat) (w W:World):Prop where
 size:w.heap.size≤W.heap.size
 blk:∀ b,h≤b→b < w.heap.size→W.heap[b]?=w.heap[b]?
theorem Kp.refl (h:Nat) (w:World):Kp h w w:=⟨Nat.le_refl _,fun _ _ _=>rfl⟩
theorem Kp.trans {h:Nat} {w w1 w2:World} (a:Kp h w w1) (b:Kp h w1 w2):Kp h w w2:=⟨Nat.le_trans a.size b.size,fun k h1 h2=>(b.blk k h1 (Nat.lt_of_lt_of_le h2 a.size)).trans (a.blk k h1 h2)⟩
theorem Kp.below {h:Nat} {w w1 w2:World} (a:Kp h w w1) (b:Below w1.heap.size w1 w2):Kp h w w2:=a.trans ⟨b.size,fun k _ h2=>b.block k h2⟩
theorem Kp.mv {E:PE} {q:Nat} {h:Nat} {w w1 w2:World} (a:Kp h w w1) (b:Mv E q w1 w2) (hp:E.pb < h):Kp h w w2:=a.trans ⟨b.size,fun k h1 h2=>b.blk k h2 (by omega)⟩
theorem Kp.alloc {h:Nat} {w w1:World} (a:Kp h w w1) (o:Obj):Kp h w (w1.alloc o):=a.trans ⟨by simp,fun k _ h2=>Below.heap_alloc _ _ _ h2⟩
theorem Kp.set {h:Nat} {w w1:World} (a:Kp h w w1) {p:Addr} (u:Value) (hp:p.block < h):Kp h w (w1.setCell p u):=a.trans ⟨by rw [setCell_size];exact Nat.le_refl _,fun k h1 _=>Below.heap_setCell _ _ _ _ (by omega)⟩
theorem Kp.put3 {h:Nat} {w w1:World} (a:Kp h w w1) {b:Nat} (u0 u1 u2:Value) (hp:b < h):Kp h w (((w1.setCell ⟨b,0,none⟩ u0).setCell ⟨b,1,none⟩ u1).setCell ⟨b,2,none⟩ u2):=((a.set (p:=⟨b,0,none⟩) _ hp).set (p:=⟨b,1,none⟩) _ hp).set (p:=⟨b,2,none⟩) _ hp
theorem NdS.fin {h h':Nat} {w1 W:World} {t:Nd} {v0 v1 v2:Value} (hn:NdS (fun b=>h'≤b) w1 t v0 v1 v2) (hh:h≤h') (hk:Kp h' w1 W):NdS (fun b=>h≤b) W t v0 v1 v2 :=
 hn.keep fun b h1 h2=>⟨hk.blk b h1 h2,Nat.le_trans hh h1⟩
theorem opFind_lt {ts:List Lx.Tok} {q b:Nat} {k:Int} (h:opFind (Sx.txt ts q) b opsL=some k):q < ts.length:=by
 by_cases hx:q < ts.length
 ·exact hx
 ·rw [txt_end (by omega)] at h
  simp [opFind,opsL] at h
def infR (E:PE) (b:Nat) (r1:Sx.PR Nd) (R2:Nat→Sx.PR Nd):Sx.PR Nd :=
 match r1 with
 | .bad q=>.bad q
 | .ok a q=>(match opFind (Sx.txt E.ts q) b opsL with
  | none=>.ok a q
  | some k=>(match R2 (q+1) with
   | .bad r=>.bad r
   | .ok c r=>.ok (.mk k Sx.noS [a,c]) r))
set_option maxRecDepth 100000 in
set_option maxHeartbeats 2000000 in
theorem infix_walk (E:PE) (q b:Nat) (w:World) (h:PS E q w) (hb:b≤6) (hb5:b≠5) (r1:Sx.PR Nd) (R2:Nat→Sx.PR Nd)
  (C1:∀ w0,PS E q w0→Calls Tryz.prog 129 #[.pointer (some ⟨E.pb,0,none⟩),.int .i64 ((b:Int)+1)] w0 (Gr E w0 r1))
  (C2:∀ q1 a,r1 = .ok a q1→q1 < E.ts.length→∀ w0,PS E (q1+1) w0→Calls Tryz.prog 129 #[.pointer (some ⟨E.pb,0,none⟩),.int .i64 (b:Nat)] w0 (Gr E w0 (R2 (q1+1)))) :
  Calls Tryz.prog 129 #[.pointer (some ⟨E.pb,0,none⟩),.int .i64 (b:Nat)] w (Gr E w (infR E b r1 R2)):=by
 have e5:((b:Int)==5)=false:=by rw [beq_eq_false_iff_ne];omega
 have e7:((b:Int)==7)=false:=by rw [beq_eq_false_iff_ne];omega
 have eb:(b:Int)≤6:=by omega
 have HP:=qh h
 have hpl:=h.lt
 have H5:=qh hb5
 have D1:=qh C1
 have D2:=qh C2
 have Hb:=qh hb
 have B0:=qh ((Below.refl w.heap.size w).alloc (Nat.le_refl _) (.cells #[.int .i64 0,.string ⟨#[]⟩,.slice none 0 0] 25))
 have R0:=qh (Row3.new w (.int .i64 0) (.string ⟨#[]⟩) (.slice none 0 0))
 clear h hb hb5 C1 C2
 cases r1 with
 | bad q' =>
  obtain ⟨R,hR⟩:∃ R,Gr E w (infR E b (.bad q') R2)=R:=⟨_,rfl⟩
  have HR:Hid (Gr E w (.bad q')=R):=qh hR
  rw [hR]
  clear hR
  go_enter Tryz.func129,Tryz.ntmps129
  go_wp2_with fail
  refine (D1.out _ (HP.out.later B0.out)).mono ?_
  rintro e w1 ⟨rfl,hm,hq⟩
  go_wp2
  rw [←HR.out]
  exact ⟨rfl,rfl,Mv.before HP.out B0.out hm,hq⟩
 | ok a q1 =>
  obtain ⟨k1,s1,l1⟩:=a
  obtain ⟨o,ho⟩:∃ o,opFind (Sx.txt E.ts q1) b opsL=o:=⟨_,rfl⟩
  have CO:=qh (fun w h=>operator_any E q1 b w h (by have:=Hb.out;omega))
  rw [ho] at CO
  cases o with
  | none =>
   obtain ⟨R,hR⟩:∃ R,Gr E w (infR E b (.ok (.mk k1 s1 l1) q1) R2)=R:=⟨_,rfl⟩
   have HR:Hid (Gr E w (.ok (.mk k1 s1 l1) q1)=R):=qh (by rw [←hR];simp only [infR,ho])
   rw [hR]
   clear hR ho
   go_enter Tryz.func129,Tryz.ntmps129
   go_wp2_with fail
   refine (D1.out _ (HP.out.later B0.out)).mono ?_
   rintro e w1 ⟨⟨a,cap,rfl,hn⟩,hm,hq⟩
   have M1:=qh (Mv.before HP.out B0.out hm)
   have N1:=qh hn
   have R1:=qh (R0.out.mv hm (by omega))
   have Hq:=qh hq
   clear hm hn hq
   go_wp2_with fail
   refine (CO.out _ ((M1.out.ps HP.out Hq.out).later ((Below.refl _ w1).alloc (Nat.le_refl _) _))).mono ?_
   rintro e w2 ⟨h0,_⟩
   obtain ⟨rfl,hb2⟩:=h0 rfl
   have M2:=qh ((M1.out.alloc (.cells #[.int .i64 k1,.string s1,.slice a l1.length cap] 25)).later (hb2.mono (by simp;have:=M1.out.size;omega)))
   have R2:=qh ((R1.out.alloc (.cells #[.int .i64 k1,.string s1,.slice a l1.length cap] 25)).below hb2 (by simp;have:=R1.out.lt;omega))
   have L2:=qh ((Row3.new w1 (.int .i64 k1) (.string s1) (.slice a l1.length cap)).below hb2 (by simp))
   have K2:=qh (((Kp.refl (w.heap.size+1) w1).alloc (.cells #[.int .i64 k1,.string s1,.slice a l1.length cap] 25)).below hb2)
   obtain ⟨⟨n0,n1,n2⟩,g0,g1,g2⟩:=R2.out.cells
   obtain ⟨⟨m0,m1,m2⟩,_⟩:=L2.out.cells
   have ll:=L2.out.lt
   have lr:=R2.out.lt
   have l1w:=R1.out.lt
   clear hb2 CO
   go_wp2
   refine ret_node (R2.out.put _ _ _) Tryz.results129 rfl rfl ?_
   rw [←HR.out]
   exact ⟨⟨a,cap,rfl,N1.out.fin (by simp) ((by simpa using K2.out.put3 _ _ _ (by omega)))⟩,M2.out.put3 (Nat.le_refl _) _ _ _,Hq.out⟩
  | some k =>
   have hlt:=opFind_lt ho
   have C2:=qh (D2.out q1 _ rfl hlt)
   obtain ⟨r2,hr2⟩:∃ r,R2 (q1+1)=r:=⟨_,rfl⟩
   rw [hr2] at C2
   cases r2 with
   | bad q2 =>
    obtain ⟨R,hR⟩:∃ R,Gr E w (infR E b (.ok (.mk k1 s1 l1) q1) R2)=R:=⟨_,rfl⟩
    have HR:Hid (Gr E w (.bad q2)=R):=qh (by rw [←hR];simp only [infR,ho,hr2])
    rw [hR]
    clear hR ho hr2
    go_enter Tryz.func129,Tryz.ntmps129
    go_wp2_with fail
    refine (D1.out _ (HP.out.later B0.out)).mono ?_
    rintro e w1 ⟨⟨a,cap,rfl,hn⟩,hm,hq⟩
    have M1:=qh (Mv.before HP.out B0.out hm)
    have Hq:=qh hq
    clear hm hn hq
    go_wp2_with fail
    refine (CO.out _ ((M1.out.ps HP.out Hq.out).later ((Below.refl _ w1).alloc (Nat.le_refl _) _))).mono ?_
    rintro e w2 ⟨_,h0⟩
    obtain ⟨rfl,hb2,hp2⟩:=h0 k rfl
    have L2:=qh ((Row3.new w1 (.int .i64 k1) (.string s1) (.slice a l1.length cap)).mv hb2 (by have:=M1.out.size;omega))
    have M2:=qh (Mv.trans HP.out (M1.out.alloc (.cells #[.int .i64 k1,.string s1,.slice a l1.length cap] 25)) Hq.out hb2)
    have P2:=qh hp2
    obtain ⟨⟨m0,m1,m2⟩,_⟩:=L2.out.cells
    have ll:=L2.out.lt
    clear hb2 hp2 CO
    go_wp2_with fail
    have F:Hid (∀ w5,Mv E q2 w2.drew w5→q2≤E.ts.length→R (.panicked [{ v:=misfit E q2,recovered:=false }]) w5):=qh fun w5 hm5 hq5=>by
     rw [←HR.out]
     exact ⟨rfl,Mv.trans HP.out (M2.out.later (below_drewN (Below.refl _ _) 1)) hlt hm5,hq5⟩
    go_region_dies
    all_goals refine (C2.out _ (P2.out.later (Below.refl _ _).drew)).mono ?_
    all_goals rintro e w5 ⟨rfl,hm5,hq5⟩
    all_goals exact ⟨rfl,F.out w5 hm5 hq5⟩
   | ok c q2 =>
    obtain ⟨k2,s2,l2⟩:=c
    obtain ⟨R,hR⟩:∃ R,Gr E w (infR E b (.ok (.mk k1 s1 l1) q1) R2)=R:=⟨_,rfl⟩
    have HR:Hid (Gr E w (.ok (.mk k Sx.noS [.mk k1 s1 l1,.mk k2 s2 l2]) q2)=R):=qh (by rw [←hR];simp only [infR,ho,hr2])
    rw [hR]
    clear hR ho hr2
    go_enter Tryz.func129,Tryz.ntmps129
    go_wp2_with fail
    refine (D1.out _ (HP.out.later B0.out)).mono ?_
    rintro e w1 ⟨⟨a,cap,rfl,hn⟩,hm,hq⟩
    have M1:=qh (Mv.before HP.out B0.out hm)
    have N1:=qh hn
    have R1:=qh (R0.out.mv hm (by omega))
    have Hq:=qh hq
    clear hm hn hq
    go_wp2_with fail
    refine (CO.out _ ((M1.out.ps HP.out Hq.out).later ((Below.refl _ w1).alloc (Nat.le_refl _) _))).mono ?_
    rintro e w2 ⟨_,h0⟩
    obtain ⟨rfl,hb2,hp2⟩:=h0 k rfl
    have hpw:E.pb < w1.heap.size:=by have:=M1.out.size;omega
    have L2:=qh ((Row3.new w1 (.int .i64 k1) (.string s1) (.slice a l1.length cap)).mv hb2 (by omega))
    have M2:=qh (Mv.trans HP.out (M1.out.alloc (.cells #[.int .i64 k1,.string s1,.slice a l1.length cap] 25)) Hq.out hb2)
    have P2:=qh hp2
    have R2':=qh ((R1.out.alloc (.cells #[.int .i64 k1,.string s1,.slice a l1.length cap] 25)).mv hb2 (by omega))
    have K2:=qh (((Kp.refl (w.heap.size+1) w1).alloc (.cells #[.int .i64 k1,.string s1,.slice a l1.length cap] 25)).mv hb2 (by omega))
    obtain ⟨⟨m0,m1,m2⟩,_⟩:=L2.out.cells
    have ll:=L2.out.lt
    have hpl1:=R1.out.lt
    clear hb2 hp2 CO
    go_wp2_with fail
    go_region_held3 (fun w'=>w'.cell? ⟨w1.heap.size,0,none⟩=some (.int .i64 k1)∧w'.cell? ⟨w1.heap.size,1,none⟩=some (.string s1)∧w'.cell? ⟨w1.heap.size,2,none⟩=some (.slice a l1.length cap))
     (first | exact ⟨m0,m1,m2⟩ | exact L5.out.cells.1 | exact L6.out.cells.1 | exact (L6.out.put3o (by omega) _ _ _).cells.1)
     (first | ((go_at_call 129; refine (C2.out _ (P2.out.later (Below.refl _ _).drew)).mono ?_; rintro e w5 ⟨⟨a5, cap5, rfl, hn5⟩, hm5, hq5⟩; have L5 := Lib.hid (L2.out.mv (Mv.before P2.out (Below.refl _ _).drew hm5) (by omega)); have R5 := Lib.hid (R2'.out.mv (Mv.before P2.out (Below.refl _ _).drew hm5) (by omega))))
            | ((go_at_call 110; refine (pair_any k k1 k2 s1 s2 a a5 l1.length l2.length cap cap5 w5).mono ?_; rintro e w6 ⟨g, rfl, hg, htw, hb6⟩; have L6 := Lib.hid (L5.out.below hb6 L5.out.lt); have R6 := Lib.hid (R5.out.below hb6 R5.out.lt); obtain ⟨⟨n0, n1, n2⟩, g0, g1, g2⟩ := R6.out.cells)))
    have hsz2:w.heap.size < w2.heap.size:=by omega
    have hm5':=Mv.before P2.out (Below.refl _ _).drew hm5
    have hs5:=hm5'.size
    have hgw:w.heap.size < g:=by omega
    have K5:=(K2.out.mv hm5' (by omega)).below hb6
    have NL:=N1.out.fin (h:=w.heap.size) (by simp) (by simpa using K5.put3 (b:=w.heap.size) (.int .i64 k) (.string ⟨#[]⟩) (.slice (some ⟨g,0,none⟩) 2 2) (by omega))
    have NR:=hn5.fin (h:=w.heap.size) (Nat.le_of_lt hsz2) (((Kp.refl w2.heap.size w5).below hb6).put3 (b:=w.heap.size) (.int .i64 k) (.string ⟨#[]⟩) (.slice (some ⟨g,0,none⟩) 2 2) hsz2)
    have TW:Two (((w6.setCell ⟨w.heap.size,0,none⟩ (.int .i64 k)).setCell ⟨w.heap.size,1,none⟩ (.string ⟨#[]⟩)).setCell ⟨w.heap.size,2,none⟩ (.slice (some ⟨g,0,none⟩) 2 2)) g (.int .i64 k1) (.string s1) (.slice a l1.length cap) (.int .i64 k2) (.string s2) (.slice a5 l2.length cap5):=by
     obtain ⟨t,ht⟩:=htw
     exact ⟨t,(((Kp.refl g w6).put3 (b:=w.heap.size) _ _ _ hgw).blk g (Nat.le_refl _) (heap_lt ht)).trans ht⟩
    have NN:=qh (NdS.two TW (by show w.heap.size≤g;omega) NL NR k 2 (Nat.le_refl _))
    have MM:=qh (((Mv.trans HP.out M2.out hlt hm5').later (hb6.mono (by omega))).put3 (b:=w.heap.size) (Nat.le_refl _) (.int .i64 k) (.string ⟨#[]⟩) (.slice (some ⟨g,0,none⟩) 2 2))
    have Hq5:=qh hq5
    clear NL NR TW K5 hm5' hs5 htw hb6 hm5 hn5 hq5
    go_wp2
    refine ret_node (R6.out.put _ _ _) Tryz.results129 rfl rfl ?_
    rw [←HR.out]
    exact ⟨⟨_,_,rfl,NN.out⟩,MM.out,Hq5.out⟩
end Go.Proofs.YtgjijidlaghlmaaGreatDoor
namespace Go.Proofs.YtgjijidlaghlmaaGreatDoor
open Go.RowKit
attribute [local go_sem] fieldTok0 fieldTok1 fieldTok2
set_option maxRecDepth 100000 in
set_option maxHeartbeats 1000000 in
theorem infix7 (E:PE) (q:Nat) (w:World) (h:PS E q w) (r:Sx.PR Nd) (C:∀ w0,PS E q w0→Calls Tryz.prog 195 #[.pointer (some ⟨E.pb,0,none⟩)] w0 (Gr E w0 r)) :
  Calls Tryz.prog 129 #[.pointer (some ⟨E.pb,0,none⟩),.int .i64 7] w (Gr E w r):=by
 have HP:=qh h
 have hpl:=h.lt
 have D:=qh C
 have B0:=qh ((Below.refl w.heap.size w).alloc (Nat.le_refl _) (.cells #[.int .i64 0,.string ⟨#[]⟩,.slice none 0 0] 25))
 have R0:=qh (Row3.new w (.int .i64 0) (.string ⟨#[]⟩) (.slice none 0 0))
 clear h C
 obtain ⟨R,hR⟩:∃ R,Gr E w r=R:=⟨_,rfl⟩
 have HR:=qh hR
 rw [hR]
 clear hR
 cases r with
 | bad q' =>
  go_enter Tryz.func129,Tryz.ntmps129
  go_wp2_with fail
  refine (D.out _ (HP.out.later B0.out)).mono ?_
  rintro e w1 ⟨rfl,hm,hq⟩
  go_wp2
  rw [←HR.out]
  exact ⟨rfl,rfl,Mv.before HP.out B0.out hm,hq⟩
 | ok t q1 =>
  obtain ⟨k1,s1,l1⟩:=t
  go_enter Tryz.func129,Tryz.ntmps129
  go_wp2_with fail
  refine (D.out _ (HP.out.later B0.out)).mono ?_
  rintro e w1 ⟨⟨a,cap,rfl,hn⟩,hm,hq⟩
  have M1:=qh (Mv.before HP.out B0.out hm)
  have N1:=qh hn
  have R1:=qh (R0.out.mv hm (by omega))
  have Hq:=qh hq
  obtain ⟨⟨n0,n1,n2⟩,g0,g1,g2⟩:=R1.out.cells
  have lr:=R1.out.lt
  clear hm hn hq
  go_wp2
  refine ret_node (R1.out.put _ _ _) Tryz.results129 rfl rfl ?_
  rw [←HR.out]
  exact ⟨⟨a,cap,rfl,N1.out.fin (by simp) (by simpa using (Kp.refl (w.heap.size+1) w1).put3 (b:=w.heap.size) _ _ _ (by omega))⟩,M1.out.put3 (Nat.le_refl _) _ _ _,Hq.out⟩
set_option maxRecDepth 100000 in
set_option maxHeartbeats 1000000 in
theorem infix5 (E:PE) (q:Nat) (w:World) (h:PS E q w) (r:Sx.PR Nd) (C:∀ w0,PS E q w0→Calls Tryz.prog 194 #[.pointer (some ⟨E.pb,0,none⟩)] w0 (Gr E w0 r)) :
  Calls Tryz.prog 129 #[.pointer (some ⟨E.pb,0,none⟩),.int .i64 5] w (Gr E w r):=by
 have HP:=qh h
 have hpl:=h.lt
 have D:=qh C
 have B0:=qh ((Below.refl w.heap.size w).alloc (Nat.le_refl _) (.cells #[.int .i64 0,.string ⟨#[]⟩,.slice none 0 0] 25))
 have R0:=qh (Row3.new w (.int .i64 0) (.string ⟨#[]⟩) (.slice none 0 0))
 clear h C
 obtain ⟨R,hR⟩:∃ R,Gr E w r=R:=⟨_,rfl⟩
 have HR:=qh hR
 rw [hR]
 clear hR
 cases r with
 | bad q' =>
  go_enter Tryz.func129,Tryz.ntmps129
  go_wp2_with fail
  refine (D.out _ (HP.out.later B0.out)).mono ?_
  rintro e w1 ⟨rfl,hm,hq⟩
  go_wp2
  rw [←HR.out]
  exact ⟨rfl,rfl,Mv.before HP.out B0.out hm,hq⟩
 | ok t q1 =>
  obtain ⟨k1,s1,l1⟩:=t
  go_enter Tryz.func129,Tryz.ntmps129
  go_wp2_with fail
  refine (D.out _ (HP.out.later B0.out)).mono ?_
  rintro e w1 ⟨⟨a,cap,rfl,hn⟩,hm,hq⟩
  have M1:=qh (Mv.before HP.out B0.out hm)
  have N1:=qh hn
  have R1:=qh (R0.out.mv hm (by omega))
  have Hq:=qh hq
  obtain ⟨⟨n0,n1,n2⟩,g0,g1,g2⟩:=R1.out.cells
  have lr:=R1.out.lt
  clear hm hn hq
  go_wp2
  refine ret_node (R1.out.put _ _ _) Tryz.results129 rfl rfl ?_
  rw [←HR.out]
  exact ⟨⟨a,cap,rfl,N1.out.fin (by simp) (by simpa using (Kp.refl (w.heap.size+1) w1).put3 (b:=w.heap.size) _ _ _ (by omega))⟩,M1.out.put3 (Nat.le_refl _) _ _ _,Hq.out⟩
set_option maxRecDepth 100000 in
set_option maxHeartbeats 1000000 in
theorem typed_wrap (E:PE) (q:Nat) (w:World) (h:PS E q w) (r:Sx.PR Nd) (C:∀ w0,PS E q w0→Calls Tryz.prog 129 #[.pointer (some ⟨E.pb,0,none⟩),.int .i64 6] w0 (Gr E w0 r)) :
  Calls Tryz.prog 73 #[.pointer (some ⟨E.pb,0,none⟩)] w (Gr E w r):=by
 have HP:=qh h
 have hpl:=h.lt
 have D:=qh C
 have B0:=qh ((Below.refl w.heap.size w).alloc (Nat.le_refl _) (.cells #[.int .i64 0,.string ⟨#[]⟩,.slice none 0 0] 25))
 have R0:=qh (Row3.new w (.int .i64 0) (.string ⟨#[]⟩) (.slice none 0 0))
 clear h C
 obtain ⟨R,hR⟩:∃ R,Gr E w r=R:=⟨_,rfl⟩
 have HR:=qh hR
 rw [hR]
 clear hR
 cases r with
 | bad q' =>
  go_enter Tryz.func73,Tryz.ntmps73
  go_wp2_with fail
  refine (D.out _ (HP.out.later B0.out)).mono ?_
  rintro e w1 ⟨rfl,hm,hq⟩
  go_wp2
  rw [←HR.out]
  exact ⟨rfl,rfl,Mv.before HP.out B0.out hm,hq⟩
 | ok t q1 =>
  obtain ⟨k1,s1,l1⟩:=t
  go_enter Tryz.func73,Tryz.ntmps73
  go_wp2_with fail
  refine (D.out _ (HP.out.later B0.out)).mono ?_
  rintro e w1 ⟨⟨a,cap,rfl,hn⟩,hm,hq⟩
  have M1:=qh (Mv.before HP.out B0.out hm)
  have N1:=qh hn
  have R1:=qh (R0.out.mv hm (by omega))
  have Hq:=qh hq
  obtain ⟨⟨n0,n1,n2⟩,g0,g1,g2⟩:=R1.out.cells
  have lr:=R1.out.lt
  clear hm hn hq
  go_wp2
  refine ret_node (R1.out.put _ _ _) Tryz.results73 rfl rfl ?_
  rw [←HR.out]
  exact ⟨⟨a,cap,rfl,N1.out.fin (by simp) (by simpa using (Kp.refl (w.heap.size+1) w1).put3 (b:=w.heap.size) _ _ _ (by omega))⟩,M1.out.put3 (Nat.le_refl _) _ _ _,Hq.out⟩
set_option maxRecDepth 100000 in
set_option maxHeartbeats 1000000 in
theorem quant_wrap (E:PE) (q:Nat) (w:World) (h:PS E q w) (r:Sx.PR Nd) (k:Int) (C:∀ w0,PS E q w0→Calls Tryz.prog 132 #[.pointer (some ⟨E.pb,0,none⟩),.int .i64 k,.func (.func 71) #[] #[]] w0 (Gr E w0 r)) :
  Calls Tryz.prog 185 #[.pointer (some ⟨E.pb,0,none⟩),.int .i64 k] w (Gr E w r):=by
 have HP:=qh h
 have hpl:=h.lt
 have D:=qh C
 have B0:=qh ((Below.refl w.heap.size w).alloc (Nat.le_refl _) (.cells #[.int .i64 0,.string ⟨#[]⟩,.slice none 0 0] 25))
 have R0:=qh (Row3.new w (.int .i64 0) (.string ⟨#[]⟩) (.slice none 0 0))
 clear h C
 obtain ⟨R,hR⟩:∃ R,Gr E w r=R:=⟨_,rfl⟩
 have HR:=qh hR
 rw [hR]
 clear hR
 cases r with
 | bad q' =>
  go_enter Tryz.func185,Tryz.ntmps185
  go_wp2_with fail
  refine (D.out _ (HP.out.later B0.out)).mono ?_
  rintro e w1 ⟨rfl,hm,hq⟩
  go_wp2
  rw [←HR.out]
  exact ⟨rfl,rfl,Mv.before HP.out B0.out hm,hq⟩
 | ok t q1 =>
  obtain ⟨k1,s1,l1⟩:=t
  go_enter Tryz.func185,Tryz.ntmps185
  go_wp2_with fail
  refine (D.out _ (HP.out.later B0.out)).mono ?_
  rintro e w1 ⟨⟨a,cap,rfl,hn⟩,hm,hq⟩
  have M1:=qh (Mv.before HP.out B0.out hm)
  have N1:=qh hn
  have R1:=qh (R0.out.mv hm (by omega))
  have Hq:=qh hq
  obtain ⟨⟨n0,n1,n2⟩,g0,g1,g2⟩:=R1.out.cells
  have lr:=R1.out.lt
  clear hm hn hq
  go_wp2
  refine ret_node (R1.out.put _ _ _) Tryz.results185 rfl rfl ?_
  rw [←HR.out]
  exact ⟨⟨a,cap,rfl,N1.out.fin (by simp) (by simpa using (Kp.refl (w.heap.size+1) w1).put3 (b:=w.heap.size) _ _ _ (by omega))⟩,M1.out.put3 (Nat.le_refl _) _ _ _,Hq.out⟩
end Go.Proofs.YtgjijidlaghlmaaGreatDoor
namespace Go.Proofs.YtgjijidlaghlmaaGreatDoor
open Go.RowKit
attribute [local go_sem] fieldTok0 fieldTok1 fieldTok2
def needR (E:PE) (s:Lx.Bs) (r:Sx.PR Nd):Sx.PR Nd :=
 match r with
 | .bad q=>.bad q
 | .ok a q=>if Sx.txt E.ts q=s then .ok a (q+1) else .bad q
def Gr2 (E:PE) (w:World) (r:Sx.PR Nd) (e:Ending) (w':World):Prop :=
 match r with
 | .ok (.mk k s l) q=>(∃ a cap,e = .returned (.tuple #[.agg #[.int .i64 k,.string s,.slice a l.length cap],.bool true])∧NdS (fun b=>w.heap.size≤b) w' (.mk k s l) (.int .i64 k) (.string s) (.slice a l.length cap))∧Mv E q w w'∧q≤E.ts.length
 | .bad q=>e = .panicked [{ v:=misfit E q,recovered:=false }]∧Mv E q w w'∧q≤E.ts.length
set_option maxRecDepth 100000 in
set_option maxHeartbeats 2000000 in
theorem simple_paren (E:PE) (q:Nat) (w:World) (h:PS E q w) (ht:Sx.txt E.ts q=[40]) (r:Sx.PR Nd) (C:∀ w0,PS E (q+1) w0→Calls Tryz.prog 73 #[.pointer (some ⟨E.pb,0,none⟩)] w0 (Gr E w0 r)) :
  Calls Tryz.prog 195 #[.pointer (some ⟨E.pb,0,none⟩)] w (Gr E w (needR E [41] r)):=by
 have HP:=qh h
 have hpl:=h.lt
 have D:=qh C
 have B0:=qh ((Below.refl w.heap.size w).alloc (Nat.le_refl _) (.cells #[.int .i64 0,.string ⟨#[]⟩,.slice none 0 0] 25))
 have R0:=qh (Row3.new w (.int .i64 0) (.string ⟨#[]⟩) (.slice none 0 0))
 have T:=qh (fun w h=>take_yes E q ⟨#[40]⟩ w h ht (by decide))
 clear h C ht
 obtain ⟨R,hR⟩:∃ R,Gr E w (needR E [41] r)=R:=⟨_,rfl⟩
 cases r with
 | bad q' =>
  have HR:Hid (Gr E w (.bad q')=R):=qh hR
  rw [hR]
  clear hR
  go_enter Tryz.func195,Tryz.ntmps195
  go_wp2_with fail
  refine (T.out _ (HP.out.later B0.out)).mono ?_
  rintro e wt ⟨rfl,hmt,hpt⟩
  have MT:=qh (Mv.before HP.out B0.out hmt)
  have PT:=qh hpt
  have RT:=qh (R0.out.mv hmt (by omega))
  clear hmt hpt
  go_wp2_with fail
  refine (D.out _ PT.out).mono ?_
  rintro e w1 ⟨rfl,hm,hq⟩
  have M1:=Mv.trans HP.out MT.out PT.out.le hm
  go_wp2
  rw [←HR.out]
  exact ⟨rfl,rfl,M1,hq⟩
 | ok t q1 =>
  obtain ⟨k1,s1,l1⟩:=t
  by_cases hc:Sx.txt E.ts q1=[41]
  ·have HR:Hid (Gr E w (.ok (.mk k1 s1 l1) (q1+1))=R):=qh (by rw [←hR];simp only [needR];rw [if_pos hc])
   have NY:=qh (fun w h=>need_yes E q1 ⟨#[41]⟩ w h hc (by decide))
   have hlt:=Sx.txt_at hc
   rw [hR]
   clear hR hc
   go_enter Tryz.func195,Tryz.ntmps195
   go_wp2_with fail
   refine (T.out _ (HP.out.later B0.out)).mono ?_
   rintro e wt ⟨rfl,hmt,hpt⟩
   have MT:=qh (Mv.before HP.out B0.out hmt)
   have PT:=qh hpt
   have RT:=qh (R0.out.mv hmt (by omega))
   clear hmt hpt
   go_wp2_with fail
   refine (D.out _ PT.out).mono ?_
   rintro e w1 ⟨⟨a,cap,rfl,hn⟩,hm,hq⟩
   have M1:=qh (Mv.trans HP.out MT.out PT.out.le hm)
   have N1:=qh (hn.from RT.out.lt)
   have R1:=qh (RT.out.mv hm (by omega))
   have Hq:=qh hq
   have P1:=qh ((M1.out.ps HP.out Hq.out).later ((Below.refl _ w1).alloc (Nat.le_refl _) (.cells #[.int .i64 k1,.string s1,.slice a l1.length cap] 25)))
   clear hm hn hq
   go_wp2_with fail
   refine (NY.out _ P1.out).mono ?_
   rintro e w2 ⟨rfl,hm2,hp2⟩
   have M2:=qh (Mv.trans HP.out (M1.out.alloc (.cells #[.int .i64 k1,.string s1,.slice a l1.length cap] 25)) Hq.out hm2)
   have R2:=qh ((R1.out.alloc (.cells #[.int .i64 k1,.string s1,.slice a l1.length cap] 25)).mv hm2 (by omega))
   have L2:=qh ((Row3.new w1 (.int .i64 k1) (.string s1) (.slice a l1.length cap)).mv hm2 (by have:=M1.out.size;omega))
   have K2:=qh (((Kp.refl (w.heap.size+1) w1).alloc (.cells #[.int .i64 k1,.string s1,.slice a l1.length cap] 25)).mv hm2 (by omega))
   obtain ⟨⟨n0,n1,n2⟩,g0,g1,g2⟩:=R2.out.cells
   obtain ⟨⟨m0,m1,m2⟩,_⟩:=L2.out.cells
   have ll:=L2.out.lt
   have lr:=R2.out.lt
   have l1w:=R1.out.lt
   clear hm2 hp2
   go_wp2
   refine ret_node (R2.out.put _ _ _) Tryz.results195 rfl rfl ?_
   rw [←HR.out]
   exact ⟨⟨a,cap,rfl,N1.out.fin (Nat.le_succ _) (K2.out.put3 (b:=w.heap.size) _ _ _ (by omega))⟩,M2.out.put3 (Nat.le_refl _) _ _ _,hlt⟩
  ·have HR:Hid (Gr E w (.bad q1)=R):=qh (by rw [←hR];simp only [needR];rw [if_neg hc])
   have NN:=qh (fun w h=>need_no E q1 ⟨#[41]⟩ w h hc)
   rw [hR]
   clear hR hc
   go_enter Tryz.func195,Tryz.ntmps195
   go_wp2_with fail
   refine (T.out _ (HP.out.later B0.out)).mono ?_
   rintro e wt ⟨rfl,hmt,hpt⟩
   have MT:=qh (Mv.before HP.out B0.out hmt)
   have PT:=qh hpt
   have RT:=qh (R0.out.mv hmt (by omega))
   clear hmt hpt
   go_wp2_with fail
   refine (D.out _ PT.out).mono ?_
   rintro e w1 ⟨⟨a,cap,rfl,hn⟩,hm,hq⟩
   have M1:=qh (Mv.trans HP.out MT.out PT.out.le hm)
   have N1:=qh (hn.from RT.out.lt)
   have R1:=qh (RT.out.mv hm (by omega))
   have Hq:=qh hq
   have P1:=qh ((M1.out.ps HP.out Hq.out).later ((Below.refl _ w1).alloc (Nat.le_refl _) (.cells #[.int .i64 k1,.string s1,.slice a l1.length cap] 25)))
   clear hm hn hq
   go_wp2_with fail
   refine (NN.out _ P1.out).mono ?_
   rintro e w2 ⟨rfl,hb2⟩
   have M2:=(M1.out.alloc (.cells #[.int .i64 k1,.string s1,.slice a l1.length cap] 25)).later (hb2.mono (by simp;have:=M1.out.size;omega))
   go_wp2
   rw [←HR.out]
   exact ⟨rfl,rfl,M2,Hq.out⟩
set_option maxRecDepth 100000 in
set_option maxHeartbeats 2000000 in
theorem brack_paren (E:PE) (q:Nat) (w:World) (h:PS E q w) (ht:Sx.txt E.ts q=[40]) (r:Sx.PR Nd) (C:∀ w0,PS E (q+1) w0→Calls Tryz.prog 72 #[.pointer (some ⟨E.pb,0,none⟩)] w0 (Gr E w0 r)) :
  Calls Tryz.prog 133 #[.pointer (some ⟨E.pb,0,none⟩)] w (Gr2 E w (needR E [41] r)):=by
 have HP:=qh h
 have hpl:=h.lt
 have D:=qh C
 have B0:=qh ((Below.refl w.heap.size w).alloc (Nat.le_refl _) (.cells #[.int .i64 0,.string ⟨#[]⟩,.slice none 0 0] 25))
 have R0:=qh (Row3.new w (.int .i64 0) (.string ⟨#[]⟩) (.slice none 0 0))
 have T:=qh (fun w h=>take_yes E q ⟨#[40]⟩ w h ht (by decide))
 clear h C ht
 obtain ⟨R,hR⟩:∃ R,Gr2 E w (needR E [41] r)=R:=⟨_,rfl⟩
 cases r with
 | bad q' =>
  have HR:Hid (Gr2 E w (.bad q')=R):=qh hR
  rw [hR]
  clear hR
  go_enter Tryz.func133,Tryz.ntmps133
  go_wp2_with fail
  refine (T.out _ (HP.out.later B0.out)).mono ?_
  rintro e wt ⟨rfl,hmt,hpt⟩
  have MT:=qh (Mv.before HP.out B0.out hmt)
  have PT:=qh hpt
  have RT:=qh (R0.out.mv hmt (by omega))
  clear hmt hpt
  go_wp2_with fail
  refine (D.out _ PT.out).mono ?_
  rintro e w1 ⟨rfl,hm,hq⟩
  have M1:=Mv.trans HP.out MT.out PT.out.le hm
  go_wp2
  rw [←HR.out]
  exact ⟨rfl,rfl,M1,hq⟩
 | ok t q1 =>
  obtain ⟨k1,s1,l1⟩:=t
  by_cases hc:Sx.txt E.ts q1=[41]
  ·have HR:Hid (Gr2 E w (.ok (.mk k1 s1 l1) (q1+1))=R):=qh (by rw [←hR];simp only [needR];rw [if_pos hc])
   have NY:=qh (fun w h=>need_yes E q1 ⟨#[41]⟩ w h hc (by decide))
   have hlt:=Sx.txt_at hc
   rw [hR]
   clear hR hc
   go_enter Tryz.func133,Tryz.ntmps133
   go_wp2_with fail
   refine (T.out _ (HP.out.later B0.out)).mono ?_
   rintro e wt ⟨rfl,hmt,hpt⟩
   have MT:=qh (Mv.before HP.out B0.out hmt)
   have PT:=qh hpt
   have RT:=qh (R0.out.mv hmt (by omega))
   clear hmt hpt
   go_wp2_with fail
   refine (D.out _ PT.out).mono ?_
   rintro e w1 ⟨⟨a,cap,rfl,hn⟩,hm,hq⟩
   have M1:=qh (Mv.trans HP.out MT.out PT.out.le hm)
   have N1:=qh (hn.from RT.out.lt)
   have R1:=qh (RT.out.mv hm (by omega))
   have Hq:=qh hq
   have P1:=qh ((M1.out.ps HP.out Hq.out).later ((Below.refl _ w1).alloc (Nat.le_refl _) (.cells #[.int .i64 k1,.string s1,.slice a l1.length cap] 25)))
   clear hm hn hq
   go_wp2_with fail
   refine (NY.out _ P1.out).mono ?_
   rintro e w2 ⟨rfl,hm2,hp2⟩
   have M2:=qh (Mv.trans HP.out (M1.out.alloc (.cells #[.int .i64 k1,.string s1,.slice a l1.length cap] 25)) Hq.out hm2)
   have R2:=qh ((R1.out.alloc (.cells #[.int .i64 k1,.string s1,.slice a l1.length cap] 25)).mv hm2 (by omega))
   have L2:=qh ((Row3.new w1 (.int .i64 k1) (.string s1) (.slice a l1.length cap)).mv hm2 (by have:=M1.out.size;omega))
   have K2:=qh (((Kp.refl (w.heap.size+1) w1).alloc (.cells #[.int .i64 k1,.string s1,.slice a l1.length cap] 25)).mv hm2 (by omega))
   obtain ⟨⟨n0,n1,n2⟩,g0,g1,g2⟩:=R2.out.cells
   obtain ⟨⟨m0,m1,m2⟩,_⟩:=L2.out.cells
   have ll:=L2.out.lt
   have lr:=R2.out.lt
   have l1w:=R1.out.lt
   clear hm2 hp2
   go_wp2
   refine ret_node2 (R2.out.put _ _ _) Tryz.results133 rfl rfl rfl ?_
   rw [←HR.out]
   exact ⟨⟨a,cap,rfl,N1.out.fin (Nat.le_succ _) (K2.out.put3 (b:=w.heap.size) _ _ _ (by omega))⟩,M2.out.put3 (Nat.le_refl _) _ _ _,hlt⟩
  ·have HR:Hid (Gr2 E w (.bad q1)=R):=qh (by rw [←hR];simp only [needR];rw [if_neg hc])
   have NN:=qh (fun w h=>need_no E q1 ⟨#[41]⟩ w h hc)
   rw [hR]
   clear hR hc
   go_enter Tryz.func133,Tryz.ntmps133
   go_wp2_with fail
   refine (T.out _ (HP.out.later B0.out)).mono ?_
   rintro e wt ⟨rfl,hmt,hpt⟩
   have MT:=qh (Mv.before HP.out B0.out hmt)
   have PT:=qh hpt
   have RT:=qh (R0.out.mv hmt (by omega))
   clear hmt hpt
   go_wp2_with fail
   refine (D.out _ PT.out).mono ?_
   rintro e w1 ⟨⟨a,cap,rfl,hn⟩,hm,hq⟩
   have M1:=qh (Mv.trans HP.out MT.out PT.out.le hm)
   have N1:=qh (hn.from RT.out.lt)
   have R1:=qh (RT.out.mv hm (by omega))
   have Hq:=qh hq
   have P1:=qh ((M1.out.ps HP.out Hq.out).later ((Below.refl _ w1).alloc (Nat.le_refl _) (.cells #[.int .i64 k1,.string s1,.slice a l1.length cap] 25)))
   clear hm hn hq
   go_wp2_with fail
   refine (NN.out _ P1.out).mono ?_
   rintro e w2 ⟨rfl,hb2⟩
   have M2:=(M1.out.alloc (.cells #[.int .i64 k1,.string s1,.slice a l1.length cap] 25)).later (hb2.mono (by simp;have:=M1.out.size;omega))
   go_wp2
   rw [←HR.out]
   exact ⟨rfl,rfl,M2,Hq.out⟩
set_option maxRecDepth 100000 in
set_option maxHeartbeats 2000000 in
theorem group_walk (E:PE) (q:Nat) (w:World) (h:PS E q w) (k:Int) (r:Sx.PR Nd) (C:∀ w0,PS E q w0→Calls Tryz.prog 71 #[.pointer (some ⟨E.pb,0,none⟩)] w0 (Gr E w0 r)) :
  Calls Tryz.prog 188 #[.pointer (some ⟨E.pb,0,none⟩),.int .i64 k] w (Gr E w (needR E [41] r)):=by
 have HP:=qh h
 have hpl:=h.lt
 have D:=qh C
 have B0:=qh ((Below.refl w.heap.size w).alloc (Nat.le_refl _) (.cells #[.int .i64 0,.string ⟨#[]⟩,.slice none 0 0] 25))
 have R0:=qh (Row3.new w (.int .i64 0) (.string ⟨#[]⟩) (.slice none 0 0))
 clear h C
 obtain ⟨R,hR⟩:∃ R,Gr E w (needR E [41] r)=R:=⟨_,rfl⟩
 cases r with
 | bad q' =>
  have HR:Hid (Gr E w (.bad q')=R):=qh hR
  rw [hR]
  clear hR
  go_enter Tryz.func188,Tryz.ntmps188
  obtain ⟨wt,hwt⟩:∃ wt,w.alloc (.cells #[.int .i64 0,.string ⟨#[]⟩,.slice none 0 0] 25)=wt:=⟨_,rfl⟩
  have MT:=qh (Mv.below HP.out B0.out)
  have PT:=qh (HP.out.later B0.out)
  have RT:=R0
  rw [hwt] at MT PT RT
  go_wp2_with fail
  (try rw [hwt])
  refine (D.out _ PT.out).mono ?_
  rintro e w1 ⟨rfl,hm,hq⟩
  have M1:=Mv.trans HP.out MT.out PT.out.le hm
  go_wp2
  rw [←HR.out]
  exact ⟨rfl,rfl,M1,hq⟩
 | ok t q1 =>
  obtain ⟨k1,s1,l1⟩:=t
  by_cases hc:Sx.txt E.ts q1=[41]
  ·have HR:Hid (Gr E w (.ok (.mk k1 s1 l1) (q1+1))=R):=qh (by rw [←hR];simp only [needR];rw [if_pos hc])
   have NY:=qh (fun w h=>need_yes E q1 ⟨#[41]⟩ w h hc (by decide))
   have hlt:=Sx.txt_at hc
   rw [hR]
   clear hR hc
   go_enter Tryz.func188,Tryz.ntmps188
   obtain ⟨wt,hwt⟩:∃ wt,w.alloc (.cells #[.int .i64 0,.string ⟨#[]⟩,.slice none 0 0] 25)=wt:=⟨_,rfl⟩
   have MT:=qh (Mv.below HP.out B0.out)
   have PT:=qh (HP.out.later B0.out)
   have RT:=R0
   rw [hwt] at MT PT RT
   go_wp2_with fail
   (try rw [hwt])
   refine (D.out _ PT.out).mono ?_
   rintro e w1 ⟨⟨a,cap,rfl,hn⟩,hm,hq⟩
   have M1:=qh (Mv.trans HP.out MT.out PT.out.le hm)
   have N1:=qh (hn.from RT.out.lt)
   have R1:=qh (RT.out.mv hm (by omega))
   have Hq:=qh hq
   have P1:=qh ((M1.out.ps HP.out Hq.out).later ((Below.refl _ w1).alloc (Nat.le_refl _) (.cells #[.int .i64 k1,.string s1,.slice a l1.length cap] 25)))
   clear hm hn hq
   go_wp2_with fail
   refine (NY.out _ P1.out).mono ?_
   rintro e w2 ⟨rfl,hm2,hp2⟩
   have M2:=qh (Mv.trans HP.out (M1.out.alloc (.cells #[.int .i64 k1,.string s1,.slice a l1.length cap] 25)) Hq.out hm2)
   have R2:=qh ((R1.out.alloc (.cells #[.int .i64 k1,.string s1,.slice a l1.length cap] 25)).mv hm2 (by omega))
   have L2:=qh ((Row3.new w1 (.int .i64 k1) (.string s1) (.slice a l1.length cap)).mv hm2 (by have:=M1.out.size;omega))
   have K2:=qh (((Kp.refl (w.heap.size+1) w1).alloc (.cells #[.int .i64 k1,.string s1,.slice a l1.length cap] 25)).mv hm2 (by omega))
   obtain ⟨⟨n0,n1,n2⟩,g0,g1,g2⟩:=R2.out.cells
   obtain ⟨⟨m0,m1,m2⟩,_⟩:=L2.out.cells
   have ll:=L2.out.lt
   have lr:=R2.out.lt
   have l1w:=R1.out.lt
   clear hm2 hp2
   go_wp2
   refine ret_node (R2.out.put _ _ _) Tryz.results188 rfl rfl ?_
   rw [←HR.out]
   exact ⟨⟨a,cap,rfl,N1.out.fin (Nat.le_succ _) (K2.out.put3 (b:=w.heap.size) _ _ _ (by omega))⟩,M2.out.put3 (Nat.le_refl _) _ _ _,hlt⟩
  ·have HR:Hid (Gr E w (.bad q1)=R):=qh (by rw [←hR];simp only [needR];rw [if_neg hc])
   have NN:=qh (fun w h=>need_no E q1 ⟨#[41]⟩ w h hc)
   rw [hR]
   clear hR hc
   go_enter Tryz.func188,Tryz.ntmps188
   obtain ⟨wt,hwt⟩:∃ wt,w.alloc (.cells #[.int .i64 0,.string ⟨#[]⟩,.slice none 0 0] 25)=wt:=⟨_,rfl⟩
   have MT:=qh (Mv.below HP.out B0.out)
   have PT:=qh (HP.out.later B0.out)
   have RT:=R0
   rw [hwt] at MT PT RT
   go_wp2_with fail
   (try rw [hwt])
   refine (D.out _ PT.out).mono ?_
   rintro e w1 ⟨⟨a,cap,rfl,hn⟩,hm,hq⟩
   have M1:=qh (Mv.trans HP.out MT.out PT.out.le hm)
   have N1:=qh (hn.from RT.out.lt)
   have R1:=qh (RT.out.mv hm (by omega))
   have Hq:=qh hq
   have P1:=qh ((M1.out.ps HP.out Hq.out).later ((Below.refl _ w1).alloc (Nat.le_refl _) (.cells #[.int .i64 k1,.string s1,.slice a l1.length cap] 25)))
   clear hm hn hq
   go_wp2_with fail
   refine (NN.out _ P1.out).mono ?_
   rintro e w2 ⟨rfl,hb2⟩
   have M2:=(M1.out.alloc (.cells #[.int .i64 k1,.string s1,.slice a l1.length cap] 25)).later (hb2.mono (by simp;have:=M1.out.size;omega))
   go_wp2
   rw [←HR.out]
   exact ⟨rfl,rfl,M2,Hq.out⟩
end Go.Proofs.YtgjijidlaghlmaaGreatDoor
