/- Layer 2: SyntaxChecks, the given statement proved: for every two trees that can be read as finite data, where the program's two tables are laid as its text lays them: the card's tie says that they are. -/
import Derived.Test.YtcimcjmdkjajfaaGreatDoorPkQa
import Derived.Test.YtcimcjmdkjajfaaGreatDoorPkQb
import Derived.Test.YtcimcjmdkjajfaaGreatDoorPkQc
import Derived.Test.YtcimcjmdkjajfaaGreatDoorPkQd
import Derived.Test.YtcimcjmdkjajfaaGreatDoorPkQe
import Derived.Test.YtcimcjmdkjajfaaGreatDoorPkQf
import Derived.Test.YtcimcjmdkjajfaaGreatDoorRows
import Derived.Test.YtcimcjmdkjajfaaGreatDoorProg
import Derived.WalkKit
import Derived.WalkSpells
import Derived.WalkLawsBesides
import Derived.Lib.Hide
import Derived.Below
import Derived.Deep.QuietTactic
import Derived.Deep.DeepCutAuto
import Derived.Deep.RegionWith
import Derived.Deep.RegionHeld3
import Derived.Deep.DeepFit
import Derived.BigQuiet
import Derived.Shelf.Strings.Builder1
import Derived.Shelf.Small.Strs
import Derived.Shelf.Strings.BuilderF
import Derived.Shelf.Strings.BuilderK
import Derived.Shelf.Utf8.RuneCount
import Derived.Shelf.LaysM
import Derived.Shelf.Strconv.Clone
import Derived.Shelf.Strings.Search1
import Derived.Shelf.Strings.Search2
import Derived.Shelf.Strings.Search3
import Derived.Shelf.Strings.Cut
import Derived.Shelf.Strings.Count
import Derived.Shelf.Strings.Shaped
import Derived.Shelf.Strings.Prefix
import Derived.Shelf.Strings.Split
import Derived.Shelf.Strings.RuneCount
import Derived.Shelf.Unicode.DecodeSlow
import Derived.Shelf.Slices.Turned
import Derived.Deep.WholeRow
import Derived.Laws.EntriesVeiled
import Derived.RangeFuncRecord
import Derived.RangeFuncNested
import Derived.RangeFuncCalls
import Derived.RangeFuncLeaves
import Derived.RecoverIn
import Derived.OwnWalkIn
import Derived.TacticsInMore
import Derived.LoopNIn
import Derived.LoopIn
import Derived.Deep.AppendLies
import Derived.Maps.OwnSet
import Derived.StillTailTactics
import Derived.WalkSmall
import Derived.Carry
import Derived.Recover
import Derived.Defers
import Derived.RegionDies
import Derived.Deep.RegionLaw
import Derived.Lib.IndexLaws
import Derived.Deep.DeepAppendRoom
import Derived.ArgAppend
import Derived.Shelf.Abstract
import Derived.Lib.BufferRead
import Derived.Maps.AppendAt
import Derived.Lib.AppendStr
import Derived.Laws.Externs
import Derived.Lib.OthersKept
import Derived.Lib.FrozenHead
import Derived.Lib.SlicesS
import Derived.Stop.RegionWithIn
import Derived.BigGuardIn
import Derived.Test.YtcimcjmdkjajfaaGreatDoorChecked
import Derived.ProofKit
import Derived.SizedLaws
import Derived.ReadAgain
import Derived.Deep.Slices
import Derived.Deep.Fields
import Derived.ChangeSame
import Derived.LaidMore
import Derived.OpenShut
import Derived.Stop.Joined
import Derived.Test.YtcimcjmdkjajfaaGreatDoorTie
import Derived.Test.YtcimcjmdkjajfaaGreatDoorCards
import Derived.SevenTiedAt
namespace Go.Proofs.YtcimcjmdkjajfaaGreatDoor
open Go.RowKit
theorem ret_bool {a b:Bool} (h:a=b):Ending.returned (.bool a)=Ending.returned (.bool b):=by rw [h]
set_option maxRecDepth 100000 in
set_option maxHeartbeats 400000 in
theorem rSmall (c:UInt8) (w:World):Calls Tryz.prog 159 #[.int .u8 c.toNat] w fun e w'=>e = .returned (.bool (Lx.small c))∧w=w':=by
 have hby:=byte_lt c
 obtain ⟨V,hV⟩:∃ V,Lx.small c=V:=⟨_,rfl⟩
 rw [hV]
 unfold Lx.small at hV
 have HV:=qh hV
 clear hV
 by_cases h1:(97:Int)≤(c.toNat:Int)
 ·by_cases h2:(c.toNat:Int)≤122
  ·go_enter Tryz.func159,Tryz.ntmps159
   go_wp2
   go_ret
   exact ⟨ret_bool (by rw [← HV.out]; have : 97 ≤ c.toNat := by omega
                       have : c.toNat ≤ 122 := by omega
                       simp [*]), rfl⟩
  ·go_enter Tryz.func159,Tryz.ntmps159
   go_wp2
   go_ret
   exact ⟨ret_bool (by rw [← HV.out]; have : ¬ c.toNat ≤ 122 := by omega
                       simp; omega), rfl⟩
 ·go_enter Tryz.func159,Tryz.ntmps159
  go_wp2
  go_ret
  exact ⟨ret_bool (by rw [←HV.out];simp;omega),rfl⟩
set_option maxRecDepth 100000 in
set_option maxHeartbeats 400000 in
theorem rCapital (c:UInt8) (w:World):Calls Tryz.prog 157 #[.int .u8 c.toNat] w fun e w'=>e = .returned (.bool (Lx.capital c))∧w=w':=by
 have hby:=byte_lt c
 obtain ⟨V,hV⟩:∃ V,Lx.capital c=V:=⟨_,rfl⟩
 rw [hV]
 unfold Lx.capital at hV
 have HV:=qh hV
 clear hV
 by_cases h1:(65:Int)≤(c.toNat:Int)
 ·by_cases h2:(c.toNat:Int)≤90
  ·go_enter Tryz.func157,Tryz.ntmps157
   go_wp2
   go_ret
   exact ⟨ret_bool (by rw [←HV.out];simp;omega),rfl⟩
  ·go_enter Tryz.func157,Tryz.ntmps157
   go_wp2
   go_ret
   exact ⟨ret_bool (by rw [←HV.out];simp;omega),rfl⟩
 ·go_enter Tryz.func157,Tryz.ntmps157
  go_wp2
  go_ret
  exact ⟨ret_bool (by rw [←HV.out];simp;omega),rfl⟩
theorem part_of (c:UInt8):∀ b:Bool,b=(Lx.small c || Lx.capital c || (decide (48≤c.toNat) && decide (c.toNat≤57)) || decide (c.toNat=95) || decide (c.toNat=39))→b=Lx.part c:=fun _ h=>h
set_option maxRecDepth 100000 in
set_option maxHeartbeats 1000000 in
theorem rPart (c:UInt8) (w:World):Calls Tryz.prog 162 #[.int .u8 c.toNat] w fun e w'=>e = .returned (.bool (Lx.part c))∧w=w':=by
 have hby:=byte_lt c
 have CS:=qh (fun w=>rSmall c w)
 have CC:=qh (fun w=>rCapital c w)
 have HV:=qh (part_of c)
 obtain ⟨V,hV⟩:∃ V,Lx.part c=V:=⟨_,rfl⟩
 obtain ⟨S,hS⟩:∃ S,Lx.small c=S:=⟨_,rfl⟩
 obtain ⟨C,hC⟩:∃ C,Lx.capital c=C:=⟨_,rfl⟩
 rw [hV] at HV ⊢
 simp only [hS,hC] at HV CS CC
 clear hV hS hC
 go_enter Tryz.func162,Tryz.ntmps162
 go_wp2_with fail
 refine (CS.out _).mono ?_
 rintro e w1 ⟨rfl,rfl⟩
 clear CS
 cases S
 ·go_wp2_with fail
  refine (CC.out _).mono ?_
  rintro e w1 ⟨rfl,rfl⟩
  clear CC
  cases C
  ·by_cases h3:c.toNat=95
   ·have HN:=qh h3
    have h1:(48:Int)≤(c.toNat:Int):=by omega
    have h2:¬ ((c.toNat:Int)≤57):=by omega
    have h3':((c.toNat:Int)==95)=true:=by rw [h3];rfl
    clear h3
    go_wp2
    go_ret
    exact ⟨ret_bool (HV.out _ (by rw [HN.out];rfl)),rfl⟩
   ·have h3':((c.toNat:Int)==95)=false:=by rw [beq_eq_false_iff_ne];omega
    by_cases h4:c.toNat=39
    ·have HN:=qh h4
     have h1:¬ ((48:Int)≤(c.toNat:Int)):=by omega
     have h4':((c.toNat:Int)==39)=true:=by rw [h4];rfl
     clear h3 h4
     go_wp2
     go_ret
     exact ⟨ret_bool (HV.out _ (by rw [HN.out];rfl)),rfl⟩
    ·have h4':((c.toNat:Int)==39)=false:=by rw [beq_eq_false_iff_ne];omega
     have HN:=qh (And.intro h3 h4)
     by_cases h1:48≤c.toNat
     ·have h1':(48:Int)≤(c.toNat:Int):=by omega
      by_cases h2:c.toNat≤57
      ·have h2':(c.toNat:Int)≤57:=by omega
       have HM:=qh (And.intro h1 h2)
       clear h1 h2 h3 h4
       go_wp2
       go_ret
       exact ⟨ret_bool (HV.out _ (by rw [decide_eq_true HM.out.1,decide_eq_true HM.out.2];rfl)),rfl⟩
      ·have h2':¬ ((c.toNat:Int)≤57):=by omega
       have HM:=qh h2
       clear h1 h2 h3 h4
       go_wp2
       go_ret
       exact ⟨ret_bool (HV.out _ ((decide_eq_false (show ¬ ((c.toNat:Int)≤57) by omega)).trans (by rw [decide_eq_false HM.out,decide_eq_false HN.out.1,decide_eq_false HN.out.2,Bool.and_false];rfl))),rfl⟩
     ·have h1':¬ ((48:Int)≤(c.toNat:Int)):=by omega
      have HM:=qh h1
      clear h1 h3 h4
      go_wp2
      go_ret
      exact ⟨ret_bool (HV.out _ (by rw [decide_eq_false HM.out,decide_eq_false HN.out.1,decide_eq_false HN.out.2];rfl)),rfl⟩
  ·go_wp2
   go_ret
   exact ⟨ret_bool (HV.out _ (by simp)),rfl⟩
 ·go_wp2
  go_ret
  exact ⟨ret_bool (HV.out _ (by simp)),rfl⟩
end Go.Proofs.YtcimcjmdkjajfaaGreatDoor
namespace Go.Proofs.YtcimcjmdkjajfaaGreatDoor
open Go.RowKit
set_option maxRecDepth 100000 in
set_option maxHeartbeats 400000 in
theorem rRun (s:ByteArray) (i:Nat) (w:World) (hs:s.size < maxLen) (hi:i≤s.size) :
  Calls Tryz.prog 158 #[.string s,.int .i64 i] w fun e w'=>e = .returned (.int .i64 (Lx.runTo (bs s) i))∧w=w':=by
 unfold maxLen at hs
 have Hstart:=qh (rfl:Lx.runTo (bs s) i=Lx.runTo (bs s) i)
 obtain ⟨R,hR⟩:∃ R,Lx.runTo (bs s) i=R:=⟨_,rfl⟩
 have HR:=qh hR
 rw [hR]
 clear hR Hstart
 go_enter Tryz.func158,Tryz.ntmps158
 go_wp2
 go_loopw [1] (fun v wr=>∃ k:Nat,k≤s.size∧v = .int .i64 k∧Hid (Lx.runTo (bs s) k=R)∧wr=w) (fun v _=>s.size - (intOf v).toNat)
 case atStart=>exact ⟨i,hi,rfl,HR,rfl⟩
 case round =>
  obtain ⟨k,hk,rfl,hrun,rfl⟩:=hrel
  by_cases hlt:k < s.size
  ·have hlt':(k:Int) < (s.size:Int):=by omega
   have hby:=byte_lt s[k]
   have hst:=Lx.runTo_step (l:=bs s) (k:=k) (by rw [bs_len];exact hlt)
   rw [bs_get hlt] at hst
   have C:=qh (fun w=>rPart s[k] w)
   obtain ⟨V,hV⟩:∃ V,Lx.part s[k]=V:=⟨_,rfl⟩
   rw [hV] at C hst
   have HS:=qh hst
   clear hst hV
   go_wp2_with fail
   refine (C.out _).mono ?_
   rintro e w1 ⟨rfl,rfl⟩
   clear C
   cases V
   ·go_wp2
    go_ret
    exact ⟨ret_int (by rw [←hrun.out,HS.out];rfl),rfl⟩
   ·go_wp2
    go_roundw
    case rel=>exact ⟨k+1,hlt,by push_cast;rfl,by rw [←hrun.out,HS.out];exact qh rfl,by trivial⟩
    case measure=>simp [intOf];omega
  ·have hlt':¬ ((k:Int) < (s.size:Int)):=by omega
   have he:Lx.runTo (bs s) k=k:=Lx.runTo_end (by rw [bs_len];omega)
   have HE:=qh he
   clear he
   go_wp2
   go_ret
   exact ⟨ret_int (by rw [←hrun.out,HE.out]),rfl⟩
set_option maxRecDepth 100000 in
set_option maxHeartbeats 400000 in
theorem rBlank (c:UInt8) (w:World):Calls Tryz.prog 106 #[.int .u8 c.toNat] w fun e w'=>e = .returned (.bool (Lx.blank c))∧w=w':=by
 have hby:=byte_lt c
 have HV:Hid (Lx.blank c=(decide (c.toNat=32) || decide (c.toNat=9) || decide (c.toNat=10))):=qh rfl
 obtain ⟨V,hV⟩:∃ V,Lx.blank c=V:=⟨_,rfl⟩
 rw [hV] at HV ⊢
 clear hV
 by_cases h1:c.toNat=32
 ·have HN:=qh h1
  have h1':((c.toNat:Int)==32)=true:=by rw [h1];rfl
  clear h1
  go_enter Tryz.func106,Tryz.ntmps106
  go_wp2
  go_ret
  exact ⟨ret_bool (by rw [HV.out,HN.out];rfl),rfl⟩
 ·have h1':((c.toNat:Int)==32)=false:=by rw [beq_eq_false_iff_ne];omega
  by_cases h2:c.toNat=9
  ·have HN:=qh h2
   have h2':((c.toNat:Int)==9)=true:=by rw [h2];rfl
   clear h1 h2
   go_enter Tryz.func106,Tryz.ntmps106
   go_wp2
   go_ret
   exact ⟨ret_bool (by rw [HV.out,HN.out];rfl),rfl⟩
  ·have h2':((c.toNat:Int)==9)=false:=by rw [beq_eq_false_iff_ne];omega
   by_cases h3:c.toNat=10
   ·have HN:=qh h3
    have h3':((c.toNat:Int)==10)=true:=by rw [h3];rfl
    clear h1 h2 h3
    go_enter Tryz.func106,Tryz.ntmps106
    go_wp2
    go_ret
    exact ⟨ret_bool (by rw [HV.out,HN.out];rfl),rfl⟩
   ·have h3':((c.toNat:Int)==10)=false:=by rw [beq_eq_false_iff_ne];omega
    have HN:=qh (And.intro h1 (And.intro h2 h3))
    clear h1 h2 h3
    go_enter Tryz.func106,Tryz.ntmps106
    go_wp2
    go_ret
    exact ⟨ret_bool (by rw [HV.out,decide_eq_false HN.out.1,decide_eq_false HN.out.2.1,decide_eq_false HN.out.2.2];rfl),rfl⟩
theorem isAt_pre (s p:ByteArray) (i:Nat) (_h:i+p.size≤s.size):((s.extract i (i+p.size)).toList==p.toList)=Lx.pre (bs s) i (bs p):=by
 rw [ByteArray.toList_eq,ByteArray.toList_eq,show (s.extract i (i+p.size)).data.toList=Lx.slice (bs s) i (i+p.size) from bs_extract s i _]
 show (Lx.slice (bs s) i (i+p.size)==bs p)=_
 unfold Lx.pre Lx.slice
 rw [Nat.add_sub_cancel_left,←bs_len p,Bool.eq_iff_iff,List.isPrefixOf_iff_prefix,List.prefix_iff_eq_take,beq_iff_eq]
 exact ⟨fun h=>h.symm,fun h=>h.symm⟩
theorem isAt_not (s p:ByteArray) (i:Nat) (hi:i≤s.size) (h:¬ i+p.size≤s.size):Lx.pre (bs s) i (bs p)=false:=by
 unfold Lx.pre
 rw [Bool.eq_false_iff]
 intro e
 rw [List.isPrefixOf_iff_prefix] at e
 have:=e.length_le
 rw [List.length_drop,bs_len,bs_len] at this
 omega
set_option maxRecDepth 100000 in
set_option maxHeartbeats 400000 in
theorem rIsAt (s p:ByteArray) (i:Nat) (w:World) (hs:s.size≤100000) (hp:p.size≤100000) (hi:i≤s.size) :
  Calls Tryz.prog 160 #[.string s,.int .i64 i,.string p] w fun e w'=>e = .returned (.bool (Lx.pre (bs s) i (bs p)))∧w=w':=by
 by_cases h:i+p.size≤s.size
 ·have h':(i:Int)+(p.size:Int)≤(s.size:Int):=by omega
  have HS:=qh (isAt_pre s p i h)
  obtain ⟨V,hV⟩:∃ V,Lx.pre (bs s) i (bs p)=V:=⟨_,rfl⟩
  rw [hV] at HS ⊢
  clear hV
  go_enter Tryz.func160,Tryz.ntmps160
  go_wp2
  go_ret
  exact ⟨ret_bool HS.out,rfl⟩
 ·have h':¬ ((i:Int)+(p.size:Int)≤(s.size:Int)):=by omega
  have HS:=qh (isAt_not s p i hi h)
  obtain ⟨V,hV⟩:∃ V,Lx.pre (bs s) i (bs p)=V:=⟨_,rfl⟩
  rw [hV] at HS ⊢
  clear hV
  go_enter Tryz.func160,Tryz.ntmps160
  go_wp2
  go_ret
  exact ⟨ret_bool HS.out.symm,rfl⟩
end Go.Proofs.YtcimcjmdkjajfaaGreatDoor
namespace Go.Proofs.YtcimcjmdkjajfaaGreatDoor
open Go.RowKit
def signsB:List ByteArray:=[⟨#[45,111]⟩,⟨#[111,45]⟩,⟨#[61,62]⟩,⟨#[60,61]⟩,⟨#[45,62]⟩,⟨#[42]⟩,⟨#[38]⟩,⟨#[43]⟩,⟨#[33]⟩,⟨#[123]⟩,⟨#[125]⟩,⟨#[40]⟩,⟨#[41]⟩,⟨#[46]⟩,⟨#[44]⟩,⟨#[58]⟩,⟨#[92]⟩]
theorem strSl_lit (w:World) (L:List ByteArray) (t:TypeId):StrSl (w.alloc (.cells (L.map Value.string).toArray t)) (.slice (some ⟨w.heap.size,0,none⟩) L.length L.length) L:=by
 refine ⟨_,L.length,rfl,fun _=>⟨_,0,rfl,fun i hi=>?_⟩⟩
 rw [World.cell?_alloc_at _ _ _ _ rfl]
 simp [hi]
set_option maxRecDepth 100000 in
set_option maxHeartbeats 400000 in
theorem rWords (w:World):Calls Tryz.prog 161 #[] w fun e w'=>e = .returned (.slice (some ⟨w.heap.size,0,none⟩) 17 17)∧w'=w.alloc (.cells (wordsB.map Value.string).toArray 9):=by
 go_enter Tryz.func161,Tryz.ntmps161
 go_wp2
 go_ret
 exact ⟨rfl,rfl⟩
set_option maxRecDepth 100000 in
set_option maxHeartbeats 400000 in
theorem rSigns (w:World):Calls Tryz.prog 163 #[] w fun e w'=>e = .returned (.slice (some ⟨w.heap.size,0,none⟩) 17 17)∧w'=w.alloc (.cells (signsB.map Value.string).toArray 9):=by
 go_enter Tryz.func163,Tryz.ntmps163
 go_wp2
 go_ret
 exact ⟨rfl,rfl⟩
end Go.Proofs.YtcimcjmdkjajfaaGreatDoor
namespace Go.Proofs.YtcimcjmdkjajfaaGreatDoor
open Go.RowKit
def kindJ:Option (Nat×Nat)→Value
 | some (k,j)=>.tuple #[.int .i64 k,.int .i64 j]
 | none=>.tuple #[.int .i64 0,.int .i64 0]
set_option maxRecDepth 100000 in
set_option maxHeartbeats 1000000 in
theorem rToken_capital (s:ByteArray) (i:Nat) (w:World) (hs:s.size≤100000) (hi:i < s.size) (hc:Lx.capital s[i]=true) :
  Calls Tryz.prog 108 #[.string s,.int .i64 i] w fun e w'=>e = .returned (kindJ (Lx.tokAt (bs s) i))∧Below w.heap.size w w':=by
 have hsm:Lx.small s[i]=false:=by
  simp only [Lx.capital,Bool.and_eq_true,decide_eq_true_eq] at hc
  simp only [Lx.small,Bool.and_eq_false_iff,decide_eq_false_iff_not];omega
 have h0:(bs s)[i]?=some s[i]:=by rw [List.getElem?_eq_getElem (by rw [bs_len];exact hi),bs_get hi]
 have ht:Lx.tokAt (bs s) i=some (2,Lx.runTo (bs s) i):=by simp only [Lx.tokAt,h0,hsm,hc];rfl
 rw [ht]
 have hby:=byte_lt s[i]
 have CC:=qh (fun w=>rCapital s[i] w)
 rw [hc] at CC
 have CR:=qh (fun w=>rRun s i w (by unfold maxLen;omega) (by omega))
 have hi':(i:Int) < (s.size:Int):=by omega
 clear ht h0 hsm hc
 go_enter Tryz.func108,Tryz.ntmps108
 go_wp2_with fail
 refine (CC.out _).mono ?_
 rintro e w1 ⟨rfl,rfl⟩
 go_wp2_with fail
 refine (CR.out _).mono ?_
 rintro e w1 ⟨rfl,rfl⟩
 go_wp2
 go_ret2
 exact ⟨rfl,Below.refl _ _⟩
theorem words_has (x:ByteArray):anyEq wordsB x=Lx.words.contains (bs x):=by
 unfold anyEq wordsB
 rw [List.any_map,Bool.eq_iff_iff,List.any_eq_true,List.contains_iff_mem]
 constructor
 ·rintro ⟨l,hl,h⟩
  simp only [Function.comp_apply,ByteArray.toList_eq,beq_iff_eq] at h
  rw [show bs x=l from h.symm];exact hl
 ·intro h
  exact ⟨_,h,by simp only [Function.comp_apply,ByteArray.toList_eq,beq_iff_eq];rfl⟩
theorem bytes_eq (x:ByteArray) (l:Lx.Bs):(x.toList==l)=decide (bs x=l):=by
 rw [ByteArray.toList_eq,Bool.eq_iff_iff,beq_iff_eq,decide_eq_true_eq];rfl
theorem pre_dash (l:Lx.Bs) (j:Nat):Lx.pre l j [45]=decide (l[j]?=some 45):=by
 unfold Lx.pre
 cases h:l.drop j with
 | nil =>
  have:l[j]?=none:=by rw [List.getElem?_eq_none_iff];exact List.drop_eq_nil_iff.1 h
  rw [this];rfl
 | cons c r =>
  have:l[j]?=some c:=by have:=congrArg (fun x=>x[0]?) h;simpa using this
  rw [this]
  by_cases h45:c=45
  ·subst h45;simp [List.isPrefixOf]
  ·have:(45==c)=false:=by rw [beq_eq_false_iff_ne];exact fun e=>h45 e.symm
   simp [List.isPrefixOf,this,h45]
set_option maxRecDepth 100000 in
set_option maxHeartbeats 2000000 in
theorem rToken_small (s:ByteArray) (i:Nat) (w:World) (hs:s.size≤100000) (hi:i < s.size) (hsm:Lx.small s[i]=true) :
  Calls Tryz.prog 108 #[.string s,.int .i64 i] w fun e w'=>e = .returned (kindJ (Lx.tokAt (bs s) i))∧Below w.heap.size w w':=by
 have hc:Lx.capital s[i]=false:=by
  simp only [Lx.small,Bool.and_eq_true,decide_eq_true_eq] at hsm
  simp only [Lx.capital,Bool.and_eq_false_iff,decide_eq_false_iff_not];omega
 have HT:=qh (tok_small (e:=Lx.nameTo (bs s) i) hi hsm rfl)
 have hnl:=Lx.nameTo_le (l:=bs s) (i:=i) (by rw [bs_len];omega)
 have hrl:=Lx.runTo_le (l:=bs s) (i:=i) (by rw [bs_len];omega)
 rw [bs_len] at hnl hrl
 have HD:Hid (Lx.nameTo (bs s) i=if (bs s)[Lx.runTo (bs s) i]?=some 64∧((bs s)[Lx.runTo (bs s) i+1]?.map Lx.small)=some true then Lx.runTo (bs s) (Lx.runTo (bs s) i+1) else Lx.runTo (bs s) i):=qh rfl
 obtain ⟨e,he⟩:∃ e,Lx.nameTo (bs s) i=e:=⟨_,rfl⟩
 obtain ⟨T,hT⟩:∃ T,Lx.tokAt (bs s) i=T:=⟨_,rfl⟩
 have CR:=qh (fun w=>rRun s i w (by unfold maxLen;omega) (by omega))
 obtain ⟨j,hj⟩:∃ j,Lx.runTo (bs s) i=j:=⟨_,rfl⟩
 have hby:=byte_lt s[i]
 have CC:=qh (fun w=>rCapital s[i] w)
 have CM:=qh (fun w=>rSmall s[i] w)
 rw [hc] at CC
 rw [hsm] at CM
 rw [he] at HT hnl HD
 rw [hT] at HT ⊢
 rw [hj] at hrl HD CR
 have hi':(i:Int) < (s.size:Int):=by omega
 clear hc hsm he hT hj
 go_enter Tryz.func108,Tryz.ntmps108
 go_wp2_with fail
 refine (CC.out _).mono ?_
 rintro e1 w1 ⟨rfl,rfl⟩
 go_wp2_with fail
 refine (CM.out _).mono ?_
 rintro e1 w1 ⟨rfl,rfl⟩
 go_wp2_with fail
 refine (CR.out _).mono ?_
 rintro e1 w1 ⟨rfl,rfl⟩
 clear CC CM CR
 obtain ⟨X,hX⟩:∃ X,decide ((bs s)[j]?=some 64∧((bs s)[j+1]?.map Lx.small)=some true)=X:=⟨_,rfl⟩
 have HX:=qh hX
 clear hX
 go_upto_region 5 with fail
 go_cut [40] (fun v wx=>v = .bool X∧wx=w)
 case first =>
  by_cases h1:j+1 < s.size
  ·have h1':(j:Int)+1 < (s.size:Int):=by omega
   have hj':(j:Int) < (s.size:Int):=by omega
   have g0:(bs s)[j]?=some (s[j]'(by omega)):=by rw [List.getElem?_eq_getElem (by rw [bs_len];omega),bs_get (by omega)]
   have g1:(bs s)[j+1]?=some s[j+1]:=by rw [List.getElem?_eq_getElem (by rw [bs_len];omega),bs_get (by omega)]
   rw [g0,g1] at HX
   have hb0:=byte_lt (s[j]'(by omega))
   have hb1:=byte_lt s[j+1]
   clear g0 g1
   by_cases h2:(s[j]'(by omega))=64
   ·have h2':(((s[j]'(by omega)).toNat:Int)==64)=true:=by rw [h2];rfl
    have HX2:Hid (X=Lx.small s[j+1]):=qh (by rw [←HX.out,h2];simp)
    have CM:=qh (fun w=>rSmall s[j+1] w)
    obtain ⟨V,hV⟩:∃ V,Lx.small s[j+1]=V:=⟨_,rfl⟩
    rw [hV] at CM HX2
    clear h2 hV HX
    go_wp2_with fail
    refine (CM.out _).mono ?_
    rintro e1 w1 ⟨rfl,rfl⟩
    go_wp2
    go_meet
    exact ⟨by rw [HX2.out],rfl⟩
   ·have h2':(((s[j]'(by omega)).toNat:Int)==64)=false:=by
     rw [beq_eq_false_iff_ne];intro e;exact h2 (by rw [←UInt8.toNat_inj];exact Int.ofNat_inj.1 e)
    have HX2:Hid (X=false):=qh (by rw [←HX.out];simp [h2])
    clear h2 HX
    go_wp2
    go_meet
    exact ⟨by rw [HX2.out],rfl⟩
  ·have h1':¬ ((j:Int)+1 < (s.size:Int)):=by omega
   have HX2:Hid (X=false):=qh (by
    have g1:(bs s)[j+1]?=none:=by rw [List.getElem?_eq_none_iff,bs_len];omega
    rw [←HX.out,g1];simp)
   clear HX
   go_wp2
   go_meet
   exact ⟨by rw [HX2.out],rfl⟩
 case rest =>
  obtain ⟨rfl,rfl⟩:=hcut
  go_upto_if 40 with fail
  go_cut [6] (fun v wx=>v = .int .i64 e∧wx=wc)
  case first =>
   cases X
   ·have HE:Hid (e=j):=qh (by rw [HD.out,if_neg (of_decide_eq_false HX.out)])
    go_wp2
    go_meet
    exact ⟨by rw [HE.out],rfl⟩
   ·have hx:=of_decide_eq_true HX.out
    have hj1:j+1 < s.size:=by
     rcases Nat.lt_or_ge (j+1) s.size with h | h
     ·exact h
     ·have g1:(bs s)[j+1]?=none:=by rw [List.getElem?_eq_none_iff,bs_len];exact h
      rw [g1] at hx;simp at hx
    have HE:Hid (e=Lx.runTo (bs s) (j+1)):=qh (by rw [HD.out,if_pos hx])
    have CR:=qh (fun w=>rRun s (j+1) w (by unfold maxLen;omega) (by omega))
    rw [←HE.out] at CR
    clear hx
    have ej:(((j+1:Nat)):Int)=(j:Int)+1:=by omega
    rw [ej] at CR
    clear ej
    go_wp2_with fail
    refine (CR.out _).mono ?_
    rintro e1 w1 ⟨rfl,rfl⟩
    go_wp2
    go_meet
    exact ⟨rfl,rfl⟩
  case rest =>
   obtain ⟨rfl,rfl⟩:=hcut
   clear HD HX
   have CI:=qh (fun w=>rIsAt s ⟨#[45]⟩ e w hs (by decide) hnl.2)
   rw [show bs ⟨#[45]⟩=[45] from rfl,pre_dash] at CI
   obtain ⟨O,hO⟩:∃ O,decide (bs (s.extract i e)=[111])=O:=⟨_,rfl⟩
   obtain ⟨M,hM⟩:∃ M,decide ((bs s)[e]?=some 45)=M:=⟨_,rfl⟩
   have hO2:((s.extract i e).toList==[111])=O:=by rw [bytes_eq];exact hO
   rw [hM] at CI
   have HO:=qh hO
   have HM:=qh hM
   clear hO hM
   have hie:(i:Int)≤(e:Int):=by omega
   have hes:(e:Int)≤(s.size:Int):=by omega
   go_upto_region 7 with fail
   go_cut [54] (fun v wx=>v = .bool (O && M)∧wx=wc)
   case first =>
    cases O
    ·go_wp2
     go_meet
     exact ⟨rfl,rfl⟩
    ·go_wp2_with fail
     refine (CI.out _).mono ?_
     rintro e1 w1 ⟨rfl,rfl⟩
     go_wp2
     go_meet
     exact ⟨by simp,rfl⟩
   case rest =>
    obtain ⟨rfl,rfl⟩:=hcut
    clear CI hO2
    cases hOM:(O && M)
    ·have HT2:Hid (T=if Lx.words.contains (bs (s.extract i e))=true then some (4,e) else some (1,e)):=qh (by
      rw [HT.out,if_neg]
      rintro ⟨h1,h2⟩
      rw [←HO.out,←HM.out,decide_eq_true h1,decide_eq_true h2] at hOM
      cases hOM)
     clear HT hOM
     go_upto_region 9 with fail
     obtain ⟨Y,hY⟩:∃ Y,Lx.words.contains (bs (s.extract i e))=Y:=⟨_,rfl⟩
     have HY:=qh (words_has (s.extract i e))
     rw [hY] at HT2 HY
     clear hY
     go_cut [63] (fun v wx=>v = .bool Y∧Hid (Below wc.heap.size wc wx))
     case first =>
      have CX:=qh (rIndex (.slice (some ⟨wc.heap.size,0,none⟩) 17 17) wordsB (s.extract i e) (wc.alloc (.cells (wordsB.map Value.string).toArray 9)).drew (strSl_lit wc wordsB 9) (by decide))
      have hbw:Hid (Below wc.heap.size wc (wc.alloc (.cells (wordsB.map Value.string).toArray 9)).drew):=(((Below.refl _ wc).alloc (Nat.le_refl _) _).drew)
      have CW:=qh (fun w=>rWords w)
      generalize wordsB.map Value.string=WV at CX hbw CW
      go_region_with (first
       | (go_at_call 161;refine (CW.out _).mono ?_;rintro e1 w1 ⟨rfl,rfl⟩)
       | (go_at_call 37;refine CX.out.mono ?_;rintro e1 w1 ⟨⟨m,rfl,hm⟩,rfl⟩))
      all_goals go_wp2
      all_goals go_meet
      all_goals exact ⟨by rw [HY.out],hbw⟩
     case rest =>
      obtain ⟨rfl,hbx⟩:=hcut
      cases Y
      ·go_wp2
       go_ret2
       exact ⟨by rw [HT2.out];rfl,hbx.out⟩
      ·go_wp2
       go_ret2
       exact ⟨by rw [HT2.out];rfl,hbx.out⟩
    ·have HT2:Hid (T=some (3,e+1)):=qh (by
      rw [HT.out,if_pos]
      rw [Bool.and_eq_true] at hOM
      exact ⟨of_decide_eq_true (HO.out.trans hOM.1),of_decide_eq_true (HM.out.trans hOM.2)⟩)
     clear HT hOM
     go_wp2
     go_ret2
     exact ⟨by rw [HT2.out];rfl,Below.refl _ _⟩
end Go.Proofs.YtcimcjmdkjajfaaGreatDoor
namespace Go.Proofs.YtcimcjmdkjajfaaGreatDoor
open Go.RowKit
theorem pre_at1 (l:Lx.Bs) (j:Nat) (x:UInt8):Lx.pre l j [x]=decide (l[j]?=some x):=by
 unfold Lx.pre
 cases h:l.drop j with
 | nil =>
  have:l[j]?=none:=by rw [List.getElem?_eq_none_iff];exact List.drop_eq_nil_iff.1 h
  rw [this];rfl
 | cons c r =>
  have:l[j]?=some c:=by have:=congrArg (fun x=>x[0]?) h;simpa using this
  rw [this]
  by_cases h45:c=x
  ·subst h45;simp [List.isPrefixOf]
  ·have:(x==c)=false:=by rw [beq_eq_false_iff_ne];exact fun e=>h45 e.symm
   simp [List.isPrefixOf,this,h45]
def sgnF (l:Lx.Bs) (i:Nat):List ByteArray→Option (Nat×Nat)
 | []=>none
 | p :: r=>if Lx.pre l i (bs p) then some (3,i+p.size) else sgnF l i r
theorem tok_sign {l:Lx.Bs} {i:Nat} {c:UInt8} (h0:l[i]?=some c) (hs:Lx.small c=false) (hc:Lx.capital c=false) (hd:Lx.pre l i [45,111]=false) :
  Lx.tokAt l i=sgnF l i (signsB.drop 2):=by
 have e1:Lx.tokAt l i=if Lx.signB c then some (3,i+1) else if Lx.isLong l i then some (3,i+2) else none:=by
  simp only [Lx.tokAt,h0,hs,hc];rfl
 have e2:Lx.isLong l i=(Lx.pre l i [45,62] || Lx.pre l i [61,62] || Lx.pre l i [60,61]):=by
  unfold Lx.isLong;rw [hd];simp
 rw [e1,e2]
 have hb:∀ x:UInt8,bs ⟨#[x]⟩=[x]:=fun _=>rfl
 have hb2:∀ x y:UInt8,bs ⟨#[x,y]⟩=[x,y]:=fun _ _=>rfl
 have hz:∀ x:UInt8,(⟨#[x]⟩:ByteArray).size=1:=fun _=>rfl
 have hz2:∀ x y:UInt8,(⟨#[x,y]⟩:ByteArray).size=2:=fun _ _=>rfl
 simp only [signsB,List.drop_succ_cons,List.drop_zero,sgnF,hb,hb2,hz,hz2,pre_at1,h0,Option.some.injEq]
 have hf:∀ a b:UInt8,Lx.pre l i [a,b]=true→c=a:=fun a b h=>by
  have:=(Lx.pre_two h).1;rw [h0] at this;exact Option.some.inj this
 by_cases h1:Lx.pre l i [61,62]=true
 ·have:=hf _ _ h1;subst this;rw [h1];simp [Lx.signB]
 ·by_cases h2:Lx.pre l i [60,61]=true
  ·have:=hf _ _ h2;subst this;rw [h2];simp [Lx.signB,h1]
  ·by_cases h3:Lx.pre l i [45,62]=true
   ·have:=hf _ _ h3;subst this;rw [h3];simp [Lx.signB,h1,h2]
   ·simp only [Bool.not_eq_true] at h1 h2 h3
    rw [h1,h2,h3]
    simp only [Lx.signB,Bool.or_false,Bool.false_eq_true,if_false,decide_eq_true_eq]
    by_cases hm:([42,38,43,33,123,125,40,41,46,44,58,92]:List UInt8).contains c=true
    ·rw [if_pos hm]
     rw [List.contains_iff_mem] at hm
     simp only [List.mem_cons,List.not_mem_nil,or_false] at hm
     rcases hm with h | h | h | h | h | h | h | h | h | h | h | h <;> subst h <;> rfl
    ·rw [if_neg hm]
     rw [List.contains_iff_mem] at hm
     simp only [List.mem_cons,List.not_mem_nil,or_false,not_or] at hm
     simp [hm]
theorem tok_dash {l:Lx.Bs} {i:Nat} (hd:Lx.pre l i [45,111]=true):Lx.tokAt l i=if (l[i+2]?.map Lx.part)=some true then none else some (3,i+2):=by
 obtain ⟨h0,h1⟩:=Lx.pre_two hd
 have hl1:i+1 < l.length:=(List.getElem?_eq_some_iff.1 h1).1
 have e1:Lx.tokAt l i=if Lx.isLong l i then some (3,i+2) else none:=by
  simp only [Lx.tokAt,h0];rfl
 have hn:∀ a b:UInt8,(a≠45∨b≠111)→Lx.pre l i [a,b]=false:=fun a b h=>by
  rw [Bool.eq_false_iff];intro e
  obtain ⟨g0,g1⟩:=Lx.pre_two e
  rw [h0] at g0;rw [h1] at g1
  rcases h with h | h
  ·exact h (Option.some.inj g0).symm
  ·exact h (Option.some.inj g1).symm
 have e2:Lx.isLong l i=(Lx.runTo l (i+1)==i+2):=by
  unfold Lx.isLong
  rw [hd,hn 45 62 (.inr (by decide)),hn 61 62 (.inl (by decide)),hn 60 61 (.inl (by decide))]
  simp
 have e3:Lx.runTo l (i+1)=Lx.runTo l (i+2):=by
  rw [Lx.runTo_step hl1,if_pos]
  rw [show l[i+1]=111 from (List.getElem?_eq_some_iff.1 h1).2];decide
 rw [e1,e2,e3]
 by_cases h2:i+2 < l.length
 ·rw [Lx.runTo_step h2,List.getElem?_eq_getElem h2]
  by_cases hp:Lx.part l[i+2]=true
  ·have hle:=(Lx.runTo_le (l:=l) (i:=i+2+1) (by omega)).1
   rw [if_pos hp,if_neg (by rw [beq_iff_eq];omega),if_pos (by simp [hp])]
  ·rw [if_neg hp,if_pos (by simp),if_neg (by simpa using hp)]
 ·rw [Lx.runTo_end (by omega),List.getElem?_eq_none (by omega)]
  simp
theorem signs_size:∀ j:Fin signsB.length,signsB[j].size≤2:=by decide +kernel
set_option maxRecDepth 100000 in
set_option maxHeartbeats 2000000 in
theorem rToken_sign (s:ByteArray) (i:Nat) (w:World) (hs:s.size≤100000) (hi:i < s.size) (hsm:Lx.small s[i]=false) (hc:Lx.capital s[i]=false) :
  Calls Tryz.prog 108 #[.string s,.int .i64 i] w fun e w'=>e = .returned (kindJ (Lx.tokAt (bs s) i))∧Below w.heap.size w w':=by
 have h0:(bs s)[i]?=some s[i]:=by rw [List.getElem?_eq_getElem (by rw [bs_len];exact hi),bs_get hi]
 have hby:=byte_lt s[i]
 have CC:=qh (fun w=>rCapital s[i] w)
 have CM:=qh (fun w=>rSmall s[i] w)
 have CI:=qh (fun w=>rIsAt s ⟨#[45,111]⟩ i w hs (by decide) (by omega))
 have HD:=qh (tok_dash (l:=bs s) (i:=i))
 have HN:=qh (tok_sign h0 hsm hc)
 rw [hc] at CC
 rw [hsm] at CM
 rw [show bs ⟨#[45,111]⟩=[45,111] from rfl] at CI
 obtain ⟨T,hT⟩:∃ T,Lx.tokAt (bs s) i=T:=⟨_,rfl⟩
 rw [hT] at HD HN ⊢
 obtain ⟨D,hD⟩:∃ D,Lx.pre (bs s) i [45,111]=D:=⟨_,rfl⟩
 rw [hD] at HD HN CI
 have hi':(i:Int) < (s.size:Int):=by omega
 clear hc hsm hT hD h0
 go_enter Tryz.func108,Tryz.ntmps108
 go_wp2_with fail
 refine (CC.out _).mono ?_
 rintro e1 w1 ⟨rfl,rfl⟩
 go_wp2_with fail
 refine (CM.out _).mono ?_
 rintro e1 w1 ⟨rfl,rfl⟩
 go_wp2_with fail
 refine (CI.out _).mono ?_
 rintro e1 w1 ⟨rfl,rfl⟩
 clear CC CM CI
 cases D
 ·have HT:=qh (HN.out rfl)
  clear HN HD
  go_wp2_with fail
  refine (rSigns _).mono ?_
  rintro e1 w1 ⟨rfl,rfl⟩
  have HS:=qh (strSl_lit w signsB 9)
  have HB:Hid (Below w.heap.size w (w.alloc (.cells (signsB.map Value.string).toArray 9))):=(Below.refl _ w).alloc (Nat.le_refl _) _
  generalize w.alloc (.cells (signsB.map Value.string).toArray 9)=W1 at HS HB ⊢
  obtain ⟨N,hN⟩:∃ N,w.heap.size=N:=⟨_,rfl⟩
  rw [hN] at HS ⊢
  clear hN
  have HC:Hid (∀ k,(h:k < signsB.length)→W1.cell? ⟨N,k,none⟩=some (.string signsB[k])):=qh fun k h=>by
   obtain ⟨a,cap,he,hl⟩:=HS.out
   simp only [Value.slice.injEq] at he
   obtain ⟨b,o,h1,h2⟩:=hl (by decide)
   rw [←he.1,Option.some.injEq,Addr.mk.injEq] at h1
   obtain ⟨rfl,rfl,_⟩:=h1
   have:=h2 k h
   rwa [Nat.zero_add] at this
  clear HS
  go_wp2_with fail
  go_loopw [8] (fun v wr=>∃ k:Nat,k≤17∧v = .int .i64 k∧Hid (T=sgnF (bs s) i (signsB.drop k))∧W1=wr) (fun v _=>17 - (intOf v).toNat)
  case atStart=>exact ⟨2,by omega,rfl,HT,rfl⟩
  case round =>
   obtain ⟨k,hk,rfl,hrun,rfl⟩:=hrel
   by_cases hlt:k < 17
   ·have hlt':(k:Int) < 17:=by omega
    have hkl:k < signsB.length:=hlt
    have x0:=HC.out k hkl
    have hst:sgnF (bs s) i (signsB.drop k)=if Lx.pre (bs s) i (bs signsB[k]) then some (3,i+signsB[k].size) else sgnF (bs s) i (signsB.drop (k+1)):=by
     rw [List.drop_eq_getElem_cons hkl];rfl
    have hsz:signsB[k].size≤2:=signs_size ⟨k,hkl⟩
    generalize signsB[k]=X at x0 hst hsz
    have CI:=qh (fun w=>rIsAt s X i w hs (by omega) (by omega))
    obtain ⟨V,hV⟩:∃ V,Lx.pre (bs s) i (bs X)=V:=⟨_,rfl⟩
    rw [hV] at CI hst
    have HST:=qh hst
    have nb:=block_lt_of_cell x0
    clear hst hV
    go_wp2_with fail
    refine (CI.out _).mono ?_
    rintro e1 w1 ⟨rfl,rfl⟩
    clear CI
    cases V
    ·go_wp2
     go_roundw
     case rel=>exact ⟨k+1,by omega,by push_cast;rfl,by rw [hrun.out,HST.out];exact qh rfl,by trivial⟩
     case measure=>simp [intOf];omega
    ·go_upto_region 21 with fail
     go_region
     all_goals go_wp2
     all_goals go_ret2
     all_goals exact ⟨by rw [hrun.out,HST.out];rfl,HB.out.drew⟩
   ·have hlt':¬ ((k:Int) < 17):=by omega
    have hz:sgnF (bs s) i (signsB.drop k)=none:=by rw [List.drop_of_length_le (show signsB.length≤k from by show 17≤k;omega)];rfl
    have HZ:=qh hz
    clear hz
    go_wp2
    go_ret2
    exact ⟨by rw [hrun.out,HZ.out];rfl,HB.out⟩
 ·have HT:=qh (HD.out rfl)
  clear HN HD
  by_cases h2:i+2 < s.size
  ·have h2':(i:Int)+2 < (s.size:Int):=by omega
   have hb2:=byte_lt s[i+2]
   have g2:(bs s)[i+2]?=some s[i+2]:=by rw [List.getElem?_eq_getElem (by rw [bs_len];omega),bs_get (by omega)]
   rw [g2] at HT
   have CP:=qh (fun w=>rPart s[i+2] w)
   obtain ⟨V,hV⟩:∃ V,Lx.part s[i+2]=V:=⟨_,rfl⟩
   rw [hV] at CP
   simp only [Option.map_some,hV] at HT
   clear g2 hV
   go_wp2_with fail
   refine (CP.out _).mono ?_
   rintro e1 w1 ⟨rfl,rfl⟩
   clear CP
   cases V
   ·go_wp2
    go_ret2
    exact ⟨by rw [HT.out];rfl,Below.refl _ _⟩
   ·go_wp2
    go_ret2
    exact ⟨by rw [HT.out];rfl,Below.refl _ _⟩
  ·have h2':¬ ((i:Int)+2 < (s.size:Int)):=by omega
   have g2:(bs s)[i+2]?=none:=by rw [List.getElem?_eq_none_iff,bs_len];omega
   rw [g2] at HT
   clear g2
   go_wp2
   go_ret2
   exact ⟨by rw [HT.out];rfl,Below.refl _ _⟩
end Go.Proofs.YtcimcjmdkjajfaaGreatDoor
namespace Go.Proofs.YtcimcjmdkjajfaaGreatDoor
open Go.RowKit
theorem rToken (s:ByteArray) (i:Nat) (w:World) (hs:s.size≤100000) (hi:i < s.size) :
  Calls Tryz.prog 108 #[.string s,.int .i64 i] w fun e w'=>e = .returned (kindJ (Lx.tokAt (bs s) i))∧Below w.heap.size w w':=by
 cases hc:Lx.capital s[i] with
 | true=>exact rToken_capital s i w hs hi hc
 | false =>
  cases hsm:Lx.small s[i] with
  | true=>exact rToken_small s i w hs hi hsm
  | false=>exact rToken_sign s i w hs hi hsm hc
end Go.Proofs.YtcimcjmdkjajfaaGreatDoor
namespace Go.Proofs.YtcimcjmdkjajfaaGreatDoor
open Go.RowKit
set_option maxRecDepth 100000 in
set_option maxHeartbeats 1000000 in
theorem rCheck_empty (a:AT) (w:World) (hz:a.t.size=0) :
  Calls Tryz.prog 132 #[.agg #[.int .i64 a.k,.string a.t,.int .i64 a.p]] w fun e w'=>e = .returned (.int .i64 12)∧Below w.heap.size w w':=by
 have hz':(a.t.size:Int)=0:=by omega
 have hz'':((a.t.size:Int)==0)=true:=by rw [hz'];rfl
 clear hz hz'
 go_enter Tryz.func132,Tryz.ntmps132
 go_wp2
 go_ret
 exact ⟨rfl,(Below.refl _ w).alloc (Nat.le_refl _) _⟩
set_option maxRecDepth 100000 in
set_option maxHeartbeats 1000000 in
theorem rCheck_long (a:AT) (w:World) (hz:40 < a.t.size) :
  Calls Tryz.prog 132 #[.agg #[.int .i64 a.k,.string a.t,.int .i64 a.p]] w fun e w'=>e = .returned (.int .i64 12)∧Below w.heap.size w w':=by
 have hz':(40:Int) < (a.t.size:Int):=by omega
 have hz'':((a.t.size:Int)==0)=false:=by rw [beq_eq_false_iff_ne];omega
 go_enter Tryz.func132,Tryz.ntmps132
 go_wp2
 go_ret
 exact ⟨rfl,(Below.refl _ w).alloc (Nat.le_refl _) _⟩
set_option maxRecDepth 100000 in
set_option maxHeartbeats 2000000 in
theorem rCheck_mid (V:Bool) (a:AT) (w:World) (h0:0 < a.t.size) (h40:a.t.size≤40) (hV:refB a=V) :
  Calls Tryz.prog 132 #[.agg #[.int .i64 a.k,.string a.t,.int .i64 a.p]] w fun e w'=>e = .returned (.int .i64 (if V then 0 else 12))∧Below w.heap.size w w':=by
 have g0:(bs a.t)[0]?=some a.t[0]:=by rw [List.getElem?_eq_getElem (by rw [bs_len];exact h0),bs_get h0]
 have hV2:(!Lx.blank a.t[0] && !decide (a.t[0].toNat=37) && refTok a)=V:=by
  rw [←hV];unfold refB;rw [g0];simp only [decide_eq_true h40,Bool.true_and]
 have HV:=qh hV2
 have CB:=qh (fun w=>rBlank a.t[0] w)
 have CT:=qh (fun w=>rToken a.t 0 w (by omega) h0)
 obtain ⟨B,hB⟩:∃ B,Lx.blank a.t[0]=B:=⟨_,rfl⟩
 rw [hB] at HV CB
 have hby:=byte_lt a.t[0]
 have hz:((a.t.size:Int)==0)=false:=by rw [beq_eq_false_iff_ne];omega
 have hz2:¬ ((40:Int) < (a.t.size:Int)):=by omega
 have hz3:(0:Int) < (a.t.size:Int):=by omega
 have HK:Hid (∀ k j,Lx.tokAt (bs a.t) 0=some (k,j)→k≠0∧k≤4):=qh fun k j h=>tok_kind h
 have HR:Hid (refTok a=match Lx.tokAt (bs a.t) 0 with | some (k,j)=>decide ((k:Int)=a.k) && decide (j=a.t.size) | none=>false):=qh rfl
 have HJ:Hid (∀ k j,Lx.tokAt (bs a.t) 0=some (k,j)→j≤a.t.size):=qh fun k j h=>by have:=(Lx.tokAt_lt h).2;rwa [bs_len] at this
 obtain ⟨T,hT⟩:∃ T,Lx.tokAt (bs a.t) 0=T:=⟨_,rfl⟩
 rw [hT] at CT HR HK HJ
 clear hV hV2 g0 hB hT
 by_cases h37:a.t[0].toNat=37
 ·have H37:=qh h37
  have h37':((a.t[0].toNat:Int)==37)=true:=by rw [h37];rfl
  obtain rfl:V=false:=by rw [←HV.out];simp [h37]
  clear h37
  go_enter Tryz.func132,Tryz.ntmps132
  go_wp2_with fail
  refine (CB.out _).mono ?_
  rintro e w1 ⟨rfl,rfl⟩
  cases B
  ·go_wp2
   go_ret
   exact ⟨rfl,(Below.refl _ w).alloc (Nat.le_refl _) _⟩
  ·go_wp2
   go_ret
   exact ⟨rfl,(Below.refl _ w).alloc (Nat.le_refl _) _⟩
 ·have h37':((a.t[0].toNat:Int)==37)=false:=by rw [beq_eq_false_iff_ne];omega
  rw [decide_eq_false h37] at HV
  clear h37
  cases B
  ·simp only [Bool.not_false,Bool.true_and] at HV
   go_enter Tryz.func132,Tryz.ntmps132
   go_wp2_with fail
   refine (CB.out _).mono ?_
   rintro e w1 ⟨rfl,rfl⟩
   go_wp2_with fail
   refine (CT.out _).mono ?_
   rintro e w1 ⟨rfl,hb1⟩
   have Hb:Hid (Below w.heap.size w w1):=((Below.refl _ w).alloc (Nat.le_refl _) _).trans (hb1.mono (by simp))
   have x0:w1.cell? ⟨w.heap.size,0,none⟩=some (.int .i64 a.k):=(hb1.cell (p:=⟨w.heap.size,0,none⟩) (by simp)).trans (by rw [World.cell?_alloc_at _ _ _ _ rfl];rfl)
   have x1:w1.cell? ⟨w.heap.size,1,none⟩=some (.string a.t):=(hb1.cell (p:=⟨w.heap.size,1,none⟩) (by simp)).trans (by rw [World.cell?_alloc_at _ _ _ _ rfl];rfl)
   have nb:=block_lt_of_cell x0
   simp only at nb
   clear hb1 CT CB
   cases T with
   | none =>
    obtain rfl:V=false:=by rw [←HV.out,HR.out]
    unfold kindJ
    by_cases hk:a.k=0
    ·have hk':((0:Int) != a.k)=false:=by rw [hk];rfl
     have hz4:((0:Int) != (a.t.size:Int))=true:=by rw [bne_iff_ne];omega
     clear hk
     go_wp2
     go_ret
     exact ⟨rfl,Hb.out⟩
    ·have hk':((0:Int) != a.k)=true:=by rw [bne_iff_ne];omega
     clear hk
     go_wp2
     go_ret
     exact ⟨rfl,Hb.out⟩
   | some p =>
    obtain ⟨k,j⟩:=p
    unfold kindJ
    have hk0:=(HK.out k j rfl)
    have hj0:=HJ.out k j rfl
    have hne:((k:Int)==0)=false:=by rw [beq_eq_false_iff_ne];omega
    by_cases hk:(k:Int)=a.k
    ·have hk':((k:Int) != a.k)=false:=by rw [hk];simp
     by_cases hj:j=a.t.size
     ·have hj':((j:Int) != (a.t.size:Int))=false:=by rw [hj];simp
      obtain rfl:V=true:=by rw [←HV.out,HR.out];simp [hk,hj]
      clear hk hj
      go_wp2
      go_ret
      exact ⟨rfl,Hb.out⟩
     ·have hj':((j:Int) != (a.t.size:Int))=true:=by rw [bne_iff_ne];omega
      obtain rfl:V=false:=by rw [←HV.out,HR.out];simp [hj]
      clear hk hj
      go_wp2
      go_ret
      exact ⟨rfl,Hb.out⟩
    ·have hk':((k:Int) != a.k)=true:=by rw [bne_iff_ne];exact hk
     obtain rfl:V=false:=by rw [←HV.out,HR.out];simp [hk]
     clear hk
     go_wp2
     go_ret
     exact ⟨rfl,Hb.out⟩
  ·obtain rfl:V=false:=by rw [←HV.out];rfl
   go_enter Tryz.func132,Tryz.ntmps132
   go_wp2_with fail
   refine (CB.out _).mono ?_
   rintro e w1 ⟨rfl,rfl⟩
   go_wp2
   go_ret
   exact ⟨rfl,(Below.refl _ w).alloc (Nat.le_refl _) _⟩
end Go.Proofs.YtcimcjmdkjajfaaGreatDoor
namespace Go.Proofs.YtcimcjmdkjajfaaGreatDoor
open Go.RowKit
theorem rCheck_v (V:Bool) (a:AT) (w:World) (hV:checkB a=V) :
  Calls Tryz.prog 132 #[.agg #[.int .i64 a.k,.string a.t,.int .i64 a.p]] w fun e w'=>e = .returned (.int .i64 (if V then 0 else 12))∧Below w.heap.size w w':=by
 rw [check_ref] at hV
 by_cases h0:a.t.size=0
 ·have:refB a=false:=by
   unfold refB
   rw [List.getElem?_eq_none (by rw [bs_len];omega)]
  rw [this] at hV
  subst hV
  exact rCheck_empty a w h0
 ·by_cases h40:40 < a.t.size
  ·have:refB a=false:=by
    unfold refB
    rw [List.getElem?_eq_getElem (by rw [bs_len];omega)]
    simp only [decide_eq_false (show ¬ a.t.size≤40 by omega),Bool.false_and]
   rw [this] at hV
   subst hV
   exact rCheck_long a w h40
  ·exact rCheck_mid V a w (by omega) (by omega) hV
set_option maxRecDepth 100000 in
set_option maxHeartbeats 400000 in
theorem rIsName_v (V:Bool) (s:ByteArray) (w:World) (hV:checkB ⟨1,s,0⟩=V) :
  Calls Tryz.prog 80 #[.string s] w fun e w'=>e = .returned (.bool V)∧Below w.heap.size w w':=by
 have C:=qh (rCheck_v V ⟨1,s,0⟩ w hV)
 clear hV
 go_enter Tryz.func80,Tryz.ntmps80
 go_wp2_with fail
 refine C.out.mono ?_
 clear C
 rintro e w1 ⟨rfl,hb⟩
 cases V
 ·go_wp2
  go_ret
  exact ⟨rfl,hb⟩
 ·go_wp2
  go_ret
  exact ⟨rfl,hb⟩
set_option maxRecDepth 100000 in
set_option maxHeartbeats 400000 in
theorem rIsVar_v (V:Bool) (s:ByteArray) (w:World) (hV:checkB ⟨2,s,0⟩=V) :
  Calls Tryz.prog 81 #[.string s] w fun e w'=>e = .returned (.bool V)∧Below w.heap.size w w':=by
 have C:=qh (rCheck_v V ⟨2,s,0⟩ w hV)
 clear hV
 go_enter Tryz.func81,Tryz.ntmps81
 go_wp2_with fail
 refine C.out.mono ?_
 clear C
 rintro e w1 ⟨rfl,hb⟩
 cases V
 ·go_wp2
  go_ret
  exact ⟨rfl,hb⟩
 ·go_wp2
  go_ret
  exact ⟨rfl,hb⟩
end Go.Proofs.YtcimcjmdkjajfaaGreatDoor
namespace Go.Proofs.YtcimcjmdkjajfaaGreatDoor
open Go.RowKit
theorem nd3 {w:World} {k:Int} {s:ByteArray} {v2:Value} {t:TypeId} {h:Nat} (hh:w.heap.size=h) :
  (w.alloc (.cells #[.int .i64 k,.string s,v2] t)).cell? ⟨h,0,none⟩=some (.int .i64 k)∧(w.alloc (.cells #[.int .i64 k,.string s,v2] t)).cell? ⟨h,1,none⟩=some (.string s)∧(w.alloc (.cells #[.int .i64 k,.string s,v2] t)).cell? ⟨h,2,none⟩=some v2:=by
 rw [←hh]
 exact ⟨(World.cell?_alloc_at _ _ _ _ rfl).trans rfl,(World.cell?_alloc_at _ _ _ _ rfl).trans rfl,(World.cell?_alloc_at _ _ _ _ rfl).trans rfl⟩
set_option maxRecDepth 100000 in
set_option maxHeartbeats 2000000 in
theorem rIsType (n:Nat):∀ (t:Nd) (w:World) (v0 v1 v2:Value),t.sz≤n→NdR w t v0 v1 v2 →
  Calls Tryz.prog 64 #[.agg #[v0,v1,v2]] w fun e w'=>e = .returned (.bool (typB t))∧Below w.heap.size w w':=by
 induction n with
 | zero=>intro t w v0 v1 v2 h;cases t;simp only [Nd.sz] at h;omega
 | succ n ih =>
  intro t w v0 v1 v2 hsz ht
  obtain ⟨k,s,l,a,cap,rfl,rfl,rfl,rfl,hs,hl⟩:=ht.form
  have IH:=qh ih
  clear ih
  unfold maxLen at hl
  by_cases hk:k=31
  ·subst hk
   cases hse:s.toList.isEmpty with
   | false =>
    have HS:Hid (typB (.mk 31 s l)=false):=qh (by simp only [typB];rw [if_pos trivial];unfold noneB;rw [hse];rfl)
    clear ht
    go_enter Tryz.func64,Tryz.ntmps64
    go_wp2
    go_ret
    exact ⟨by rw [HS.out];rfl,(Below.refl _ w).alloc (Nat.le_refl _) _⟩
   | true =>
    by_cases hll:l.length=2
    ·have hl2:((l.length:Int)==2)=true:=by rw [hll];rfl
     obtain ⟨h,hh⟩:∃ h,w.heap.size=h:=⟨_,rfl⟩
     obtain ⟨b,o,k1,s1,l1,a1,c1,rfl,e1,x0,x1,x2,r1⟩:=ht.kid 0 (by omega)
     obtain ⟨b',o',k2,s2,l2,a2,c2,hbo,e2,y0,y1,y2,r2⟩:=ht.kid 1 (by omega)
     obtain ⟨rfl,rfl⟩:b=b'∧o=o':=by simpa using hbo
     have hsz1:=Nd.kid_lt 31 s l 0 (by omega)
     have hsz2:=Nd.kid_lt 31 s l 1 (by omega)
     rw [e1] at hsz1
     rw [e2] at hsz2
     have HS:Hid (typB (.mk 31 s l)=(typB (.mk k1 s1 l1) && typB (.mk k2 s2 l2))):=qh (by
      match l,hll,e1,e2 with
      | [p,q],_,e1,e2 =>
       simp only [List.getElem_cons_zero,List.getElem_cons_succ] at e1 e2
       subst e1 e2
       rw [typB]
       rw [if_pos rfl]
       simp only [typL,Bool.and_true]
       unfold noneB
       rw [hse]
       simp)
     obtain ⟨V1,hV1⟩:∃ V,typB (.mk k1 s1 l1)=V:=⟨_,rfl⟩
     obtain ⟨V2,hV2⟩:∃ V,typB (.mk k2 s2 l2)=V:=⟨_,rfl⟩
     rw [hV1,hV2] at HS
     have C1:=qh (fun w h=>IH.out (.mk k1 s1 l1) w _ _ _ (by omega) (h:NdR w _ (.int .i64 k1) (.string s1) (.slice a1 l1.length c1)))
     have C2:=qh (fun w h=>IH.out (.mk k2 s2 l2) w _ _ _ (by omega) (h:NdR w _ (.int .i64 k2) (.string s2) (.slice a2 l2.length c2)))
     rw [hV1] at C1
     rw [hV2] at C2
     simp only [Nat.zero_mul,Nat.add_zero] at x0 x1 x2
     have nb:=lt_of_cell x0
     have R1:=qh r1
     have R2:=qh r2
     have X0:=qh x0
     have Y0:=qh (And.intro y0 (And.intro y1 y2))
     have hb0:=qh ((Below.refl w.heap.size w).alloc (Nat.le_refl _) (.cells #[.int .i64 31,.string s,.slice (some ⟨b,o,none⟩) l.length cap] 24))
     have D0:=qh (nd3 (w:=w) (k:=31) (s:=s) (v2:=.slice (some ⟨b,o,none⟩) l.length cap) (t:=24) hh)
     have HH:=qh hh
     have i0:(0:Int) < (l.length:Int):=by omega
     have i1:(1:Int) < (l.length:Int):=by omega
     have j0:0 < l.length:=by omega
     have j1:1 < l.length:=by omega
     clear ht e1 e2 hV1 hV2 hsz hsz1 hsz2 r1 r2 y0 y1 y2 hbo hh hll
     go_enter Tryz.func64,Tryz.ntmps64
     go_wp2_with fail
     refine (C1.out _ (R1.out.later hb0.out)).mono ?_
     rintro e w1 ⟨rfl,hb1⟩
     have B1:Hid (Below w.heap.size w w1):=qh (hb0.out.trans (hb1.mono hb0.out.size))
     have hz1:=hb1.size
     have hh:=HH.out
     rw [World.size_alloc] at hz1
     rw [hh]
     rw [hh] at hz1 nb
     have d2:w1.cell? ⟨h,2,none⟩=some (.slice (some ⟨b,o,none⟩) l.length cap):=(hb1.cell (p:=⟨h,2,none⟩) (by rw [World.size_alloc,hh];exact Nat.lt_succ_self h)).trans D0.out.2.2
     obtain ⟨y0,y1,y2⟩:=Y0.out
     have z0:=(B1.out.cell (p:=⟨b,o+1*3,none⟩) (by rw [hh];exact nb)).trans y0
     have z1:=(B1.out.cell (p:=⟨b,o+1*3+1,none⟩) (by rw [hh];exact nb)).trans y1
     have z2:=(B1.out.cell (p:=⟨b,o+1*3+2,none⟩) (by rw [hh];exact nb)).trans y2
     simp only [Nat.one_mul] at z0 z1 z2
     have l1:=lt_of_cell z0
     clear C1 hb1 x0 x1 x2 y0 y1 y2 hh
     cases V1 with
     | false =>
      go_wp2
      go_ret
      exact ⟨by rw [HS.out];rfl,by rw [HH.out] at *;exact B1.out⟩
     | true =>
      go_wp2_with fail
      refine (C2.out _ (R2.out.later B1.out)).mono ?_
      rintro e w2 ⟨rfl,hb2⟩
      have B2:Hid (Below w.heap.size w w2):=qh (B1.out.trans (hb2.mono B1.out.size))
      clear C2 hb2 z0 z1 z2 d2
      go_wp2
      go_ret
      exact ⟨by rw [HS.out];rfl,B2.out⟩
    ·have hl2:((l.length:Int)==2)=false:=by rw [beq_eq_false_iff_ne];omega
     have HS:Hid (typB (.mk 31 s l)=false):=qh (by rw [typB,if_pos rfl,decide_eq_false hll,Bool.false_and,Bool.and_false])
     clear ht hll
     go_enter Tryz.func64,Tryz.ntmps64
     go_wp2
     go_ret
     exact ⟨by rw [HS.out];rfl,(Below.refl _ w).alloc (Nat.le_refl _) _⟩
  ·have hk2:((k:Int)==31)=false:=by rw [beq_eq_false_iff_ne];exact hk
   have HS:Hid (typB (.mk k s l)=(decide (k=15) && (decide (l.length=0) && nameB s))):=qh (by rw [typB,if_neg hk])
   obtain ⟨V,hV⟩:∃ V,nameB s=V:=⟨_,rfl⟩
   have C:=qh (fun w=>rIsName_v V s w hV)
   rw [hV] at HS
   clear hk ht hsz hV
   by_cases h15:k=15
   ·subst h15
    by_cases hll:l.length=0
    ·have hl2:((l.length:Int)==0)=true:=by rw [hll];rfl
     rw [decide_eq_true rfl,decide_eq_true hll,Bool.true_and,Bool.true_and] at HS
     clear hll
     go_enter Tryz.func64,Tryz.ntmps64
     go_wp2_with fail
     refine (C.out _).mono ?_
     rintro e w1 ⟨rfl,hb1⟩
     have Hb1:=qh hb1
     clear C hb1
     go_wp2
     go_ret
     exact ⟨by rw [HS.out];rfl,((Below.refl _ w).alloc (Nat.le_refl _) _).trans (Hb1.out.mono (by simp))⟩
    ·have hl2:((l.length:Int)==0)=false:=by rw [beq_eq_false_iff_ne];omega
     rw [decide_eq_false hll,Bool.false_and,Bool.and_false] at HS
     clear hll
     go_enter Tryz.func64,Tryz.ntmps64
     go_wp2
     go_ret
     exact ⟨by rw [HS.out];rfl,(Below.refl _ w).alloc (Nat.le_refl _) _⟩
   ·have hk3:((k:Int)==15)=false:=by rw [beq_eq_false_iff_ne];exact h15
    rw [decide_eq_false h15,Bool.false_and] at HS
    clear h15
    go_enter Tryz.func64,Tryz.ntmps64
    go_wp2
    go_ret
    exact ⟨by rw [HS.out];rfl,(Below.refl _ w).alloc (Nat.le_refl _) _⟩
end Go.Proofs.YtcimcjmdkjajfaaGreatDoor
namespace Go.Proofs.YtcimcjmdkjajfaaGreatDoor
open Go.RowKit
theorem dpL_take:∀ (l:List Nd) (i:Nat) (h:i < l.length),Nd.dpL (l.take (i+1))=max (Nd.dpL (l.take i)) (l[i]).dp
 | a :: l,0,_=>by simp [Nd.dpL]
 | a :: l,i+1,h=>by
  have:=dpL_take l i (by simpa using h)
  simp only [List.take_succ_cons,Nd.dpL,List.getElem_cons_succ] at this ⊢
  omega
set_option maxRecDepth 100000 in
set_option maxHeartbeats 2000000 in
theorem rDeep (n:Nat):∀ (t:Nd) (m:Nat) (w:World) (v0 v1 v2:Value),t.sz≤n→m≤1000000000→NdR w t v0 v1 v2 →
  Calls Tryz.prog 63 #[.agg #[v0,v1,v2],.int .i64 (m:Int)] w fun e w'=>e = .returned (.int .i64 ((min t.dp (m+1):Nat):Int))∧Below w.heap.size w w':=by
 induction n with
 | zero=>intro t m w v0 v1 v2 h;cases t;simp only [Nd.sz] at h;omega
 | succ n ih =>
  intro t m w v0 v1 v2 hsz hm ht
  obtain ⟨k,s,l,a,cap,rfl,rfl,rfl,rfl,hs,hl⟩:=ht.form
  have IH:=qh ih
  clear ih
  unfold maxLen at hl
  have HT:=qh ht
  have Hsz:Hid (∀ i,(h:i < l.length)→(l[i]).sz≤n):=qh fun i h=>by have:=Nd.kid_lt k s l i h;omega
  obtain ⟨K,hK⟩:∃ K,min (Nd.mk k s l).dp (m+1)=K:=⟨_,rfl⟩
  have HK:=qh hK
  rw [hK]
  clear ht hsz hK
  go_enter Tryz.func63,Tryz.ntmps63
  go_wp2
  obtain ⟨h,hh⟩:∃ h,w.heap.size=h:=⟨_,rfl⟩
  obtain ⟨wz,hwz⟩:∃ wz,w.alloc (Obj.cells #[Value.int IntKind.i64 k,Value.string s,Value.slice a l.length cap] 24)=wz:=⟨_,rfl⟩
  have hB:Hid (Below w.heap.size w wz):=qh (by rw [←hwz];exact (Below.refl _ w).alloc (Nat.le_refl _) _)
  have hz:wz.heap.size=h+1:=by rw [←hwz];simp [hh]
  have g0:wz.cell? ⟨h,2,none⟩=some (.slice a l.length cap):=by
   rw [←hwz,←hh];exact (World.cell?_alloc_at _ _ _ _ rfl).trans rfl
  have HG0:=qh g0
  have Hz:=qh hz
  have HTz:=qh (HT.out.later hB.out)
  rw [hwz,hh]
  clear hwz hh hz g0 HT
  go_loopw [5,6] (fun v5 v6 wr=>∃ i q:Nat,i≤l.length∧q≤m∧v5 = .int .i64 (q:Int)∧v6 = .int .i64 (i:Int)∧Hid (min (Nd.dpL (l.take i)) m=q)∧Hid (Below wz.heap.size wz wr)) (fun _ v6 _=>l.length - (intOf v6).toNat)
  case atStart=>exact ⟨0,0,Nat.zero_le _,Nat.zero_le _,rfl,rfl,qh (by simp [Nd.dpL]),Below.refl _ _⟩
  case round =>
   obtain ⟨i,q,hi,hqm,rfl,rfl,hrun,hbl⟩:=hrel
   have g0:=(hbl.out.cell (p:=⟨h,2,none⟩) (by have:=Hz.out;simp only;omega)).trans HG0.out
   by_cases hlt:i < l.length
   ·have hlt':(i:Int) < (l.length:Int):=by omega
    have hi0:(0:Int)≤(i:Int):=by omega
    by_cases hqq:0 < m
    ·have hqq':(0:Int) < (m:Int):=by omega
     obtain ⟨b,o,k1,s1,l1,a1,c1,rfl,e1,x0,x1,x2,r1⟩:=(HTz.out.later hbl.out).kid i hlt
     have hsz1:=Hsz.out i hlt
     have Hst:=qh (dpL_take l i hlt)
     rw [e1] at hsz1 Hst
     obtain ⟨Q,hQ⟩:∃ Q,min (Nd.mk k1 s1 l1).dp (m - 1+1)=Q:=⟨_,rfl⟩
     have C:=qh (IH.out (.mk k1 s1 l1) (m - 1) wr _ _ _ hsz1 (by omega) r1)
     rw [hQ,show ((m - 1:Nat):Int)=(m:Int) - 1 from by omega] at C
     have hQm:Q≤m:=by omega
     have HQ:=qh hQ
     have L0:=lt_of_cell g0
     have L2:=lt_of_cell x0
     clear e1 hQ r1
     go_wp2_with fail
     refine C.out.mono ?_
     clear C
     rintro e w5 ⟨rfl,hb5⟩
     have Hb5:Hid (Below wz.heap.size wz w5):=qh (hbl.out.trans (hb5.mono hbl.out.size))
     clear hb5 x0 x1 x2 g0
     go_wp2
     go_roundw
     case rel=>exact ⟨i+1,max q Q,hlt,by omega,by push_cast;rw [show max (q:Int) (Q:Int)=((max q Q:Nat):Int) from by omega],by push_cast;rfl,qh (by
      have h1:=hrun.out
      have h2:=Hst.out
      have h3:=HQ.out
      omega),Hb5⟩
     case measure=>simp [intOf];omega
    ·have hqq':¬ ((0:Int) < (m:Int)):=by omega
     have HE:Hid (q+1=K):=qh (by
      have h2:=HK.out
      simp only [Nd.dp] at h2
      omega)
     go_wp2
     go_ret
     exact ⟨by rw [←HE.out];push_cast;rfl,hB.out.trans (hbl.out.mono hB.out.size)⟩
   ·have hlt':¬ ((i:Int) < (l.length:Int)):=by omega
    have HE:Hid (q+1=K):=qh (by
     have h1:=hrun.out
     have h2:=HK.out
     rw [List.take_of_length_le (by omega)] at h1
     simp only [Nd.dp] at h2
     omega)
    go_wp2
    go_ret
    exact ⟨by rw [←HE.out];push_cast;rfl,hB.out.trans (hbl.out.mono hB.out.size)⟩
end Go.Proofs.YtcimcjmdkjajfaaGreatDoor
namespace Go.Proofs.YtcimcjmdkjajfaaGreatDoor
open Go.RowKit
theorem NdL.form {w:World} {l:List Nd} {v:Value} (h:NdL w l v):∃ a cap,v = .slice a l.length cap∧l.length≤maxLen:=by
 obtain ⟨k,s,v0,v1,h⟩:=h
 obtain ⟨k',s',l',a,cap,e,_,_,rfl,_,hl⟩:=h.form
 cases e
 exact ⟨a,cap,rfl,hl⟩
set_option maxRecDepth 100000 in
set_option maxHeartbeats 1000000 in
theorem rAreTerms (n:Nat) (ih:∀ (t:Nd) (w:World) (v0 v1 v2:Value),t.sz≤n→NdR w t v0 v1 v2 →
  Calls Tryz.prog 65 #[.agg #[v0,v1,v2]] w fun e w'=>e = .returned (.bool (termB t))∧Below w.heap.size w w')
  (l:List Nd) (v:Value) (w:World) (hsz:∀ i,(h:i < l.length)→(l[i]).sz≤n) (hv:NdL w l v) :
  Calls Tryz.prog 117 #[v] w fun e w'=>e = .returned (.bool (termL l && decide (l.length≤8)))∧Below w.heap.size w w':=by
 obtain ⟨a,cap,rfl,hl⟩:=hv.form
 have IH:=qh ih
 have Hsz:=qh hsz
 have HV:=qh hv
 unfold maxLen at hl
 clear ih hsz hv
 go_enter Tryz.func117,Tryz.ntmps117
 go_wp2
 go_loopw [3] (fun v3 wr=>∃ i:Nat,i≤l.length∧i≤9∧v3 = .int .i64 i∧Hid (∀ j,(h:j < l.length)→j < i→termB l[j]=true)∧Hid (Below w.heap.size w wr)) (fun v3 _=>10 - (intOf v3).toNat)
 case atStart=>exact ⟨0,Nat.zero_le _,by omega,rfl,qh (fun j _ h=>absurd h (Nat.not_lt_zero _)),Below.refl _ _⟩
 case round =>
  obtain ⟨i,hi,hi9,rfl,hall,hbl⟩:=hrel
  by_cases hlt:i < l.length
  ·have hlt':(i:Int) < (l.length:Int):=by omega
   by_cases h8:i≤8
   ·have h8':(i:Int)≤8:=by omega
    have hi0:(0:Int)≤(i:Int):=by omega
    obtain ⟨kk,ss,w0,w1,hR⟩:=HV.out.later hbl.out
    obtain ⟨b,o,k1,s1,l1,a1,c1,rfl,e1,x0,x1,x2,r1⟩:=hR.kid i hlt
    have hs1:=Hsz.out i hlt
    obtain ⟨V,hV⟩:∃ V,termB l[i]=V:=⟨_,rfl⟩
    have HVi:=qh hV
    rw [e1] at hs1 hV
    have C:=qh (IH.out (.mk k1 s1 l1) wr _ _ _ hs1 r1)
    rw [hV] at C
    have nb:=lt_of_cell x0
    clear e1 hV r1 hR
    go_wp2_with fail
    refine C.out.mono ?_
    clear C
    rintro e w5 ⟨rfl,hb5⟩
    have Hb5:Hid (Below w.heap.size w w5):=qh (hbl.out.trans (hb5.mono hbl.out.size))
    clear hb5 x0 x1 x2
    cases V with
    | false =>
     have HS:Hid (termL l=false):=qh (by
      rw [Bool.eq_false_iff]
      intro h
      have:=(termL_iff l).1 h i hlt
      rw [HVi.out] at this
      cases this)
     go_wp2
     go_ret
     exact ⟨by rw [HS.out];rfl,Hb5.out⟩
    | true =>
     go_wp2
     go_roundw
     case rel=>exact ⟨i+1,hlt,by omega,by push_cast;rfl,qh (fun j hj hji=>by
      by_cases e:j=i
      ·subst e;exact HVi.out
      ·exact hall.out j hj (by omega)),Hb5⟩
     case measure=>simp [intOf];omega
   ·have h8':¬ ((i:Int)≤8):=by omega
    have hd:decide (l.length≤8)=false:=by rw [decide_eq_false_iff_not];omega
    have hd2:decide ((l.length:Int)≤8)=false:=by rw [decide_eq_false_iff_not];omega
    have HD:=qh hd
    clear hd
    go_wp2
    go_ret
    exact ⟨by rw [HD.out,Bool.and_false];simp,hbl.out⟩
  ·have hlt':¬ ((i:Int) < (l.length:Int)):=by omega
   have HS:Hid (termL l=true):=qh ((termL_iff l).2 fun j hj=>hall.out j hj (by omega))
   have HDD:Hid (decide ((l.length:Int)≤8)=decide (l.length≤8)):=qh (by rw [decide_eq_decide];omega)
   go_wp2
   go_ret
   exact ⟨by rw [HS.out,Bool.true_and,←HDD.out];rfl,hbl.out⟩
theorem headTyp_get {l:List Nd} (h:0 < l.length):headTyp l=typB l[0]:=by
 cases l with
 | nil=>simp at h
 | cons a l=>rfl
set_option maxRecDepth 100000 in
set_option maxHeartbeats 2000000 in
theorem rIsBinder (k:Int) (s:ByteArray) (l:List Nd) (w:World) (v0 v1 v2:Value) (ht:NdR w (.mk k s l) v0 v1 v2) :
  Calls Tryz.prog 118 #[.agg #[v0,v1,v2]] w fun e w'=>e = .returned (.bool (bindB s l))∧Below w.heap.size w w':=by
 obtain ⟨k',s',l',a,cap,he,rfl,rfl,rfl,hs,hl⟩:=ht.form
 cases he
 unfold maxLen at hl
 obtain ⟨V1,hV1⟩:∃ V,nameB s=V:=⟨_,rfl⟩
 obtain ⟨V2,hV2⟩:∃ V,varB s=V:=⟨_,rfl⟩
 have CN:=qh (fun w=>rIsName_v V1 s w hV1)
 have CV:=qh (fun w=>rIsVar_v V2 s w hV2)
 obtain ⟨h,hh⟩:∃ h,w.heap.size=h:=⟨_,rfl⟩
 have hb0:=qh ((Below.refl w.heap.size w).alloc (Nat.le_refl _) (.cells #[.int .i64 k,.string s,.slice a l.length cap] 24))
 have D0:=qh (nd3 (w:=w) (k:=k) (s:=s) (v2:=.slice a l.length cap) (t:=24) hh)
 have HH:=qh hh
 have HT:=qh ht
 have HS:Hid (bindB s l=((V1 || V2) && (decide (l.length=1) || (decide (l.length=2) && headTyp l)))):=qh (by unfold bindB;rw [hV1,hV2])
 clear hV1 hV2 ht
 cases V1 with
 | false =>
  cases V2 with
  | false =>
   clear hh
   go_enter Tryz.func118,Tryz.ntmps118
   go_wp2_with fail
   refine (CN.out _).mono ?_
   rintro e w1 ⟨rfl,hb1⟩
   have B1:Hid (Below w.heap.size w w1):=qh (hb0.out.trans (hb1.mono hb0.out.size))
   have d1:w1.cell? ⟨w.heap.size,1,none⟩=some (.string s):=(hb1.cell (p:=⟨w.heap.size,1,none⟩) (by rw [World.size_alloc];exact Nat.lt_succ_self _)).trans (by rw [HH.out];exact D0.out.2.1)
   clear CN hb1
   go_wp2_with fail
   refine (CV.out _).mono ?_
   rintro e w2 ⟨rfl,hb2⟩
   have B2:Hid (Below w.heap.size w w2):=qh (B1.out.trans (hb2.mono B1.out.size))
   clear CV hb2 d1
   go_wp2
   go_ret
   exact ⟨by rw [HS.out];rfl,B2.out⟩
  | true =>
   clear hh
   go_enter Tryz.func118,Tryz.ntmps118
   go_wp2_with fail
   refine (CN.out _).mono ?_
   rintro e w1 ⟨rfl,hb1⟩
   have B1:Hid (Below w.heap.size w w1):=qh (hb0.out.trans (hb1.mono hb0.out.size))
   have d1:w1.cell? ⟨w.heap.size,1,none⟩=some (.string s):=(hb1.cell (p:=⟨w.heap.size,1,none⟩) (by rw [World.size_alloc];exact Nat.lt_succ_self _)).trans (by rw [HH.out];exact D0.out.2.1)
   have d3:=qh (show w1.cell? ⟨w.heap.size,2,none⟩=some (.slice a l.length cap) from (hb1.cell (p:=⟨w.heap.size,2,none⟩) (by rw [World.size_alloc];exact Nat.lt_succ_self _)).trans (by rw [HH.out];exact D0.out.2.2))
   have l3:=hb1.size
   rw [World.size_alloc] at l3
   clear CN hb1
   go_wp2_with fail
   refine (CV.out _).mono ?_
   rintro e w2 ⟨rfl,hb2⟩
   have B2:Hid (Below w.heap.size w w2):=qh (B1.out.trans (hb2.mono B1.out.size))
   have d2:w2.cell? ⟨w.heap.size,2,none⟩=some (.slice a l.length cap):=(hb2.cell (p:=⟨w.heap.size,2,none⟩) l3).trans d3.out
   clear CV hb2 d1 d3 l3
   by_cases hl1:l.length=1
   ·have e1:((l.length:Int)==1)=true:=by rw [hl1];rfl
    have HR:Hid (bindB s l=true):=qh (by rw [HS.out,decide_eq_true hl1];simp)
    clear hl1
    go_wp2
    go_ret
    exact ⟨by rw [HR.out];rfl,B2.out⟩
   ·have e1:((l.length:Int)==1)=false:=by rw [beq_eq_false_iff_ne];omega
    by_cases hl2:l.length=2
    ·have e2:((l.length:Int)==2)=true:=by rw [hl2];rfl
     have i0:(0:Int) < (l.length:Int):=by omega
     have j0:0 < l.length:=by omega
     obtain ⟨b,o,k1,s1,l1,a1,c1,rfl,eq1,x0,x1,x2,r1⟩:=(HT.out.later B2.out).kid 0 j0
     simp only [Nat.zero_mul,Nat.add_zero] at x0 x1 x2
     obtain ⟨V,hV⟩:∃ V,typB (.mk k1 s1 l1)=V:=⟨_,rfl⟩
     have HR:Hid (bindB s l=V):=qh (by rw [HS.out,decide_eq_false hl1,decide_eq_true hl2,headTyp_get j0,eq1,hV];simp)
     have CT:=qh (rIsType _ (.mk k1 s1 l1) w2 _ _ _ (Nat.le_refl _) r1)
     rw [hV] at CT
     have nb:=lt_of_cell x0
     clear eq1 hV r1 hl1 hl2
     go_wp2_with fail
     refine CT.out.mono ?_
     clear CT
     rintro e w9 ⟨rfl,hb9⟩
     have B9:Hid (Below w.heap.size w w9):=qh (B2.out.trans (hb9.mono B2.out.size))
     clear hb9 x0 x1 x2 d2
     go_wp2
     go_ret
     exact ⟨by rw [HR.out];rfl,B9.out⟩
    ·have e2:((l.length:Int)==2)=false:=by rw [beq_eq_false_iff_ne];omega
     have HR:Hid (bindB s l=false):=qh (by rw [HS.out,decide_eq_false hl1,decide_eq_false hl2];simp)
     clear hl1 hl2
     go_wp2
     go_ret
     exact ⟨by rw [HR.out];rfl,B2.out⟩
 | true =>
  clear hh
  go_enter Tryz.func118,Tryz.ntmps118
  go_wp2_with fail
  refine (CN.out _).mono ?_
  rintro e w1 ⟨rfl,hb1⟩
  have B1:Hid (Below w.heap.size w w1):=qh (hb0.out.trans (hb1.mono hb0.out.size))
  have d2:w1.cell? ⟨w.heap.size,2,none⟩=some (.slice a l.length cap):=(hb1.cell (p:=⟨w.heap.size,2,none⟩) (by rw [World.size_alloc];exact Nat.lt_succ_self _)).trans (by rw [HH.out];exact D0.out.2.2)
  clear CN CV hb1
  by_cases hl1:l.length=1
  ·have e1:((l.length:Int)==1)=true:=by rw [hl1];rfl
   have HR:Hid (bindB s l=true):=qh (by rw [HS.out,decide_eq_true hl1];simp)
   clear hl1
   go_wp2
   go_ret
   exact ⟨by rw [HR.out];rfl,B1.out⟩
  ·have e1:((l.length:Int)==1)=false:=by rw [beq_eq_false_iff_ne];omega
   by_cases hl2:l.length=2
   ·have e2:((l.length:Int)==2)=true:=by rw [hl2];rfl
    have i0:(0:Int) < (l.length:Int):=by omega
    have j0:0 < l.length:=by omega
    obtain ⟨b,o,k1,s1,l1,a1,c1,rfl,eq1,x0,x1,x2,r1⟩:=(HT.out.later B1.out).kid 0 j0
    simp only [Nat.zero_mul,Nat.add_zero] at x0 x1 x2
    obtain ⟨V,hV⟩:∃ V,typB (.mk k1 s1 l1)=V:=⟨_,rfl⟩
    have HR:Hid (bindB s l=V):=qh (by rw [HS.out,decide_eq_false hl1,decide_eq_true hl2,headTyp_get j0,eq1,hV];simp)
    have CT:=qh (rIsType _ (.mk k1 s1 l1) w1 _ _ _ (Nat.le_refl _) r1)
    rw [hV] at CT
    have nb:=lt_of_cell x0
    clear eq1 hV r1 hl1 hl2
    go_wp2_with fail
    refine CT.out.mono ?_
    clear CT
    rintro e w9 ⟨rfl,hb9⟩
    have B9:Hid (Below w.heap.size w w9):=qh (B1.out.trans (hb9.mono B1.out.size))
    clear hb9 x0 x1 x2 d2
    go_wp2
    go_ret
    exact ⟨by rw [HR.out];rfl,B9.out⟩
   ·have e2:((l.length:Int)==2)=false:=by rw [beq_eq_false_iff_ne];omega
    have HR:Hid (bindB s l=false):=qh (by rw [HS.out,decide_eq_false hl1,decide_eq_false hl2];simp)
    clear hl1 hl2
    go_wp2
    go_ret
    exact ⟨by rw [HR.out];rfl,B1.out⟩
end Go.Proofs.YtcimcjmdkjajfaaGreatDoor
namespace Go.Proofs.YtcimcjmdkjajfaaGreatDoor
open Go.RowKit
theorem bindB_len {s:ByteArray} {l:List Nd} (h:bindB s l=true):l.length=1∨l.length=2:=by
 unfold bindB at h
 rw [Bool.and_eq_true] at h
 have h2:=h.2
 rw [Bool.or_eq_true,Bool.and_eq_true,decide_eq_true_eq,decide_eq_true_eq] at h2
 rcases h2 with h | h
 ·exact .inl h
 ·exact .inr h.1
set_option maxRecDepth 100000 in
set_option maxHeartbeats 2000000 in
theorem rIsTerm (n:Nat):∀ (t:Nd) (w:World) (v0 v1 v2:Value),t.sz≤n→NdR w t v0 v1 v2 →
  Calls Tryz.prog 65 #[.agg #[v0,v1,v2]] w fun e w'=>e = .returned (.bool (termB t))∧Below w.heap.size w w':=by
 induction n with
 | zero=>intro t w v0 v1 v2 h;cases t;simp only [Nd.sz] at h;omega
 | succ n ih =>
  intro t w v0 v1 v2 hsz ht
  obtain ⟨k,s,l,a,cap,rfl,rfl,rfl,rfl,hs,hl⟩:=ht.form
  have hsi:∀ i,(h:i < l.length)→(l[i]).sz≤n:=fun i h=>by have:=Nd.kid_lt k s l i h;omega
  have CA:=qh (fun w (hv:NdL w l (.slice a l.length cap))=>rAreTerms n ih l _ w hsi hv)
  have IH:=qh ih
  have Hsi:=qh hsi
  unfold maxLen at hl
  obtain ⟨A,hA⟩:∃ A,(termL l && decide (l.length≤8))=A:=⟨_,rfl⟩
  rw [hA] at CA
  have HA:=qh hA
  obtain ⟨h,hh⟩:∃ h,w.heap.size=h:=⟨_,rfl⟩
  have hb0:=qh ((Below.refl w.heap.size w).alloc (Nat.le_refl _) (.cells #[.int .i64 k,.string s,.slice a l.length cap] 24))
  have D0:=qh (nd3 (w:=w) (k:=k) (s:=s) (v2:=.slice a l.length cap) (t:=24) hh)
  have HH:=qh hh
  have HT:=qh ht
  clear ih hsi hA hh ht hsz
  by_cases hk:k=15
  ·subst hk
   obtain ⟨V,hV⟩:∃ V,nameB s=V:=⟨_,rfl⟩
   have CN:=qh (fun w=>rIsName_v V s w hV)
   have HS:Hid (termB (.mk 15 s l)=(V && A)):=qh (by rw [termB,if_pos rfl,hV,HA.out])
   clear hV
   go_enter Tryz.func65,Tryz.ntmps65
   go_wp2_with fail
   refine (CN.out _).mono ?_
   rintro e w1 ⟨rfl,hb1⟩
   have B1:Hid (Below w.heap.size w w1):=qh (hb0.out.trans (hb1.mono hb0.out.size))
   have d2:w1.cell? ⟨w.heap.size,2,none⟩=some (.slice a l.length cap):=(hb1.cell (p:=⟨w.heap.size,2,none⟩) (by rw [World.size_alloc];exact Nat.lt_succ_self _)).trans (by rw [HH.out];exact D0.out.2.2)
   clear CN hb1
   cases V with
   | false =>
    go_wp2
    go_ret
    exact ⟨by rw [HS.out];rfl,B1.out⟩
   | true =>
    go_wp2_with fail
    refine (CA.out _ ⟨_,_,_,_,HT.out.later B1.out⟩).mono ?_
    rintro e w2 ⟨rfl,hb2⟩
    have B2:Hid (Below w.heap.size w w2):=qh (B1.out.trans (hb2.mono B1.out.size))
    clear CA hb2 d2
    go_wp2
    go_ret
    exact ⟨by rw [HS.out];rfl,B2.out⟩
  ·have hk15:((k:Int)==15)=false:=by rw [beq_eq_false_iff_ne];exact hk
   by_cases hk:k=16
   ·subst hk
    obtain ⟨V,hV⟩:∃ V,varB s=V:=⟨_,rfl⟩
    have CN:=qh (fun w=>rIsVar_v V s w hV)
    have HS:Hid (termB (.mk 16 s l)=(V && A)):=qh (by rw [termB,if_neg (by decide),if_pos rfl,hV,HA.out])
    clear hV
    go_enter Tryz.func65,Tryz.ntmps65
    go_wp2_with fail
    refine (CN.out _).mono ?_
    rintro e w1 ⟨rfl,hb1⟩
    have B1:Hid (Below w.heap.size w w1):=qh (hb0.out.trans (hb1.mono hb0.out.size))
    have d2:w1.cell? ⟨w.heap.size,2,none⟩=some (.slice a l.length cap):=(hb1.cell (p:=⟨w.heap.size,2,none⟩) (by rw [World.size_alloc];exact Nat.lt_succ_self _)).trans (by rw [HH.out];exact D0.out.2.2)
    clear CN hb1
    cases V with
    | false =>
     go_wp2
     go_ret
     exact ⟨by rw [HS.out];rfl,B1.out⟩
    | true =>
     go_wp2_with fail
     refine (CA.out _ ⟨_,_,_,_,HT.out.later B1.out⟩).mono ?_
     rintro e w2 ⟨rfl,hb2⟩
     have B2:Hid (Below w.heap.size w w2):=qh (B1.out.trans (hb2.mono B1.out.size))
     clear CA hb2 d2
     go_wp2
     go_ret
     exact ⟨by rw [HS.out];rfl,B2.out⟩
   ·have hk16:((k:Int)==16)=false:=by rw [beq_eq_false_iff_ne];exact hk
    by_cases hk:k=17
    ·subst hk
     obtain ⟨V,hV⟩:∃ V,bindB s l=V:=⟨_,rfl⟩
     have CB:=qh (fun w (ht:NdR w (.mk 17 s l) (.int .i64 17) (.string s) (.slice a l.length cap))=>rIsBinder 17 s l w _ _ _ ht)
     rw [hV] at CB
     have HS:Hid (termB (.mk 17 s l)=(V && termE l)):=qh (by rw [termB,if_neg (by decide),if_neg (by decide),decide_eq_true rfl,Bool.true_and,hV])
     have HV:=qh hV
     clear hV
     go_enter Tryz.func65,Tryz.ntmps65
     go_wp2_with fail
     refine (CB.out _ (HT.out.later hb0.out)).mono ?_
     rintro e w1 ⟨rfl,hb1⟩
     have B1:Hid (Below w.heap.size w w1):=qh (hb0.out.trans (hb1.mono hb0.out.size))
     have d2:w1.cell? ⟨w.heap.size,2,none⟩=some (.slice a l.length cap):=(hb1.cell (p:=⟨w.heap.size,2,none⟩) (by rw [World.size_alloc];exact Nat.lt_succ_self _)).trans (by rw [HH.out];exact D0.out.2.2)
     clear CB hb1
     cases V with
     | false =>
      go_wp2
      go_ret
      exact ⟨by rw [HS.out];rfl,B1.out⟩
     | true =>
      have hln:=bindB_len HV.out
      obtain ⟨m,hm⟩:∃ m,l.length=m+1:=⟨l.length - 1,by omega⟩
      have j0:m < l.length:=by omega
      have i1:(l.length:Int) - 1=(m:Int):=by omega
      have i2:IntKind.i64.wrap (m:Int)=m:=by rw [IntKind.wrap_i64];omega
      have i3:(m:Int) < (l.length:Int):=by omega
      have i4:(0:Int)≤(m:Int):=by omega
      obtain ⟨b,o,k1,s1,l1,a1,c1,rfl,eq1,x0,x1,x2,r1⟩:=(HT.out.later B1.out).kid m j0
      have hs1:=Hsi.out m j0
      obtain ⟨U,hU⟩:∃ U,termB l[m]=U:=⟨_,rfl⟩
      have HE:Hid (termE l=U):=qh (by
       rw [termE_get (by omega),←hU]
       congr 2
       omega)
      rw [eq1] at hs1 hU
      have CT:=qh (IH.out (.mk k1 s1 l1) w1 _ _ _ hs1 r1)
      rw [hU] at CT
      have nb:=lt_of_cell x0
      clear eq1 hU r1 hln hm hs1
      go_wp2_with fail
      refine CT.out.mono ?_
      clear CT
      rintro e w9 ⟨rfl,hb9⟩
      have B9:Hid (Below w.heap.size w w9):=qh (B1.out.trans (hb9.mono B1.out.size))
      clear hb9 x0 x1 x2 d2
      go_wp2
      go_ret
      exact ⟨by rw [HS.out,HE.out];rfl,B9.out⟩
    ·have hk17:((k:Int)==17)=false:=by rw [beq_eq_false_iff_ne];exact hk
     have HS:Hid (termB (.mk k s l)=false):=qh (by rw [termB,if_neg (by intro e;rw [e] at hk15;simp at hk15),if_neg (by intro e;rw [e] at hk16;simp at hk16),decide_eq_false hk,Bool.false_and])
     clear hk
     go_enter Tryz.func65,Tryz.ntmps65
     go_wp2
     go_ret
     exact ⟨by rw [HS.out];rfl,hb0.out⟩
end Go.Proofs.YtcimcjmdkjajfaaGreatDoor
namespace Go.Proofs.YtcimcjmdkjajfaaGreatDoor
open Go.RowKit
theorem formL_one {l:List Nd} (h:l.length=1):formL l=formB (l[0]'(by omega)):=by
 match l,h with
 | [a],_=>simp [formL]
theorem formL_two {l:List Nd} (h:l.length=2):formL l=(formB (l[0]'(by omega)) && formB (l[1]'(by omega))):=by
 match l,h with
 | [a,b],_=>simp [formL]
def lvl (k:Int):Int:=if k=27∨k=28 then 1 else if k=25∨k=26 then 2 else if k=24 then 3 else if k=23 then 4 else if k=22 then 5 else 6
theorem lvl_binary (k:Int):decide (lvl k < 6)=isBinary k:=by
 unfold lvl isBinary
 by_cases h:22≤k∧k≤28
 ·rw [decide_eq_true h.1,decide_eq_true h.2,Bool.true_and,decide_eq_true_eq]
  split
  ·omega
  ·split
   ·omega
   ·split
    ·omega
    ·split
     ·omega
     ·split
      ·omega
      ·omega
 ·have e:(decide (22≤k) && decide (k≤28))=false:=by
   rw [Bool.and_eq_false_iff,decide_eq_false_iff_not,decide_eq_false_iff_not];omega
  rw [e,decide_eq_false_iff_not,if_neg (by omega),if_neg (by omega),if_neg (by omega),if_neg (by omega),if_neg (by omega)]
  omega
set_option maxRecDepth 100000 in
set_option maxHeartbeats 1000000 in
theorem rLevel (k:Int) (w:World):Calls Tryz.prog 119 #[.int .i64 k] w fun e w'=>e = .returned (.int .i64 (lvl k))∧w=w':=by
 by_cases n27:k=27
 ·subst n27
  go_enter Tryz.func119,Tryz.ntmps119
  go_wp2
  go_ret
  exact ⟨rfl,rfl⟩
 ·have b27:((k:Int)==27)=false:=by rw [beq_eq_false_iff_ne];exact n27
  by_cases n28:k=28
  ·subst n28
   go_enter Tryz.func119,Tryz.ntmps119
   go_wp2
   go_ret
   exact ⟨rfl,rfl⟩
  ·have b28:((k:Int)==28)=false:=by rw [beq_eq_false_iff_ne];exact n28
   by_cases n25:k=25
   ·subst n25
    go_enter Tryz.func119,Tryz.ntmps119
    go_wp2
    go_ret
    exact ⟨rfl,rfl⟩
   ·have b25:((k:Int)==25)=false:=by rw [beq_eq_false_iff_ne];exact n25
    by_cases n26:k=26
    ·subst n26
     go_enter Tryz.func119,Tryz.ntmps119
     go_wp2
     go_ret
     exact ⟨rfl,rfl⟩
    ·have b26:((k:Int)==26)=false:=by rw [beq_eq_false_iff_ne];exact n26
     by_cases n24:k=24
     ·subst n24
      go_enter Tryz.func119,Tryz.ntmps119
      go_wp2
      go_ret
      exact ⟨rfl,rfl⟩
     ·have b24:((k:Int)==24)=false:=by rw [beq_eq_false_iff_ne];exact n24
      by_cases n23:k=23
      ·subst n23
       go_enter Tryz.func119,Tryz.ntmps119
       go_wp2
       go_ret
       exact ⟨rfl,rfl⟩
      ·have b23:((k:Int)==23)=false:=by rw [beq_eq_false_iff_ne];exact n23
       by_cases n22:k=22
       ·subst n22
        go_enter Tryz.func119,Tryz.ntmps119
        go_wp2
        go_ret
        exact ⟨rfl,rfl⟩
       ·have b22:((k:Int)==22)=false:=by rw [beq_eq_false_iff_ne];exact n22
        have HL:Hid (lvl k=6):=qh (by unfold lvl;rw [if_neg (by omega),if_neg (by omega),if_neg (by omega),if_neg (by omega),if_neg (by omega)])
        clear n27 n28 n25 n26 n24 n23 n22
        go_enter Tryz.func119,Tryz.ntmps119
        go_wp2
        go_ret
        exact ⟨by rw [HL.out];rfl,rfl⟩
set_option maxRecDepth 100000 in
set_option maxHeartbeats 4000000 in
theorem rIsForm (n:Nat):∀ (t:Nd) (w:World) (v0 v1 v2:Value),t.sz≤n→NdR w t v0 v1 v2 →
  Calls Tryz.prog 66 #[.agg #[v0,v1,v2]] w fun e w'=>e = .returned (.bool (formB t))∧Below w.heap.size w w':=by
 induction n with
 | zero=>intro t w v0 v1 v2 h;cases t;simp only [Nd.sz] at h;omega
 | succ n ih =>
  intro t w v0 v1 v2 hsz ht
  obtain ⟨k,s,l,a,cap,rfl,rfl,rfl,rfl,hs,hl⟩:=ht.form
  have Hsi:=qh (show ∀ i,(h:i < l.length)→(l[i]).sz≤n from fun i h=>by have:=Nd.kid_lt k s l i h;omega)
  have IH:=qh ih
  unfold maxLen at hl
  obtain ⟨h,hh⟩:∃ h,w.heap.size=h:=⟨_,rfl⟩
  have hb0:=qh ((Below.refl w.heap.size w).alloc (Nat.le_refl _) (.cells #[.int .i64 k,.string s,.slice a l.length cap] 24))
  have D0:=qh (nd3 (w:=w) (k:=k) (s:=s) (v2:=.slice a l.length cap) (t:=24) hh)
  have HH:=qh hh
  have HT:=qh ht
  clear ih hh ht hsz
  by_cases hk:k=15
  ·subst hk
   have CT:=qh (fun w (h:NdR w (.mk 15 s l) (.int .i64 15) (.string s) (.slice a l.length cap))=>rIsTerm _ (.mk 15 s l) w _ _ _ (Nat.le_refl _) h)
   have HS:Hid (formB (.mk 15 s l)=termB (.mk 15 s l)):=qh (by rw [formB,if_pos rfl])
   obtain ⟨V,hV⟩:∃ V,termB (.mk 15 s l)=V:=⟨_,rfl⟩
   rw [hV] at CT HS
   clear hV
   go_enter Tryz.func66,Tryz.ntmps66
   go_wp2_with fail
   refine (CT.out _ (HT.out.later hb0.out)).mono ?_
   rintro e w1 ⟨rfl,hb1⟩
   have B1:Hid (Below w.heap.size w w1):=qh (hb0.out.trans (hb1.mono hb0.out.size))
   clear CT hb1
   go_wp2
   go_ret
   exact ⟨by rw [HS.out];rfl,B1.out⟩
  ·have m15:¬ k=15:=hk
   have hk15:((k:Int)==15)=false:=by rw [beq_eq_false_iff_ne];exact hk
   clear hk
   by_cases hk:k=18
   ·subst hk
    obtain ⟨V,hV⟩:∃ V,bindB s l=V:=⟨_,rfl⟩
    have CB:=qh (fun w (ht:NdR w (.mk 18 s l) (.int .i64 18) (.string s) (.slice a l.length cap))=>rIsBinder 18 s l w _ _ _ ht)
    rw [hV] at CB
    have HS:Hid (formB (.mk 18 s l)=(V && formE l)):=qh (by rw [formB,if_neg (by decide),if_pos (by decide),hV])
    have HV:=qh hV
    clear hV
    go_enter Tryz.func66,Tryz.ntmps66
    go_wp2_with fail
    refine (CB.out _ (HT.out.later hb0.out)).mono ?_
    rintro e w1 ⟨rfl,hb1⟩
    have B1:Hid (Below w.heap.size w w1):=qh (hb0.out.trans (hb1.mono hb0.out.size))
    have d2:w1.cell? ⟨w.heap.size,2,none⟩=some (.slice a l.length cap):=(hb1.cell (p:=⟨w.heap.size,2,none⟩) (by rw [World.size_alloc];exact Nat.lt_succ_self _)).trans (by rw [HH.out];exact D0.out.2.2)
    clear CB hb1
    cases V with
    | false =>
     go_wp2
     go_ret
     exact ⟨by rw [HS.out];rfl,B1.out⟩
    | true =>
     have hln:=bindB_len HV.out
     obtain ⟨m,hm⟩:∃ m,l.length=m+1:=⟨l.length - 1,by omega⟩
     have j0:m < l.length:=by omega
     have i1:(l.length:Int) - 1=(m:Int):=by omega
     have i2:IntKind.i64.wrap (m:Int)=m:=by rw [IntKind.wrap_i64];omega
     have i3:(m:Int) < (l.length:Int):=by omega
     have i4:(0:Int)≤(m:Int):=by omega
     obtain ⟨b,o,k1,s1,l1,a1,c1,rfl,eq1,x0,x1,x2,r1⟩:=(HT.out.later B1.out).kid m j0
     have hs1:=Hsi.out m j0
     obtain ⟨U,hU⟩:∃ U,formB l[m]=U:=⟨_,rfl⟩
     have HE:Hid (formE l=U):=qh (by
      rw [formE_get (by omega),←hU]
      congr 2
      omega)
     rw [eq1] at hs1 hU
     have CT:=qh (IH.out (.mk k1 s1 l1) w1 _ _ _ hs1 r1)
     rw [hU] at CT
     have nb:=lt_of_cell x0
     clear eq1 hU r1 hln hm hs1
     go_wp2_with fail
     refine CT.out.mono ?_
     clear CT
     rintro e w9 ⟨rfl,hb9⟩
     have B9:Hid (Below w.heap.size w w9):=qh (B1.out.trans (hb9.mono B1.out.size))
     clear hb9 x0 x1 x2 d2
     go_wp2
     go_ret
     exact ⟨by rw [HS.out,HE.out];rfl,B9.out⟩
   ·have m18:¬ k=18:=hk
    have hk18:((k:Int)==18)=false:=by rw [beq_eq_false_iff_ne];exact hk
    clear hk
    by_cases hk:k=19
    ·subst hk
     obtain ⟨V,hV⟩:∃ V,bindB s l=V:=⟨_,rfl⟩
     have CB:=qh (fun w (ht:NdR w (.mk 19 s l) (.int .i64 19) (.string s) (.slice a l.length cap))=>rIsBinder 19 s l w _ _ _ ht)
     rw [hV] at CB
     have HS:Hid (formB (.mk 19 s l)=(V && formE l)):=qh (by rw [formB,if_neg (by decide),if_pos (by decide),hV])
     have HV:=qh hV
     clear hV
     go_enter Tryz.func66,Tryz.ntmps66
     go_wp2_with fail
     refine (CB.out _ (HT.out.later hb0.out)).mono ?_
     rintro e w1 ⟨rfl,hb1⟩
     have B1:Hid (Below w.heap.size w w1):=qh (hb0.out.trans (hb1.mono hb0.out.size))
     have d2:w1.cell? ⟨w.heap.size,2,none⟩=some (.slice a l.length cap):=(hb1.cell (p:=⟨w.heap.size,2,none⟩) (by rw [World.size_alloc];exact Nat.lt_succ_self _)).trans (by rw [HH.out];exact D0.out.2.2)
     clear CB hb1
     cases V with
     | false =>
      go_wp2
      go_ret
      exact ⟨by rw [HS.out];rfl,B1.out⟩
     | true =>
      have hln:=bindB_len HV.out
      obtain ⟨m,hm⟩:∃ m,l.length=m+1:=⟨l.length - 1,by omega⟩
      have j0:m < l.length:=by omega
      have i1:(l.length:Int) - 1=(m:Int):=by omega
      have i2:IntKind.i64.wrap (m:Int)=m:=by rw [IntKind.wrap_i64];omega
      have i3:(m:Int) < (l.length:Int):=by omega
      have i4:(0:Int)≤(m:Int):=by omega
      obtain ⟨b,o,k1,s1,l1,a1,c1,rfl,eq1,x0,x1,x2,r1⟩:=(HT.out.later B1.out).kid m j0
      have hs1:=Hsi.out m j0
      obtain ⟨U,hU⟩:∃ U,formB l[m]=U:=⟨_,rfl⟩
      have HE:Hid (formE l=U):=qh (by
       rw [formE_get (by omega),←hU]
       congr 2
       omega)
      rw [eq1] at hs1 hU
      have CT:=qh (IH.out (.mk k1 s1 l1) w1 _ _ _ hs1 r1)
      rw [hU] at CT
      have nb:=lt_of_cell x0
      clear eq1 hU r1 hln hm hs1
      go_wp2_with fail
      refine CT.out.mono ?_
      clear CT
      rintro e w9 ⟨rfl,hb9⟩
      have B9:Hid (Below w.heap.size w w9):=qh (B1.out.trans (hb9.mono B1.out.size))
      clear hb9 x0 x1 x2 d2
      go_wp2
      go_ret
      exact ⟨by rw [HS.out,HE.out];rfl,B9.out⟩
    ·have m19:¬ k=19:=hk
     have hk19:((k:Int)==19)=false:=by rw [beq_eq_false_iff_ne];exact hk
     clear hk
     by_cases hk:k=20
     ·subst hk
      have HS:Hid (formB (.mk 20 s l)=(noneB s && decide (l.length=0))):=qh (by rw [formB,if_neg (by decide),if_neg (by decide),if_pos (by decide)])
      cases hse:s.toList.isEmpty with
      | false =>
       have HR:Hid (formB (.mk 20 s l)=false):=qh (by rw [HS.out];unfold noneB;rw [hse];rfl)
       go_enter Tryz.func66,Tryz.ntmps66
       go_wp2
       go_ret
       exact ⟨by rw [HR.out];rfl,hb0.out⟩
      | true =>
       by_cases hll:l.length=0
       ·have e0:((l.length:Int)==0)=true:=by rw [hll];rfl
        have HR:Hid (formB (.mk 20 s l)=true):=qh (by rw [HS.out,decide_eq_true hll];unfold noneB;rw [hse];rfl)
        clear hll
        go_enter Tryz.func66,Tryz.ntmps66
        go_wp2
        go_ret
        exact ⟨by rw [HR.out];rfl,hb0.out⟩
       ·have e0:((l.length:Int)==0)=false:=by rw [beq_eq_false_iff_ne];omega
        have HR:Hid (formB (.mk 20 s l)=false):=qh (by rw [HS.out,decide_eq_false hll,Bool.and_false])
        clear hll
        go_enter Tryz.func66,Tryz.ntmps66
        go_wp2
        go_ret
        exact ⟨by rw [HR.out];rfl,hb0.out⟩
     ·have m20:¬ k=20:=hk
      have hk20:((k:Int)==20)=false:=by rw [beq_eq_false_iff_ne];exact hk
      clear hk
      by_cases hk:k=21
      ·subst hk
       have HS:Hid (formB (.mk 21 s l)=(noneB s && decide (l.length=0))):=qh (by rw [formB,if_neg (by decide),if_neg (by decide),if_pos (by decide)])
       cases hse:s.toList.isEmpty with
       | false =>
        have HR:Hid (formB (.mk 21 s l)=false):=qh (by rw [HS.out];unfold noneB;rw [hse];rfl)
        go_enter Tryz.func66,Tryz.ntmps66
        go_wp2
        go_ret
        exact ⟨by rw [HR.out];rfl,hb0.out⟩
       | true =>
        by_cases hll:l.length=0
        ·have e0:((l.length:Int)==0)=true:=by rw [hll];rfl
         have HR:Hid (formB (.mk 21 s l)=true):=qh (by rw [HS.out,decide_eq_true hll];unfold noneB;rw [hse];rfl)
         clear hll
         go_enter Tryz.func66,Tryz.ntmps66
         go_wp2
         go_ret
         exact ⟨by rw [HR.out];rfl,hb0.out⟩
        ·have e0:((l.length:Int)==0)=false:=by rw [beq_eq_false_iff_ne];omega
         have HR:Hid (formB (.mk 21 s l)=false):=qh (by rw [HS.out,decide_eq_false hll,Bool.and_false])
         clear hll
         go_enter Tryz.func66,Tryz.ntmps66
         go_wp2
         go_ret
         exact ⟨by rw [HR.out];rfl,hb0.out⟩
      ·have m21:¬ k=21:=hk
       have hk21:((k:Int)==21)=false:=by rw [beq_eq_false_iff_ne];exact hk
       clear hk
       by_cases hk:k=29
       ·subst hk
        have HS:Hid (formB (.mk 29 s l)=(noneB s && (decide (l.length=1) && formL l))):=qh (by rw [formB,if_neg (by decide),if_neg (by decide),if_neg (by decide),if_pos (by decide)])
        cases hse:s.toList.isEmpty with
        | false =>
         have HR:Hid (formB (.mk 29 s l)=false):=qh (by rw [HS.out];unfold noneB;rw [hse];rfl)
         go_enter Tryz.func66,Tryz.ntmps66
         go_wp2
         go_ret
         exact ⟨by rw [HR.out];rfl,hb0.out⟩
        | true =>
         by_cases hll:l.length=1
         ·have e0:((l.length:Int)==1)=true:=by rw [hll];rfl
          have j0:0 < l.length:=by omega
          have i0:(0:Int) < (l.length:Int):=by omega
          obtain ⟨b,o,k1,s1,l1,a1,c1,rfl,eq1,x0,x1,x2,r1⟩:=HT.out.kid 0 j0
          simp only [Nat.zero_mul,Nat.add_zero] at x0 x1 x2
          obtain ⟨U,hU⟩:∃ U,formB (.mk k1 s1 l1)=U:=⟨_,rfl⟩
          have hs1:=Hsi.out 0 j0
          rw [eq1] at hs1
          have HR:Hid (formB (.mk 29 s l)=U):=qh (by rw [HS.out,decide_eq_true hll,formL_one hll,eq1,hU];unfold noneB;rw [hse];simp)
          have CT:=qh (fun w h=>IH.out (.mk k1 s1 l1) w (.int .i64 k1) (.string s1) (.slice a1 l1.length c1) hs1 h)
          rw [hU] at CT
          have R1:=qh r1
          have nb:=lt_of_cell x0
          clear eq1 hU r1 hll hs1
          go_enter Tryz.func66,Tryz.ntmps66
          go_wp2_with fail
          refine (CT.out _ (R1.out.later hb0.out)).mono ?_
          rintro e w1 ⟨rfl,hb1⟩
          have B1:Hid (Below w.heap.size w w1):=qh (hb0.out.trans (hb1.mono hb0.out.size))
          clear CT hb1 x0 x1 x2
          go_wp2
          go_ret
          exact ⟨by rw [HR.out];rfl,B1.out⟩
         ·have e0:((l.length:Int)==1)=false:=by rw [beq_eq_false_iff_ne];omega
          have HR:Hid (formB (.mk 29 s l)=false):=qh (by rw [HS.out,decide_eq_false hll,Bool.false_and,Bool.and_false])
          clear hll
          go_enter Tryz.func66,Tryz.ntmps66
          go_wp2
          go_ret
          exact ⟨by rw [HR.out];rfl,hb0.out⟩
       ·have m29:¬ k=29:=hk
        have hk29:((k:Int)==29)=false:=by rw [beq_eq_false_iff_ne];exact hk
        clear hk
        by_cases hk:k=30
        ·subst hk
         have HS:Hid (formB (.mk 30 s l)=(noneB s && (decide (l.length=1) && formL l))):=qh (by rw [formB,if_neg (by decide),if_neg (by decide),if_neg (by decide),if_pos (by decide)])
         cases hse:s.toList.isEmpty with
         | false =>
          have HR:Hid (formB (.mk 30 s l)=false):=qh (by rw [HS.out];unfold noneB;rw [hse];rfl)
          go_enter Tryz.func66,Tryz.ntmps66
          go_wp2
          go_ret
          exact ⟨by rw [HR.out];rfl,hb0.out⟩
         | true =>
          by_cases hll:l.length=1
          ·have e0:((l.length:Int)==1)=true:=by rw [hll];rfl
           have j0:0 < l.length:=by omega
           have i0:(0:Int) < (l.length:Int):=by omega
           obtain ⟨b,o,k1,s1,l1,a1,c1,rfl,eq1,x0,x1,x2,r1⟩:=HT.out.kid 0 j0
           simp only [Nat.zero_mul,Nat.add_zero] at x0 x1 x2
           obtain ⟨U,hU⟩:∃ U,formB (.mk k1 s1 l1)=U:=⟨_,rfl⟩
           have hs1:=Hsi.out 0 j0
           rw [eq1] at hs1
           have HR:Hid (formB (.mk 30 s l)=U):=qh (by rw [HS.out,decide_eq_true hll,formL_one hll,eq1,hU];unfold noneB;rw [hse];simp)
           have CT:=qh (fun w h=>IH.out (.mk k1 s1 l1) w (.int .i64 k1) (.string s1) (.slice a1 l1.length c1) hs1 h)
           rw [hU] at CT
           have R1:=qh r1
           have nb:=lt_of_cell x0
           clear eq1 hU r1 hll hs1
           go_enter Tryz.func66,Tryz.ntmps66
           go_wp2_with fail
           refine (CT.out _ (R1.out.later hb0.out)).mono ?_
           rintro e w1 ⟨rfl,hb1⟩
           have B1:Hid (Below w.heap.size w w1):=qh (hb0.out.trans (hb1.mono hb0.out.size))
           clear CT hb1 x0 x1 x2
           go_wp2
           go_ret
           exact ⟨by rw [HR.out];rfl,B1.out⟩
          ·have e0:((l.length:Int)==1)=false:=by rw [beq_eq_false_iff_ne];omega
           have HR:Hid (formB (.mk 30 s l)=false):=qh (by rw [HS.out,decide_eq_false hll,Bool.false_and,Bool.and_false])
           clear hll
           go_enter Tryz.func66,Tryz.ntmps66
           go_wp2
           go_ret
           exact ⟨by rw [HR.out];rfl,hb0.out⟩
        ·have m30:¬ k=30:=hk
         have hk30:((k:Int)==30)=false:=by rw [beq_eq_false_iff_ne];exact hk
         clear hk
         have HS:Hid (formB (.mk k s l)=(isBinary k && (noneB s && (decide (l.length=2) && formL l)))):=qh (by rw [formB,if_neg m15,if_neg (by omega),if_neg (by omega),if_neg (by omega)])
         clear m15 m18 m19 m20 m21 m29 m30
         have CL:=qh (fun w=>rLevel k w)
         have HL:=qh (lvl_binary k)
         obtain ⟨L,hL⟩:∃ L,lvl k=L:=⟨_,rfl⟩
         rw [hL] at CL HL
         clear hL
         cases hb:isBinary k with
         | false =>
          rw [hb] at HL HS
          have hd:=HL.out
          have HR:Hid (formB (.mk k s l)=false):=qh (by rw [HS.out];rfl)
          clear hb
          go_enter Tryz.func66,Tryz.ntmps66
          go_wp2_with fail
          refine (CL.out _).mono ?_
          rintro e w1 ⟨rfl,rfl⟩
          go_wp2
          go_ret
          exact ⟨by rw [HR.out];rfl,hb0.out⟩
         | true =>
          rw [hb] at HL HS
          have hd:=HL.out
          have hd':L < 6:=by simpa using hd
          clear hb hd
          cases hse:s.toList.isEmpty with
          | false =>
           have HR:Hid (formB (.mk k s l)=false):=qh (by rw [HS.out];unfold noneB;rw [hse];rfl)
           go_enter Tryz.func66,Tryz.ntmps66
           go_wp2_with fail
           refine (CL.out _).mono ?_
           rintro e w1 ⟨rfl,rfl⟩
           go_wp2
           go_ret
           exact ⟨by rw [HR.out];rfl,hb0.out⟩
          | true =>
           by_cases hll:l.length=2
           ·have e0:((l.length:Int)==2)=true:=by rw [hll];rfl
            have j0:0 < l.length:=by omega
            have j1:1 < l.length:=by omega
            have i0:(0:Int) < (l.length:Int):=by omega
            have i1:(1:Int) < (l.length:Int):=by omega
            obtain ⟨b,o,k1,s1,l1,a1,c1,rfl,eq1,x0,x1,x2,r1⟩:=HT.out.kid 0 j0
            obtain ⟨b',o',k2,s2,l2,a2,c2,hbo,eq2,y0,y1,y2,r2⟩:=HT.out.kid 1 j1
            obtain ⟨rfl,rfl⟩:b=b'∧o=o':=by simpa using hbo
            simp only [Nat.zero_mul,Nat.add_zero] at x0 x1 x2
            simp only [Nat.one_mul] at y0 y1 y2
            obtain ⟨U1,hU1⟩:∃ U,formB (.mk k1 s1 l1)=U:=⟨_,rfl⟩
            obtain ⟨U2,hU2⟩:∃ U,formB (.mk k2 s2 l2)=U:=⟨_,rfl⟩
            have hs1:=Hsi.out 0 j0
            have hs2:=Hsi.out 1 j1
            rw [eq1] at hs1
            rw [eq2] at hs2
            have HR:Hid (formB (.mk k s l)=(U1 && U2)):=qh (by rw [HS.out,decide_eq_true hll,formL_two hll,eq1,eq2,hU1,hU2];unfold noneB;rw [hse];simp)
            have C1:=qh (fun w h=>IH.out (.mk k1 s1 l1) w (.int .i64 k1) (.string s1) (.slice a1 l1.length c1) hs1 h)
            have C2:=qh (fun w h=>IH.out (.mk k2 s2 l2) w (.int .i64 k2) (.string s2) (.slice a2 l2.length c2) hs2 h)
            rw [hU1] at C1
            rw [hU2] at C2
            have R1:=qh r1
            have R2:=qh r2
            have nb:=lt_of_cell x0
            have Y:=qh (And.intro y0 (And.intro y1 y2))
            clear eq1 eq2 hU1 hU2 r1 r2 hll hs1 hs2 hbo y0 y1 y2
            go_enter Tryz.func66,Tryz.ntmps66
            go_wp2_with fail
            refine (CL.out _).mono ?_
            rintro e w0 ⟨rfl,rfl⟩
            go_wp2_with fail
            refine (C1.out _ (R1.out.later hb0.out)).mono ?_
            rintro e w1 ⟨rfl,hb1⟩
            have B1:Hid (Below w.heap.size w w1):=qh (hb0.out.trans (hb1.mono hb0.out.size))
            have d2:w1.cell? ⟨w.heap.size,2,none⟩=some (.slice (some ⟨b,o,none⟩) l.length cap):=(hb1.cell (p:=⟨w.heap.size,2,none⟩) (by rw [World.size_alloc];exact Nat.lt_succ_self _)).trans (by rw [HH.out];exact D0.out.2.2)
            obtain ⟨y0,y1,y2⟩:=Y.out
            have z0:=(B1.out.cell (p:=⟨b,o+3,none⟩) nb).trans y0
            have z1:=(B1.out.cell (p:=⟨b,o+3+1,none⟩) nb).trans y1
            have z2:=(B1.out.cell (p:=⟨b,o+3+2,none⟩) nb).trans y2
            have l1:=lt_of_cell z0
            clear C1 hb1 x0 x1 x2 y0 y1 y2
            cases U1 with
            | false =>
             go_wp2
             go_ret
             exact ⟨by rw [HR.out];rfl,B1.out⟩
            | true =>
             go_wp2_with fail
             refine (C2.out _ (R2.out.later B1.out)).mono ?_
             rintro e w2 ⟨rfl,hb2⟩
             have B2:Hid (Below w.heap.size w w2):=qh (B1.out.trans (hb2.mono B1.out.size))
             clear C2 hb2 z0 z1 z2 d2
             go_wp2
             go_ret
             exact ⟨by rw [HR.out];rfl,B2.out⟩
           ·have e0:((l.length:Int)==2)=false:=by rw [beq_eq_false_iff_ne];omega
            have HR:Hid (formB (.mk k s l)=false):=qh (by rw [HS.out,decide_eq_false hll,Bool.false_and,Bool.and_false,Bool.and_false])
            clear hll
            go_enter Tryz.func66,Tryz.ntmps66
            go_wp2_with fail
            refine (CL.out _).mono ?_
            rintro e w1 ⟨rfl,rfl⟩
            go_wp2
            go_ret
            exact ⟨by rw [HR.out];rfl,hb0.out⟩
end Go.Proofs.YtcimcjmdkjajfaaGreatDoor
namespace Go.Proofs.YtcimcjmdkjajfaaGreatDoor
open Go.RowKit
set_option maxRecDepth 100000 in
set_option maxHeartbeats 1000000 in
theorem rAreTypes (l:List Nd) (v:Value) (w:World) (hv:NdL w l v) :
  Calls Tryz.prog 121 #[v] w fun e w'=>e = .returned (.bool (typL l && decide (l.length≤8)))∧Below w.heap.size w w':=by
 obtain ⟨a,cap,rfl,hl⟩:=hv.form
 have HV:=qh hv
 unfold maxLen at hl
 clear hv
 go_enter Tryz.func121,Tryz.ntmps121
 go_wp2
 go_loopw [3] (fun v3 wr=>∃ i:Nat,i≤l.length∧v3 = .int .i64 i∧Hid (∀ j,(h:j < l.length)→j < i→typB l[j]=true)∧Hid (Below w.heap.size w wr)) (fun v3 _=>l.length - (intOf v3).toNat)
 case atStart=>exact ⟨0,Nat.zero_le _,rfl,qh (fun j _ h=>absurd h (Nat.not_lt_zero _)),Below.refl _ _⟩
 case round =>
  obtain ⟨i,hi,rfl,hall,hbl⟩:=hrel
  by_cases hlt:i < l.length
  ·have hlt':(i:Int) < (l.length:Int):=by omega
   have hi0:(0:Int)≤(i:Int):=by omega
   obtain ⟨kk,ss,w0,w1,hR⟩:=HV.out.later hbl.out
   obtain ⟨b,o,k1,s1,l1,a1,c1,rfl,e1,x0,x1,x2,r1⟩:=hR.kid i hlt
   obtain ⟨V,hV⟩:∃ V,typB l[i]=V:=⟨_,rfl⟩
   have HVi:=qh hV
   rw [e1] at hV
   have C:=qh (rIsType _ (.mk k1 s1 l1) wr _ _ _ (Nat.le_refl _) r1)
   rw [hV] at C
   have nb:=lt_of_cell x0
   clear e1 hV r1 hR
   go_wp2_with fail
   refine C.out.mono ?_
   clear C
   rintro e w5 ⟨rfl,hb5⟩
   have Hb5:Hid (Below w.heap.size w w5):=qh (hbl.out.trans (hb5.mono hbl.out.size))
   clear hb5 x0 x1 x2
   cases V with
   | false =>
    have HS:Hid (typL l=false):=qh (by
     rw [Bool.eq_false_iff]
     intro h
     have:=(typL_iff l).1 h i hlt
     rw [HVi.out] at this
     cases this)
    go_wp2
    go_ret
    exact ⟨by rw [HS.out];rfl,Hb5.out⟩
   | true =>
    go_wp2
    go_roundw
    case rel=>exact ⟨i+1,hlt,by push_cast;rfl,qh (fun j hj hji=>by
     by_cases e:j=i
     ·subst e;exact HVi.out
     ·exact hall.out j hj (by omega)),Hb5⟩
    case measure=>simp [intOf];omega
  ·have hlt':¬ ((i:Int) < (l.length:Int)):=by omega
   have HS:Hid (typL l=true):=qh ((typL_iff l).2 fun j hj=>hall.out j hj (by omega))
   have HDD:Hid (decide ((l.length:Int)≤8)=decide (l.length≤8)):=qh (by rw [decide_eq_decide];omega)
   go_wp2
   go_ret
   exact ⟨by rw [HS.out,Bool.true_and,←HDD.out];rfl,hbl.out⟩
end Go.Proofs.YtcimcjmdkjajfaaGreatDoor
namespace Go.Proofs.YtcimcjmdkjajfaaGreatDoor
open Go.RowKit
theorem szL_take_le:∀ (l:List Nd) (i:Nat),Nd.szL (l.take i)≤Nd.szL l
 | [],i=>by simp [Nd.szL]
 | a :: l,0=>by simp [Nd.szL]
 | a :: l,i+1=>by
  have:=szL_take_le l i
  simp only [List.take_succ_cons,Nd.szL]
  omega
set_option maxRecDepth 100000 in
set_option maxHeartbeats 2000000 in
theorem rCount (n:Nat):∀ (t:Nd) (m:Nat) (w:World) (v0 v1 v2:Value),t.sz≤n→m≤1000000000→NdR w t v0 v1 v2 →
  Calls Tryz.prog 62 #[.agg #[v0,v1,v2],.int .i64 (m:Int)] w fun e w'=>e = .returned (.int .i64 ((min t.sz (m+1):Nat):Int))∧Below w.heap.size w w':=by
 induction n with
 | zero=>intro t m w v0 v1 v2 h;cases t;simp only [Nd.sz] at h;omega
 | succ n ih =>
  intro t m w v0 v1 v2 hsz hm ht
  obtain ⟨k,s,l,a,cap,rfl,rfl,rfl,rfl,hs,hl⟩:=ht.form
  have IH:=qh ih
  clear ih
  unfold maxLen at hl
  have HT:=qh ht
  have Hsz:Hid (∀ i,(h:i < l.length)→(l[i]).sz≤n):=qh fun i h=>by have:=Nd.kid_lt k s l i h;omega
  obtain ⟨K,hK⟩:∃ K,min (Nd.mk k s l).sz (m+1)=K:=⟨_,rfl⟩
  have HK:=qh hK
  rw [hK]
  clear ht hsz hK
  go_enter Tryz.func62,Tryz.ntmps62
  go_wp2
  obtain ⟨h,hh⟩:∃ h,w.heap.size=h:=⟨_,rfl⟩
  obtain ⟨wz,hwz⟩:∃ wz,w.alloc (Obj.cells #[Value.int IntKind.i64 k,Value.string s,Value.slice a l.length cap] 24)=wz:=⟨_,rfl⟩
  have hB:Hid (Below w.heap.size w wz):=qh (by rw [←hwz];exact (Below.refl _ w).alloc (Nat.le_refl _) _)
  have hz:wz.heap.size=h+1:=by rw [←hwz];simp [hh]
  have g0:wz.cell? ⟨h,2,none⟩=some (.slice a l.length cap):=by
   rw [←hwz,←hh];exact (World.cell?_alloc_at _ _ _ _ rfl).trans rfl
  have HG0:=qh g0
  have Hz:=qh hz
  have HTz:=qh (HT.out.later hB.out)
  rw [hwz,hh]
  clear hwz hh hz g0 HT
  go_loopw [5,6] (fun v5 v6 wr=>∃ i q:Nat,i≤l.length∧1≤q∧q≤m+1∧v5 = .int .i64 (q:Int)∧v6 = .int .i64 (i:Int)∧Hid (min (1+Nd.szL (l.take i)) (m+1)=q)∧Hid (Below wz.heap.size wz wr)) (fun _ v6 _=>l.length - (intOf v6).toNat)
  case atStart=>exact ⟨0,1,Nat.zero_le _,Nat.le_refl _,by omega,rfl,rfl,qh (by simp [Nd.szL]),Below.refl _ _⟩
  case round =>
   obtain ⟨i,q,hi,hq1,hqm,rfl,rfl,hrun,hbl⟩:=hrel
   have g0:=(hbl.out.cell (p:=⟨h,2,none⟩) (by have:=Hz.out;simp only;omega)).trans HG0.out
   by_cases hlt:i < l.length
   ·have hlt':(i:Int) < (l.length:Int):=by omega
    have hi0:(0:Int)≤(i:Int):=by omega
    by_cases hqq:q≤m
    ·have hqq':(q:Int)≤(m:Int):=by omega
     obtain ⟨b,o,k1,s1,l1,a1,c1,rfl,e1,x0,x1,x2,r1⟩:=(HTz.out.later hbl.out).kid i hlt
     have hsz1:=Hsz.out i hlt
     have Hst:=qh (szL_take l i hlt)
     rw [e1] at hsz1 Hst
     obtain ⟨Q,hQ⟩:∃ Q,min (Nd.mk k1 s1 l1).sz (m - q+1)=Q:=⟨_,rfl⟩
     have C:=qh (IH.out (.mk k1 s1 l1) (m - q) wr _ _ _ hsz1 (by omega) r1)
     rw [hQ,show ((m - q:Nat):Int)=(m:Int) - (q:Int) from by omega] at C
     have hQm:Q≤m - q+1:=by omega
     have HQ:=qh hQ
     have L0:=lt_of_cell g0
     have L2:=lt_of_cell x0
     clear e1 hQ r1
     go_wp2_with fail
     refine C.out.mono ?_
     clear C
     rintro e w5 ⟨rfl,hb5⟩
     have Hb5:Hid (Below wz.heap.size wz w5):=qh (hbl.out.trans (hb5.mono hbl.out.size))
     clear hb5 x0 x1 x2 g0
     have e5:IntKind.i64.wrap ((q:Int)+(Q:Int))=(q:Int)+(Q:Int):=by rw [IntKind.wrap_i64];omega
     have e6:IntKind.i64.wrap ((i:Int)+1)=(i:Int)+1:=by rw [IntKind.wrap_i64];omega
     go_wp2
     go_roundw
     case rel=>exact ⟨i+1,q+Q,hlt,by omega,by omega,by push_cast;rfl,by push_cast;rfl,qh (by
      have h1:=hrun.out
      have h2:=Hst.out
      have h3:=HQ.out
      omega),Hb5⟩
     case measure=>simp [intOf];omega
    ·have hqq':¬ ((q:Int)≤(m:Int)):=by omega
     have HE:Hid (q=K):=qh (by
      have h1:=hrun.out
      have h2:=HK.out
      have h3:=szL_take_le l i
      simp only [Nd.sz] at h2
      omega)
     go_wp2
     go_ret
     exact ⟨by rw [HE.out];rfl,hB.out.trans (hbl.out.mono hB.out.size)⟩
   ·have hlt':¬ ((i:Int) < (l.length:Int)):=by omega
    have HE:Hid (q=K):=qh (by
     have h1:=hrun.out
     have h2:=HK.out
     rw [List.take_of_length_le (by omega)] at h1
     simp only [Nd.sz] at h2
     omega)
    go_wp2
    go_ret
    exact ⟨by rw [HE.out];rfl,hB.out.trans (hbl.out.mono hB.out.size)⟩
end Go.Proofs.YtcimcjmdkjajfaaGreatDoor
namespace Go.Proofs.YtcimcjmdkjajfaaGreatDoor
open Go.RowKit
set_option maxRecDepth 100000 in
set_option maxHeartbeats 1000000 in
theorem rAreNames (l:List Nd) (v:Value) (w:World) (hv:NdL w l v) :
  Calls Tryz.prog 120 #[v] w fun e w'=>e = .returned (.bool (nameL l))∧Below w.heap.size w w':=by
 obtain ⟨a,cap,rfl,hl⟩:=hv.form
 have HV:=qh hv
 unfold maxLen at hl
 clear hv
 go_enter Tryz.func120,Tryz.ntmps120
 go_wp2
 go_loopw [3] (fun v3 wr=>∃ i:Nat,i≤l.length∧v3 = .int .i64 i∧Hid (∀ j,(h:j < l.length)→j < i→loneB l[j]=true)∧Hid (Below w.heap.size w wr)) (fun v3 _=>l.length - (intOf v3).toNat)
 case atStart=>exact ⟨0,Nat.zero_le _,rfl,qh (fun j _ h=>absurd h (Nat.not_lt_zero _)),Below.refl _ _⟩
 case round =>
  obtain ⟨i,hi,rfl,hall,hbl⟩:=hrel
  by_cases hlt:i < l.length
  ·have hlt':(i:Int) < (l.length:Int):=by omega
   have hi0:(0:Int)≤(i:Int):=by omega
   obtain ⟨kk,ss,w0,w1,hR⟩:=HV.out.later hbl.out
   obtain ⟨b,o,k1,s1,l1,a1,c1,rfl,e1,x0,x1,x2,r1⟩:=hR.kid i hlt
   obtain ⟨V,hV⟩:∃ V,nameB s1=V:=⟨_,rfl⟩
   have HL:Hid (loneB l[i]=(decide (k1=15) && (decide (l1.length=0) && V))):=qh (by rw [e1,loneB,hV])
   have HF:Hid (loneB l[i]=false→nameL l=false):=qh (fun hf=>by
    rw [Bool.eq_false_iff]
    intro h
    have:=(nameL_iff l).1 h i hlt
    rw [hf] at this
    cases this)
   have C:=qh (fun w=>rIsName_v V s1 w hV)
   have nb:=lt_of_cell x0
   clear e1 hV r1 hR
   by_cases hk:k1=15
   ·subst hk
    by_cases hll:l1.length=0
    ·have hl0:¬ ((0:Int) < (l1.length:Int)):=by omega
     have hd0:decide (0 < l1.length)=false:=by rw [decide_eq_false_iff_not];omega
     have hd1:(0 < l1.length)=False:=eq_false (by omega)
     rw [decide_eq_true rfl,decide_eq_true hll,Bool.true_and,Bool.true_and] at HL
     clear hll
     go_wp2_with fail
     refine (C.out _).mono ?_
     clear C
     rintro e w5 ⟨rfl,hb5⟩
     have Hb5:Hid (Below w.heap.size w w5):=qh (hbl.out.trans (hb5.mono hbl.out.size))
     clear hb5 x0 x1 x2
     cases V with
     | false =>
      go_wp2
      go_ret
      exact ⟨by rw [HF.out HL.out];rfl,Hb5.out⟩
     | true =>
      go_wp2
      go_roundw
      case rel=>exact ⟨i+1,hlt,by push_cast;rfl,qh (fun j hj hji=>by
       by_cases e:j=i
       ·subst e;exact HL.out
       ·exact hall.out j hj (by omega)),Hb5⟩
      case measure=>simp [intOf];omega
    ·have hl0:(0:Int) < (l1.length:Int):=by omega
     have hd0:decide (0 < l1.length)=true:=by rw [decide_eq_true_eq];omega
     have hd1:0 < l1.length:=by omega
     rw [decide_eq_false hll,Bool.false_and,Bool.and_false] at HL
     clear hll
     go_wp2
     go_ret
     exact ⟨by rw [HF.out HL.out];rfl,hbl.out⟩
   ·have hk2:((k1:Int) != 15)=true:=by rw [bne_iff_ne];exact hk
    rw [decide_eq_false hk,Bool.false_and] at HL
    clear hk
    go_wp2
    go_ret
    exact ⟨by rw [HF.out HL.out];rfl,hbl.out⟩
  ·have hlt':¬ ((i:Int) < (l.length:Int)):=by omega
   have HS:Hid (nameL l=true):=qh ((nameL_iff l).2 fun j hj=>hall.out j hj (by omega))
   go_wp2
   go_ret
   exact ⟨by rw [HS.out];rfl,hbl.out⟩
set_option maxRecDepth 100000 in
theorem rSize (t:Nd) (w:World) (v0 v1 v2:Value) (ht:NdR w t v0 v1 v2) :
  Calls Tryz.prog 17 #[.agg #[v0,v1,v2]] w fun e w'=>e = .returned (.int .i64 ((min t.sz 4001:Nat):Int))∧Below w.heap.size w w':=by
 obtain ⟨k,s,l,a,cap,rfl,rfl,rfl,rfl,hs,hl⟩:=ht.form
 obtain ⟨K,hK⟩:∃ K,min (Nd.mk k s l).sz 4001=K:=⟨_,rfl⟩
 have C:=qh (fun w h=>rCount _ (.mk k s l) 4000 w (.int .i64 k) (.string s) (.slice a l.length cap) (Nat.le_refl _) (by omega) h)
 rw [hK] at C ⊢
 have hK2:K≤4001:=by omega
 have hb0:=qh ((Below.refl w.heap.size w).alloc (Nat.le_refl _) (.cells #[.int .i64 k,.string s,.slice a l.length cap] 24))
 have HT:=qh ht
 clear hK ht
 go_enter Tryz.func17,Tryz.ntmps17
 go_wp2_with fail
 refine (C.out _ (HT.out.later hb0.out)).mono ?_
 rintro e w1 ⟨rfl,hb1⟩
 have B1:Hid (Below w.heap.size w w1):=qh (hb0.out.trans (hb1.mono hb0.out.size))
 clear C hb1
 go_wp2
 go_ret
 exact ⟨congrArg (fun x=>Ending.returned (.int .i64 x)) (show min (K:Int) 4001=(K:Int) from by omega),B1.out⟩
end Go.Proofs.YtcimcjmdkjajfaaGreatDoor
namespace Go.Proofs.YtcimcjmdkjajfaaGreatDoor
open Go.RowKit
theorem toList_inj9 {a b:ByteArray} (h:a.toList=b.toList):a=b:=by
 rw [ByteArray.toList_eq,ByteArray.toList_eq] at h
 cases a;cases b;congr;exact Array.toList_inj.1 h
set_option maxRecDepth 100000 in
set_option maxHeartbeats 1000000 in
theorem rAreModes (l:List Nd) (v:Value) (w:World) (hv:NdL w l v) :
  Calls Tryz.prog 122 #[v] w fun e w'=>e = .returned (.bool (modeL l && decide (l.length≤8)))∧Below w.heap.size w w':=by
 obtain ⟨a,cap,rfl,hl⟩:=hv.form
 have HV:=qh hv
 unfold maxLen at hl
 clear hv
 go_enter Tryz.func122,Tryz.ntmps122
 go_wp2
 go_loopw [3] (fun v3 wr=>∃ i:Nat,i≤l.length∧v3 = .int .i64 i∧Hid (∀ j,(h:j < l.length)→j < i→modeB l[j]=true)∧Hid (Below w.heap.size w wr)) (fun v3 _=>l.length - (intOf v3).toNat)
 case atStart=>exact ⟨0,Nat.zero_le _,rfl,qh (fun j _ h=>absurd h (Nat.not_lt_zero _)),Below.refl _ _⟩
 case round =>
  obtain ⟨i,hi,rfl,hall,hbl⟩:=hrel
  by_cases hlt:i < l.length
  ·have hlt':(i:Int) < (l.length:Int):=by omega
   have hi0:(0:Int)≤(i:Int):=by omega
   obtain ⟨kk,ss,w0,w1,hR⟩:=HV.out.later hbl.out
   obtain ⟨b,o,k1,s1,l1,a1,c1,rfl,e1,x0,x1,x2,r1⟩:=hR.kid i hlt
   have HL:Hid (modeB l[i]=(decide (k1=15) && (decide (l1.length=0) && (decide (s1=⟨#[105,110]⟩) || (decide (s1=⟨#[111,117,116]⟩) || decide (s1=⟨#[97,110,121]⟩)))))):=qh (by rw [e1,modeB])
   have HF:Hid (modeB l[i]=false→modeL l=false):=qh (fun hf=>by
    rw [Bool.eq_false_iff]
    intro h
    have:=(modeL_iff l).1 h i hlt
    rw [hf] at this
    cases this)
   have nb:=lt_of_cell x0
   clear e1 r1 hR
   by_cases hk:k1=15
   ·subst hk
    by_cases hll:l1.length=0
    ·have hl0:¬ ((0:Int) < (l1.length:Int)):=by omega
     have hd0:decide (0 < l1.length)=false:=by rw [decide_eq_false_iff_not];omega
     have hd1:(0 < l1.length)=False:=eq_false (by omega)
     rw [decide_eq_true (rfl:(15:Int)=15),decide_eq_true hll,Bool.true_and,Bool.true_and] at HL
     clear hll
     by_cases h1:s1=⟨#[105,110]⟩
     ·subst h1
      go_wp2
      go_roundw
      case rel=>exact ⟨i+1,hlt,by push_cast;rfl,qh (fun j hj hji=>by
       by_cases e:j=i
       ·subst e;rw [HL.out];simp
       ·exact hall.out j hj (by omega)),hbl⟩
      case measure=>simp [intOf];omega
     ·have h1f:=eq_false h1
      rw [decide_eq_false h1,Bool.false_or] at HL
      by_cases h2:s1=⟨#[111,117,116]⟩
      ·subst h2
       go_wp2
       go_roundw
       case rel=>exact ⟨i+1,hlt,by push_cast;rfl,qh (fun j hj hji=>by
        by_cases e:j=i
        ·subst e;rw [HL.out];simp
        ·exact hall.out j hj (by omega)),hbl⟩
       case measure=>simp [intOf];omega
      ·have h2f:=eq_false h2
       rw [decide_eq_false h2,Bool.false_or] at HL
       by_cases h3:s1=⟨#[97,110,121]⟩
       ·subst h3
        go_wp2
        go_roundw
        case rel=>exact ⟨i+1,hlt,by push_cast;rfl,qh (fun j hj hji=>by
         by_cases e:j=i
         ·subst e;rw [HL.out];simp
         ·exact hall.out j hj (by omega)),hbl⟩
        case measure=>simp [intOf];omega
       ·have h3f:=eq_false h3
        rw [decide_eq_false h3] at HL
        have m1:(s1.toList==[105,110])=false:=by
         rw [beq_eq_false_iff_ne];intro h;exact h1 (toList_inj9 (h.trans (by decide +kernel)))
        have m2:(s1.toList==[111,117,116])=false:=by
         rw [beq_eq_false_iff_ne];intro h;exact h2 (toList_inj9 (h.trans (by decide +kernel)))
        have m3:(s1.toList==[97,110,121])=false:=by
         rw [beq_eq_false_iff_ne];intro h;exact h3 (toList_inj9 (h.trans (by decide +kernel)))
        go_wp2
        go_ret
        exact ⟨by rw [HF.out HL.out];rfl,hbl.out⟩
    ·have hl0:(0:Int) < (l1.length:Int):=by omega
     have hd0:decide (0 < l1.length)=true:=by rw [decide_eq_true_eq];omega
     have hd1:0 < l1.length:=by omega
     rw [decide_eq_false hll,Bool.false_and,Bool.and_false] at HL
     clear hll
     go_wp2
     go_ret
     exact ⟨by rw [HF.out HL.out];rfl,hbl.out⟩
   ·have hk2:((k1:Int) != 15)=true:=by rw [bne_iff_ne];exact hk
    rw [decide_eq_false hk,Bool.false_and] at HL
    clear hk
    go_wp2
    go_ret
    exact ⟨by rw [HF.out HL.out];rfl,hbl.out⟩
  ·have hlt':¬ ((i:Int) < (l.length:Int)):=by omega
   have HS:Hid (modeL l=true):=qh ((modeL_iff l).2 fun j hj=>hall.out j hj (by omega))
   have HDD:Hid (decide ((l.length:Int)≤8)=decide (l.length≤8)):=qh (by rw [decide_eq_decide];omega)
   go_wp2
   go_ret
   exact ⟨by rw [HS.out,Bool.true_and,←HDD.out];rfl,hbl.out⟩
end Go.Proofs.YtcimcjmdkjajfaaGreatDoor
namespace Go.Proofs.YtcimcjmdkjajfaaGreatDoor
open Go.RowKit
theorem formL_lone:∀ {l:List Nd} (h:l.length=1),formL l=formB (l[0]'(by omega))
 | [a],_=>by simp [formL]
set_option maxRecDepth 100000 in
set_option maxHeartbeats 2000000 in
theorem rIsItem_2 (s:ByteArray) (l:List Nd) (w:World) (v0 v1 v2:Value) (ht:NdR w (.mk 2 s l) v0 v1 v2) :
  Calls Tryz.prog 67 #[.agg #[v0,v1,v2]] w fun e w'=>e = .returned (.bool (itemB (.mk 2 s l)))∧Below w.heap.size w w':=by
 obtain ⟨k',s',l',a,cap,he,rfl,rfl,rfl,hs,hl⟩:=ht.form
 cases he
 unfold maxLen at hl
 obtain ⟨V,hV⟩:∃ V,nameB s=V:=⟨_,rfl⟩
 have CN:=qh (fun w=>rIsName_v V s w hV)
 have HV:=qh hV
 obtain ⟨h,hh⟩:∃ h,w.heap.size=h:=⟨_,rfl⟩
 have hb0:=qh ((Below.refl w.heap.size w).alloc (Nat.le_refl _) (.cells #[.int .i64 2,.string s,.slice a l.length cap] 24))
 have D0:=qh (nd3 (w:=w) (k:=2) (s:=s) (v2:=.slice a l.length cap) (t:=24) hh)
 have HH:=qh hh
 have HT:=qh ht
 have HC:=qh ht.cap
 have HL:Hid (NdL w l (.slice a l.length cap)):=qh ⟨_,_,_,_,ht⟩
 clear hh ht hV
 have HS:Hid (itemB (.mk 2 s l)=(noneB s && (decide (1≤l.length) && nameL l))):=qh (by rw [itemB,if_pos (by decide)])
 cases hse:s.toList.isEmpty with
 | false =>
  have HR:Hid (itemB (.mk 2 s l)=false):=qh (by rw [HS.out];unfold noneB;rw [hse];rfl)
  go_enter Tryz.func67,Tryz.ntmps67
  go_wp2
  go_ret
  exact ⟨by rw [HR.out];rfl,hb0.out⟩
 | true =>
  by_cases hll:1≤l.length
  ·have e1:(1:Int)≤(l.length:Int):=by omega
   have e2:decide (1≤l.length)=true:=decide_eq_true hll
   have e3:decide (0 < l.length)=true:=decide_eq_true hll
   have e5:0 < l.length:=hll
   obtain ⟨V,hV⟩:∃ V,nameL l=V:=⟨_,rfl⟩
   have C:=qh (fun w hv=>rAreNames l (.slice a l.length cap) w hv)
   rw [hV] at C
   have HR:Hid (itemB (.mk 2 s l)=V):=qh (by rw [HS.out,decide_eq_true hll,hV];unfold noneB;rw [hse];rfl)
   clear hV
   go_enter Tryz.func67,Tryz.ntmps67
   go_wp2_with fail
   refine (C.out _ (HL.out.later hb0.out)).mono ?_
   rintro e w1 ⟨rfl,hbw1⟩
   have B1:Hid (Below w.heap.size w w1):=qh (hb0.out.trans (hbw1.mono hb0.out.size))
   clear C hbw1
   go_wp2
   go_ret
   exact ⟨by rw [HR.out];rfl,B1.out⟩
  ·have e1:¬ ((1:Int)≤(l.length:Int)):=by omega
   have e2:decide (1≤l.length)=false:=decide_eq_false hll
   have e3:decide (0 < l.length)=false:=decide_eq_false hll
   have e6:l=[]:=List.length_eq_zero_iff.1 (by omega)
   have HR:Hid (itemB (.mk 2 s l)=false):=qh (by rw [HS.out,decide_eq_false hll,Bool.false_and,Bool.and_false])
   clear hll
   subst e6
   go_enter Tryz.func67,Tryz.ntmps67
   go_wp2
   go_ret
   exact ⟨by rw [HR.out];rfl,hb0.out⟩
set_option maxRecDepth 100000 in
set_option maxHeartbeats 2000000 in
theorem rIsItem_3 (s:ByteArray) (l:List Nd) (w:World) (v0 v1 v2:Value) (ht:NdR w (.mk 3 s l) v0 v1 v2) :
  Calls Tryz.prog 67 #[.agg #[v0,v1,v2]] w fun e w'=>e = .returned (.bool (itemB (.mk 3 s l)))∧Below w.heap.size w w':=by
 obtain ⟨k',s',l',a,cap,he,rfl,rfl,rfl,hs,hl⟩:=ht.form
 cases he
 unfold maxLen at hl
 obtain ⟨V,hV⟩:∃ V,nameB s=V:=⟨_,rfl⟩
 have CN:=qh (fun w=>rIsName_v V s w hV)
 have HV:=qh hV
 obtain ⟨h,hh⟩:∃ h,w.heap.size=h:=⟨_,rfl⟩
 have hb0:=qh ((Below.refl w.heap.size w).alloc (Nat.le_refl _) (.cells #[.int .i64 3,.string s,.slice a l.length cap] 24))
 have D0:=qh (nd3 (w:=w) (k:=3) (s:=s) (v2:=.slice a l.length cap) (t:=24) hh)
 have HH:=qh hh
 have HT:=qh ht
 have HC:=qh ht.cap
 have HL:Hid (NdL w l (.slice a l.length cap)):=qh ⟨_,_,_,_,ht⟩
 clear hh ht hV
 have HS:Hid (itemB (.mk 3 s l)=(noneB s && (decide (2≤l.length) && (nameL (l.take (l.length - 1)) && typE l)))):=qh (by rw [itemB,if_neg (by decide),if_pos (by decide)])
 cases hse:s.toList.isEmpty with
 | false =>
  have HR:Hid (itemB (.mk 3 s l)=false):=qh (by rw [HS.out];unfold noneB;rw [hse];rfl)
  go_enter Tryz.func67,Tryz.ntmps67
  go_wp2
  go_ret
  exact ⟨by rw [HR.out];rfl,hb0.out⟩
 | true =>
  by_cases hll:2≤l.length
  ·obtain ⟨m,hm⟩:∃ m,l.length=m+1:=⟨l.length - 1,by omega⟩
   have j0:m < l.length:=by omega
   have jc:m≤cap:=by have:=HC.out;omega
   have e1:(1:Int)≤(m:Int):=by omega
   have e2:decide (1≤m)=true:=decide_eq_true (by omega)
   have e3:decide (0 < m)=true:=decide_eq_true (by omega)
   have e5:0 < m:=by omega
   have i1:(l.length:Int) - 1=(m:Int):=by omega
   have i2:IntKind.i64.wrap (m:Int)=m:=by rw [IntKind.wrap_i64];omega
   have i3:(m:Int) < (l.length:Int):=by omega
   have i4:(0:Int)≤(m:Int):=by omega
   have i5:(m:Int)≤(cap:Int):=by omega
   obtain ⟨V,hV⟩:∃ V,nameL (l.take m)=V:=⟨_,rfl⟩
   have C:=qh (fun w hv=>rAreNames (l.take m) (.slice a m cap) w hv)
   rw [hV] at C
   have HR:Hid (itemB (.mk 3 s l)=(V && typE l)):=qh (by rw [HS.out,decide_eq_true hll,show l.length - 1=m from by omega,hV];unfold noneB;rw [hse];rfl)
   have HLm:=qh (fun w (h:NdL w l (.slice a l.length cap))=>h.take m (by omega) cap jc)
   have HM:=qh hm
   clear hV hm hll
   go_enter Tryz.func67,Tryz.ntmps67
   go_wp2_with fail
   refine (C.out _ (HLm.out _ (HL.out.later hb0.out))).mono ?_
   rintro e w1 ⟨rfl,hbw1⟩
   have B1:Hid (Below w.heap.size w w1):=qh (hb0.out.trans (hbw1.mono hb0.out.size))
   have d0:w1.cell? ⟨w.heap.size,0,none⟩=some (.int .i64 3):=(hbw1.cell (p:=⟨w.heap.size,0,none⟩) (by rw [World.size_alloc];exact Nat.lt_succ_self _)).trans (by rw [HH.out];exact D0.out.1)
   have d2:w1.cell? ⟨w.heap.size,2,none⟩=some (.slice a l.length cap):=(hbw1.cell (p:=⟨w.heap.size,2,none⟩) (by rw [World.size_alloc];exact Nat.lt_succ_self _)).trans (by rw [HH.out];exact D0.out.2.2)
   clear C hbw1
   cases V with
   | false =>
    go_wp2
    go_ret
    exact ⟨by rw [HR.out];rfl,B1.out⟩
   | true =>
    obtain ⟨b,o,k1,s1,l1,a1,c1,rfl,eq1,x0,x1,x2,r1⟩:=(HT.out.later B1.out).kid m j0
    obtain ⟨U,hU⟩:∃ U,typB l[m]=U:=⟨_,rfl⟩
    have HE:Hid (typE l=U):=qh (by
     rw [typE_get (by omega),←hU]
     congr 2
     have:=HM.out
     omega)
    rw [eq1] at hU
    have CT:=qh (rIsType _ (.mk k1 s1 l1) w1 _ _ _ (Nat.le_refl _) r1)
    rw [hU] at CT
    have nb:=lt_of_cell x0
    clear eq1 hU r1
    go_wp2_with fail
    refine CT.out.mono ?_
    clear CT
    rintro e w9 ⟨rfl,hbw9⟩
    have B9:Hid (Below w.heap.size w w9):=qh (B1.out.trans (hbw9.mono B1.out.size))
    clear hbw9 x0 x1 x2 d0 d2
    go_wp2
    go_ret
    exact ⟨by rw [HR.out,HE.out];rfl,B9.out⟩
  ·have HR:Hid (itemB (.mk 3 s l)=false):=qh (by rw [HS.out,decide_eq_false hll,Bool.false_and,Bool.and_false])
   by_cases h0:l.length=0
   ·have i1:(l.length:Int) - 1 = -1:=by omega
    have i7:l=[]:=List.length_eq_zero_iff.1 h0
    clear hll h0
    subst i7
    go_enter Tryz.func67,Tryz.ntmps67
    go_wp2
    go_ret
    exact ⟨by rw [HR.out];rfl,hb0.out⟩
   ·have i1:(l.length:Int) - 1=0:=by omega
    clear hll h0
    go_enter Tryz.func67,Tryz.ntmps67
    go_wp2
    go_ret
    exact ⟨by rw [HR.out];rfl,hb0.out⟩
set_option maxRecDepth 100000 in
set_option maxHeartbeats 2000000 in
theorem rIsItem_4 (s:ByteArray) (l:List Nd) (w:World) (v0 v1 v2:Value) (ht:NdR w (.mk 4 s l) v0 v1 v2) :
  Calls Tryz.prog 67 #[.agg #[v0,v1,v2]] w fun e w'=>e = .returned (.bool (itemB (.mk 4 s l)))∧Below w.heap.size w w':=by
 obtain ⟨k',s',l',a,cap,he,rfl,rfl,rfl,hs,hl⟩:=ht.form
 cases he
 unfold maxLen at hl
 obtain ⟨V,hV⟩:∃ V,nameB s=V:=⟨_,rfl⟩
 have CN:=qh (fun w=>rIsName_v V s w hV)
 have HV:=qh hV
 obtain ⟨h,hh⟩:∃ h,w.heap.size=h:=⟨_,rfl⟩
 have hb0:=qh ((Below.refl w.heap.size w).alloc (Nat.le_refl _) (.cells #[.int .i64 4,.string s,.slice a l.length cap] 24))
 have D0:=qh (nd3 (w:=w) (k:=4) (s:=s) (v2:=.slice a l.length cap) (t:=24) hh)
 have HH:=qh hh
 have HT:=qh ht
 have HC:=qh ht.cap
 have HL:Hid (NdL w l (.slice a l.length cap)):=qh ⟨_,_,_,_,ht⟩
 clear hh ht hV
 have HS:Hid (itemB (.mk 4 s l)=(V && (typL l && decide (l.length≤8)))):=qh (by rw [itemB,if_neg (by decide),if_neg (by decide),if_pos (by decide)];rw [HV.out])
 cases V with
 | false =>
  go_enter Tryz.func67,Tryz.ntmps67
  go_wp2_with fail
  refine (CN.out _).mono ?_
  rintro e w1 ⟨rfl,hbw1⟩
  have B1:Hid (Below w.heap.size w w1):=qh (hb0.out.trans (hbw1.mono hb0.out.size))
  have d0:w1.cell? ⟨w.heap.size,0,none⟩=some (.int .i64 4):=(hbw1.cell (p:=⟨w.heap.size,0,none⟩) (by rw [World.size_alloc];exact Nat.lt_succ_self _)).trans (by rw [HH.out];exact D0.out.1)
  have d2:w1.cell? ⟨w.heap.size,2,none⟩=some (.slice a l.length cap):=(hbw1.cell (p:=⟨w.heap.size,2,none⟩) (by rw [World.size_alloc];exact Nat.lt_succ_self _)).trans (by rw [HH.out];exact D0.out.2.2)
  clear CN hbw1
  go_wp2
  go_ret
  exact ⟨by rw [HS.out];rfl,B1.out⟩
 | true =>
  obtain ⟨U,hU⟩:∃ U,(typL l && decide (l.length≤8))=U:=⟨_,rfl⟩
  have C:=qh (fun w hv=>rAreTypes l (.slice a l.length cap) w hv)
  rw [hU] at C HS
  clear hU
  go_enter Tryz.func67,Tryz.ntmps67
  go_wp2_with fail
  refine (CN.out _).mono ?_
  rintro e w1 ⟨rfl,hbw1⟩
  have B1:Hid (Below w.heap.size w w1):=qh (hb0.out.trans (hbw1.mono hb0.out.size))
  have d0:w1.cell? ⟨w.heap.size,0,none⟩=some (.int .i64 4):=(hbw1.cell (p:=⟨w.heap.size,0,none⟩) (by rw [World.size_alloc];exact Nat.lt_succ_self _)).trans (by rw [HH.out];exact D0.out.1)
  have d2:w1.cell? ⟨w.heap.size,2,none⟩=some (.slice a l.length cap):=(hbw1.cell (p:=⟨w.heap.size,2,none⟩) (by rw [World.size_alloc];exact Nat.lt_succ_self _)).trans (by rw [HH.out];exact D0.out.2.2)
  clear CN hbw1
  go_wp2_with fail
  refine (C.out _ (HL.out.later B1.out)).mono ?_
  rintro e w9 ⟨rfl,hbw9⟩
  have B9:Hid (Below w.heap.size w w9):=qh (B1.out.trans (hbw9.mono B1.out.size))
  clear C hbw9 d0 d2
  go_wp2
  go_ret
  exact ⟨by rw [HS.out];rfl,B9.out⟩
set_option maxRecDepth 100000 in
set_option maxHeartbeats 2000000 in
theorem rIsItem_5 (s:ByteArray) (l:List Nd) (w:World) (v0 v1 v2:Value) (ht:NdR w (.mk 5 s l) v0 v1 v2) :
  Calls Tryz.prog 67 #[.agg #[v0,v1,v2]] w fun e w'=>e = .returned (.bool (itemB (.mk 5 s l)))∧Below w.heap.size w w':=by
 obtain ⟨k',s',l',a,cap,he,rfl,rfl,rfl,hs,hl⟩:=ht.form
 cases he
 unfold maxLen at hl
 obtain ⟨V,hV⟩:∃ V,nameB s=V:=⟨_,rfl⟩
 have CN:=qh (fun w=>rIsName_v V s w hV)
 have HV:=qh hV
 obtain ⟨h,hh⟩:∃ h,w.heap.size=h:=⟨_,rfl⟩
 have hb0:=qh ((Below.refl w.heap.size w).alloc (Nat.le_refl _) (.cells #[.int .i64 5,.string s,.slice a l.length cap] 24))
 have D0:=qh (nd3 (w:=w) (k:=5) (s:=s) (v2:=.slice a l.length cap) (t:=24) hh)
 have HH:=qh hh
 have HT:=qh ht
 have HC:=qh ht.cap
 have HL:Hid (NdL w l (.slice a l.length cap)):=qh ⟨_,_,_,_,ht⟩
 clear hh ht hV
 have HS:Hid (itemB (.mk 5 s l)=(V && (typL l && decide (l.length≤8)))):=qh (by rw [itemB,if_neg (by decide),if_neg (by decide),if_pos (by decide)];rw [HV.out])
 cases V with
 | false =>
  go_enter Tryz.func67,Tryz.ntmps67
  go_wp2_with fail
  refine (CN.out _).mono ?_
  rintro e w1 ⟨rfl,hbw1⟩
  have B1:Hid (Below w.heap.size w w1):=qh (hb0.out.trans (hbw1.mono hb0.out.size))
  have d0:w1.cell? ⟨w.heap.size,0,none⟩=some (.int .i64 5):=(hbw1.cell (p:=⟨w.heap.size,0,none⟩) (by rw [World.size_alloc];exact Nat.lt_succ_self _)).trans (by rw [HH.out];exact D0.out.1)
  have d2:w1.cell? ⟨w.heap.size,2,none⟩=some (.slice a l.length cap):=(hbw1.cell (p:=⟨w.heap.size,2,none⟩) (by rw [World.size_alloc];exact Nat.lt_succ_self _)).trans (by rw [HH.out];exact D0.out.2.2)
  clear CN hbw1
  go_wp2
  go_ret
  exact ⟨by rw [HS.out];rfl,B1.out⟩
 | true =>
  obtain ⟨U,hU⟩:∃ U,(typL l && decide (l.length≤8))=U:=⟨_,rfl⟩
  have C:=qh (fun w hv=>rAreTypes l (.slice a l.length cap) w hv)
  rw [hU] at C HS
  clear hU
  go_enter Tryz.func67,Tryz.ntmps67
  go_wp2_with fail
  refine (CN.out _).mono ?_
  rintro e w1 ⟨rfl,hbw1⟩
  have B1:Hid (Below w.heap.size w w1):=qh (hb0.out.trans (hbw1.mono hb0.out.size))
  have d0:w1.cell? ⟨w.heap.size,0,none⟩=some (.int .i64 5):=(hbw1.cell (p:=⟨w.heap.size,0,none⟩) (by rw [World.size_alloc];exact Nat.lt_succ_self _)).trans (by rw [HH.out];exact D0.out.1)
  have d2:w1.cell? ⟨w.heap.size,2,none⟩=some (.slice a l.length cap):=(hbw1.cell (p:=⟨w.heap.size,2,none⟩) (by rw [World.size_alloc];exact Nat.lt_succ_self _)).trans (by rw [HH.out];exact D0.out.2.2)
  clear CN hbw1
  go_wp2_with fail
  refine (C.out _ (HL.out.later B1.out)).mono ?_
  rintro e w9 ⟨rfl,hbw9⟩
  have B9:Hid (Below w.heap.size w w9):=qh (B1.out.trans (hbw9.mono B1.out.size))
  clear C hbw9 d0 d2
  go_wp2
  go_ret
  exact ⟨by rw [HS.out];rfl,B9.out⟩
set_option maxRecDepth 100000 in
set_option maxHeartbeats 2000000 in
theorem rIsItem_6 (s:ByteArray) (l:List Nd) (w:World) (v0 v1 v2:Value) (ht:NdR w (.mk 6 s l) v0 v1 v2) :
  Calls Tryz.prog 67 #[.agg #[v0,v1,v2]] w fun e w'=>e = .returned (.bool (itemB (.mk 6 s l)))∧Below w.heap.size w w':=by
 obtain ⟨k',s',l',a,cap,he,rfl,rfl,rfl,hs,hl⟩:=ht.form
 cases he
 unfold maxLen at hl
 obtain ⟨V,hV⟩:∃ V,nameB s=V:=⟨_,rfl⟩
 have CN:=qh (fun w=>rIsName_v V s w hV)
 have HV:=qh hV
 obtain ⟨h,hh⟩:∃ h,w.heap.size=h:=⟨_,rfl⟩
 have hb0:=qh ((Below.refl w.heap.size w).alloc (Nat.le_refl _) (.cells #[.int .i64 6,.string s,.slice a l.length cap] 24))
 have D0:=qh (nd3 (w:=w) (k:=6) (s:=s) (v2:=.slice a l.length cap) (t:=24) hh)
 have HH:=qh hh
 have HT:=qh ht
 have HC:=qh ht.cap
 have HL:Hid (NdL w l (.slice a l.length cap)):=qh ⟨_,_,_,_,ht⟩
 clear hh ht hV
 have HS:Hid (itemB (.mk 6 s l)=(V && (typL l && decide (l.length≤8)))):=qh (by rw [itemB,if_neg (by decide),if_neg (by decide),if_pos (by decide)];rw [HV.out])
 cases V with
 | false =>
  go_enter Tryz.func67,Tryz.ntmps67
  go_wp2_with fail
  refine (CN.out _).mono ?_
  rintro e w1 ⟨rfl,hbw1⟩
  have B1:Hid (Below w.heap.size w w1):=qh (hb0.out.trans (hbw1.mono hb0.out.size))
  have d0:w1.cell? ⟨w.heap.size,0,none⟩=some (.int .i64 6):=(hbw1.cell (p:=⟨w.heap.size,0,none⟩) (by rw [World.size_alloc];exact Nat.lt_succ_self _)).trans (by rw [HH.out];exact D0.out.1)
  have d2:w1.cell? ⟨w.heap.size,2,none⟩=some (.slice a l.length cap):=(hbw1.cell (p:=⟨w.heap.size,2,none⟩) (by rw [World.size_alloc];exact Nat.lt_succ_self _)).trans (by rw [HH.out];exact D0.out.2.2)
  clear CN hbw1
  go_wp2
  go_ret
  exact ⟨by rw [HS.out];rfl,B1.out⟩
 | true =>
  obtain ⟨U,hU⟩:∃ U,(typL l && decide (l.length≤8))=U:=⟨_,rfl⟩
  have C:=qh (fun w hv=>rAreTypes l (.slice a l.length cap) w hv)
  rw [hU] at C HS
  clear hU
  go_enter Tryz.func67,Tryz.ntmps67
  go_wp2_with fail
  refine (CN.out _).mono ?_
  rintro e w1 ⟨rfl,hbw1⟩
  have B1:Hid (Below w.heap.size w w1):=qh (hb0.out.trans (hbw1.mono hb0.out.size))
  have d0:w1.cell? ⟨w.heap.size,0,none⟩=some (.int .i64 6):=(hbw1.cell (p:=⟨w.heap.size,0,none⟩) (by rw [World.size_alloc];exact Nat.lt_succ_self _)).trans (by rw [HH.out];exact D0.out.1)
  have d2:w1.cell? ⟨w.heap.size,2,none⟩=some (.slice a l.length cap):=(hbw1.cell (p:=⟨w.heap.size,2,none⟩) (by rw [World.size_alloc];exact Nat.lt_succ_self _)).trans (by rw [HH.out];exact D0.out.2.2)
  clear CN hbw1
  go_wp2_with fail
  refine (C.out _ (HL.out.later B1.out)).mono ?_
  rintro e w9 ⟨rfl,hbw9⟩
  have B9:Hid (Below w.heap.size w w9):=qh (B1.out.trans (hbw9.mono B1.out.size))
  clear C hbw9 d0 d2
  go_wp2
  go_ret
  exact ⟨by rw [HS.out];rfl,B9.out⟩
set_option maxRecDepth 100000 in
set_option maxHeartbeats 2000000 in
theorem rIsItem_7 (s:ByteArray) (l:List Nd) (w:World) (v0 v1 v2:Value) (ht:NdR w (.mk 7 s l) v0 v1 v2) :
  Calls Tryz.prog 67 #[.agg #[v0,v1,v2]] w fun e w'=>e = .returned (.bool (itemB (.mk 7 s l)))∧Below w.heap.size w w':=by
 obtain ⟨k',s',l',a,cap,he,rfl,rfl,rfl,hs,hl⟩:=ht.form
 cases he
 unfold maxLen at hl
 obtain ⟨V,hV⟩:∃ V,nameB s=V:=⟨_,rfl⟩
 have CN:=qh (fun w=>rIsName_v V s w hV)
 have HV:=qh hV
 obtain ⟨h,hh⟩:∃ h,w.heap.size=h:=⟨_,rfl⟩
 have hb0:=qh ((Below.refl w.heap.size w).alloc (Nat.le_refl _) (.cells #[.int .i64 7,.string s,.slice a l.length cap] 24))
 have D0:=qh (nd3 (w:=w) (k:=7) (s:=s) (v2:=.slice a l.length cap) (t:=24) hh)
 have HH:=qh hh
 have HT:=qh ht
 have HC:=qh ht.cap
 have HL:Hid (NdL w l (.slice a l.length cap)):=qh ⟨_,_,_,_,ht⟩
 clear hh ht hV
 have HS:Hid (itemB (.mk 7 s l)=(V && (modeL l && decide (l.length≤8)))):=qh (by rw [itemB,if_neg (by decide),if_neg (by decide),if_neg (by decide),if_pos (by decide)];rw [HV.out])
 cases V with
 | false =>
  go_enter Tryz.func67,Tryz.ntmps67
  go_wp2_with fail
  refine (CN.out _).mono ?_
  rintro e w1 ⟨rfl,hbw1⟩
  have B1:Hid (Below w.heap.size w w1):=qh (hb0.out.trans (hbw1.mono hb0.out.size))
  have d0:w1.cell? ⟨w.heap.size,0,none⟩=some (.int .i64 7):=(hbw1.cell (p:=⟨w.heap.size,0,none⟩) (by rw [World.size_alloc];exact Nat.lt_succ_self _)).trans (by rw [HH.out];exact D0.out.1)
  have d2:w1.cell? ⟨w.heap.size,2,none⟩=some (.slice a l.length cap):=(hbw1.cell (p:=⟨w.heap.size,2,none⟩) (by rw [World.size_alloc];exact Nat.lt_succ_self _)).trans (by rw [HH.out];exact D0.out.2.2)
  clear CN hbw1
  go_wp2
  go_ret
  exact ⟨by rw [HS.out];rfl,B1.out⟩
 | true =>
  obtain ⟨U,hU⟩:∃ U,(modeL l && decide (l.length≤8))=U:=⟨_,rfl⟩
  have C:=qh (fun w hv=>rAreModes l (.slice a l.length cap) w hv)
  rw [hU] at C HS
  clear hU
  go_enter Tryz.func67,Tryz.ntmps67
  go_wp2_with fail
  refine (CN.out _).mono ?_
  rintro e w1 ⟨rfl,hbw1⟩
  have B1:Hid (Below w.heap.size w w1):=qh (hb0.out.trans (hbw1.mono hb0.out.size))
  have d0:w1.cell? ⟨w.heap.size,0,none⟩=some (.int .i64 7):=(hbw1.cell (p:=⟨w.heap.size,0,none⟩) (by rw [World.size_alloc];exact Nat.lt_succ_self _)).trans (by rw [HH.out];exact D0.out.1)
  have d2:w1.cell? ⟨w.heap.size,2,none⟩=some (.slice a l.length cap):=(hbw1.cell (p:=⟨w.heap.size,2,none⟩) (by rw [World.size_alloc];exact Nat.lt_succ_self _)).trans (by rw [HH.out];exact D0.out.2.2)
  clear CN hbw1
  go_wp2_with fail
  refine (C.out _ (HL.out.later B1.out)).mono ?_
  rintro e w9 ⟨rfl,hbw9⟩
  have B9:Hid (Below w.heap.size w w9):=qh (B1.out.trans (hbw9.mono B1.out.size))
  clear C hbw9 d0 d2
  go_wp2
  go_ret
  exact ⟨by rw [HS.out];rfl,B9.out⟩
set_option maxRecDepth 100000 in
set_option maxHeartbeats 2000000 in
theorem rIsItem_8 (s:ByteArray) (l:List Nd) (w:World) (v0 v1 v2:Value) (ht:NdR w (.mk 8 s l) v0 v1 v2) :
  Calls Tryz.prog 67 #[.agg #[v0,v1,v2]] w fun e w'=>e = .returned (.bool (itemB (.mk 8 s l)))∧Below w.heap.size w w':=by
 obtain ⟨k',s',l',a,cap,he,rfl,rfl,rfl,hs,hl⟩:=ht.form
 cases he
 unfold maxLen at hl
 obtain ⟨V,hV⟩:∃ V,nameB s=V:=⟨_,rfl⟩
 have CN:=qh (fun w=>rIsName_v V s w hV)
 have HV:=qh hV
 obtain ⟨h,hh⟩:∃ h,w.heap.size=h:=⟨_,rfl⟩
 have hb0:=qh ((Below.refl w.heap.size w).alloc (Nat.le_refl _) (.cells #[.int .i64 8,.string s,.slice a l.length cap] 24))
 have D0:=qh (nd3 (w:=w) (k:=8) (s:=s) (v2:=.slice a l.length cap) (t:=24) hh)
 have HH:=qh hh
 have HT:=qh ht
 have HC:=qh ht.cap
 have HL:Hid (NdL w l (.slice a l.length cap)):=qh ⟨_,_,_,_,ht⟩
 clear hh ht hV
 have HS:Hid (itemB (.mk 8 s l)=(V && (decide (l.length=1) && formL l))):=qh (by rw [itemB,if_neg (by decide),if_neg (by decide),if_neg (by decide),if_neg (by decide),if_pos (by decide)];rw [HV.out])
 cases V with
 | false =>
  go_enter Tryz.func67,Tryz.ntmps67
  go_wp2_with fail
  refine (CN.out _).mono ?_
  rintro e w1 ⟨rfl,hbw1⟩
  have B1:Hid (Below w.heap.size w w1):=qh (hb0.out.trans (hbw1.mono hb0.out.size))
  have d0:w1.cell? ⟨w.heap.size,0,none⟩=some (.int .i64 8):=(hbw1.cell (p:=⟨w.heap.size,0,none⟩) (by rw [World.size_alloc];exact Nat.lt_succ_self _)).trans (by rw [HH.out];exact D0.out.1)
  have d2:w1.cell? ⟨w.heap.size,2,none⟩=some (.slice a l.length cap):=(hbw1.cell (p:=⟨w.heap.size,2,none⟩) (by rw [World.size_alloc];exact Nat.lt_succ_self _)).trans (by rw [HH.out];exact D0.out.2.2)
  clear CN hbw1
  go_wp2
  go_ret
  exact ⟨by rw [HS.out];rfl,B1.out⟩
 | true =>
  by_cases hll:l.length=1
  ·have e1:((l.length:Int)==1)=true:=by rw [hll];rfl
   have j0:0 < l.length:=by omega
   have j1:(0:Int) < (l.length:Int):=by omega
   have HM:=qh hll
   clear hll
   go_enter Tryz.func67,Tryz.ntmps67
   go_wp2_with fail
   refine (CN.out _).mono ?_
   rintro e w1 ⟨rfl,hbw1⟩
   have B1:Hid (Below w.heap.size w w1):=qh (hb0.out.trans (hbw1.mono hb0.out.size))
   have d0:w1.cell? ⟨w.heap.size,0,none⟩=some (.int .i64 8):=(hbw1.cell (p:=⟨w.heap.size,0,none⟩) (by rw [World.size_alloc];exact Nat.lt_succ_self _)).trans (by rw [HH.out];exact D0.out.1)
   have d2:w1.cell? ⟨w.heap.size,2,none⟩=some (.slice a l.length cap):=(hbw1.cell (p:=⟨w.heap.size,2,none⟩) (by rw [World.size_alloc];exact Nat.lt_succ_self _)).trans (by rw [HH.out];exact D0.out.2.2)
   clear CN hbw1
   obtain ⟨b,o,k1,s1,l1,a1,c1,rfl,eq1,x0,x1,x2,r1⟩:=(HT.out.later B1.out).kid 0 j0
   obtain ⟨U,hU⟩:∃ U,formB l[0]=U:=⟨_,rfl⟩
   have HE:Hid (formL l=U):=qh (by rw [formL_lone HM.out,←hU])
   rw [eq1] at hU
   have CT:=qh (rIsForm _ (.mk k1 s1 l1) w1 _ _ _ (Nat.le_refl _) r1)
   rw [hU] at CT
   simp only [Nat.zero_mul,Nat.add_zero] at x0 x1 x2
   have nb:=lt_of_cell x0
   clear eq1 hU r1
   go_wp2_with fail
   refine CT.out.mono ?_
   clear CT
   rintro e w9 ⟨rfl,hbw9⟩
   have B9:Hid (Below w.heap.size w w9):=qh (B1.out.trans (hbw9.mono B1.out.size))
   clear hbw9 x0 x1 x2 d0 d2
   go_wp2
   go_ret
   exact ⟨by rw [HS.out,HE.out,decide_eq_true HM.out];rfl,B9.out⟩
  ·have e1:((l.length:Int)==1)=false:=by rw [beq_eq_false_iff_ne];omega
   rw [decide_eq_false hll,Bool.false_and,Bool.and_false] at HS
   clear hll
   go_enter Tryz.func67,Tryz.ntmps67
   go_wp2_with fail
   refine (CN.out _).mono ?_
   rintro e w1 ⟨rfl,hbw1⟩
   have B1:Hid (Below w.heap.size w w1):=qh (hb0.out.trans (hbw1.mono hb0.out.size))
   have d0:w1.cell? ⟨w.heap.size,0,none⟩=some (.int .i64 8):=(hbw1.cell (p:=⟨w.heap.size,0,none⟩) (by rw [World.size_alloc];exact Nat.lt_succ_self _)).trans (by rw [HH.out];exact D0.out.1)
   have d2:w1.cell? ⟨w.heap.size,2,none⟩=some (.slice a l.length cap):=(hbw1.cell (p:=⟨w.heap.size,2,none⟩) (by rw [World.size_alloc];exact Nat.lt_succ_self _)).trans (by rw [HH.out];exact D0.out.2.2)
   clear CN hbw1
   go_wp2
   go_ret
   exact ⟨by rw [HS.out];rfl,B1.out⟩
set_option maxRecDepth 100000 in
set_option maxHeartbeats 2000000 in
theorem rIsItem_9 (s:ByteArray) (l:List Nd) (w:World) (v0 v1 v2:Value) (ht:NdR w (.mk 9 s l) v0 v1 v2) :
  Calls Tryz.prog 67 #[.agg #[v0,v1,v2]] w fun e w'=>e = .returned (.bool (itemB (.mk 9 s l)))∧Below w.heap.size w w':=by
 obtain ⟨k',s',l',a,cap,he,rfl,rfl,rfl,hs,hl⟩:=ht.form
 cases he
 unfold maxLen at hl
 obtain ⟨V,hV⟩:∃ V,nameB s=V:=⟨_,rfl⟩
 have CN:=qh (fun w=>rIsName_v V s w hV)
 have HV:=qh hV
 obtain ⟨h,hh⟩:∃ h,w.heap.size=h:=⟨_,rfl⟩
 have hb0:=qh ((Below.refl w.heap.size w).alloc (Nat.le_refl _) (.cells #[.int .i64 9,.string s,.slice a l.length cap] 24))
 have D0:=qh (nd3 (w:=w) (k:=9) (s:=s) (v2:=.slice a l.length cap) (t:=24) hh)
 have HH:=qh hh
 have HT:=qh ht
 have HC:=qh ht.cap
 have HL:Hid (NdL w l (.slice a l.length cap)):=qh ⟨_,_,_,_,ht⟩
 clear hh ht hV
 have HS:Hid (itemB (.mk 9 s l)=(V && (decide (l.length=1) && formL l))):=qh (by rw [itemB,if_neg (by decide),if_neg (by decide),if_neg (by decide),if_neg (by decide),if_pos (by decide)];rw [HV.out])
 cases V with
 | false =>
  go_enter Tryz.func67,Tryz.ntmps67
  go_wp2_with fail
  refine (CN.out _).mono ?_
  rintro e w1 ⟨rfl,hbw1⟩
  have B1:Hid (Below w.heap.size w w1):=qh (hb0.out.trans (hbw1.mono hb0.out.size))
  have d0:w1.cell? ⟨w.heap.size,0,none⟩=some (.int .i64 9):=(hbw1.cell (p:=⟨w.heap.size,0,none⟩) (by rw [World.size_alloc];exact Nat.lt_succ_self _)).trans (by rw [HH.out];exact D0.out.1)
  have d2:w1.cell? ⟨w.heap.size,2,none⟩=some (.slice a l.length cap):=(hbw1.cell (p:=⟨w.heap.size,2,none⟩) (by rw [World.size_alloc];exact Nat.lt_succ_self _)).trans (by rw [HH.out];exact D0.out.2.2)
  clear CN hbw1
  go_wp2
  go_ret
  exact ⟨by rw [HS.out];rfl,B1.out⟩
 | true =>
  by_cases hll:l.length=1
  ·have e1:((l.length:Int)==1)=true:=by rw [hll];rfl
   have j0:0 < l.length:=by omega
   have j1:(0:Int) < (l.length:Int):=by omega
   have HM:=qh hll
   clear hll
   go_enter Tryz.func67,Tryz.ntmps67
   go_wp2_with fail
   refine (CN.out _).mono ?_
   rintro e w1 ⟨rfl,hbw1⟩
   have B1:Hid (Below w.heap.size w w1):=qh (hb0.out.trans (hbw1.mono hb0.out.size))
   have d0:w1.cell? ⟨w.heap.size,0,none⟩=some (.int .i64 9):=(hbw1.cell (p:=⟨w.heap.size,0,none⟩) (by rw [World.size_alloc];exact Nat.lt_succ_self _)).trans (by rw [HH.out];exact D0.out.1)
   have d2:w1.cell? ⟨w.heap.size,2,none⟩=some (.slice a l.length cap):=(hbw1.cell (p:=⟨w.heap.size,2,none⟩) (by rw [World.size_alloc];exact Nat.lt_succ_self _)).trans (by rw [HH.out];exact D0.out.2.2)
   clear CN hbw1
   obtain ⟨b,o,k1,s1,l1,a1,c1,rfl,eq1,x0,x1,x2,r1⟩:=(HT.out.later B1.out).kid 0 j0
   obtain ⟨U,hU⟩:∃ U,formB l[0]=U:=⟨_,rfl⟩
   have HE:Hid (formL l=U):=qh (by rw [formL_lone HM.out,←hU])
   rw [eq1] at hU
   have CT:=qh (rIsForm _ (.mk k1 s1 l1) w1 _ _ _ (Nat.le_refl _) r1)
   rw [hU] at CT
   simp only [Nat.zero_mul,Nat.add_zero] at x0 x1 x2
   have nb:=lt_of_cell x0
   clear eq1 hU r1
   go_wp2_with fail
   refine CT.out.mono ?_
   clear CT
   rintro e w9 ⟨rfl,hbw9⟩
   have B9:Hid (Below w.heap.size w w9):=qh (B1.out.trans (hbw9.mono B1.out.size))
   clear hbw9 x0 x1 x2 d0 d2
   go_wp2
   go_ret
   exact ⟨by rw [HS.out,HE.out,decide_eq_true HM.out];rfl,B9.out⟩
  ·have e1:((l.length:Int)==1)=false:=by rw [beq_eq_false_iff_ne];omega
   rw [decide_eq_false hll,Bool.false_and,Bool.and_false] at HS
   clear hll
   go_enter Tryz.func67,Tryz.ntmps67
   go_wp2_with fail
   refine (CN.out _).mono ?_
   rintro e w1 ⟨rfl,hbw1⟩
   have B1:Hid (Below w.heap.size w w1):=qh (hb0.out.trans (hbw1.mono hb0.out.size))
   have d0:w1.cell? ⟨w.heap.size,0,none⟩=some (.int .i64 9):=(hbw1.cell (p:=⟨w.heap.size,0,none⟩) (by rw [World.size_alloc];exact Nat.lt_succ_self _)).trans (by rw [HH.out];exact D0.out.1)
   have d2:w1.cell? ⟨w.heap.size,2,none⟩=some (.slice a l.length cap):=(hbw1.cell (p:=⟨w.heap.size,2,none⟩) (by rw [World.size_alloc];exact Nat.lt_succ_self _)).trans (by rw [HH.out];exact D0.out.2.2)
   clear CN hbw1
   go_wp2
   go_ret
   exact ⟨by rw [HS.out];rfl,B1.out⟩
set_option maxRecDepth 100000 in
set_option maxHeartbeats 2000000 in
theorem rIsItem_10 (s:ByteArray) (l:List Nd) (w:World) (v0 v1 v2:Value) (ht:NdR w (.mk 10 s l) v0 v1 v2) :
  Calls Tryz.prog 67 #[.agg #[v0,v1,v2]] w fun e w'=>e = .returned (.bool (itemB (.mk 10 s l)))∧Below w.heap.size w w':=by
 obtain ⟨k',s',l',a,cap,he,rfl,rfl,rfl,hs,hl⟩:=ht.form
 cases he
 unfold maxLen at hl
 obtain ⟨V,hV⟩:∃ V,nameB s=V:=⟨_,rfl⟩
 have CN:=qh (fun w=>rIsName_v V s w hV)
 have HV:=qh hV
 obtain ⟨h,hh⟩:∃ h,w.heap.size=h:=⟨_,rfl⟩
 have hb0:=qh ((Below.refl w.heap.size w).alloc (Nat.le_refl _) (.cells #[.int .i64 10,.string s,.slice a l.length cap] 24))
 have D0:=qh (nd3 (w:=w) (k:=10) (s:=s) (v2:=.slice a l.length cap) (t:=24) hh)
 have HH:=qh hh
 have HT:=qh ht
 have HC:=qh ht.cap
 have HL:Hid (NdL w l (.slice a l.length cap)):=qh ⟨_,_,_,_,ht⟩
 clear hh ht hV
 have HS:Hid (itemB (.mk 10 s l)=(V && (decide (l.length=1) && formL l))):=qh (by rw [itemB,if_neg (by decide),if_neg (by decide),if_neg (by decide),if_neg (by decide),if_pos (by decide)];rw [HV.out])
 cases V with
 | false =>
  go_enter Tryz.func67,Tryz.ntmps67
  go_wp2_with fail
  refine (CN.out _).mono ?_
  rintro e w1 ⟨rfl,hbw1⟩
  have B1:Hid (Below w.heap.size w w1):=qh (hb0.out.trans (hbw1.mono hb0.out.size))
  have d0:w1.cell? ⟨w.heap.size,0,none⟩=some (.int .i64 10):=(hbw1.cell (p:=⟨w.heap.size,0,none⟩) (by rw [World.size_alloc];exact Nat.lt_succ_self _)).trans (by rw [HH.out];exact D0.out.1)
  have d2:w1.cell? ⟨w.heap.size,2,none⟩=some (.slice a l.length cap):=(hbw1.cell (p:=⟨w.heap.size,2,none⟩) (by rw [World.size_alloc];exact Nat.lt_succ_self _)).trans (by rw [HH.out];exact D0.out.2.2)
  clear CN hbw1
  go_wp2
  go_ret
  exact ⟨by rw [HS.out];rfl,B1.out⟩
 | true =>
  by_cases hll:l.length=1
  ·have e1:((l.length:Int)==1)=true:=by rw [hll];rfl
   have j0:0 < l.length:=by omega
   have j1:(0:Int) < (l.length:Int):=by omega
   have HM:=qh hll
   clear hll
   go_enter Tryz.func67,Tryz.ntmps67
   go_wp2_with fail
   refine (CN.out _).mono ?_
   rintro e w1 ⟨rfl,hbw1⟩
   have B1:Hid (Below w.heap.size w w1):=qh (hb0.out.trans (hbw1.mono hb0.out.size))
   have d0:w1.cell? ⟨w.heap.size,0,none⟩=some (.int .i64 10):=(hbw1.cell (p:=⟨w.heap.size,0,none⟩) (by rw [World.size_alloc];exact Nat.lt_succ_self _)).trans (by rw [HH.out];exact D0.out.1)
   have d2:w1.cell? ⟨w.heap.size,2,none⟩=some (.slice a l.length cap):=(hbw1.cell (p:=⟨w.heap.size,2,none⟩) (by rw [World.size_alloc];exact Nat.lt_succ_self _)).trans (by rw [HH.out];exact D0.out.2.2)
   clear CN hbw1
   obtain ⟨b,o,k1,s1,l1,a1,c1,rfl,eq1,x0,x1,x2,r1⟩:=(HT.out.later B1.out).kid 0 j0
   obtain ⟨U,hU⟩:∃ U,formB l[0]=U:=⟨_,rfl⟩
   have HE:Hid (formL l=U):=qh (by rw [formL_lone HM.out,←hU])
   rw [eq1] at hU
   have CT:=qh (rIsForm _ (.mk k1 s1 l1) w1 _ _ _ (Nat.le_refl _) r1)
   rw [hU] at CT
   simp only [Nat.zero_mul,Nat.add_zero] at x0 x1 x2
   have nb:=lt_of_cell x0
   clear eq1 hU r1
   go_wp2_with fail
   refine CT.out.mono ?_
   clear CT
   rintro e w9 ⟨rfl,hbw9⟩
   have B9:Hid (Below w.heap.size w w9):=qh (B1.out.trans (hbw9.mono B1.out.size))
   clear hbw9 x0 x1 x2 d0 d2
   go_wp2
   go_ret
   exact ⟨by rw [HS.out,HE.out,decide_eq_true HM.out];rfl,B9.out⟩
  ·have e1:((l.length:Int)==1)=false:=by rw [beq_eq_false_iff_ne];omega
   rw [decide_eq_false hll,Bool.false_and,Bool.and_false] at HS
   clear hll
   go_enter Tryz.func67,Tryz.ntmps67
   go_wp2_with fail
   refine (CN.out _).mono ?_
   rintro e w1 ⟨rfl,hbw1⟩
   have B1:Hid (Below w.heap.size w w1):=qh (hb0.out.trans (hbw1.mono hb0.out.size))
   have d0:w1.cell? ⟨w.heap.size,0,none⟩=some (.int .i64 10):=(hbw1.cell (p:=⟨w.heap.size,0,none⟩) (by rw [World.size_alloc];exact Nat.lt_succ_self _)).trans (by rw [HH.out];exact D0.out.1)
   have d2:w1.cell? ⟨w.heap.size,2,none⟩=some (.slice a l.length cap):=(hbw1.cell (p:=⟨w.heap.size,2,none⟩) (by rw [World.size_alloc];exact Nat.lt_succ_self _)).trans (by rw [HH.out];exact D0.out.2.2)
   clear CN hbw1
   go_wp2
   go_ret
   exact ⟨by rw [HS.out];rfl,B1.out⟩
set_option maxRecDepth 100000 in
set_option maxHeartbeats 2000000 in
theorem rIsItem_11 (s:ByteArray) (l:List Nd) (w:World) (v0 v1 v2:Value) (ht:NdR w (.mk 11 s l) v0 v1 v2) :
  Calls Tryz.prog 67 #[.agg #[v0,v1,v2]] w fun e w'=>e = .returned (.bool (itemB (.mk 11 s l)))∧Below w.heap.size w w':=by
 obtain ⟨k',s',l',a,cap,he,rfl,rfl,rfl,hs,hl⟩:=ht.form
 cases he
 unfold maxLen at hl
 obtain ⟨V,hV⟩:∃ V,nameB s=V:=⟨_,rfl⟩
 have CN:=qh (fun w=>rIsName_v V s w hV)
 have HV:=qh hV
 obtain ⟨h,hh⟩:∃ h,w.heap.size=h:=⟨_,rfl⟩
 have hb0:=qh ((Below.refl w.heap.size w).alloc (Nat.le_refl _) (.cells #[.int .i64 11,.string s,.slice a l.length cap] 24))
 have D0:=qh (nd3 (w:=w) (k:=11) (s:=s) (v2:=.slice a l.length cap) (t:=24) hh)
 have HH:=qh hh
 have HT:=qh ht
 have HC:=qh ht.cap
 have HL:Hid (NdL w l (.slice a l.length cap)):=qh ⟨_,_,_,_,ht⟩
 clear hh ht hV
 have HS:Hid (itemB (.mk 11 s l)=(V && (decide (l.length=1) && formL l))):=qh (by rw [itemB,if_neg (by decide),if_neg (by decide),if_neg (by decide),if_neg (by decide),if_pos (by decide)];rw [HV.out])
 cases V with
 | false =>
  go_enter Tryz.func67,Tryz.ntmps67
  go_wp2_with fail
  refine (CN.out _).mono ?_
  rintro e w1 ⟨rfl,hbw1⟩
  have B1:Hid (Below w.heap.size w w1):=qh (hb0.out.trans (hbw1.mono hb0.out.size))
  have d0:w1.cell? ⟨w.heap.size,0,none⟩=some (.int .i64 11):=(hbw1.cell (p:=⟨w.heap.size,0,none⟩) (by rw [World.size_alloc];exact Nat.lt_succ_self _)).trans (by rw [HH.out];exact D0.out.1)
  have d2:w1.cell? ⟨w.heap.size,2,none⟩=some (.slice a l.length cap):=(hbw1.cell (p:=⟨w.heap.size,2,none⟩) (by rw [World.size_alloc];exact Nat.lt_succ_self _)).trans (by rw [HH.out];exact D0.out.2.2)
  clear CN hbw1
  go_wp2
  go_ret
  exact ⟨by rw [HS.out];rfl,B1.out⟩
 | true =>
  by_cases hll:l.length=1
  ·have e1:((l.length:Int)==1)=true:=by rw [hll];rfl
   have j0:0 < l.length:=by omega
   have j1:(0:Int) < (l.length:Int):=by omega
   have HM:=qh hll
   clear hll
   go_enter Tryz.func67,Tryz.ntmps67
   go_wp2_with fail
   refine (CN.out _).mono ?_
   rintro e w1 ⟨rfl,hbw1⟩
   have B1:Hid (Below w.heap.size w w1):=qh (hb0.out.trans (hbw1.mono hb0.out.size))
   have d0:w1.cell? ⟨w.heap.size,0,none⟩=some (.int .i64 11):=(hbw1.cell (p:=⟨w.heap.size,0,none⟩) (by rw [World.size_alloc];exact Nat.lt_succ_self _)).trans (by rw [HH.out];exact D0.out.1)
   have d2:w1.cell? ⟨w.heap.size,2,none⟩=some (.slice a l.length cap):=(hbw1.cell (p:=⟨w.heap.size,2,none⟩) (by rw [World.size_alloc];exact Nat.lt_succ_self _)).trans (by rw [HH.out];exact D0.out.2.2)
   clear CN hbw1
   obtain ⟨b,o,k1,s1,l1,a1,c1,rfl,eq1,x0,x1,x2,r1⟩:=(HT.out.later B1.out).kid 0 j0
   obtain ⟨U,hU⟩:∃ U,formB l[0]=U:=⟨_,rfl⟩
   have HE:Hid (formL l=U):=qh (by rw [formL_lone HM.out,←hU])
   rw [eq1] at hU
   have CT:=qh (rIsForm _ (.mk k1 s1 l1) w1 _ _ _ (Nat.le_refl _) r1)
   rw [hU] at CT
   simp only [Nat.zero_mul,Nat.add_zero] at x0 x1 x2
   have nb:=lt_of_cell x0
   clear eq1 hU r1
   go_wp2_with fail
   refine CT.out.mono ?_
   clear CT
   rintro e w9 ⟨rfl,hbw9⟩
   have B9:Hid (Below w.heap.size w w9):=qh (B1.out.trans (hbw9.mono B1.out.size))
   clear hbw9 x0 x1 x2 d0 d2
   go_wp2
   go_ret
   exact ⟨by rw [HS.out,HE.out,decide_eq_true HM.out];rfl,B9.out⟩
  ·have e1:((l.length:Int)==1)=false:=by rw [beq_eq_false_iff_ne];omega
   rw [decide_eq_false hll,Bool.false_and,Bool.and_false] at HS
   clear hll
   go_enter Tryz.func67,Tryz.ntmps67
   go_wp2_with fail
   refine (CN.out _).mono ?_
   rintro e w1 ⟨rfl,hbw1⟩
   have B1:Hid (Below w.heap.size w w1):=qh (hb0.out.trans (hbw1.mono hb0.out.size))
   have d0:w1.cell? ⟨w.heap.size,0,none⟩=some (.int .i64 11):=(hbw1.cell (p:=⟨w.heap.size,0,none⟩) (by rw [World.size_alloc];exact Nat.lt_succ_self _)).trans (by rw [HH.out];exact D0.out.1)
   have d2:w1.cell? ⟨w.heap.size,2,none⟩=some (.slice a l.length cap):=(hbw1.cell (p:=⟨w.heap.size,2,none⟩) (by rw [World.size_alloc];exact Nat.lt_succ_self _)).trans (by rw [HH.out];exact D0.out.2.2)
   clear CN hbw1
   go_wp2
   go_ret
   exact ⟨by rw [HS.out];rfl,B1.out⟩
set_option maxRecDepth 100000 in
set_option maxHeartbeats 2000000 in
theorem rIsItem_12 (s:ByteArray) (l:List Nd) (w:World) (v0 v1 v2:Value) (ht:NdR w (.mk 12 s l) v0 v1 v2) :
  Calls Tryz.prog 67 #[.agg #[v0,v1,v2]] w fun e w'=>e = .returned (.bool (itemB (.mk 12 s l)))∧Below w.heap.size w w':=by
 obtain ⟨k',s',l',a,cap,he,rfl,rfl,rfl,hs,hl⟩:=ht.form
 cases he
 unfold maxLen at hl
 obtain ⟨V,hV⟩:∃ V,nameB s=V:=⟨_,rfl⟩
 have CN:=qh (fun w=>rIsName_v V s w hV)
 have HV:=qh hV
 obtain ⟨h,hh⟩:∃ h,w.heap.size=h:=⟨_,rfl⟩
 have hb0:=qh ((Below.refl w.heap.size w).alloc (Nat.le_refl _) (.cells #[.int .i64 12,.string s,.slice a l.length cap] 24))
 have D0:=qh (nd3 (w:=w) (k:=12) (s:=s) (v2:=.slice a l.length cap) (t:=24) hh)
 have HH:=qh hh
 have HT:=qh ht
 have HC:=qh ht.cap
 have HL:Hid (NdL w l (.slice a l.length cap)):=qh ⟨_,_,_,_,ht⟩
 clear hh ht hV
 have HS:Hid (itemB (.mk 12 s l)=(V && decide (l.length=0))):=qh (by rw [itemB,if_neg (by decide),if_neg (by decide),if_neg (by decide),if_neg (by decide),if_neg (by decide),if_pos (by decide)];rw [HV.out])
 cases V with
 | false =>
  go_enter Tryz.func67,Tryz.ntmps67
  go_wp2_with fail
  refine (CN.out _).mono ?_
  rintro e w1 ⟨rfl,hbw1⟩
  have B1:Hid (Below w.heap.size w w1):=qh (hb0.out.trans (hbw1.mono hb0.out.size))
  have d0:w1.cell? ⟨w.heap.size,0,none⟩=some (.int .i64 12):=(hbw1.cell (p:=⟨w.heap.size,0,none⟩) (by rw [World.size_alloc];exact Nat.lt_succ_self _)).trans (by rw [HH.out];exact D0.out.1)
  have d2:w1.cell? ⟨w.heap.size,2,none⟩=some (.slice a l.length cap):=(hbw1.cell (p:=⟨w.heap.size,2,none⟩) (by rw [World.size_alloc];exact Nat.lt_succ_self _)).trans (by rw [HH.out];exact D0.out.2.2)
  clear CN hbw1
  go_wp2
  go_ret
  exact ⟨by rw [HS.out];rfl,B1.out⟩
 | true =>
  by_cases hll:l.length=0
  ·have e1:((l.length:Int)==0)=true:=by rw [hll];rfl
   rw [decide_eq_true hll] at HS
   clear hll
   go_enter Tryz.func67,Tryz.ntmps67
   go_wp2_with fail
   refine (CN.out _).mono ?_
   rintro e w1 ⟨rfl,hbw1⟩
   have B1:Hid (Below w.heap.size w w1):=qh (hb0.out.trans (hbw1.mono hb0.out.size))
   have d0:w1.cell? ⟨w.heap.size,0,none⟩=some (.int .i64 12):=(hbw1.cell (p:=⟨w.heap.size,0,none⟩) (by rw [World.size_alloc];exact Nat.lt_succ_self _)).trans (by rw [HH.out];exact D0.out.1)
   have d2:w1.cell? ⟨w.heap.size,2,none⟩=some (.slice a l.length cap):=(hbw1.cell (p:=⟨w.heap.size,2,none⟩) (by rw [World.size_alloc];exact Nat.lt_succ_self _)).trans (by rw [HH.out];exact D0.out.2.2)
   clear CN hbw1
   go_wp2
   go_ret
   exact ⟨by rw [HS.out];rfl,B1.out⟩
  ·have e1:((l.length:Int)==0)=false:=by rw [beq_eq_false_iff_ne];omega
   rw [decide_eq_false hll,Bool.and_false] at HS
   clear hll
   go_enter Tryz.func67,Tryz.ntmps67
   go_wp2_with fail
   refine (CN.out _).mono ?_
   rintro e w1 ⟨rfl,hbw1⟩
   have B1:Hid (Below w.heap.size w w1):=qh (hb0.out.trans (hbw1.mono hb0.out.size))
   have d0:w1.cell? ⟨w.heap.size,0,none⟩=some (.int .i64 12):=(hbw1.cell (p:=⟨w.heap.size,0,none⟩) (by rw [World.size_alloc];exact Nat.lt_succ_self _)).trans (by rw [HH.out];exact D0.out.1)
   have d2:w1.cell? ⟨w.heap.size,2,none⟩=some (.slice a l.length cap):=(hbw1.cell (p:=⟨w.heap.size,2,none⟩) (by rw [World.size_alloc];exact Nat.lt_succ_self _)).trans (by rw [HH.out];exact D0.out.2.2)
   clear CN hbw1
   go_wp2
   go_ret
   exact ⟨by rw [HS.out];rfl,B1.out⟩
set_option maxRecDepth 100000 in
set_option maxHeartbeats 2000000 in
theorem rIsItem_13 (s:ByteArray) (l:List Nd) (w:World) (v0 v1 v2:Value) (ht:NdR w (.mk 13 s l) v0 v1 v2) :
  Calls Tryz.prog 67 #[.agg #[v0,v1,v2]] w fun e w'=>e = .returned (.bool (itemB (.mk 13 s l)))∧Below w.heap.size w w':=by
 obtain ⟨k',s',l',a,cap,he,rfl,rfl,rfl,hs,hl⟩:=ht.form
 cases he
 unfold maxLen at hl
 obtain ⟨V,hV⟩:∃ V,nameB s=V:=⟨_,rfl⟩
 have CN:=qh (fun w=>rIsName_v V s w hV)
 have HV:=qh hV
 obtain ⟨h,hh⟩:∃ h,w.heap.size=h:=⟨_,rfl⟩
 have hb0:=qh ((Below.refl w.heap.size w).alloc (Nat.le_refl _) (.cells #[.int .i64 13,.string s,.slice a l.length cap] 24))
 have D0:=qh (nd3 (w:=w) (k:=13) (s:=s) (v2:=.slice a l.length cap) (t:=24) hh)
 have HH:=qh hh
 have HT:=qh ht
 have HC:=qh ht.cap
 have HL:Hid (NdL w l (.slice a l.length cap)):=qh ⟨_,_,_,_,ht⟩
 clear hh ht hV
 have HS:Hid (itemB (.mk 13 s l)=(V && decide (l.length=0))):=qh (by rw [itemB,if_neg (by decide),if_neg (by decide),if_neg (by decide),if_neg (by decide),if_neg (by decide),if_pos (by decide)];rw [HV.out])
 cases V with
 | false =>
  go_enter Tryz.func67,Tryz.ntmps67
  go_wp2_with fail
  refine (CN.out _).mono ?_
  rintro e w1 ⟨rfl,hbw1⟩
  have B1:Hid (Below w.heap.size w w1):=qh (hb0.out.trans (hbw1.mono hb0.out.size))
  have d0:w1.cell? ⟨w.heap.size,0,none⟩=some (.int .i64 13):=(hbw1.cell (p:=⟨w.heap.size,0,none⟩) (by rw [World.size_alloc];exact Nat.lt_succ_self _)).trans (by rw [HH.out];exact D0.out.1)
  have d2:w1.cell? ⟨w.heap.size,2,none⟩=some (.slice a l.length cap):=(hbw1.cell (p:=⟨w.heap.size,2,none⟩) (by rw [World.size_alloc];exact Nat.lt_succ_self _)).trans (by rw [HH.out];exact D0.out.2.2)
  clear CN hbw1
  go_wp2
  go_ret
  exact ⟨by rw [HS.out];rfl,B1.out⟩
 | true =>
  by_cases hll:l.length=0
  ·have e1:((l.length:Int)==0)=true:=by rw [hll];rfl
   rw [decide_eq_true hll] at HS
   clear hll
   go_enter Tryz.func67,Tryz.ntmps67
   go_wp2_with fail
   refine (CN.out _).mono ?_
   rintro e w1 ⟨rfl,hbw1⟩
   have B1:Hid (Below w.heap.size w w1):=qh (hb0.out.trans (hbw1.mono hb0.out.size))
   have d0:w1.cell? ⟨w.heap.size,0,none⟩=some (.int .i64 13):=(hbw1.cell (p:=⟨w.heap.size,0,none⟩) (by rw [World.size_alloc];exact Nat.lt_succ_self _)).trans (by rw [HH.out];exact D0.out.1)
   have d2:w1.cell? ⟨w.heap.size,2,none⟩=some (.slice a l.length cap):=(hbw1.cell (p:=⟨w.heap.size,2,none⟩) (by rw [World.size_alloc];exact Nat.lt_succ_self _)).trans (by rw [HH.out];exact D0.out.2.2)
   clear CN hbw1
   go_wp2
   go_ret
   exact ⟨by rw [HS.out];rfl,B1.out⟩
  ·have e1:((l.length:Int)==0)=false:=by rw [beq_eq_false_iff_ne];omega
   rw [decide_eq_false hll,Bool.and_false] at HS
   clear hll
   go_enter Tryz.func67,Tryz.ntmps67
   go_wp2_with fail
   refine (CN.out _).mono ?_
   rintro e w1 ⟨rfl,hbw1⟩
   have B1:Hid (Below w.heap.size w w1):=qh (hb0.out.trans (hbw1.mono hb0.out.size))
   have d0:w1.cell? ⟨w.heap.size,0,none⟩=some (.int .i64 13):=(hbw1.cell (p:=⟨w.heap.size,0,none⟩) (by rw [World.size_alloc];exact Nat.lt_succ_self _)).trans (by rw [HH.out];exact D0.out.1)
   have d2:w1.cell? ⟨w.heap.size,2,none⟩=some (.slice a l.length cap):=(hbw1.cell (p:=⟨w.heap.size,2,none⟩) (by rw [World.size_alloc];exact Nat.lt_succ_self _)).trans (by rw [HH.out];exact D0.out.2.2)
   clear CN hbw1
   go_wp2
   go_ret
   exact ⟨by rw [HS.out];rfl,B1.out⟩
set_option maxRecDepth 100000 in
set_option maxHeartbeats 2000000 in
theorem rIsItem_14 (s:ByteArray) (l:List Nd) (w:World) (v0 v1 v2:Value) (ht:NdR w (.mk 14 s l) v0 v1 v2) :
  Calls Tryz.prog 67 #[.agg #[v0,v1,v2]] w fun e w'=>e = .returned (.bool (itemB (.mk 14 s l)))∧Below w.heap.size w w':=by
 obtain ⟨k',s',l',a,cap,he,rfl,rfl,rfl,hs,hl⟩:=ht.form
 cases he
 unfold maxLen at hl
 obtain ⟨V,hV⟩:∃ V,nameB s=V:=⟨_,rfl⟩
 have CN:=qh (fun w=>rIsName_v V s w hV)
 have HV:=qh hV
 obtain ⟨h,hh⟩:∃ h,w.heap.size=h:=⟨_,rfl⟩
 have hb0:=qh ((Below.refl w.heap.size w).alloc (Nat.le_refl _) (.cells #[.int .i64 14,.string s,.slice a l.length cap] 24))
 have D0:=qh (nd3 (w:=w) (k:=14) (s:=s) (v2:=.slice a l.length cap) (t:=24) hh)
 have HH:=qh hh
 have HT:=qh ht
 have HC:=qh ht.cap
 have HL:Hid (NdL w l (.slice a l.length cap)):=qh ⟨_,_,_,_,ht⟩
 clear hh ht hV
 have HS:Hid (itemB (.mk 14 s l)=(noneB s && (decide (1≤l.length) && nameL l))):=qh (by rw [itemB,if_pos (by decide)])
 cases hse:s.toList.isEmpty with
 | false =>
  have HR:Hid (itemB (.mk 14 s l)=false):=qh (by rw [HS.out];unfold noneB;rw [hse];rfl)
  go_enter Tryz.func67,Tryz.ntmps67
  go_wp2
  go_ret
  exact ⟨by rw [HR.out];rfl,hb0.out⟩
 | true =>
  by_cases hll:1≤l.length
  ·have e1:(1:Int)≤(l.length:Int):=by omega
   have e2:decide (1≤l.length)=true:=decide_eq_true hll
   have e3:decide (0 < l.length)=true:=decide_eq_true hll
   have e5:0 < l.length:=hll
   obtain ⟨V,hV⟩:∃ V,nameL l=V:=⟨_,rfl⟩
   have C:=qh (fun w hv=>rAreNames l (.slice a l.length cap) w hv)
   rw [hV] at C
   have HR:Hid (itemB (.mk 14 s l)=V):=qh (by rw [HS.out,decide_eq_true hll,hV];unfold noneB;rw [hse];rfl)
   clear hV
   go_enter Tryz.func67,Tryz.ntmps67
   go_wp2_with fail
   refine (C.out _ (HL.out.later hb0.out)).mono ?_
   rintro e w1 ⟨rfl,hbw1⟩
   have B1:Hid (Below w.heap.size w w1):=qh (hb0.out.trans (hbw1.mono hb0.out.size))
   clear C hbw1
   go_wp2
   go_ret
   exact ⟨by rw [HR.out];rfl,B1.out⟩
  ·have e1:¬ ((1:Int)≤(l.length:Int)):=by omega
   have e2:decide (1≤l.length)=false:=decide_eq_false hll
   have e3:decide (0 < l.length)=false:=decide_eq_false hll
   have e6:l=[]:=List.length_eq_zero_iff.1 (by omega)
   have HR:Hid (itemB (.mk 14 s l)=false):=qh (by rw [HS.out,decide_eq_false hll,Bool.false_and,Bool.and_false])
   clear hll
   subst e6
   go_enter Tryz.func67,Tryz.ntmps67
   go_wp2
   go_ret
   exact ⟨by rw [HR.out];rfl,hb0.out⟩
set_option maxRecDepth 100000 in
set_option maxHeartbeats 2000000 in
theorem rIsItem_else (k:Int) (m2:¬ k=2) (m3:¬ k=3) (m4:¬ k=4) (m5:¬ k=5) (m6:¬ k=6) (m7:¬ k=7) (m8:¬ k=8) (m9:¬ k=9) (m10:¬ k=10) (m11:¬ k=11) (m12:¬ k=12) (m13:¬ k=13) (m14:¬ k=14) (s:ByteArray) (l:List Nd) (w:World) (v0 v1 v2:Value) (ht:NdR w (.mk k s l) v0 v1 v2) :
  Calls Tryz.prog 67 #[.agg #[v0,v1,v2]] w fun e w'=>e = .returned (.bool (itemB (.mk k s l)))∧Below w.heap.size w w':=by
 obtain ⟨k',s',l',a,cap,he,rfl,rfl,rfl,hs,hl⟩:=ht.form
 cases he
 unfold maxLen at hl
 obtain ⟨V,hV⟩:∃ V,nameB s=V:=⟨_,rfl⟩
 have CN:=qh (fun w=>rIsName_v V s w hV)
 have HV:=qh hV
 obtain ⟨h,hh⟩:∃ h,w.heap.size=h:=⟨_,rfl⟩
 have hb0:=qh ((Below.refl w.heap.size w).alloc (Nat.le_refl _) (.cells #[.int .i64 k,.string s,.slice a l.length cap] 24))
 have D0:=qh (nd3 (w:=w) (k:=k) (s:=s) (v2:=.slice a l.length cap) (t:=24) hh)
 have HH:=qh hh
 have HT:=qh ht
 have HC:=qh ht.cap
 have HL:Hid (NdL w l (.slice a l.length cap)):=qh ⟨_,_,_,_,ht⟩
 clear hh ht hV
 have n2:((k:Int)==2)=false:=by rw [beq_eq_false_iff_ne];exact m2
 have n3:((k:Int)==3)=false:=by rw [beq_eq_false_iff_ne];exact m3
 have n4:((k:Int)==4)=false:=by rw [beq_eq_false_iff_ne];exact m4
 have n5:((k:Int)==5)=false:=by rw [beq_eq_false_iff_ne];exact m5
 have n6:((k:Int)==6)=false:=by rw [beq_eq_false_iff_ne];exact m6
 have n7:((k:Int)==7)=false:=by rw [beq_eq_false_iff_ne];exact m7
 have n8:((k:Int)==8)=false:=by rw [beq_eq_false_iff_ne];exact m8
 have n9:((k:Int)==9)=false:=by rw [beq_eq_false_iff_ne];exact m9
 have n10:((k:Int)==10)=false:=by rw [beq_eq_false_iff_ne];exact m10
 have n11:((k:Int)==11)=false:=by rw [beq_eq_false_iff_ne];exact m11
 have n12:((k:Int)==12)=false:=by rw [beq_eq_false_iff_ne];exact m12
 have n13:((k:Int)==13)=false:=by rw [beq_eq_false_iff_ne];exact m13
 have n14:((k:Int)==14)=false:=by rw [beq_eq_false_iff_ne];exact m14
 have HS:Hid (itemB (.mk k s l)=false):=qh (by rw [itemB,if_neg (by omega),if_neg (by omega),if_neg (by omega),if_neg (by omega),if_neg (by omega),if_neg (by omega),Bool.and_false])
 clear m2 m3 m4 m5 m6 m7 m8 m9 m10 m11 m12 m13 m14
 cases V with
 | false =>
  go_enter Tryz.func67,Tryz.ntmps67
  go_wp2_with fail
  refine (CN.out _).mono ?_
  rintro e w1 ⟨rfl,hbw1⟩
  have B1:Hid (Below w.heap.size w w1):=qh (hb0.out.trans (hbw1.mono hb0.out.size))
  have d0:w1.cell? ⟨w.heap.size,0,none⟩=some (.int .i64 k):=(hbw1.cell (p:=⟨w.heap.size,0,none⟩) (by rw [World.size_alloc];exact Nat.lt_succ_self _)).trans (by rw [HH.out];exact D0.out.1)
  have d2:w1.cell? ⟨w.heap.size,2,none⟩=some (.slice a l.length cap):=(hbw1.cell (p:=⟨w.heap.size,2,none⟩) (by rw [World.size_alloc];exact Nat.lt_succ_self _)).trans (by rw [HH.out];exact D0.out.2.2)
  clear CN hbw1
  go_wp2
  go_ret
  exact ⟨by rw [HS.out];rfl,B1.out⟩
 | true =>
  go_enter Tryz.func67,Tryz.ntmps67
  go_wp2_with fail
  refine (CN.out _).mono ?_
  rintro e w1 ⟨rfl,hbw1⟩
  have B1:Hid (Below w.heap.size w w1):=qh (hb0.out.trans (hbw1.mono hb0.out.size))
  have d0:w1.cell? ⟨w.heap.size,0,none⟩=some (.int .i64 k):=(hbw1.cell (p:=⟨w.heap.size,0,none⟩) (by rw [World.size_alloc];exact Nat.lt_succ_self _)).trans (by rw [HH.out];exact D0.out.1)
  have d2:w1.cell? ⟨w.heap.size,2,none⟩=some (.slice a l.length cap):=(hbw1.cell (p:=⟨w.heap.size,2,none⟩) (by rw [World.size_alloc];exact Nat.lt_succ_self _)).trans (by rw [HH.out];exact D0.out.2.2)
  clear CN hbw1
  go_wp2
  go_ret
  exact ⟨by rw [HS.out];rfl,B1.out⟩
theorem rIsItem (t:Nd) (w:World) (v0 v1 v2:Value) (ht:NdR w t v0 v1 v2) :
  Calls Tryz.prog 67 #[.agg #[v0,v1,v2]] w fun e w'=>e = .returned (.bool (itemB t))∧Below w.heap.size w w':=by
 obtain ⟨k,s,l⟩:=t
 by_cases m2:k=2
 ·subst m2;exact rIsItem_2 s l w v0 v1 v2 ht
 by_cases m3:k=3
 ·subst m3;exact rIsItem_3 s l w v0 v1 v2 ht
 by_cases m4:k=4
 ·subst m4;exact rIsItem_4 s l w v0 v1 v2 ht
 by_cases m5:k=5
 ·subst m5;exact rIsItem_5 s l w v0 v1 v2 ht
 by_cases m6:k=6
 ·subst m6;exact rIsItem_6 s l w v0 v1 v2 ht
 by_cases m7:k=7
 ·subst m7;exact rIsItem_7 s l w v0 v1 v2 ht
 by_cases m8:k=8
 ·subst m8;exact rIsItem_8 s l w v0 v1 v2 ht
 by_cases m9:k=9
 ·subst m9;exact rIsItem_9 s l w v0 v1 v2 ht
 by_cases m10:k=10
 ·subst m10;exact rIsItem_10 s l w v0 v1 v2 ht
 by_cases m11:k=11
 ·subst m11;exact rIsItem_11 s l w v0 v1 v2 ht
 by_cases m12:k=12
 ·subst m12;exact rIsItem_12 s l w v0 v1 v2 ht
 by_cases m13:k=13
 ·subst m13;exact rIsItem_13 s l w v0 v1 v2 ht
 by_cases m14:k=14
 ·subst m14;exact rIsItem_14 s l w v0 v1 v2 ht
 exact rIsItem_else k m2 m3 m4 m5 m6 m7 m8 m9 m10 m11 m12 m13 m14 s l w v0 v1 v2 ht
end Go.Proofs.YtcimcjmdkjajfaaGreatDoor
namespace Go.Proofs.YtcimcjmdkjajfaaGreatDoor
open Go.RowKit
set_option maxRecDepth 100000 in
set_option maxHeartbeats 2000000 in
theorem rIsText (t:Nd) (w:World) (v0 v1 v2:Value) (ht:NdR w t v0 v1 v2) :
  Calls Tryz.prog 68 #[.agg #[v0,v1,v2]] w fun e w'=>e = .returned (.bool (textB t))∧Below w.heap.size w w':=by
 obtain ⟨k,s,l,a,cap,rfl,rfl,rfl,rfl,hs,hl⟩:=ht.form
 unfold maxLen at hl
 have hb0:=qh ((Below.refl w.heap.size w).alloc (Nat.le_refl _) (.cells #[.int .i64 k,.string s,.slice a l.length cap] 24))
 by_cases hk:k=1
 ·subst hk
  cases hse:s.toList.isEmpty with
  | false =>
   have HR:Hid (textB (.mk 1 s l)=false):=qh (by rw [textB];unfold noneB;rw [hse];rfl)
   clear ht
   go_enter Tryz.func68,Tryz.ntmps68
   go_wp2
   go_ret
   exact ⟨by rw [HR.out];rfl,hb0.out⟩
  | true =>
   have HR:Hid (textB (.mk 1 s l)=itemL l):=qh (by rw [textB,decide_eq_true rfl];unfold noneB;rw [hse];rfl)
   have HT:=qh ht
   clear ht hb0
   go_enter Tryz.func68,Tryz.ntmps68
   go_wp2
   obtain ⟨h,hh⟩:∃ h,w.heap.size=h:=⟨_,rfl⟩
   obtain ⟨wz,hwz⟩:∃ wz,w.alloc (Obj.cells #[Value.int IntKind.i64 1,Value.string s,Value.slice a l.length cap] 24)=wz:=⟨_,rfl⟩
   have hB:Hid (Below w.heap.size w wz):=qh (by rw [←hwz];exact (Below.refl _ w).alloc (Nat.le_refl _) _)
   have hz:wz.heap.size=h+1:=by rw [←hwz];simp [hh]
   have g0:wz.cell? ⟨h,2,none⟩=some (.slice a l.length cap):=by
    rw [←hwz,←hh];exact (World.cell?_alloc_at _ _ _ _ rfl).trans rfl
   have HG0:=qh g0
   have Hz:=qh hz
   have HTz:=qh (HT.out.later hB.out)
   rw [hwz,hh]
   clear hwz hh hz g0 HT
   go_loopw [3] (fun v3 wr=>∃ i:Nat,i≤l.length∧v3 = .int .i64 (i:Int)∧Hid (∀ j,(h:j < l.length)→j < i→itemB l[j]=true)∧Hid (Below wz.heap.size wz wr)) (fun v3 _=>l.length - (intOf v3).toNat)
   case atStart=>exact ⟨0,Nat.zero_le _,rfl,qh (fun j _ h=>absurd h (Nat.not_lt_zero _)),Below.refl _ _⟩
   case round =>
    obtain ⟨i,hi,rfl,hall,hbl⟩:=hrel
    have g0:=(hbl.out.cell (p:=⟨h,2,none⟩) (by have:=Hz.out;simp only;omega)).trans HG0.out
    by_cases hlt:i < l.length
    ·have hlt':(i:Int) < (l.length:Int):=by omega
     have hi0:(0:Int)≤(i:Int):=by omega
     obtain ⟨b,o,k1,s1,l1,a1,c1,rfl,e1,x0,x1,x2,r1⟩:=(HTz.out.later hbl.out).kid i hlt
     obtain ⟨V,hV⟩:∃ V,itemB l[i]=V:=⟨_,rfl⟩
     have HVi:=qh hV
     rw [e1] at hV
     have C:=qh (rIsItem (.mk k1 s1 l1) wr _ _ _ r1)
     rw [hV] at C
     have L0:=lt_of_cell g0
     have L2:=lt_of_cell x0
     clear e1 hV r1
     go_wp2_with fail
     refine C.out.mono ?_
     clear C
     rintro e w5 ⟨rfl,hb5⟩
     have Hb5:Hid (Below wz.heap.size wz w5):=qh (hbl.out.trans (hb5.mono hbl.out.size))
     clear hb5 x0 x1 x2 g0
     cases V with
     | false =>
      have HS:Hid (itemL l=false):=qh (by
       rw [Bool.eq_false_iff]
       intro h
       have:=(itemL_iff l).1 h i hlt
       rw [HVi.out] at this
       cases this)
      go_wp2
      go_ret
      exact ⟨by rw [HR.out,HS.out];rfl,hB.out.trans (Hb5.out.mono hB.out.size)⟩
     | true =>
      go_wp2
      go_roundw
      case rel=>exact ⟨i+1,hlt,by push_cast;rfl,qh (fun j hj hji=>by
       by_cases e:j=i
       ·subst e;exact HVi.out
       ·exact hall.out j hj (by omega)),Hb5⟩
      case measure=>simp [intOf];omega
    ·have hlt':¬ ((i:Int) < (l.length:Int)):=by omega
     have HS:Hid (itemL l=true):=qh ((itemL_iff l).2 fun j hj=>hall.out j hj (by omega))
     go_wp2
     go_ret
     exact ⟨by rw [HR.out,HS.out];rfl,hB.out.trans (hbl.out.mono hB.out.size)⟩
 ·have hk2:((k:Int) != 1)=true:=by rw [bne_iff_ne];exact hk
  have HR:Hid (textB (.mk k s l)=false):=qh (by rw [textB,decide_eq_false hk,Bool.false_and])
  clear hk ht
  go_enter Tryz.func68,Tryz.ntmps68
  go_wp2
  go_ret
  exact ⟨by rw [HR.out];rfl,hb0.out⟩
set_option maxRecDepth 100000 in
set_option maxHeartbeats 2000000 in
theorem rCheckN (t:Nd) (w:World) (v0 v1 v2:Value) (ht:NdR w t v0 v1 v2) :
  Calls Tryz.prog 15 #[.agg #[v0,v1,v2]] w fun e w'=>e = .returned (.int .i64 (chkN t))∧Below w.heap.size w w':=by
 obtain ⟨k,s,l,a,cap,rfl,rfl,rfl,rfl,hs,hl⟩:=ht.form
 unfold maxLen at hl
 have CC:=qh (fun w h=>rCount _ (.mk k s l) 4000 w (.int .i64 k) (.string s) (.slice a l.length cap) (Nat.le_refl _) (by omega) h)
 have CD:=qh (fun w h=>rDeep _ (.mk k s l) 100 w (.int .i64 k) (.string s) (.slice a l.length cap) (Nat.le_refl _) (by omega) h)
 have C1:=qh (fun w h=>rIsType _ (.mk k s l) w (.int .i64 k) (.string s) (.slice a l.length cap) (Nat.le_refl _) h)
 have C2:=qh (fun w h=>rIsTerm _ (.mk k s l) w (.int .i64 k) (.string s) (.slice a l.length cap) (Nat.le_refl _) h)
 have C3:=qh (fun w h=>rIsForm _ (.mk k s l) w (.int .i64 k) (.string s) (.slice a l.length cap) (Nat.le_refl _) h)
 have C4:=qh (fun w h=>rIsItem (.mk k s l) w (.int .i64 k) (.string s) (.slice a l.length cap) h)
 have C5:=qh (fun w h=>rIsText (.mk k s l) w (.int .i64 k) (.string s) (.slice a l.length cap) h)
 have HS:Hid (chkN (.mk k s l)=if 4000 < (Nd.mk k s l).sz then 2 else if 100 < (Nd.mk k s l).dp then 5 else if typB (.mk k s l) || (termB (.mk k s l) || (formB (.mk k s l) || (itemB (.mk k s l) || textB (.mk k s l)))) then 0 else 21):=qh rfl
 obtain ⟨h,hh⟩:∃ h,w.heap.size=h:=⟨_,rfl⟩
 have hb0:=qh ((Below.refl w.heap.size w).alloc (Nat.le_refl _) (.cells #[.int .i64 k,.string s,.slice a l.length cap] 24))
 have D0:=qh (nd3 (w:=w) (k:=k) (s:=s) (v2:=.slice a l.length cap) (t:=24) hh)
 have HH:=qh hh
 have HT:=qh ht
 clear hh ht
 obtain ⟨V1,hV1⟩:∃ V,typB (.mk k s l)=V:=⟨_,rfl⟩
 obtain ⟨V2,hV2⟩:∃ V,termB (.mk k s l)=V:=⟨_,rfl⟩
 obtain ⟨V3,hV3⟩:∃ V,formB (.mk k s l)=V:=⟨_,rfl⟩
 obtain ⟨V4,hV4⟩:∃ V,itemB (.mk k s l)=V:=⟨_,rfl⟩
 obtain ⟨V5,hV5⟩:∃ V,textB (.mk k s l)=V:=⟨_,rfl⟩
 obtain ⟨N,hN⟩:∃ N,(Nd.mk k s l).sz=N:=⟨_,rfl⟩
 obtain ⟨M,hM⟩:∃ N,(Nd.mk k s l).dp=N:=⟨_,rfl⟩
 obtain ⟨R,hR⟩:∃ R,chkN (.mk k s l)=R:=⟨_,rfl⟩
 rw [hV1,hV2,hV3,hV4,hV5,hN,hM,hR] at HS
 rw [hR]
 rw [hV1] at C1
 rw [hV2] at C2
 rw [hV3] at C3
 rw [hV4] at C4
 rw [hV5] at C5
 rw [hN] at CC
 rw [hM] at CD
 clear hV1 hV2 hV3 hV4 hV5 hN hM hR
 obtain ⟨Q,hQ⟩:∃ Q,min N (4000+1)=Q:=⟨_,rfl⟩
 obtain ⟨T,hT⟩:∃ Q,min M (100+1)=Q:=⟨_,rfl⟩
 rw [hQ] at CC
 rw [hT] at CD
 by_cases hn:4000 < N
 ·have HR:Hid (R=2):=qh (by rw [HS.out,if_pos hn])
  have q:Q=4001:=by omega
  subst q
  clear hn hQ
  go_enter Tryz.func15,Tryz.ntmps15
  go_wp2_with fail
  refine (CC.out _ (HT.out.later hb0.out)).mono ?_
  rintro e wa ⟨rfl,hbwa⟩
  have Bwa:Hid (Below w.heap.size w wa):=qh (hb0.out.trans (hbwa.mono hb0.out.size))
  have Ewa:Hid (Below (w.heap.size+1) (w.alloc (.cells #[.int .i64 k,.string s,.slice a l.length cap] 24)) wa):=qh (by have:=hbwa;rw [World.size_alloc] at this;exact this)
  clear CC hbwa
  have d0:wa.cell? ⟨w.heap.size,0,none⟩=some (.int .i64 k):=(Ewa.out.cell (p:=⟨w.heap.size,0,none⟩) (Nat.lt_succ_self _)).trans (by rw [HH.out];exact D0.out.1)
  have d1:wa.cell? ⟨w.heap.size,1,none⟩=some (.string s):=(Ewa.out.cell (p:=⟨w.heap.size,1,none⟩) (Nat.lt_succ_self _)).trans (by rw [HH.out];exact D0.out.2.1)
  have d2:wa.cell? ⟨w.heap.size,2,none⟩=some (.slice a l.length cap):=(Ewa.out.cell (p:=⟨w.heap.size,2,none⟩) (Nat.lt_succ_self _)).trans (by rw [HH.out];exact D0.out.2.2)
  go_wp2
  go_ret
  exact ⟨by rw [HR.out];rfl,Bwa.out⟩
 ·have q:¬ ((4000:Int) < (Q:Int)):=by omega
  have q1:decide ((4000:Int) < (Q:Int))=false:=decide_eq_false q
  have q2:decide (4000 < Q)=false:=decide_eq_false (by omega)
  rw [if_neg hn] at HS
  clear hn hQ
  by_cases hm:100 < M
  ·have HR:Hid (R=5):=qh (by rw [HS.out,if_pos hm])
   have q3:T=101:=by omega
   subst q3
   clear hm hT
   go_enter Tryz.func15,Tryz.ntmps15
   go_wp2_with fail
   refine (CC.out _ (HT.out.later hb0.out)).mono ?_
   rintro e wa ⟨rfl,hbwa⟩
   have Bwa:Hid (Below w.heap.size w wa):=qh (hb0.out.trans (hbwa.mono hb0.out.size))
   have Ewa:Hid (Below (w.heap.size+1) (w.alloc (.cells #[.int .i64 k,.string s,.slice a l.length cap] 24)) wa):=qh (by have:=hbwa;rw [World.size_alloc] at this;exact this)
   clear CC hbwa
   have d0:wa.cell? ⟨w.heap.size,0,none⟩=some (.int .i64 k):=(Ewa.out.cell (p:=⟨w.heap.size,0,none⟩) (Nat.lt_succ_self _)).trans (by rw [HH.out];exact D0.out.1)
   have d1:wa.cell? ⟨w.heap.size,1,none⟩=some (.string s):=(Ewa.out.cell (p:=⟨w.heap.size,1,none⟩) (Nat.lt_succ_self _)).trans (by rw [HH.out];exact D0.out.2.1)
   have d2:wa.cell? ⟨w.heap.size,2,none⟩=some (.slice a l.length cap):=(Ewa.out.cell (p:=⟨w.heap.size,2,none⟩) (Nat.lt_succ_self _)).trans (by rw [HH.out];exact D0.out.2.2)
   go_wp2_with fail
   refine (CD.out _ (HT.out.later Bwa.out)).mono ?_
   rintro e wb ⟨rfl,hbwb⟩
   have Bwb:Hid (Below w.heap.size w wb):=qh (Bwa.out.trans (hbwb.mono Bwa.out.size))
   have Ewb:Hid (Below (w.heap.size+1) (w.alloc (.cells #[.int .i64 k,.string s,.slice a l.length cap] 24)) wb):=qh (Ewa.out.trans (hbwb.mono (by have:=Ewa.out.size;rw [World.size_alloc] at this;exact this)))
   clear CD hbwb d0 d1 d2
   have d0:wb.cell? ⟨w.heap.size,0,none⟩=some (.int .i64 k):=(Ewb.out.cell (p:=⟨w.heap.size,0,none⟩) (Nat.lt_succ_self _)).trans (by rw [HH.out];exact D0.out.1)
   have d1:wb.cell? ⟨w.heap.size,1,none⟩=some (.string s):=(Ewb.out.cell (p:=⟨w.heap.size,1,none⟩) (Nat.lt_succ_self _)).trans (by rw [HH.out];exact D0.out.2.1)
   have d2:wb.cell? ⟨w.heap.size,2,none⟩=some (.slice a l.length cap):=(Ewb.out.cell (p:=⟨w.heap.size,2,none⟩) (Nat.lt_succ_self _)).trans (by rw [HH.out];exact D0.out.2.2)
   go_wp2
   go_ret
   exact ⟨by rw [HR.out];rfl,Bwb.out⟩
  ·have q3:¬ ((100:Int) < (T:Int)):=by omega
   have q4:decide ((100:Int) < (T:Int))=false:=decide_eq_false q3
   have q5:decide (100 < T)=false:=decide_eq_false (by omega)
   rw [if_neg hm] at HS
   clear hm hT
   go_enter Tryz.func15,Tryz.ntmps15
   go_wp2_with fail
   refine (CC.out _ (HT.out.later hb0.out)).mono ?_
   rintro e wa ⟨rfl,hbwa⟩
   have Bwa:Hid (Below w.heap.size w wa):=qh (hb0.out.trans (hbwa.mono hb0.out.size))
   have Ewa:Hid (Below (w.heap.size+1) (w.alloc (.cells #[.int .i64 k,.string s,.slice a l.length cap] 24)) wa):=qh (by have:=hbwa;rw [World.size_alloc] at this;exact this)
   clear CC hbwa
   have d0:wa.cell? ⟨w.heap.size,0,none⟩=some (.int .i64 k):=(Ewa.out.cell (p:=⟨w.heap.size,0,none⟩) (Nat.lt_succ_self _)).trans (by rw [HH.out];exact D0.out.1)
   have d1:wa.cell? ⟨w.heap.size,1,none⟩=some (.string s):=(Ewa.out.cell (p:=⟨w.heap.size,1,none⟩) (Nat.lt_succ_self _)).trans (by rw [HH.out];exact D0.out.2.1)
   have d2:wa.cell? ⟨w.heap.size,2,none⟩=some (.slice a l.length cap):=(Ewa.out.cell (p:=⟨w.heap.size,2,none⟩) (Nat.lt_succ_self _)).trans (by rw [HH.out];exact D0.out.2.2)
   go_wp2_with fail
   refine (CD.out _ (HT.out.later Bwa.out)).mono ?_
   rintro e wb ⟨rfl,hbwb⟩
   have Bwb:Hid (Below w.heap.size w wb):=qh (Bwa.out.trans (hbwb.mono Bwa.out.size))
   have Ewb:Hid (Below (w.heap.size+1) (w.alloc (.cells #[.int .i64 k,.string s,.slice a l.length cap] 24)) wb):=qh (Ewa.out.trans (hbwb.mono (by have:=Ewa.out.size;rw [World.size_alloc] at this;exact this)))
   clear CD hbwb d0 d1 d2
   have d0:wb.cell? ⟨w.heap.size,0,none⟩=some (.int .i64 k):=(Ewb.out.cell (p:=⟨w.heap.size,0,none⟩) (Nat.lt_succ_self _)).trans (by rw [HH.out];exact D0.out.1)
   have d1:wb.cell? ⟨w.heap.size,1,none⟩=some (.string s):=(Ewb.out.cell (p:=⟨w.heap.size,1,none⟩) (Nat.lt_succ_self _)).trans (by rw [HH.out];exact D0.out.2.1)
   have d2:wb.cell? ⟨w.heap.size,2,none⟩=some (.slice a l.length cap):=(Ewb.out.cell (p:=⟨w.heap.size,2,none⟩) (Nat.lt_succ_self _)).trans (by rw [HH.out];exact D0.out.2.2)
   go_wp2_with fail
   refine (C1.out _ (HT.out.later Bwb.out)).mono ?_
   rintro e wc ⟨rfl,hbwc⟩
   have Bwc:Hid (Below w.heap.size w wc):=qh (Bwb.out.trans (hbwc.mono Bwb.out.size))
   have Ewc:Hid (Below (w.heap.size+1) (w.alloc (.cells #[.int .i64 k,.string s,.slice a l.length cap] 24)) wc):=qh (Ewb.out.trans (hbwc.mono (by have:=Ewb.out.size;rw [World.size_alloc] at this;exact this)))
   clear C1 hbwc d0 d1 d2
   have d0:wc.cell? ⟨w.heap.size,0,none⟩=some (.int .i64 k):=(Ewc.out.cell (p:=⟨w.heap.size,0,none⟩) (Nat.lt_succ_self _)).trans (by rw [HH.out];exact D0.out.1)
   have d1:wc.cell? ⟨w.heap.size,1,none⟩=some (.string s):=(Ewc.out.cell (p:=⟨w.heap.size,1,none⟩) (Nat.lt_succ_self _)).trans (by rw [HH.out];exact D0.out.2.1)
   have d2:wc.cell? ⟨w.heap.size,2,none⟩=some (.slice a l.length cap):=(Ewc.out.cell (p:=⟨w.heap.size,2,none⟩) (Nat.lt_succ_self _)).trans (by rw [HH.out];exact D0.out.2.2)
   cases V1 with
   | true =>
    have HR:Hid (R=0):=qh (by rw [HS.out];rfl)
    go_wp2
    go_ret
    exact ⟨by rw [HR.out];rfl,Bwc.out⟩
   | false =>
    go_wp2_with fail
    refine (C2.out _ (HT.out.later Bwc.out)).mono ?_
    rintro e wd ⟨rfl,hbwd⟩
    have Bwd:Hid (Below w.heap.size w wd):=qh (Bwc.out.trans (hbwd.mono Bwc.out.size))
    have Ewd:Hid (Below (w.heap.size+1) (w.alloc (.cells #[.int .i64 k,.string s,.slice a l.length cap] 24)) wd):=qh (Ewc.out.trans (hbwd.mono (by have:=Ewc.out.size;rw [World.size_alloc] at this;exact this)))
    clear C2 hbwd d0 d1 d2
    have d0:wd.cell? ⟨w.heap.size,0,none⟩=some (.int .i64 k):=(Ewd.out.cell (p:=⟨w.heap.size,0,none⟩) (Nat.lt_succ_self _)).trans (by rw [HH.out];exact D0.out.1)
    have d1:wd.cell? ⟨w.heap.size,1,none⟩=some (.string s):=(Ewd.out.cell (p:=⟨w.heap.size,1,none⟩) (Nat.lt_succ_self _)).trans (by rw [HH.out];exact D0.out.2.1)
    have d2:wd.cell? ⟨w.heap.size,2,none⟩=some (.slice a l.length cap):=(Ewd.out.cell (p:=⟨w.heap.size,2,none⟩) (Nat.lt_succ_self _)).trans (by rw [HH.out];exact D0.out.2.2)
    cases V2 with
    | true =>
     have HR:Hid (R=0):=qh (by rw [HS.out];simp)
     go_wp2
     go_ret
     exact ⟨by rw [HR.out];rfl,Bwd.out⟩
    | false =>
     go_wp2_with fail
     refine (C3.out _ (HT.out.later Bwd.out)).mono ?_
     rintro e we ⟨rfl,hbwe⟩
     have Bwe:Hid (Below w.heap.size w we):=qh (Bwd.out.trans (hbwe.mono Bwd.out.size))
     have Ewe:Hid (Below (w.heap.size+1) (w.alloc (.cells #[.int .i64 k,.string s,.slice a l.length cap] 24)) we):=qh (Ewd.out.trans (hbwe.mono (by have:=Ewd.out.size;rw [World.size_alloc] at this;exact this)))
     clear C3 hbwe d0 d1 d2
     have d0:we.cell? ⟨w.heap.size,0,none⟩=some (.int .i64 k):=(Ewe.out.cell (p:=⟨w.heap.size,0,none⟩) (Nat.lt_succ_self _)).trans (by rw [HH.out];exact D0.out.1)
     have d1:we.cell? ⟨w.heap.size,1,none⟩=some (.string s):=(Ewe.out.cell (p:=⟨w.heap.size,1,none⟩) (Nat.lt_succ_self _)).trans (by rw [HH.out];exact D0.out.2.1)
     have d2:we.cell? ⟨w.heap.size,2,none⟩=some (.slice a l.length cap):=(Ewe.out.cell (p:=⟨w.heap.size,2,none⟩) (Nat.lt_succ_self _)).trans (by rw [HH.out];exact D0.out.2.2)
     cases V3 with
     | true =>
      have HR:Hid (R=0):=qh (by rw [HS.out];simp)
      go_wp2
      go_ret
      exact ⟨by rw [HR.out];rfl,Bwe.out⟩
     | false =>
      go_wp2_with fail
      refine (C4.out _ (HT.out.later Bwe.out)).mono ?_
      rintro e wf ⟨rfl,hbwf⟩
      have Bwf:Hid (Below w.heap.size w wf):=qh (Bwe.out.trans (hbwf.mono Bwe.out.size))
      have Ewf:Hid (Below (w.heap.size+1) (w.alloc (.cells #[.int .i64 k,.string s,.slice a l.length cap] 24)) wf):=qh (Ewe.out.trans (hbwf.mono (by have:=Ewe.out.size;rw [World.size_alloc] at this;exact this)))
      clear C4 hbwf d0 d1 d2
      have d0:wf.cell? ⟨w.heap.size,0,none⟩=some (.int .i64 k):=(Ewf.out.cell (p:=⟨w.heap.size,0,none⟩) (Nat.lt_succ_self _)).trans (by rw [HH.out];exact D0.out.1)
      have d1:wf.cell? ⟨w.heap.size,1,none⟩=some (.string s):=(Ewf.out.cell (p:=⟨w.heap.size,1,none⟩) (Nat.lt_succ_self _)).trans (by rw [HH.out];exact D0.out.2.1)
      have d2:wf.cell? ⟨w.heap.size,2,none⟩=some (.slice a l.length cap):=(Ewf.out.cell (p:=⟨w.heap.size,2,none⟩) (Nat.lt_succ_self _)).trans (by rw [HH.out];exact D0.out.2.2)
      cases V4 with
      | true =>
       have HR:Hid (R=0):=qh (by rw [HS.out];simp)
       go_wp2
       go_ret
       exact ⟨by rw [HR.out];rfl,Bwf.out⟩
      | false =>
       go_wp2_with fail
       refine (C5.out _ (HT.out.later Bwf.out)).mono ?_
       rintro e wg ⟨rfl,hbwg⟩
       have Bwg:Hid (Below w.heap.size w wg):=qh (Bwf.out.trans (hbwg.mono Bwf.out.size))
       have Ewg:Hid (Below (w.heap.size+1) (w.alloc (.cells #[.int .i64 k,.string s,.slice a l.length cap] 24)) wg):=qh (Ewf.out.trans (hbwg.mono (by have:=Ewf.out.size;rw [World.size_alloc] at this;exact this)))
       clear C5 hbwg d0 d1 d2
       have d0:wg.cell? ⟨w.heap.size,0,none⟩=some (.int .i64 k):=(Ewg.out.cell (p:=⟨w.heap.size,0,none⟩) (Nat.lt_succ_self _)).trans (by rw [HH.out];exact D0.out.1)
       have d1:wg.cell? ⟨w.heap.size,1,none⟩=some (.string s):=(Ewg.out.cell (p:=⟨w.heap.size,1,none⟩) (Nat.lt_succ_self _)).trans (by rw [HH.out];exact D0.out.2.1)
       have d2:wg.cell? ⟨w.heap.size,2,none⟩=some (.slice a l.length cap):=(Ewg.out.cell (p:=⟨w.heap.size,2,none⟩) (Nat.lt_succ_self _)).trans (by rw [HH.out];exact D0.out.2.2)
       cases V5 with
       | true =>
        have HR:Hid (R=0):=qh (by rw [HS.out];simp)
        go_wp2
        go_ret
        exact ⟨by rw [HR.out];rfl,Bwg.out⟩
       | false =>
        have HR:Hid (R=21):=qh (by rw [HS.out];rfl)
        go_wp2
        go_ret
        exact ⟨by rw [HR.out];rfl,Bwg.out⟩
end Go.Proofs.YtcimcjmdkjajfaaGreatDoor
namespace Go.Proofs.YtcimcjmdkjajfaaGreatDoor
open Go.RowKit
set_option maxRecDepth 100000 in
set_option maxHeartbeats 400000 in
theorem huge_any (t:Nd) (w:World) (v0 v1 v2:Value) (ht:NdR w t v0 v1 v2) :
  Calls Tryz.prog 18 #[.agg #[v0,v1,v2]] w fun e w'=>e = .returned (.bool (decide (5000 < t.sz)))∧Below w.heap.size w w':=by
 obtain ⟨k,s,l,a,cap,rfl,rfl,rfl,rfl,hs,hl⟩:=ht.form
 have hb0:=(Below.refl w.heap.size w).alloc (Nat.le_refl _) (.cells #[.int .i64 k,.string s,.slice a l.length cap] 24)
 have C0:=rCount _ (.mk k s l) 5000 _ _ _ _ (Nat.le_refl _) (by omega) (ht.later hb0)
 obtain ⟨N,hN⟩:∃ N,(Nd.mk k s l).sz=N:=⟨_,rfl⟩
 rw [hN] at C0 ⊢
 obtain ⟨M,hM⟩:∃ M,min N (5000+1)=M:=⟨_,rfl⟩
 rw [hM] at C0
 have hD:decide ((5000:Int) < (M:Int))=decide (5000 < N):=by
  rw [decide_eq_decide]
  omega
 have HD:=qh hD
 have CC:=qh C0
 have HB:=qh hb0
 clear C0 hb0 hD hM hN ht
 go_enter Tryz.func18,Tryz.ntmps18
 go_wp2_with fail
 refine CC.out.mono ?_
 rintro e w1 ⟨rfl,hb⟩
 have HB1:=qh hb
 clear hb CC
 go_wp2
 go_ret
 exact ⟨by rw [←HD.out];rfl,HB.out.trans (HB1.out.mono HB.out.size)⟩
abbrev Sh (h:Nat) (v0 v1 v2 u0 u1 u2:Value) (w1 w:World):Prop:=w.cell? ⟨h,0,none⟩=some v0∧w.cell? ⟨h,1,none⟩=some v1∧w.cell? ⟨h,2,none⟩=some v2∧w.cell? ⟨h+1,0,none⟩=some u0∧w.cell? ⟨h+1,1,none⟩=some u1∧w.cell? ⟨h+1,2,none⟩=some u2∧Hid (Below w1.heap.size w1 w)
theorem sh_below {h:Nat} {v0 v1 v2 u0 u1 u2:Value} {w1 w w':World} (s:Sh h v0 v1 v2 u0 u1 u2 w1 w) (hb:Below w.heap.size w w'):Sh h v0 v1 v2 u0 u1 u2 w1 w':=by
 obtain ⟨c0,c1,c2,d0,d1,d2,b⟩:=s
 exact ⟨(hb.cell (p:=⟨h,0,none⟩) (lt_of_cell c0)).trans c0,(hb.cell (p:=⟨h,1,none⟩) (lt_of_cell c1)).trans c1,(hb.cell (p:=⟨h,2,none⟩) (lt_of_cell c2)).trans c2,
  (hb.cell (p:=⟨h+1,0,none⟩) (lt_of_cell d0)).trans d0,(hb.cell (p:=⟨h+1,1,none⟩) (lt_of_cell d1)).trans d1,(hb.cell (p:=⟨h+1,2,none⟩) (lt_of_cell d2)).trans d2,qh (b.out.trans (hb.mono b.out.size))⟩
theorem sh_drew {h:Nat} {v0 v1 v2 u0 u1 u2:Value} {w1 w:World} (s:Sh h v0 v1 v2 u0 u1 u2 w1 w):Sh h v0 v1 v2 u0 u1 u2 w1 w.drew:=sh_below s ((Below.refl _ w).drew)
theorem sh_of {h:Nat} {v0 v1 v2 u0 u1 u2:Value} {w:World} (r:Row3 w h v0 v1 v2) (q:Row3 w (h+1) u0 u1 u2):Sh h v0 v1 v2 u0 u1 u2 w w :=
 ⟨r.cells.1.1,r.cells.1.2.1,r.cells.1.2.2,q.cells.1.1,q.cells.1.2.1,q.cells.1.2.2,qh (Below.refl _ _)⟩
theorem sh_b {h:Nat} {v0 v1 v2 u0 u1 u2:Value} {w1 w:World} (s:Sh h v0 v1 v2 u0 u1 u2 w1 w):Below w1.heap.size w1 w:=s.2.2.2.2.2.2.out
set_option maxRecDepth 100000 in
set_option maxHeartbeats 2000000 in
theorem checks_any (t u:Nd) (w:World) (v0 v1 v2 u0 u1 u2:Value) (ht:NdR w t v0 v1 v2) (hu:NdR w u u0 u1 u2) (hw:2≤w.heap.size) (gl:GLw w) :
  Calls Tryz.prog 3 #[.agg #[v0,v1,v2],.agg #[u0,u1,u2]] w fun e w'=>e = .returned (.bool true)∧Below w.heap.size w w':=by
 obtain ⟨k,s,l,a,cap,rfl,rfl,rfl,rfl,hs,hl⟩:=ht.form
 obtain ⟨k',s',l',a',cap',rfl,rfl,rfl,rfl,hs',hl'⟩:=hu.form
 obtain ⟨W0,hW0⟩:∃ W0,(w.alloc (.cells #[.int .i64 k,.string s,.slice a l.length cap] 24)).alloc (.cells #[.int .i64 k',.string s',.slice a' l'.length cap'] 24)=W0:=⟨_,rfl⟩
 obtain ⟨h,hh⟩:∃ h,w.heap.size=h:=⟨_,rfl⟩
 have b0:Below h w W0:=by rw [←hW0,←hh];exact ((Below.refl _ w).alloc (Nat.le_refl _) _).alloc (by simp) _
 have z0:W0.heap.size=h+1+1:=by rw [←hW0];simp [hh]
 have r0:Row3 W0 h (.int .i64 k) (.string s) (.slice a l.length cap):=by rw [←hW0,←hh];exact (Below.heap_alloc _ _ _ (by simp only [World.size_alloc];omega)).trans (World.alloc_heap_new _ _)
 have q0:Row3 W0 (h+1) (.int .i64 k') (.string s') (.slice a' l'.length cap'):=by rw [←hW0,←hh];exact alloc_at (by simp)
 have CS:=qh (saneS_any W0 (by omega) (gl.keep fun b hb hl=>b0.block b (by omega)))
 have T0:=ht.later (by rw [hh];exact b0)
 have U0:=hu.later (by rw [hh];exact b0)
 have b0':=qh b0
 clear ht hu gl hw b0
 rw [hh]
 go_enter Tryz.func3,Tryz.ntmps3
 go_upto_region 1 with fail
 (try rw [hW0])
 (try rw [hh])
 clear hW0
 go_wp2_with fail
 refine CS.out.mono ?_
 rintro e w1 ⟨rfl,hb1⟩
 have T1:=qh (T0.later hb1)
 have U1:=qh (U0.later hb1)
 have r1:Row3 w1 h (.int .i64 k) (.string s) (.slice a l.length cap):=r0.below hb1 r0.lt
 have q1:Row3 w1 (h+1) (.int .i64 k') (.string s') (.slice a' l'.length cap'):=q0.below hb1 q0.lt
 have B1:=qh (b0'.out.trans (hb1.mono (by omega)))
 have z1:h+1+1≤w1.heap.size:=by have:=hb1.size;omega
 clear hb1 CS T0 U0 r0 q0
 have QC:=qh q1
 obtain ⟨V2,hV2⟩:∃ v,Value.slice a l.length cap=v:=⟨_,rfl⟩
 obtain ⟨U2,hU2⟩:∃ v,Value.slice a' l'.length cap'=v:=⟨_,rfl⟩
 obtain ⟨c,hc⟩:∃ c,chkN (.mk k s l)=c:=⟨_,rfl⟩
 obtain ⟨z,hz⟩:∃ z,(Nd.mk k s l).sz=z:=⟨_,rfl⟩
 have CA:Hid (∀ W,Sh h (.int .i64 k) (.string s) V2 (.int .i64 k') (.string s') U2 w1 W→Calls Tryz.prog 14 #[.agg #[.int .i64 k,.string s,V2]] W fun e w'=>e = .returned (.int .i64 c)∧Below W.heap.size W w'):=qh (fun W hs=>by
  rw [←hV2,←hc];exact check_tree _ W _ _ _ (T1.out.later (sh_b hs)))
 have CB:Hid (∀ W,Sh h (.int .i64 k) (.string s) V2 (.int .i64 k') (.string s') U2 w1 W→Calls Tryz.prog 15 #[.agg #[.int .i64 k,.string s,V2]] W fun e w'=>e = .returned (.int .i64 c)∧Below W.heap.size W w'):=qh (fun W hs=>by
  rw [←hV2,←hc];exact rCheckN _ W _ _ _ (T1.out.later (sh_b hs)))
 obtain ⟨sz,hsz⟩:∃ sz:Int,((min z 4001:Nat):Int)=sz:=⟨_,rfl⟩
 have CC:Hid (∀ W,Sh h (.int .i64 k) (.string s) V2 (.int .i64 k') (.string s') U2 w1 W→Calls Tryz.prog 16 #[.agg #[.int .i64 k,.string s,V2]] W fun e w'=>e = .returned (.int .i64 sz)∧Below W.heap.size W w'):=qh (fun W hs=>by
  rw [←hV2,←hsz,←hz];exact size_any _ W _ _ _ (T1.out.later (sh_b hs)))
 have CD:Hid (∀ W,Sh h (.int .i64 k) (.string s) V2 (.int .i64 k') (.string s') U2 w1 W→Calls Tryz.prog 17 #[.agg #[.int .i64 k,.string s,V2]] W fun e w'=>e = .returned (.int .i64 sz)∧Below W.heap.size W w'):=qh (fun W hs=>by
  rw [←hV2,←hsz,←hz];exact rSize _ W _ _ _ (T1.out.later (sh_b hs)))
 rw [hV2] at r1
 rw [hU2] at QC q1
 have SD0:Sh h (.int .i64 k) (.string s) V2 (.int .i64 k') (.string s') U2 w1 w1.drew:=sh_drew (sh_of r1 q1)
 have HV2:=qh hV2
 have HU2:=qh hU2
 have HZ:=qh hz
 clear hV2 hU2 hz hsz hc
 go_upto_region 2 with fail
 go_cut [18] (fun v wx=>v = .bool false∧Hid (Below w1.heap.size w1 wx))
 case first =>
  go_region_held3 (fun w'=>w'.cell? ⟨h,0,none⟩=some (.int .i64 k)∧w'.cell? ⟨h,1,none⟩=some (.string s)∧w'.cell? ⟨h,2,none⟩=some V2∧w'.cell? ⟨h+1,0,none⟩=some (.int .i64 k')∧w'.cell? ⟨h+1,1,none⟩=some (.string s')∧w'.cell? ⟨h+1,2,none⟩=some U2∧Hid (Below w1.heap.size w1 w'))
   (first | with_reducible exact SD0 | with_reducible exact SD1 | with_reducible exact SD2 | with_reducible exact SD3 | with_reducible exact SD4)
   (first
    | (go_at_call 14;refine (CA.out _ SD0).mono ?_;rintro e w5 ⟨rfl,hb5⟩;have SD1:=sh_below SD0 hb5;clear hb5)
    | (go_at_call 15;refine (CB.out _ SD1).mono ?_;rintro e w6 ⟨rfl,hb6⟩;have SD2:=sh_below SD1 hb6;clear hb6)
    | (go_at_call 16;refine (CC.out _ SD2).mono ?_;rintro e w7 ⟨rfl,hb7⟩;have SD3:=sh_below SD2 hb7;clear hb7)
    | (go_at_call 17;refine (CD.out _ SD3).mono ?_;rintro e w8 ⟨rfl,hb8⟩;have SD4:=sh_below SD3 hb8;clear hb8))
  all_goals (try go_wp2)
  all_goals go_meet
  all_goals exact ⟨rfl,qh (sh_b SD4)⟩
 case rest =>
  obtain ⟨rfl,hB⟩:=hcut
  rename World=>wx
  clear CA CB CC CD SD0
  have r2:Row3 wx h (.int .i64 k) (.string s) V2:=r1.below hB.out r1.lt
  have q2:Row3 wx (h+1) (.int .i64 k') (.string s') U2:=QC.out.below hB.out QC.out.lt
  have T2:=qh (T1.out.later hB.out)
  have U2':=qh (U1.out.later hB.out)
  have B2:=qh (B1.out.trans (hB.out.mono (by omega)))
  rw [HV2.out] at T2
  rw [HU2.out] at U2'
  have z2:h+1+1≤wx.heap.size:=by have:=hB.out.size;omega
  have HZ2:=qh z2
  have R2:=qh r2
  have Q2:=qh q2
  obtain ⟨⟨c0,c1,c2⟩,_⟩:=r2.cells
  obtain ⟨D,hD⟩:∃ D,decide (5000 < (Nd.mk k s l).sz)=D:=⟨_,rfl⟩
  obtain ⟨E,hE⟩:∃ E,decide (5000 < (Nd.mk k' s' l').sz)=E:=⟨_,rfl⟩
  have HN:=qh (huge_any (.mk k s l) wx _ _ _ T2.out)
  have HM:=qh (fun W hb=>huge_any (.mk k' s' l') W _ _ _ (U2'.out.later hb))
  rw [hD] at HN
  rw [hE] at HM
  clear r1 q1 QC r2 q2 T1 U1 hB HZ hD hE z2 z1 z0
  go_wp2_with fail
  refine HN.out.mono ?_
  rintro e w5 ⟨rfl,hb5⟩
  have B5:=qh hb5
  clear hb5 HN c0 c1 c2
  cases D with
  | true =>
   go_wp2
   go_ret
   exact ⟨rfl,B2.out.trans (B5.out.mono (by have:=HZ2.out;omega))⟩
  | false =>
   obtain ⟨⟨d0,d1,d2⟩,_⟩:=(Q2.out.below B5.out Q2.out.lt).cells
   go_wp2_with fail
   refine (HM.out _ B5.out).mono ?_
   rintro e w6 ⟨rfl,hb6⟩
   have B6:=qh (B5.out.trans (hb6.mono B5.out.size))
   clear hb6 HM d0 d1 d2
   cases E with
   | true =>
    go_wp2
    go_ret
    exact ⟨rfl,B2.out.trans (B6.out.mono (by have:=HZ2.out;omega))⟩
   | false =>
    obtain ⟨G,hG⟩:∃ G,sameN (.mk k s l) (.mk k' s' l')=G:=⟨_,rfl⟩
    have CA:Hid (∀ W,Sh h (.int .i64 k) (.string s) V2 (.int .i64 k') (.string s') U2 wx W→Calls Tryz.prog 19 #[.agg #[.int .i64 k,.string s,V2],.agg #[.int .i64 k',.string s',U2]] W fun e w'=>e = .returned (.bool G)∧Below W.heap.size W w'):=qh (fun W hs=>by
     rw [←hG];exact sameN_any _ _ _ W _ _ _ _ _ _ (Nat.le_refl _) (T2.out.later (sh_b hs)) (U2'.out.later (sh_b hs)))
    have CB:Hid (∀ W,Sh h (.int .i64 k) (.string s) V2 (.int .i64 k') (.string s') U2 wx W→Calls Tryz.prog 20 #[.agg #[.int .i64 k,.string s,V2],.agg #[.int .i64 k',.string s',U2]] W fun e w'=>e = .returned (.bool G)∧Below W.heap.size W w'):=qh (fun W hs=>by
     rw [←hG];exact rSameN _ _ _ W _ _ _ _ _ _ (Nat.le_refl _) (T2.out.later (sh_b hs)) (U2'.out.later (sh_b hs)))
    have CC:Hid (∀ W,Sh h (.int .i64 k) (.string s) V2 (.int .i64 k') (.string s') U2 wx W→Calls Tryz.prog 19 #[.agg #[.int .i64 k,.string s,V2],.agg #[.int .i64 k,.string s,V2]] W fun e w'=>e = .returned (.bool true)∧Below W.heap.size W w'):=qh (fun W hs=>by
     have:=sameN_any _ (.mk k s l) (.mk k s l) W _ _ _ _ _ _ (Nat.le_refl _) (T2.out.later (sh_b hs)) (T2.out.later (sh_b hs))
     rw [sameN_self] at this
     exact this)
    have SD0:Sh h (.int .i64 k) (.string s) V2 (.int .i64 k') (.string s') U2 wx w6.drew:=sh_drew (sh_below (sh_of R2.out Q2.out) B6.out)
    clear hG
    go_wp2_with fail
    go_region_held3 (fun w'=>w'.cell? ⟨h,0,none⟩=some (.int .i64 k)∧w'.cell? ⟨h,1,none⟩=some (.string s)∧w'.cell? ⟨h,2,none⟩=some V2∧w'.cell? ⟨h+1,0,none⟩=some (.int .i64 k')∧w'.cell? ⟨h+1,1,none⟩=some (.string s')∧w'.cell? ⟨h+1,2,none⟩=some U2∧Hid (Below wx.heap.size wx w'))
     (first | with_reducible exact SD0 | with_reducible exact SD1 | with_reducible exact SD2 | with_reducible exact SD3)
     (first
      | (go_at_call 19;refine (CA.out _ SD0).mono ?_;clear CA;rintro e w7 ⟨rfl,hb7⟩;have SD1:=sh_below SD0 hb7;clear hb7)
      | (go_at_call 20;refine (CB.out _ SD1).mono ?_;rintro e w8 ⟨rfl,hb8⟩;have SD2:=sh_below SD1 hb8;clear hb8)
      | (go_at_call 19;refine (CC.out _ SD2).mono ?_;rintro e w9 ⟨rfl,hb9⟩;have SD3:=sh_below SD2 hb9;clear hb9))
    all_goals (try go_wp2)
    all_goals go_ret
    all_goals exact ⟨rfl,B2.out.trans ((sh_b SD3).mono (by have:=HZ2.out;omega))⟩
end Go.Proofs.YtcimcjmdkjajfaaGreatDoor
namespace Go.Proofs.YtcimcjmdkjajfaaGreatDoor
open Go.ChangeShapes Go.WideShapes Go.ChangeAt Go.RowKit Go.ChangeMaps
set_option maxHeartbeats 800000 in
set_option maxRecDepth 100000 in
theorem syntaxChecks_lifted (os:Os) (started:os.Started) (H:Type) (enc:TypeId×Value→H) :
  ReturnsInHanded {} Tryz.checked os 3 .any (fun w args=>(Rows.syntaxChecksSpec.pre enc Tryz.prog Tryz.f3 [] false w args∧laidMetH Tryz.prog laidL w)∧sizedMet enc Tryz.prog Tryz.f3 (OpenSpec.ofChange Rows.syntaxChecksSpec) false w args)
   (Rows.syntaxChecksSpec.post enc Tryz.prog Tryz.f3 false true false false):=by
 refine returnsInHanded_of_change_and (C:=Tryz.checked) (X:=fun w _=>laidMetH Tryz.prog laidL w) (fun _ _ _ hh h=>h.of_heap hh) ownAll started (by kernel_rfl) Tryz.func3
  (ChangeSpec.witness_shaped (enc:=enc) (C:=Tryz.checked) (os:=os) (X:=fun w _=>laidMetH Tryz.prog laidL w) false (World.doorLaid Tryz.prog 400 os) #[nodeZ,nodeZ] 8 rfl (World.shaped_of_RefB (by kernel_rfl) (by kernel_rfl)) (by kernel_rfl) (by kernel_rfl) (by kernel_rfl) (door_met os _)) ?_
 intro W base args ds gs before hval0 hW _ _ hL _
 have hval:∀ (j:Nat) t v,Tryz.f3.params[j]?=some t→args[j]?=some v→Value.okWide Tryz.prog W .any base t v:=hval0
 have hW':=hW
 have hlt0:=hW.lt
 obtain ⟨p,q,hA0,hV,rfl,_,_⟩:=hW
 have hA:DataW.TrodAll enc Tryz.prog W 0 (fun _=>true) true Tryz.f3.params.toList args.toList ds p:=hA0
 rw [Tryz.params3] at hA hval
 have hA2:=hA
 have hlt:∀ r∈p,r.block < W.heap.size:=fun r hr=>hlt0 r (List.mem_append_left _ hr)
 clear hlt0
 obtain ⟨v0,v1,d0,d1,p0,p1,rfl,rfl,rfl,h0,h1⟩:=trodAll_two hA
 obtain ⟨rfl,rfl⟩:=trodVars_none hV
 obtain ⟨t,t0,t1,t2,rfl,ht⟩:=open_tree (hval 0 24 v0 rfl rfl) h0
 obtain ⟨u,u0,u1,u2,rfl,hu⟩:=open_tree (hval 1 24 v1 rfl rfl) h1
 obtain ⟨gl,hz⟩:=of_laid hL
 clear hA0 hval0
 simp only [List.append_nil] at hW'
 refine (checks_any t u W _ _ _ _ _ _ ht hu hz gl).mono fun e W' ⟨he,hnx⟩=>?_
 subst he
 exact ⟨_,rfl,_,_,_,[],_,[],hW',trodAll_mk1 (shut_bool Tryz.underlying4 true),args_stay laidAll mapsAll fullAll (by kernel_rfl) hA2 hlt hnx (fun r hr=>by simpa using hlt r hr),rfl,hnx.frame _,fun h=>by cases h⟩
theorem syntaxChecks_holds:Rows.SyntaxChecksSaid :=
 OpenClaim.holds_of_wide 3 Tryz.f3 rfl rfl rfl rfl rfl rfl rfl ⟨rfl,rfl,rfl,rfl,rfl⟩ rfl rfl rfl rfl rfl (by kernel_rfl) Tryz.func3 (by kernel_rfl)
  (of_decide_eq_true (by kernel_rfl)) (by unfold Func.isWrapper;first | (rw [if_pos (by decide +kernel)];kernel_rfl) | (rw [if_neg (by decide +kernel)];exact ⟨rfl,rfl⟩))
  (fun os started H enc _=>syntaxChecks_lifted os started H enc)
theorem syntaxChecks_card:Rows.SyntaxChecksCardSaid :=
 Claim7.holds_tied_plain_at .later [] [.data,.data] true _ true
  syntaxChecks_holds (fun _ h=>by cases h) (by kernel_rfl) (fun _ h=>by cases h) syntaxChecks_row_tie rfl ⟨rfl,rfl⟩ (by kernel_rfl) rfl
  (fun f fn hf hfn=>by
   obtain rfl : f = 3 := Option.some.inj ((show Tryz.prog.funcNamed "peculium/peculiumlaw02.SyntaxChecks" = some 3 by kernel_rfl).symm.trans hf) |>.symm
   obtain rfl:fn=Tryz.f3:=(Option.some.inj (Tryz.func3.symm.trans hfn)).symm
   exact ⟨by kernel_rfl,fun j t ht=>by
    rw [Tryz.params3] at ht
    have hm:t∈[24,24]:=by simpa using Array.mem_of_getElem? ht
    have hall:([24,24].all fun u=>!Tryz.prog.wantsStandIn u)=true:=by kernel_rfl
    exact (show Tryz.prog.wantsStandIn t=false by simpa using List.all_eq_true.1 hall t hm)⟩)
  (by kernel_rfl)
end Go.Proofs.YtcimcjmdkjajfaaGreatDoor
