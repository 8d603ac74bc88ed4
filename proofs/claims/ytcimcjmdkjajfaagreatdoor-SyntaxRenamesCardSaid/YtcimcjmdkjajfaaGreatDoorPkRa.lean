/- Layer 2: SyntaxRenames, the given statement proved: for every tree and every two strings that can be read as finite data, where the program's two tables are laid as its text lays them: the card's tie says that they are. -/
import Derived.Test.YtcimcjmdkjajfaaGreatDoorPkQa
import Derived.Test.YtcimcjmdkjajfaaGreatDoorPkQb
import Derived.Test.YtcimcjmdkjajfaaGreatDoorPkQc
import Derived.Test.YtcimcjmdkjajfaaGreatDoorPkQd
import Derived.Test.YtcimcjmdkjajfaaGreatDoorPkQe
import Derived.Test.YtcimcjmdkjajfaaGreatDoorPkQf
import Derived.Test.YtcimcjmdkjajfaaGreatDoorRows
import Derived.Test.YtcimcjmdkjajfaaGreatDoorProg
import Derived.WalkKit
import Derived.WalkSpells
import Derived.WalkLawsBesides
import Derived.Lib.Hide
import Derived.Below
import Derived.Deep.QuietTactic
import Derived.Deep.DeepCutAuto
import Derived.Deep.RegionWith
import Derived.Deep.RegionHeld3
import Derived.Deep.DeepFit
import Derived.BigQuiet
import Derived.Shelf.Strings.Builder1
import Derived.Shelf.Small.Strs
import Derived.Shelf.Strings.BuilderF
import Derived.Shelf.Strings.BuilderK
import Derived.Shelf.Utf8.RuneCount
import Derived.Shelf.LaysM
import Derived.Shelf.Strconv.Clone
import Derived.Shelf.Strings.Search1
import Derived.Shelf.Strings.Search2
import Derived.Shelf.Strings.Search3
import Derived.Shelf.Strings.Cut
import Derived.Shelf.Strings.Count
import Derived.Shelf.Strings.Shaped
import Derived.Shelf.Strings.Prefix
import Derived.Shelf.Strings.Split
import Derived.Shelf.Strings.RuneCount
import Derived.Shelf.Unicode.DecodeSlow
import Derived.Shelf.Slices.Turned
import Derived.Deep.WholeRow
import Derived.Laws.EntriesVeiled
import Derived.RangeFuncRecord
import Derived.RangeFuncNested
import Derived.RangeFuncCalls
import Derived.RangeFuncLeaves
import Derived.RecoverIn
import Derived.OwnWalkIn
import Derived.TacticsInMore
import Derived.LoopNIn
import Derived.LoopIn
import Derived.Lib.IndexLaws
import Derived.Lib.SlicesS
import Derived.Deep.AppendLies
import Derived.Deep.DeepAppendRoom
import Derived.ArgAppend
import Derived.Deep.RegionLaw
import Derived.StillTailTactics
import Derived.WalkSmall
import Derived.Shelf.Abstract
import Derived.Maps.OwnSet
import Derived.RegionDies
import Derived.Carry
import Derived.Recover
import Derived.Defers
import Derived.Lib.BufferRead
import Derived.Maps.AppendAt
import Derived.Lib.AppendStr
import Derived.Laws.Externs
import Derived.Lib.OthersKept
import Derived.Lib.FrozenHead
import Derived.Stop.RegionWithIn
import Derived.BigGuardIn
import Derived.Test.YtcimcjmdkjajfaaGreatDoorChecked
import Derived.ProofKit
import Derived.SizedLaws
import Derived.ReadAgain
import Derived.Deep.Slices
import Derived.Deep.Fields
import Derived.ChangeSame
import Derived.LaidMore
import Derived.OpenShut
import Derived.Stop.Joined
import Derived.Test.YtcimcjmdkjajfaaGreatDoorTie
import Derived.Test.YtcimcjmdkjajfaaGreatDoorCards
import Derived.SevenTiedAt
namespace Go.Proofs.YtcimcjmdkjajfaaGreatDoor
open Go.RowKit
theorem dpL_take:∀ (l:List Nd) (i:Nat) (h:i < l.length),Nd.dpL (l.take (i+1))=max (Nd.dpL (l.take i)) (l[i]).dp
 | a :: l,0,_=>by simp [Nd.dpL]
 | a :: l,i+1,h=>by
  have:=dpL_take l i (by simpa using h)
  simp only [List.take_succ_cons,Nd.dpL,List.getElem_cons_succ] at this ⊢
  omega
end Go.Proofs.YtcimcjmdkjajfaaGreatDoor
namespace Go.Proofs.YtcimcjmdkjajfaaGreatDoor
open Go.RowKit Go.Shelf
attribute [local go_sem] Oper.semAt_some
theorem NdS.lts {S:Nat→Prop} {w:World} {t:Nd} {v0 v1 v2:Value} (h:NdS S w t v0 v1 v2):NdS (fun b=>S b∧b < w.heap.size) w t v0 v1 v2:=NdS.mono (fun _ h1 h2=>⟨h1,h2⟩) h
def PRS (S:Nat→Prop) (er:Int) (tr:Nd) (W:World) (e:Ending) (W':World):Prop :=
 ∃ u0 u1 u2,e = .returned (.tuple #[.agg #[u0,u1,u2],.int .i64 er])∧NdS S W' tr u0 u1 u2∧Below W.heap.size W W'
set_option maxRecDepth 100000 in
set_option maxHeartbeats 1000000 in
theorem checked_any (S:Nat→Prop) (t:Nd) (v0 v1 v2:Value) (w:World) (ht:NdS S w t v0 v1 v2) (er:Int) (tr:Nd) (hc:chkN t=er) (hA:(er≠0∧tr=zeroN)∨(er=0∧tr=t)) :
  Calls Tryz.prog 77 #[.agg #[v0,v1,v2]] w (PRS S er tr w):=by
 obtain ⟨k0,s0,l0,a0,c0,rfl,rfl,rfl,rfl,_,_⟩:=ht.form
 obtain ⟨H,hH⟩:∃ H,w.heap.size=H:=⟨_,rfl⟩
 obtain ⟨W2,hW2⟩:∃ W2,(w.alloc (.cells #[.int .i64 k0,.string s0,.slice a0 l0.length c0] 24)).alloc (.cells #[.int .i64 0,.string ⟨#[]⟩,.slice none 0 0] 24)=W2:=⟨_,rfl⟩
 have z2:W2.heap.size=H+1+1:=by rw [←hW2];simp [hH]
 have B2:Below H w W2:=by rw [←hW2,←hH];exact ((Below.refl _ w).alloc (Nat.le_refl _) _).alloc (by simp) _
 have N2:Row3 W2 H (.int .i64 k0) (.string s0) (.slice a0 l0.length c0):=by
  rw [←hW2,←hH];exact (Below.heap_alloc _ _ _ (by simp)).trans (World.alloc_heap_new _ _)
 have R2:Row3 W2 (H+1) (.int .i64 0) (.string ⟨#[]⟩) (.slice none 0 0):=by rw [←hW2,←hH];exact alloc_at (by simp)
 have CK:=qh (check_tree _ W2 _ _ _ (ht.toR.later (by rw [hH];exact B2)))
 rw [hc] at CK
 have HT:=qh (NdS.lts ht)
 have HH:=qh hH
 have HZ:=qh z2
 have HAS:=qh hA
 have HB2:=qh B2
 have HN2:=qh N2
 have HR2:=qh R2
 obtain ⟨⟨n0,n1,n2⟩,_⟩:=N2.cells
 clear ht hc hA B2 N2 R2
 go_enter Tryz.func77,Tryz.ntmps77
 go_upto_region 1 with fail
 (try rw [hW2])
 (try rw [HH.out])
 clear hW2
 go_wp2_with fail
 refine CK.out.mono ?_
 rintro e w3 ⟨rfl,b3⟩
 have zz:=HZ.out
 have N3:Row3 w3 H (.int .i64 k0) (.string s0) (.slice a0 l0.length c0):=HN2.out.below b3 HN2.out.lt
 have R3:Row3 w3 (H+1) (.int .i64 0) (.string ⟨#[]⟩) (.slice none 0 0):=HR2.out.below b3 HR2.out.lt
 have HB3:=qh (HB2.out.trans (b3.mono (by omega)))
 obtain ⟨⟨n0',n1',n2'⟩,_⟩:=N3.cells
 obtain ⟨⟨r0,r1,r2⟩,q0,q1,q2⟩:=R3.cells
 have HR3:=qh R3
 clear n0 n1 n2 N3 R3 CK HN2 HR2 HB2
 by_cases hc0:er=0
 ·subst hc0
  have hE:Hid (tr = .mk k0 s0 l0):=qh (by
   rcases HAS.out with h | h
   ·exact absurd rfl h.1
   ·exact h.2)
  go_wp2
  refine ret_node2 (HR3.out.put _ _ _) rfl rfl rfl rfl ?_
  refine ⟨_,_,_,rfl,?_,by rw [HH.out];exact below_put3 HB3.out (by omega) _ _ _⟩
  rw [hE.out]
  have hh:=HH.out
  exact HT.out.keep (S':=S) (fun b (h1:S b∧b < w.heap.size) _=>⟨(below_put3 HB3.out (show H≤H+1 by omega) _ _ _).block b (by omega),h1.1⟩)
 ·have hc1:(er==0)=false:=by simp [hc0]
  have hE:Hid (tr=zeroN):=qh (by
   rcases HAS.out with h | h
   ·exact h.2
   ·exact absurd h.1 hc0)
  clear n0' n1' n2'
  go_wp2
  refine ret_node2 (HR3.out.put _ _ _) rfl rfl rfl rfl ?_
  rw [hE.out]
  exact ⟨_,_,_,rfl,NdS.leaf _ _ _ _ (by decide) _ _,by rw [HH.out];exact below_put3 HB3.out (by omega) _ _ _⟩
end Go.Proofs.YtcimcjmdkjajfaaGreatDoor
namespace Go.Proofs.YtcimcjmdkjajfaaGreatDoor
open Go.RowKit Go.Shelf
attribute [local go_sem] Oper.semAt_some
def renB (fr:ByteArray) (ins:List ByteArray) (wd:Bool) (k:Int) (s:ByteArray):Bool:=s.toList==fr.toList && ((k==15 || k==16) && (!wd && !Lib.containsS ins s))
def chRn (fr tn:ByteArray) (kind:Int) (_:List Value) (ins:List ByteArray) (wd:Bool):Nd→Nd
 | .mk k s l=>if renB fr ins wd k s=true then .mk kind tn l else .mk k s l
theorem Row3.put01 {W:World} {b:Nat} {v0 v1 v2:Value} (h:Row3 W b v0 v1 v2) (u0 u1:Value):Row3 ((W.setCell ⟨b,0,none⟩ u0).setCell ⟨b,1,none⟩ u1).drew b u0 u1 v2:=by
 have h0:W.heap[b]?=some (.cells #[v0,v1,v2] 24 (0,0)):=h
 exact (setCell_row (setCell_row h0)).trans rfl
set_option maxRecDepth 100000 in
set_option maxHeartbeats 2000000 in
theorem ren1_any (n₁ fb kb tb:Nat) (fr tn:ByteArray) (kind k:Int) (s:ByteArray) (np cp ni ci n c:Nat) (ap ai a:Option Addr) (ins:List ByteArray) (wd:Bool) (A:World)
  (hf:A.heap[fb]?=some (.cells #[.string fr] 9 (0,0))) (hk:A.heap[kb]?=some (.cells #[.int .i64 kind] 3 (0,0))) (ht:A.heap[tb]?=some (.cells #[.string tn] 9 (0,0)))
  (hi:RowS n₁ A (.slice ai ni ci) ins) (hl:ins.length≤90000) (V:Bool) (hV:renB fr ins wd k s=V) :
  Calls Tryz.prog 79 #[.agg #[.slice ap np cp,.slice ai ni ci,.bool wd],.agg #[.int .i64 k,.string s,.slice a n c],.pointer (some ⟨fb,0,none⟩),.pointer (some ⟨kb,0,none⟩),.pointer (some ⟨tb,0,none⟩)] A fun e W' =>
   e = .returned (.agg (if V=true then #[.int .i64 kind,.string tn,.slice a n c] else #[.int .i64 k,.string s,.slice a n c]))∧Below A.heap.size A W':=by
 obtain ⟨H,hH⟩:∃ H,A.heap.size=H:=⟨_,rfl⟩
 obtain ⟨W3,hW3⟩:∃ W3,((A.alloc (.cells #[.slice ap np cp,.slice ai ni ci,.bool wd] 88)).alloc (.cells #[.int .i64 k,.string s,.slice a n c] 24)).alloc (.cells #[.int .i64 0,.string ⟨#[]⟩,.slice none 0 0] 24)=W3:=⟨_,rfl⟩
 have z3:W3.heap.size=H+1+1+1:=by rw [←hW3];simp [hH]
 have B3:Below H A W3:=by rw [←hW3,←hH];exact (((Below.refl _ A).alloc (Nat.le_refl _) _).alloc (by simp) _).alloc (by simp only [World.size_alloc];omega) _
 have A3:RowP W3 H (.slice ap np cp) (.slice ai ni ci) (.bool wd):=by
  rw [←hW3,←hH];exact (Below.heap_alloc _ _ _ (by simp only [World.size_alloc];omega)).trans ((Below.heap_alloc _ _ _ (by simp only [World.size_alloc];omega)).trans (World.alloc_heap_new _ _))
 have N3:Row3 W3 (H+1) (.int .i64 k) (.string s) (.slice a n c):=by
  rw [←hW3,←hH];exact (Below.heap_alloc _ _ _ (by simp only [World.size_alloc];omega)).trans (alloc_at (by simp))
 have R3:Row3 W3 (H+1+1) (.int .i64 0) (.string ⟨#[]⟩) (.slice none 0 0):=by rw [←hW3,←hH];exact alloc_at (by simp)
 have lf:fb < H:=by rw [←hH];exact lt_of_heap hf
 have lk:kb < H:=by rw [←hH];exact lt_of_heap hk
 have lt:tb < H:=by rw [←hH];exact lt_of_heap ht
 have f3:W3.cell? ⟨fb,0,none⟩=some (.string fr):=cell_of_row _ _ _ _ _ _ ((B3.block _ lf).trans hf)
 have K3:=qh ((B3.block _ lk).trans hk)
 have T3:=qh ((B3.block _ lt).trans ht)
 have hi3:RowS n₁ W3 (.slice ai ni ci) ins:=row_keep hi fun g e=>B3.block g (by rw [←hH];exact (World.ownsRow.lt hi g e).2)
 have CF:=qh (frees_any n₁ ap ai np cp ni ci wd k s a n c ins W3 hi3 hl)
 obtain ⟨F,hF⟩:∃ F,((k==15 || k==16) && (!wd && !Lib.containsS ins s))=F:=⟨_,rfl⟩
 rw [hF] at CF
 unfold renB at hV
 rw [hF] at hV
 obtain ⟨⟨a0,a1,a2⟩,_⟩:=A3.cells
 obtain ⟨⟨n0,n1,n2⟩,_⟩:=N3.cells
 have HB3:=qh B3
 have HN3:=qh N3
 have HR3:=qh R3
 have HH:=qh hH
 have HZ3:=qh z3
 clear hf hk ht hi hF B3 A3 N3 R3 hi3 z3
 by_cases hse:s.toList=fr.toList
 ·have e1:(s.toList==fr.toList)=true:=by rw [beq_iff_eq];exact hse
  rw [e1,Bool.true_and] at hV
  subst hV
  have HSE:=qh hse
  clear hse
  go_enter Tryz.func79,Tryz.ntmps79
  go_upto_region 1 with fail
  (try rw [hW3])
  (try rw [HH.out])
  clear hW3
  go_wp2_with fail
  refine CF.out.mono ?_
  rintro e w4 ⟨rfl,b4⟩
  have zz:=HZ3.out
  have N4:Row3 w4 (H+1) (.int .i64 k) (.string s) (.slice a n c):=HN3.out.below b4 HN3.out.lt
  have R4:Row3 w4 (H+1+1) (.int .i64 0) (.string ⟨#[]⟩) (.slice none 0 0):=HR3.out.below b4 HR3.out.lt
  have k4:w4.cell? ⟨kb,0,none⟩=some (.int .i64 kind):=cell_of_row _ _ _ _ _ _ ((b4.block _ (by omega)).trans K3.out)
  have t4:w4.cell? ⟨tb,0,none⟩=some (.string tn):=cell_of_row _ _ _ _ _ _ ((b4.block _ (by omega)).trans T3.out)
  have HR4:=qh R4
  have HN4:=qh N4
  have HB4:=qh (HB3.out.trans (b4.mono (by omega)))
  clear b4 CF a0 a1 a2 n0 n1 n2 f3 K3 T3
  cases F with
  | true =>
   obtain ⟨⟨n0,n1,n2⟩,nf0,nf1,nf2⟩:=N4.cells
   clear N4 R4
   go_upto_region 2 with fail
   go_cut [17] (fun _ wx=>Hid (Row3 wx (H+1) (.int .i64 kind) (.string tn) (.slice a n c)∧Row3 wx (H+1+1) (.int .i64 0) (.string ⟨#[]⟩) (.slice none 0 0)∧Below H A wx))
   case first =>
    go_region
    all_goals (try go_wp2)
    all_goals go_meet
    all_goals exact qh ⟨HN4.out.put01 _ _,(HR4.out.other (p:=⟨H+1,0,none⟩) _ (by simp)).other (p:=⟨H+1,1,none⟩) _ (by simp),((HB4.out.setCell (p:=⟨H+1,0,none⟩) (by simp) _).setCell (p:=⟨H+1,1,none⟩) (by simp) _).drew⟩
   case rest =>
    rename World=>wx
    obtain ⟨N5,R5,B5⟩:=hcut.out
    have HR5:=qh R5
    have HB5:=qh B5
    obtain ⟨⟨n0',n1',n2'⟩,_⟩:=N5.cells
    obtain ⟨⟨r0,r1,r2⟩,rf0,rf1,rf2⟩:=R5.cells
    clear N5 R5 B5 n0 n1 n2 nf0 nf1 nf2 k4 t4 hcut
    go_wp2
    refine ret_node (HR5.out.put _ _ _) rfl rfl rfl ⟨rfl,?_⟩
    exact below_put3 HB5.out (by omega) _ _ _
  | false =>
   obtain ⟨⟨n0,n1,n2⟩,_⟩:=N4.cells
   obtain ⟨⟨r0,r1,r2⟩,rf0,rf1,rf2⟩:=R4.cells
   clear N4 R4 k4 t4
   go_wp2
   refine ret_node (HR4.out.put _ _ _) rfl rfl rfl ⟨rfl,?_⟩
   exact below_put3 HB4.out (by omega) _ _ _
 ·have e1:(s.toList==fr.toList)=false:=by rw [beq_eq_false_iff_ne];exact hse
  have e2:(s=fr)=False:=eq_false (by rintro rfl;exact hse rfl)
  rw [e1,Bool.false_and] at hV
  subst hV
  obtain ⟨⟨r0,r1,r2⟩,rf0,rf1,rf2⟩:=HR3.out.cells
  clear hse CF K3 T3
  go_enter Tryz.func79,Tryz.ntmps79
  go_upto_region 1 with fail
  (try rw [hW3])
  (try rw [HH.out])
  clear hW3
  go_wp2
  refine ret_node (HR3.out.put _ _ _) rfl rfl rfl ⟨rfl,?_⟩
  exact below_put3 HB3.out (by omega) _ _ _
theorem NdS.renamed {S:Nat→Prop} {w:World} {k kind:Int} {s tn:ByteArray} {l:List Nd} {v0 v1 v2:Value} (h:NdS S w (.mk k s l) v0 v1 v2) (hs:tn.size≤maxLen):NdS S w (.mk kind tn l) (.int .i64 kind) (.string tn) v2:=by
 cases h with
 | mk k s l a cap b o f0 f1 f2 hs' hl hc ha hS h0 h1 h2 hr=>exact .mk kind tn l a _ b o f0 f1 f2 hs hl hc ha hS h0 h1 h2 hr
def RenC (fb kb tb:Nat) (fr tn:ByteArray) (kind:Int) (A:World):Prop:=A.heap[fb]?=some (.cells #[.string fr] 9 (0,0))∧A.heap[kb]?=some (.cells #[.int .i64 kind] 3 (0,0))∧A.heap[tb]?=some (.cells #[.string tn] 9 (0,0))
theorem ren1_all (fb kb tb:Nat) (fr tn:ByteArray) (kind:Int) (hts:tn.size≤maxLen)
  (n₁ H:Nat) (A:World) (vp vi v0 v1 v2:Value) (ps:List Value) (ins:List ByteArray) (wd:Bool) (t:Nd) (_hn:H≤A.heap.size) (hC:RenC fb kb tb fr tn kind A) (hp:RowI n₁ A vp ps) (hi:RowS n₁ A vi ins) (hl:ins.length≤90000) (ht:NdO (fun b=>b < H) vp vi A t v0 v1 v2) :
  Calls Tryz.prog 79 (#[.agg #[vp,vi,.bool wd],.agg #[v0,v1,v2]]++#[.pointer (some ⟨fb,0,none⟩),.pointer (some ⟨kb,0,none⟩),.pointer (some ⟨tb,0,none⟩)]) A fun e W'=>∃ u0 u1 u2,e = .returned (.agg #[u0,u1,u2])∧NdO (fun b=>b < H∨A.heap.size≤b) vp vi W' (chRn fr tn kind ps ins wd t) u0 u1 u2∧Below A.heap.size A W':=by
 obtain ⟨k,s,l,a,c,rfl,rfl,rfl,rfl,_,_⟩:=ht.form
 obtain ⟨ap,cp,hvp⟩:=row_shape hp
 obtain ⟨ai,ci,hvi⟩:=row_shape hi
 subst hvp hvi
 refine (ren1_any n₁ fb kb tb fr tn kind k s _ cp _ ci l.length c ap ai a ins wd A hC.1 hC.2.1 hC.2.2 hi hl (renB fr ins wd k s) rfl).mono ?_
 rintro e w' ⟨rfl,hb'⟩
 simp only [chRn]
 by_cases hq:renB fr ins wd k s=true
 ·rw [if_pos hq,if_pos hq]
  refine ⟨_,_,_,rfl,?_,hb'⟩
  exact NdS.renamed (NdS.keep (fun b h1 _=>⟨hb'.block b (by have:=h1.2;omega),h1.1,Or.inl h1.2⟩) ht) hts
 ·rw [if_neg hq,if_neg hq]
  refine ⟨_,_,_,rfl,?_,hb'⟩
  exact NdS.keep (fun b h1 _=>⟨hb'.block b (by have:=h1.2;omega),h1.1,Or.inl h1.2⟩) ht
end Go.Proofs.YtcimcjmdkjajfaaGreatDoor
namespace Go.Proofs.YtcimcjmdkjajfaaGreatDoor
mutual
def renN (fr tn:ByteArray) (kind:Int) (ins:List ByteArray) (wd:Bool):Nd→Nd
 | .mk k s l=>.mk (if renB fr ins wd k s=true then kind else k) (if renB fr ins wd k s=true then tn else s) (renL fr tn kind ins (if bindK k then ins++[s] else ins) (k==7) l)
def renL (fr tn:ByteArray) (kind:Int) (ins il:List ByteArray) (wd:Bool):List Nd→List Nd
 | []=>[]
 | a :: l=>renN fr tn kind (if l.isEmpty then il else ins) wd a :: renL fr tn kind ins il wd l
end
theorem renL_length (fr tn:ByteArray) (kind:Int) (ins il:List ByteArray) (wd:Bool):∀ l:List Nd,(renL fr tn kind ins il wd l).length=l.length
 | []=>by simp only [renL]
 | a :: l=>by simp only [renL,List.length_cons,renL_length fr tn kind ins il wd l]
theorem renL_get (fr tn:ByteArray) (kind:Int) (ins il:List ByteArray) (wd:Bool):∀ (l:List Nd) (i:Nat) (h:i < l.length),(renL fr tn kind ins il wd l)[i]'(by rw [renL_length];exact h)=renN fr tn kind (if i+1=l.length then il else ins) wd l[i]
 | [a],0,_=>by simp [renL]
 | a :: b :: l,0,_=>by simp [renL]
 | a :: l,i+1,h=>by
  simp only [renL,List.getElem_cons_succ,List.length_cons]
  rw [renL_get fr tn kind ins il wd l i (by simpa using h)]
  congr 2
  simp
theorem renB_kind {fr:ByteArray} {ins:List ByteArray} {wd:Bool} {k:Int} {s:ByteArray} (h:renB fr ins wd k s=true):k=15∨k=16:=by
 unfold renB at h
 simp only [Bool.and_eq_true,Bool.or_eq_true,beq_iff_eq] at h
 exact h.2.1
theorem bld_ren {fr tn:ByteArray} {kind:Int} (hk:kind=15∨kind=16):∀ (n:Nat) (t:Nd),t.sz≤n→∀ ps ins wd,Bld (fun _ _ _ _=>True) (chRn fr tn kind) ps ins wd t (renN fr tn kind ins wd t)
 | 0,t,h=>by have:=sz_pos t;omega
 | n+1,.mk k s l,h=>fun ps ins wd=>by
  have hl:∀ (i:Nat) (hi:i < l.length),l[i].sz≤n:=fun i hi=>by have:=szL_get l i hi;simp only [Nd.sz] at h;omega
  simp only [renN]
  by_cases hb:renB fr ins wd k s=true
  ·have hkk:=renB_kind hb
   rw [if_pos hb,if_pos hb]
   have b1:bindK k=false:=by rcases hkk with rfl | rfl <;> rfl
   have b2:bindK kind=false:=by rcases hk with rfl | rfl <;> rfl
   have b3:(k==7)=false:=by rcases hkk with rfl | rfl <;> rfl
   have b4:(kind==7)=false:=by rcases hk with rfl | rfl <;> rfl
   refine .mk ps ins wd (.mk k s l) kind tn l _ trivial (by simp only [chRn];rw [if_pos hb]) (renL_length _ _ _ _ _ _ l) fun i hi=>?_
   rw [renL_get _ _ _ _ _ _ l i hi,b1,b2,b3,b4]
   have:=bld_ren (fr:=fr) (tn:=tn) hk n l[i] (hl i hi) (ps++[.int .i64 i]) ins false
   simpa using this
  ·rw [if_neg hb,if_neg hb]
   refine .mk ps ins wd (.mk k s l) k s l _ trivial (by simp only [chRn];rw [if_neg hb]) (renL_length _ _ _ _ _ _ l) fun i hi=>?_
   rw [renL_get _ _ _ _ _ _ l i hi]
   have:=bld_ren (fr:=fr) (tn:=tn) hk n l[i] (hl i hi) (ps++[.int .i64 i]) (if (bindK k && decide (i+1=l.length))=true then ins++[s] else ins) (k==7)
   have e:(if i+1=l.length then (if bindK k=true then ins++[s] else ins) else ins)=(if (bindK k && decide (i+1=l.length))=true then ins++[s] else ins):=by
    by_cases h1:i+1=l.length
    ·rw [if_pos h1];simp [h1]
    ·rw [if_neg h1];simp [h1]
   rw [e]
   exact this
mutual
theorem renN_sz (fr tn:ByteArray) (kind:Int) (ins:List ByteArray) (wd:Bool):∀ t:Nd,(renN fr tn kind ins wd t).sz=t.sz∧(renN fr tn kind ins wd t).dp=t.dp
 | .mk k s l=>by
  have:=renL_sz fr tn kind ins (if bindK k then ins++[s] else ins) (k==7) l
  simp only [renN,Nd.sz,Nd.dp]
  omega
theorem renL_sz (fr tn:ByteArray) (kind:Int) (ins il:List ByteArray) (wd:Bool):∀ l:List Nd,Nd.szL (renL fr tn kind ins il wd l)=Nd.szL l∧Nd.dpL (renL fr tn kind ins il wd l)=Nd.dpL l
 | []=>by simp only [renL];exact ⟨trivial,trivial⟩
 | a :: l=>by
  have h1:=renN_sz fr tn kind (if l.isEmpty then il else ins) wd a
  have h2:=renL_sz fr tn kind ins il wd l
  simp only [renL,Nd.szL,Nd.dpL]
  omega
end
mutual
theorem renN_sm (fr tn:ByteArray) (ht:tn.size≤64) (kind:Int) (ins:List ByteArray) (wd:Bool):∀ t:Nd,smN t→smN (renN fr tn kind ins wd t)
 | .mk k s l,h=>by
  simp only [smN] at h
  have:=renL_sm fr tn ht kind ins (if bindK k then ins++[s] else ins) (k==7) l h.2
  simp only [renN,smN]
  refine ⟨?_,this⟩
  split
  ·exact ht
  ·exact h.1
theorem renL_sm (fr tn:ByteArray) (ht:tn.size≤64) (kind:Int) (ins il:List ByteArray) (wd:Bool):∀ l:List Nd,smL l→smL (renL fr tn kind ins il wd l)
 | [],_=>by simp only [renL,smL]
 | a :: l,h=>by
  simp only [smL] at h
  simp only [renL,smL]
  exact ⟨renN_sm fr tn ht kind _ wd a h.1,renL_sm fr tn ht kind ins il wd l h.2⟩
end
end Go.Proofs.YtcimcjmdkjajfaaGreatDoor
namespace Go.Proofs.YtcimcjmdkjajfaaGreatDoor
open Go.RowKit Go.Shelf
attribute [local go_sem] Oper.semAt_some
def takenB (fr tn:ByteArray) (it:It):Bool:=(it.t.s'.toList==fr.toList && fr.toList != tn.toList) && (it.fr && Lib.containsS it.ins tn)
def takenN (fr tn:ByteArray) (t:Nd):Bool:=(preN 0 [] false t).any (takenB fr tn)
structure RB (h:Nat) (w:World) (k:Int) (s:ByteArray) (v2:Value) (fr tn:ByteArray) (er:Int) (W:World):Prop where
 b:Below h w W
 z:h+1+1+1+1 < W.heap.size
 n:Row3 W h (.int .i64 k) (.string s) v2
 f:W.heap[h+1]?=some (.cells #[.string fr] 9 (0,0))
 t:W.heap[h+1+1]?=some (.cells #[.string tn] 9 (0,0))
 r:Row3 W (h+1+1+1) (.int .i64 0) (.string ⟨#[]⟩) (.slice none 0 0)
 e:W.heap[h+1+1+1+1]?=some (.cells #[.int .i64 er] 26 (0,0))
theorem RB.keep {h:Nat} {w A B:World} {k er:Int} {s fr tn:ByteArray} {v2:Value} (j:RB h w k s v2 fr tn er A) (hb:Below h w B) (hz:A.heap.size≤B.heap.size) (ho:∀ b,b < h+1+1+1+1+1→B.heap[b]?=A.heap[b]?):RB h w k s v2 fr tn er B :=
 ⟨hb,Nat.lt_of_lt_of_le j.z hz,(ho _ (by omega)).trans j.n,(ho _ (by omega)).trans j.f,(ho _ (by omega)).trans j.t,(ho _ (by omega)).trans j.r,(ho _ (by omega)).trans j.e⟩
structure JQ (h T kb:Nat) (w:World) (k:Int) (s:ByteArray) (v2:Value) (fr tn:ByteArray) (kind er:Int) (rl:Loop) (W:World):Prop where
 j:RB h w k s v2 fr tn er W
 z:T+1+1 < W.heap.size
 d:W.heap[T+1]?=some (.deferred (some []))
 l:W.heap[T+1+1]?=some (.loop rl)
 k:W.heap[kb]?=some (.cells #[.int .i64 kind] 3 (0,0))
theorem JQ.keep {h T kb:Nat} {w A B:World} {k kind er:Int} {s fr tn:ByteArray} {v2:Value} {rl:Loop} (q:JQ h T kb w k s v2 fr tn kind er rl A) (hb:Below h w B) (hz:A.heap.size≤B.heap.size) (hk:h+1+1+1+1 < kb) (hT:kb < T) (ho:∀ b,b≤T+1+1→B.heap[b]?=A.heap[b]?):JQ h T kb w k s v2 fr tn kind er rl B :=
 ⟨q.j.keep hb hz fun b h1=>ho b (by omega),Nat.lt_of_lt_of_le q.z hz,(ho _ (by omega)).trans q.d,(ho _ (by omega)).trans q.l,(ho _ (by omega)).trans q.k⟩
theorem any_snoc {α:Type} (p:α→Bool) (l:List α) (x:α):(l++[x]).any p=(l.any p || p x):=by rw [List.any_append];simp
theorem RB.below {h:Nat} {w A B:World} {k er:Int} {s fr tn:ByteArray} {v2:Value} {N:Nat} (j:RB h w k s v2 fr tn er A) (hb:Below N A B) (hN:h+1+1+1+1 < N):RB h w k s v2 fr tn er B :=
 j.keep (j.b.trans (hb.mono (by omega))) hb.size fun b h1=>hb.block b (by omega)
set_option maxRecDepth 100000 in
set_option maxHeartbeats 2000000 in
theorem rename_main (t:Nd) (fr tn:ByteArray) (w:World) (v0 v1 v2:Value) (ht:NdR w t v0 v1 v2) (hfs:fr.size≤maxLen) (hts:tn.size≤maxLen) (hv:chkN t=0) (hsm:smN t) (hsz:t.sz≤4000) (hfr:(nameB fr || varB fr)=true) (htn:(nameB tn || varB tn)=true) (TK:Bool) (hTK:takenN fr tn t=TK) (kind:Int) (hkd:kind=if varB tn=true then 16 else 15) (h64:tn.size≤64)
  (er:Int) (tr:Nd) (hc:chkN (renN fr tn kind [] false t)=er) (hA:(er≠0∧tr=zeroN)∨(er=0∧tr=renN fr tn kind [] false t)) :
  Calls Tryz.prog 25 #[.agg #[v0,v1,v2],.string fr,.string tn] w fun e w'=>(TK=true∧PR 22 zeroN w e w')∨(TK=false∧PR er tr w e w'):=by
 obtain ⟨k,s,kids,a,cap,rfl,rfl,rfl,rfl,hs,hl⟩:=ht.form
 have eg:∀ args w,(callFunc 127 args).run Tryz.prog w = .ok (.enter 127 args) w:=enters_of Tryz.func127 (by kernel_rfl) rfl
 obtain ⟨W0,hW0⟩:∃ W0,((((w.alloc (.cells #[.int .i64 k,.string s,.slice a kids.length cap] 24)).alloc (.cells #[.string fr] 9)).alloc (.cells #[.string tn] 9)).alloc (.cells #[.int .i64 0,.string ⟨#[]⟩,.slice none 0 0] 24)).alloc (.cells #[.int .i64 0] 26)=W0:=⟨_,rfl⟩
 obtain ⟨h,hh⟩:∃ h,w.heap.size=h:=⟨_,rfl⟩
 have b0:Below h w W0:=by rw [←hW0,←hh];exact (((((Below.refl _ w).alloc (Nat.le_refl _) _).alloc (by simp) _).alloc (by simp only [World.size_alloc];omega) _).alloc (by simp only [World.size_alloc];omega) _).alloc (by simp only [World.size_alloc];omega) _
 have z0:W0.heap.size=h+1+1+1+1+1:=by rw [←hW0];simp [hh]
 have r0:Row3 W0 h (.int .i64 k) (.string s) (.slice a kids.length cap):=by
  rw [←hW0,←hh];exact (Below.heap_alloc _ _ _ (by simp only [World.size_alloc];omega)).trans ((Below.heap_alloc _ _ _ (by simp only [World.size_alloc];omega)).trans ((Below.heap_alloc _ _ _ (by simp only [World.size_alloc];omega)).trans ((Below.heap_alloc _ _ _ (by simp only [World.size_alloc];omega)).trans (World.alloc_heap_new _ _))))
 have f0:W0.heap[h+1]?=some (.cells #[.string fr] 9 (0,0)):=by
  rw [←hW0,←hh];exact (Below.heap_alloc _ _ _ (by simp only [World.size_alloc];omega)).trans ((Below.heap_alloc _ _ _ (by simp only [World.size_alloc];omega)).trans ((Below.heap_alloc _ _ _ (by simp only [World.size_alloc];omega)).trans (alloc_at (by simp))))
 have t0:W0.heap[h+1+1]?=some (.cells #[.string tn] 9 (0,0)):=by
  rw [←hW0,←hh];exact (Below.heap_alloc _ _ _ (by simp only [World.size_alloc];omega)).trans ((Below.heap_alloc _ _ _ (by simp only [World.size_alloc];omega)).trans (alloc_at (by simp)))
 have q0:Row3 W0 (h+1+1+1) (.int .i64 0) (.string ⟨#[]⟩) (.slice none 0 0):=by
  rw [←hW0,←hh];exact (Below.heap_alloc _ _ _ (by simp only [World.size_alloc];omega)).trans (alloc_at (by simp))
 have e0:W0.heap[h+1+1+1+1]?=some (.cells #[.int .i64 0] 26 (0,0)):=by rw [←hW0,←hh];exact alloc_at (by simp)
 have nr0:NdR W0 (.mk k s kids) (.int .i64 k) (.string s) (.slice a kids.length cap):=ht.later (by rw [hh];exact b0)
 have CC:=qh (check_tree _ W0 _ _ _ nr0)
 rw [hv] at CC
 have CF:=qh (isAny_any fr hfs)
 have CT:=qh (isAny_any tn hts)
 have CV:=qh (fun W=>isVar_any tn W hts)
 unfold SaysN at CF CT
 simp only [hfr] at CF
 simp only [htn] at CT
 have HKD:=qh hkd
 have HH:=qh hh
 have hk56:kind=15∨kind=16:=by rw [hkd];split <;> simp
 have hmf:∀ (fn:Fn) (first cap:Array Value) (w:World),(Instr.makeFunc fn first cap).run Tryz.prog w = .ok (.func fn first cap) w:=fun _ _ _ _=>rfl
 have HCK:=qh hc
 have HAS:=qh hA
 change Hid (∀ W,Calls Tryz.prog 73 #[.string tn] W fun e w'=>e = .returned (.bool (varB tn))∧Below W.heap.size W w') at CV
 obtain ⟨vt,hvt⟩:∃ vt,varB tn=vt:=⟨_,rfl⟩
 rw [hvt] at CV HKD
 clear hkd hfr htn hvt
 refine (callsIn_wide (n:=6)).1 ?_
 refine callsIn_of_wpAt Tryz.func25 rfl ?_
 simp only [Tryz.ntmps25,List.size_toArray,List.length_cons,List.length_nil,Nat.reduceAdd,Nat.reduceSub,Array.replicate_succ,Array.replicate_zero,List.push_toArray,List.append_toArray,List.nil_append,List.cons_append]
 refine wpAt_seq (wpAt_of_wpIn ?_)
 gi_wp2
 (try rw [hW0])
 (try rw [hh])
 clear hW0
 obtain ⟨⟨n0,n1,n2⟩,_⟩:=r0.cells
 refine wpAt_seq (wpAt_of_wpIn ?_)
 gi_wp2_with fail
 refine ⟨trivial,((callsIn_wide (n:=5)).2 CC.out).mono ?_⟩
 rintro e w1 ⟨rfl,hb1⟩
 have j1:RB h w k s (.slice a kids.length cap) fr tn 0 w1:=(⟨b0,by omega,r0,f0,t0,q0,e0⟩:RB h w k s (.slice a kids.length cap) fr tn 0 W0).below hb1 (by omega)
 have nr1:=qh (nr0.later hb1)
 clear n0 n1 n2 hb1 CC nr0 r0 b0 f0 t0 q0 e0 z0
 gi_wp2
 have cf:w1.cell? ⟨h+1,0,none⟩=some (.string fr):=cell_of_row _ _ _ _ _ _ j1.f
 refine wpAt_seq (wpAt_of_wpIn ?_)
 gi_wp2_with fail
 refine ⟨trivial,((callsIn_wide (n:=5)).2 (CF.out _)).mono ?_⟩
 rintro e w2 ⟨rfl,hb2⟩
 have j2:=j1.below hb2 j1.z
 have nr2:=qh (nr1.out.later hb2)
 have ct:w2.cell? ⟨h+1+1,0,none⟩=some (.string tn):=cell_of_row _ _ _ _ _ _ j2.t
 clear hb2 CF cf j1 nr1
 gi_wp2_with fail
 refine ⟨trivial,((callsIn_wide (n:=5)).2 (CT.out _)).mono ?_⟩
 rintro e w3 ⟨rfl,hb3⟩
 have j3:=j2.below hb3 j2.z
 have nr3:=qh (nr2.out.later hb3)
 clear hb3 CT ct j2 nr2
 gi_wp2
 obtain ⟨kb,hkb⟩:∃ kb,w3.heap.size=kb:=⟨_,rfl⟩
 have hkb5:h+1+1+1+1 < kb:=by have:=j3.z;omega
 refine wpAt_seq (wpAt_of_wpIn ?_)
 gi_wp2
 obtain ⟨W4,hW4⟩:∃ W4,w3.alloc (.cells #[.int .i64 15] 3)=W4:=⟨_,rfl⟩
 have b4:Below kb w3 W4:=by rw [←hW4,←hkb];exact (Below.refl _ _).alloc (Nat.le_refl _) _
 have k4:W4.heap[kb]?=some (.cells #[.int .i64 15] 3 (0,0)):=by rw [←hW4,←hkb];exact World.alloc_heap_new _ _
 have z4:W4.heap.size=kb+1:=by rw [←hW4];simp [hkb]
 have j4:=j3.below b4 hkb5
 have nr4:=qh (nr3.out.later (by rw [hkb];exact b4))
 (try rw [hW4])
 (try rw [hkb])
 have HKB:=qh hkb
 clear hW4 hkb b4 j3 nr3
 have ct:W4.cell? ⟨h+1+1,0,none⟩=some (.string tn):=cell_of_row _ _ _ _ _ _ j4.t
 refine wpAt_seq (wpAt_of_wpIn ?_)
 gi_wp2_with fail
 refine ⟨trivial,((callsIn_wide (n:=5)).2 (CV.out _)).mono ?_⟩
 rintro e w5 ⟨rfl,hb5⟩
 have j5:=j4.below hb5 j4.z
 have nr5:=qh (nr4.out.later hb5)
 have k5:=(hb5.block _ (show kb < W4.heap.size by omega)).trans k4
 have z5:kb < w5.heap.size:=by have:=hb5.size;omega
 clear hb5 CV ct j4 nr4 k4 z4
 have ck:w5.cell? ⟨kb,0,none⟩=some (.int .i64 15):=cell_of_row _ _ _ _ _ _ k5
 have cz:w5.frozen? ⟨kb,0,none⟩=false:=frozen_of_row _ _ _ _ _ k5
 cases vt with
 | true =>
  gi_wp2
  obtain ⟨V,hVw⟩:∃ V,w5.setCell ⟨kb,0,none⟩ (.int .i64 16)=V:=⟨_,rfl⟩
  have far5:∀ b,b≠kb→V.heap[b]?=w5.heap[b]?:=fun b hb=>by rw [←hVw];exact Below.heap_setCell _ _ _ _ (by simp only;exact hb)
  have zV:kb < V.heap.size:=by rw [←hVw,setCell_size];exact z5
  have jV:RB h w k s (.slice a kids.length cap) fr tn 0 V:=j5.keep (by rw [←hVw];exact j5.b.setCell (p:=⟨kb,0,none⟩) (by simp only;omega) _) (by rw [←hVw,setCell_size];exact Nat.le_refl _) fun b hb=>far5 b (by omega)
  have kV:V.heap[kb]?=some (.cells #[.int .i64 kind] 3 (0,0)):=by rw [←hVw,HKD.out];exact heap_setCell_same _ _ 0 _ _ _ k5
  have nrV:Hid (NdR V (.mk k s kids) (.int .i64 k) (.string s) (.slice a kids.length cap)):=qh (ht.later (by rw [HH.out];exact jV.b))
  rw [hVw]
  clear hVw far5 ck cz k5 z5 j5 nr5
  obtain ⟨⟨n0,n1,n2⟩,_⟩:=jV.n.cells
  obtain ⟨L1,hL1⟩:∃ L1,V.heap.size=L1:=⟨_,rfl⟩
  rw [hL1] at zV
  refine wpAt_seq (wpAt_seq (wpAt_of_wpIn ?_))
  gi_wp2_with fail
  refine ⟨trivial,((callsIn_wide (n:=5)).2 (walk_any k s a kids.length cap _)).mono ?_⟩
  rintro e w2' ⟨rfl,rfl⟩
  gi_wp2
  (try rw [hL1])
  clear n0 n1 n2
  refine wpAt_block (wpAt_rangeFunc_fn (gf:=127) (lb:=#[.pointer (some ⟨L1,0,none⟩)]) rfl eg ?_)
  intro r hr
  have hr1:r.state = .ready:=by rw [hr]
  have hr2:r.pending=none:=by rw [hr]
  have hr3:r.params=#[31,32]:=by rw [hr]
  obtain ⟨W4,hW4⟩:∃ W4,V.alloc (.cells #[.int .i64 k,.string s,.slice a kids.length cap] 24)=W4:=⟨_,rfl⟩
  have z4:W4.heap.size=L1+1:=by rw [←hW4,World.size_alloc,hL1]
  have b4:Row3 W4 L1 (.int .i64 k) (.string s) (.slice a kids.length cap):=by rw [←hW4];exact alloc_at hL1.symm
  have B4:Below L1 V W4:=by rw [←hW4,←hL1];exact (Below.refl _ _).alloc (Nat.le_refl _) _
  rw [hW4]
  clear hW4
  obtain ⟨W1,hW1⟩:∃ W1,(W4.alloc (.deferred (some []))).alloc (.loop r)=W1:=⟨_,rfl⟩
  have old:∀ b,b < L1+1→W1.heap[b]?=W4.heap[b]?:=fun b hb=>by rw [←hW1];exact (Below.heap_alloc _ _ _ (by simp only [World.size_alloc];omega)).trans (Below.heap_alloc _ _ _ (by omega))
  have zW1:W1.heap.size=L1+1+1+1:=by rw [←hW1];simp [z4]
  have hd1:W1.heap[L1+1]?=some (.deferred (some [])):=by rw [←hW1];exact (Below.heap_alloc _ _ _ (by simp only [World.size_alloc];omega)).trans (alloc_at (by omega))
  have hl1:W1.heap[L1+1+1]?=some (.loop r):=by rw [←hW1];exact alloc_at (by simp only [World.size_alloc];omega)
  have hB1:Below L1 V W1:=by rw [←hW1];exact (B4.alloc (by omega) _).alloc (by simp only [World.size_alloc];omega) _
  have jq0:JQ h L1 kb w k s (.slice a kids.length cap) fr tn kind 0 r W1:=⟨jV.keep (jV.b.trans (hB1.mono (by omega))) (by omega) fun b hb=>hB1.block b (by omega),by omega,hd1,hl1,(hB1.block kb (by omega)).trans kV⟩
  have hsup:Sup w W1:=fun b c t z e=>by
   have hb:=heap_lt e
   rw [HH.out] at hb
   exact (jq0.j.b.block b hb).trans e
  have hcall:CallsIn Fence.wide 5 Tryz.prog 127 #[.func (.yield (L1+1+1)) #[] #[],.pointer (some ⟨L1,0,none⟩)] W1
    (fun e w'=>(∃ v,e = .returned v)∧((((preN 0 [] false (.mk k s kids)).length≤4000∧(preN 0 [] false (.mk k s kids)).any (takenB fr tn)=false)∧JQ h L1 kb w k s (.slice a kids.length cap) fr tn kind 0 r w')∨∃ q,q <+: preN 0 [] false (.mk k s kids)∧q.any (takenB fr tn)=true∧JQ h L1 kb w k s (.slice a kids.length cap) fr tn kind 22 { r with state:=.done,pending:=some .ret } w')):=by
   refine (callsIn_wide (n:=5)).2 ?_
   refine walkI_any (fun _ b=>b=h+1+1+1∨b=h+1+1+1+1) (L1+1+1) L1 w W1 (fun pre W=>(pre.length≤4000∧pre.any (takenB fr tn)=false)∧JQ h L1 kb w k s (.slice a kids.length cap) fr tn kind 0 r W) (fun q W=>q.any (takenB fr tn)=true∧JQ h L1 kb w k s (.slice a kids.length cap) fr tn kind 22 { r with state:=.done,pending:=some .ret } W) k s kids a cap
    (fun pre W hj=>by have:=hj.1.1;omega) (fun pre A B hj hb _=>⟨hj.1,hj.2.keep (hj.2.j.b.trans (hb.mono (by omega))) hb.size hkb5 zV fun b hb'=>hb.block b (by omega)⟩) (fun _ _ _ b hb=>hb) (fun pre A hj b hb=>by have:=hj.2.j.z;omega) ?_ ht ((old L1 (by omega)).trans b4) hsup (by rw [HH.out];have:=jq0.j.z;omega) (fun b hb=>by rw [HH.out];omega) ⟨⟨by simp,by simp⟩,jq0⟩
   intro m pre it A vp vi u0 u1 u2 n₁ ps hn1 hj hall hpd hg
   obtain ⟨⟨hpl,hpt⟩,hjq⟩:=hj
   obtain ⟨hgd,hgp,hgi,hgt⟩:=hg
   have hlen:(pre++[it]).length≤4000:=by have:=hall.length_le;rw [preN_len] at this;omega
   obtain ⟨ap,cp,rfl⟩:=row_shape hgp
   obtain ⟨ai,ci,hvi⟩:=row_shape hgi
   subst hvi
   rw [List.length_map] at hgi
   obtain ⟨k1,s1,l1,a1,c1,ht1,rfl,rfl,rfl,_,_⟩:=hgt.form
   have hil:it.ins.length≤90000:=by have:=ins_pre 0 [] false _ it (hall.subset (by simp));simp only [List.length_nil] at this;omega
   obtain ⟨FV,hF⟩:∃ FV,((k1==15 || k1==16) && (!it.wd && !Lib.containsS it.ins s1))=FV:=⟨_,rfl⟩
   obtain ⟨CV,hC⟩:∃ CV,Lib.containsS it.ins tn=CV:=⟨_,rfl⟩
   have htk:(pre++[it]).any (takenB fr tn)=((s1.toList==fr.toList && fr.toList != tn.toList) && (FV && CV)):=by
    rw [any_snoc,hpt,Bool.false_or,←hF,←hC]
    unfold takenB It.fr
    rw [ht1]
    rfl
   obtain ⟨R,hR⟩:∃ R:Ending→World→Prop,(fun e W'=>(e = .returned (.bool true)∧(((pre++[it]).length≤4000∧(pre++[it]).any (takenB fr tn)=false)∧JQ h L1 kb w k s (.slice a kids.length cap) fr tn kind 0 r W')∧Kc (fun _ b=>b=h+1+1+1∨b=h+1+1+1+1) A W')∨(e = .returned (.bool false)∧((pre++[it]).any (takenB fr tn)=true∧JQ h L1 kb w k s (.slice a kids.length cap) fr tn kind 22 { r with state:=.done,pending:=some .ret } W')∧Kc (fun _ b=>b=h+1+1+1∨b=h+1+1+1+1) A W'))=R:=⟨_,rfl⟩
   show YieldAt Fence.wide m Tryz.prog (L1+1+1) _ A (fun e W'=>(e = .returned (.bool true)∧(((pre++[it]).length≤4000∧(pre++[it]).any (takenB fr tn)=false)∧JQ h L1 kb w k s (.slice a kids.length cap) fr tn kind 0 r W')∧Kc (fun _ b=>b=h+1+1+1∨b=h+1+1+1+1) A W')∨(e = .returned (.bool false)∧((pre++[it]).any (takenB fr tn)=true∧JQ h L1 kb w k s (.slice a kids.length cap) fr tn kind 22 { r with state:=.done,pending:=some .ret } W')∧Kc (fun _ b=>b=h+1+1+1∨b=h+1+1+1+1) A W'))
   rw [hR]
   rw [htk] at hR
   have HR:=qh hR
   clear hR htk hpt hpl hall hpd
   refine ⟨_,_,_,_,run_yield (P:=Tryz.prog) hjq.l (by rw [hr3];rfl),?_⟩
   have hr4:r.fn=25:=by rw [hr]
   rw [hr4]
   refine roundIn_of_wpIn_p trivial Tryz.func25 ?_
   have hrs:=hr1
   have HJ:=qh hjq
   have HRR:=qh hr
   have HGI:=qh hgi
   simp only [hr]
   clear hgp hgi hgt hjq hr hr1 hr2 hr3 hr4
   gi_wp2
   refine ⟨_,run_beginRound (r:=r) ((Below.heap_alloc _ _ _ (by have:=heap_lt HJ.out.l;simp only [World.size_alloc];omega)).trans ((Below.heap_alloc _ _ _ (heap_lt HJ.out.l)).trans HJ.out.l)) hrs,?_⟩
   obtain ⟨N,hN⟩:∃ N,A.heap.size=N:=⟨_,rfl⟩
   obtain ⟨W2,hW2⟩:∃ W2,((A.alloc (.cells #[.slice ap ps.length cp,.slice ai it.ins.length ci,.bool it.wd] 88)).alloc (.cells #[.int .i64 k1,.string s1,.slice a1 l1.length c1] 24)).putObj (L1+1+1) (.loop { r with state:=.busy })=W2:=⟨_,rfl⟩
   have hTN:L1+1+1 < N:=by have:=HJ.out.z;omega
   have ko:∀ b,b < N→b≠L1+1+1→W2.heap[b]?=A.heap[b]?:=fun b hb1 hb2=>by
    rw [←hW2];exact (World.putObj_heap_other hb2).trans ((Below.heap_alloc _ _ _ (by simp only [World.size_alloc];omega)).trans (Below.heap_alloc _ _ _ (by omega)))
   have mz:W2.heap.size=N+1+1:=by rw [←hW2,World.putObj_size,World.size_alloc,World.size_alloc,hN]
   have m5:W2.heap[L1+1+1]?=some (.loop { r with state:=.busy }):=by rw [←hW2];exact World.putObj_heap_same (by simp only [World.size_alloc];omega)
   have mt:RowP W2 N (.slice ap ps.length cp) (.slice ai it.ins.length ci) (.bool it.wd):=by
    rw [←hW2,←hN];exact (World.putObj_heap_other (by omega)).trans ((Below.heap_alloc _ _ _ (by simp only [World.size_alloc];omega)).trans (World.alloc_heap_new _ _))
   have mx:Row3 W2 (N+1) (.int .i64 k1) (.string s1) (.slice a1 l1.length c1):=by
    rw [←hW2,←hN];exact (World.putObj_heap_other (by omega)).trans (alloc_at (by simp))
   have mb:Below h w W2:=by rw [←hW2];exact below_put ((HJ.out.j.b.alloc (by omega) _).alloc (by simp only [World.size_alloc];omega) _) _ _ (by omega)
   have mj:RB h w k s (.slice a kids.length cap) fr tn 0 W2:=HJ.out.j.keep mb (by omega) fun b hb=>ko b (by omega) (by omega)
   have mi:RowS n₁ W2 (.slice ai it.ins.length ci) it.ins:=row_keep HGI.out fun g e=>by have:=World.ownsRow.lt HGI.out g e;exact ko g (by omega) (by omega)
   rw [hW2,hN]
   obtain ⟨⟨p0,p1,p2⟩,_⟩:=mt.cells
   obtain ⟨⟨x0,x1,x2⟩,_⟩:=mx.cells
   have cf:W2.cell? ⟨h+1,0,none⟩=some (.string fr):=cell_of_row _ _ _ _ _ _ mj.f
   have ct:W2.cell? ⟨h+1+1,0,none⟩=some (.string tn):=cell_of_row _ _ _ _ _ _ mj.t
   have CFR:=qh (frees_any n₁ ap ai ps.length cp it.ins.length ci it.wd k1 s1 a1 l1.length c1 it.ins W2 mi hil)
   rw [hF] at CFR
   have HMT:=qh mt
   have HMI:=qh mi
   have HMJ:=qh mj
   have HMZ:=qh mz
   have HCV:=qh hC
   have HIL:=qh hil
   have e0:({ ({ r with state:=.busy }:Loop) with state:=.ready,pending:=none }:Loop)=r:=by rw [HRR.out]
   have E0:=qh e0
   have KEEP:Hid (∀ (er:Int) (W':World) (rl:Loop),W2.heap.size≤W'.heap.size→Below h w W'→(∀ b,b < W2.heap.size→b≠h+1+1+1→b≠h+1+1+1+1→W'.heap[b]?=W2.heap[b]?)→Row3 W' (h+1+1+1) (.int .i64 0) (.string ⟨#[]⟩) (.slice none 0 0)→W'.heap[h+1+1+1+1]?=some (.cells #[.int .i64 er] 26 (0,0)) →
     JQ h L1 kb w k s (.slice a kids.length cap) fr tn kind er rl (W'.putObj (L1+1+1) (.loop rl))∧Kc (fun _ b=>b=h+1+1+1∨b=h+1+1+1+1) A (W'.putObj (L1+1+1) (.loop rl))):=qh (fun er W' rl hz hbw ho hr3 he4=>by
    have po:∀ b,b≠L1+1+1→(W'.putObj (L1+1+1) (.loop rl)).heap[b]?=W'.heap[b]?:=fun b hb=>World.putObj_heap_other hb
    have kk:∀ b,b < N→b≠L1+1+1→b≠h+1+1+1→b≠h+1+1+1+1→(W'.putObj (L1+1+1) (.loop rl)).heap[b]?=A.heap[b]?:=fun b h1 h2 h3 h4=>(po b h2).trans ((ho b (by omega) h3 h4).trans (ko b h1 h2))
    refine ⟨⟨⟨below_put hbw _ _ (by omega),by rw [World.putObj_size];omega,(kk _ (by omega) (by omega) (by omega) (by omega)).trans HJ.out.j.n,(kk _ (by omega) (by omega) (by omega) (by omega)).trans HJ.out.j.f,(kk _ (by omega) (by omega) (by omega) (by omega)).trans HJ.out.j.t,(po _ (by omega)).trans hr3,(po _ (by omega)).trans he4⟩,by rw [World.putObj_size];omega,(kk _ (by omega) (by omega) (by omega) (by omega)).trans HJ.out.d,World.putObj_heap_same (by omega),(kk _ (by omega) (by omega) (by omega) (by omega)).trans HJ.out.k⟩,by rw [World.putObj_size];omega,fun b c t z hb e=>?_,fun b hb=>.inl hb⟩
    have hlt:b < N:=by rw [←hN];exact heap_lt e
    have hne:b≠L1+1+1:=by rintro rfl;rw [HJ.out.l] at e;cases e
    exact (kk b hlt hne (fun e=>hb (.inl e)) (fun e=>hb (.inr e))).trans e)
   have FIN:Hid (∀ W',Below W2.heap.size W2 W'→((s1.toList==fr.toList && fr.toList != tn.toList) && (FV && CV))=false→R (.returned (.bool true)) (W'.putObj (L1+1+1) (.loop r))):=qh (fun W' hb he=>by
    rw [←HR.out]
    have kq:=KEEP.out 0 W' r hb.size (mb.trans (hb.mono (by omega))) (fun b h1 _ _=>hb.block b h1) ((hb.block _ (by omega)).trans mj.r) ((hb.block _ (by omega)).trans mj.e)
    exact .inl ⟨rfl,⟨⟨hlen,he⟩,kq.1⟩,kq.2⟩)
   have FINL:Hid (∀ W',Below W2.heap.size W2 W'→W'.heap[L1+1+1]?=some (.loop { r with state:=.busy })):=qh (fun W' hb=>(hb.block _ (by omega)).trans m5)
   have HM5:=qh m5
   obtain ⟨wd,hwd⟩:∃ wd,it.wd=wd:=⟨_,rfl⟩
   obtain ⟨NI,hni⟩:∃ NI,it.ins.length=NI:=⟨_,rfl⟩
   obtain ⟨NP,hnp⟩:∃ NP,ps.length=NP:=⟨_,rfl⟩
   rw [hwd,hni,hnp] at CFR HMT
   rw [hwd] at p2
   rw [hni] at p1 HMI
   rw [hnp] at p0
   clear ko mz m5 mt mx mj mb mi hW2 hN hwd hnp e0 hF hC hil hlen
   by_cases h1:s1.toList=fr.toList
   ·have e1:(s1.toList==fr.toList)=true:=by rw [beq_iff_eq];exact h1
    rw [e1,Bool.true_and] at FIN
    have HE1:=qh h1
    clear h1
    by_cases h2:fr.toList=tn.toList
    ·have e2:(fr.toList != tn.toList)=false:=by rw [h2];simp
     have hFT:=FIN.out _ (Below.refl _ _) (by rw [e2];rfl)
     have HE2:=qh h2
     clear h2
     gi_wp2
     refine ⟨trivial,?_⟩
     gi_wp2
     refine ⟨trivial,?_⟩
     gi_wp2
     refine ⟨_,_,run_endRound none (FINL.out _ (Below.refl _ _)),?_⟩
     simp only [Option.isNone_none,if_true]
     rw [E0.out]
     exact hFT
    ·have e2:(fr.toList != tn.toList)=true:=by rw [bne_iff_ne];exact h2
     have e3:(fr.toList==tn.toList)=false:=by rw [beq_eq_false_iff_ne];exact h2
     rw [e2,Bool.true_and] at FIN
     gi_wp2_with fail
     refine ⟨trivial,fun e=>(by cases e),(CallsIn.inRound _ ((callsIn_wide (n:=m - 1)).2 CFR.out)).mono ?_⟩
     rintro e w5 ⟨rfl,hb5⟩
     have HB5:=qh hb5
     have z5:=hb5.size
     have hmz:=HMZ.out
     have mj5:RB h w k s (.slice a kids.length cap) fr tn 0 w5:=HMJ.out.below hb5 (by omega)
     have mt5:RowP w5 N (.slice ap NP cp) (.slice ai NI ci) (.bool wd):=(hb5.block _ (by omega)).trans HMT.out
     have mi5:RowS n₁ w5 (.slice ai NI ci) it.ins:=row_keep HMI.out fun g e=>hb5.block g (World.ownsRow.lt HMI.out g e).2
     have CB:=qh (contains_row w5 ai NI ci it.ins tn mi5 (by have:=HIL.out;omega))
     rw [HCV.out] at CB
     have HMJ5:=qh mj5
     obtain ⟨⟨y0,y1,y2⟩,_⟩:=mt5.cells
     have ct5:w5.cell? ⟨h+1+1,0,none⟩=some (.string tn):=cell_of_row _ _ _ _ _ _ mj5.t
     clear hb5 CFR p0 p1 p2 x0 x1 x2 cf ct mj5 mt5 mi5
     cases FV with
     | false =>
      have hFT:=FIN.out _ HB5.out rfl
      gi_wp2
      refine ⟨trivial,?_⟩
      gi_wp2
      refine ⟨_,_,run_endRound none (FINL.out _ HB5.out),?_⟩
      simp only [Option.isNone_none,if_true]
      rw [E0.out]
      exact hFT
     | true =>
      gi_wp2_with fail
      refine ⟨trivial,fun e=>(by cases e),(CallsIn.inRound _ ((callsIn_wide (n:=m - 1)).2 CB.out)).mono ?_⟩
      rintro e w6 ⟨rfl,rfl⟩
      cases CV with
      | false =>
       have hFT:=FIN.out _ HB5.out rfl
       gi_wp2
       refine ⟨_,_,run_endRound none (FINL.out _ HB5.out),?_⟩
       simp only [Option.isNone_none,if_true]
       rw [E0.out]
       exact hFT
      | true =>
       obtain ⟨⟨r0,r1,r2⟩,rf0,rf1,rf2⟩:=HMJ5.out.r.cells
       have er0:=cell_of_row _ _ 0 _ _ _ HMJ5.out.e
       have ef0:=frozen_of_row _ _ 0 _ _ HMJ5.out.e
       clear CB y0 y1 y2 ct5
       gi_wp2
       obtain ⟨V6,hV6⟩:∃ V6,(((w6.setCell ⟨h+1+1+1,0,none⟩ (.int .i64 0)).setCell ⟨h+1+1+1,1,none⟩ (.string ⟨#[]⟩)).setCell ⟨h+1+1+1,2,none⟩ (.slice none 0 0)).setCell ⟨h+1+1+1+1,0,none⟩ (.int .i64 22)=V6:=⟨_,rfl⟩
       have far6:∀ b,b≠h+1+1+1→b≠h+1+1+1+1→V6.heap[b]?=w6.heap[b]?:=fun b h1 h2=>by
        rw [←hV6];exact (Below.heap_setCell _ _ _ _ (by simp only;exact h2)).trans ((Below.heap_setCell _ _ _ _ (by simp only;exact h1)).trans ((Below.heap_setCell _ _ _ _ (by simp only;exact h1)).trans (Below.heap_setCell _ _ _ _ (by simp only;exact h1))))
       have zV6:V6.heap.size=w6.heap.size:=by rw [←hV6];simp only [setCell_size]
       have rV6:Row3 V6 (h+1+1+1) (.int .i64 0) (.string ⟨#[]⟩) (.slice none 0 0):=by
        rw [←hV6];exact (HMJ5.out.r.put _ _ _).other (p:=⟨h+1+1+1+1,0,none⟩) _ (by simp)
       have eV6:V6.heap[h+1+1+1+1]?=some (.cells #[.int .i64 22] 26 (0,0)):=by
        rw [←hV6];exact heap_setCell_same _ _ 0 _ _ _ ((Below.heap_setCell _ _ _ _ (by simp)).trans ((Below.heap_setCell _ _ _ _ (by simp)).trans ((Below.heap_setCell _ _ _ _ (by simp)).trans HMJ5.out.e)))
       have bV6:Below h w V6:=by
        rw [←hV6];exact (((HMJ5.out.b.setCell (p:=⟨h+1+1+1,0,none⟩) (by simp only;omega) _).setCell (p:=⟨h+1+1+1,1,none⟩) (by simp only;omega) _).setCell (p:=⟨h+1+1+1,2,none⟩) (by simp only;omega) _).setCell (p:=⟨h+1+1+1+1,0,none⟩) (by simp only;omega) _
       rw [hV6]
       clear hV6
       refine ⟨_,_,run_endRound (some .ret) ((far6 _ (by omega) (by omega)).trans (FINL.out _ HB5.out)),?_⟩
       simp only [Option.isNone_some,Bool.false_eq_true,if_false]
       rw [←HR.out]
       have kq:=KEEP.out 22 V6 { r with state:=.done,pending:=some .ret } (by rw [zV6];exact z5) bV6 (fun b h1 h2 h3=>(far6 b h2 h3).trans (HB5.out.block b h1)) rV6 eV6
       exact .inr ⟨rfl,⟨by rw [HE1.out,e2];simp,kq.1⟩,kq.2⟩
   ·have e1:(s1.toList==fr.toList)=false:=by rw [beq_eq_false_iff_ne];exact h1
    have e2:(s1=fr)=False:=eq_false (by rintro rfl;exact h1 rfl)
    have hFT:=FIN.out _ (Below.refl _ _) (by rw [e1];rfl)
    clear h1 CFR HMT p0 p1 p2
    gi_wp2
    refine ⟨trivial,?_⟩
    gi_wp2
    refine ⟨trivial,?_⟩
    gi_wp2
    refine ⟨_,_,run_endRound none (FINL.out _ (Below.refl _ _)),?_⟩
    simp only [Option.isNone_none,if_true]
    rw [E0.out]
    exact hFT
  rw [z4,hW1]
  refine hcall.mono ?_
  clear hcall hsup old b4 B4 hd1 hl1 hB1 jq0 jV kV
  rintro e w' ⟨⟨v0,rfl⟩,⟨⟨hp4,hpt⟩,jq⟩ | ⟨q,hq,hqt,jq⟩⟩
  ·have hT:TK=false:=by rw [←hTK];exact hpt
   refine ⟨none,w'.putObj (L1+1+1) (.loop { r with state:=.exhausted }),?_,?_⟩
   ·refine (run_endLoop (P:=Tryz.prog) jq.l (by rw [hr1];simp)).trans ?_
    rw [hr2]
   ·obtain ⟨W5,hW5⟩:∃ W5,w'.putObj (L1+1+1) (.loop { r with state:=.exhausted })=W5:=⟨_,rfl⟩
    have po:∀ b,b≠L1+1+1→W5.heap[b]?=w'.heap[b]?:=fun b hb=>by rw [←hW5];exact World.putObj_heap_other hb
    have j5:RB h w k s (.slice a kids.length cap) fr tn 0 W5:=jq.j.keep (by rw [←hW5];exact below_put jq.j.b _ _ (by omega)) (by rw [←hW5,World.putObj_size];exact Nat.le_refl _) fun b hb=>po b (by omega)
    have d5:W5.heap[L1+1]?=some (.deferred (some [])):=(po _ (by omega)).trans jq.d
    have k5:W5.heap[kb]?=some (.cells #[.int .i64 kind] 3 (0,0)):=(po _ (by omega)).trans jq.k
    have z5:L1+1+1 < W5.heap.size:=by rw [←hW5,World.putObj_size];exact jq.z
    rw [hW5]
    dsimp only [Exit.inBlock,Exit.then]
    have nr5:NdR W5 (.mk k s kids) (.int .i64 k) (.string s) (.slice a kids.length cap):=ht.later (by rw [HH.out];exact j5.b)
    have hsz5:=renN_sz fr tn kind [] false (.mk k s kids)
    have hsm5:=renN_sm fr tn h64 kind [] false _ hsm
    have RBD:=qh (rebuild_any 79 #[.pointer (some ⟨h+1,0,none⟩),.pointer (some ⟨kb,0,none⟩),.pointer (some ⟨h+1+1,0,none⟩)] W5 (RenC (h+1) kb (h+1+1) fr tn kind) (fun _ _ _ _=>True) (chRn fr tn kind) (fun _ _=>rfl)
     (fun A B hC hb=>⟨(hb.block _ (by omega)).trans hC.1,(hb.block _ (by omega)).trans hC.2.1,(hb.block _ (by omega)).trans hC.2.2⟩)
     (fun n₁ H A vp vi v0 v1 v2 ps ins wd t _ _ h3 h4 h5 h6 h7 _ h9 _=>ren1_all (h+1) kb (h+1+1) fr tn kind hts n₁ H A vp vi v0 v1 v2 ps ins wd t h3 h4 h5 h6 h7 h9) _ _ (bld_ren hk56 _ (.mk k s kids) (Nat.le_refl _) [] [] false) _ _ _ ⟨j5.f,k5,j5.t⟩ nr5 (by omega) hsm5)
    obtain ⟨⟨n0,n1,n2⟩,_⟩:=j5.n.cells
    have J5:=qh j5
    have D5:=qh d5
    clear hsz5 hsm5 nr5 k5 hpt hp4 po hW5
    refine wpAt_of_wpIn (n:=6) ?_
    refine wpIn_wide.2 ?_
    go_wp2_with fail
    refine RBD.out.mono ?_
    rintro e w6 ⟨u0,u1,u2,rfl,t6,b6⟩
    have j6:=J5.out.below b6 (by have:=J5.out.z;omega)
    have d6:w6.heap[L1+1]?=some (.deferred (some [])):=(b6.block _ (by omega)).trans D5.out
    have CK:=qh (checked_any _ _ _ _ _ w6 t6 er tr HCK.out HAS.out)
    obtain ⟨_,_,_,a6,c6,e6,rfl,rfl,rfl,_,_⟩:=t6.form
    have z6:L1+1+1 < w6.heap.size:=by have:=b6.size;omega
    clear RBD n0 n1 n2 b6 J5 D5 j5 d5
    go_wp2_with fail
    refine CK.out.mono ?_
    rintro e w7 ⟨y0,y1,y2,rfl,t7,b7⟩
    have j7:=j6.below b7 (by have:=j6.z;omega)
    have d7:w7.heap[L1+1]?=some (.deferred (some [])):=(b7.block _ (by omega)).trans d6
    have T7:=qh t7
    obtain ⟨k7,s7,l7,a7,c7,e7,rfl,rfl,rfl,_,_⟩:=t7.form
    obtain ⟨⟨r0,r1,r2⟩,rf0,rf1,rf2⟩:=j7.r.cells
    have er0:=cell_of_row _ _ 0 _ _ _ j7.e
    have ef0:=frozen_of_row _ _ 0 _ _ j7.e
    have J7:=qh j7
    have D7:=qh d7
    have B67:=qh b7
    have hzz:h+1+1+1+1 < W5.heap.size:=by omega
    clear CK t6 t7 b7 j6 d6 j7 d7
    go_wp2
    obtain ⟨V7,hV7⟩:∃ V7,(((w7.setCell ⟨h+1+1+1,0,none⟩ (.int .i64 k7)).setCell ⟨h+1+1+1,1,none⟩ (.string s7)).setCell ⟨h+1+1+1,2,none⟩ (.slice a7 l7.length c7)).setCell ⟨h+1+1+1+1,0,none⟩ (.int .i64 er)=V7:=⟨_,rfl⟩
    have far7:∀ b,b≠h+1+1+1→b≠h+1+1+1+1→V7.heap[b]?=w7.heap[b]?:=fun b h1 h2=>by
     rw [←hV7];exact (Below.heap_setCell _ _ _ _ (by simp only;exact h2)).trans ((Below.heap_setCell _ _ _ _ (by simp only;exact h1)).trans ((Below.heap_setCell _ _ _ _ (by simp only;exact h1)).trans (Below.heap_setCell _ _ _ _ (by simp only;exact h1))))
    have rV7:Row3 V7 (h+1+1+1) (.int .i64 k7) (.string s7) (.slice a7 l7.length c7):=by
     rw [←hV7];exact (J7.out.r.put _ _ _).other (p:=⟨h+1+1+1+1,0,none⟩) _ (by simp)
    have eV7:V7.heap[h+1+1+1+1]?=some (.cells #[.int .i64 er] 26 (0,0)):=by
     rw [←hV7];exact heap_setCell_same _ _ 0 _ _ _ ((Below.heap_setCell _ _ _ _ (by simp)).trans ((Below.heap_setCell _ _ _ _ (by simp)).trans ((Below.heap_setCell _ _ _ _ (by simp)).trans J7.out.e)))
    have bV7:Below h w V7:=by
     rw [←hV7];exact (((J7.out.b.setCell (p:=⟨h+1+1+1,0,none⟩) (by simp only;omega) _).setCell (p:=⟨h+1+1+1,1,none⟩) (by simp only;omega) _).setCell (p:=⟨h+1+1+1,2,none⟩) (by simp only;omega) _).setCell (p:=⟨h+1+1+1+1,0,none⟩) (by simp only;omega) _
    rw [hV7]
    clear hV7
    have dV7:V7.heap[L1+1]?=some (.deferred (some [])):=(far7 _ (by omega) (by omega)).trans D7.out
    refine ⟨by simp,.inl ⟨_,_,rfl,run_takeDeferred dV7,?_⟩⟩
    have po:∀ b,b≠L1+1→(V7.putObj (L1+1) (.deferred none)).heap[b]?=V7.heap[b]?:=fun b hb=>World.putObj_heap_other hb
    have r8:Row3 (V7.putObj (L1+1) (.deferred none)) (h+1+1+1) (.int .i64 k7) (.string s7) (.slice a7 l7.length c7):=(po _ (by omega)).trans rV7
    obtain ⟨⟨g0,g1,g2⟩,_⟩:=r8.cells
    have ge0:(V7.putObj (L1+1) (.deferred none)).cell? ⟨h+1+1+1+1,0,none⟩=some (.int .i64 er):=cell_of_row _ _ _ _ _ _ ((po _ (by omega)).trans eV7)
    refine ⟨.tuple #[.agg #[.int .i64 k7,.string s7,.slice a7 l7.length c7],.int .i64 er],by simp [results,Tryz.results25,go_sem,g0,g1,g2,ge0],?_⟩
    exact .inr ⟨hT,_,_,_,rfl,(T7.out.keep (S':=fun _=>True) (fun b (h1:W5.heap.size≤b) _=>⟨(po b (by omega)).trans (far7 b (by omega) (by omega)),trivial⟩)).toR,by rw [HH.out];exact below_put bV7 _ _ (by omega)⟩
  ·have hT:TK=true:=by
    rw [←hTK]
    unfold takenN
    rw [List.any_eq_true] at hqt ⊢
    obtain ⟨x,hx1,hx2⟩:=hqt
    exact ⟨x,hq.subset hx1,hx2⟩
   refine ⟨some .ret,w'.putObj (L1+1+1) (.loop { ({ r with state:=.done,pending:=some .ret }:Loop) with state:=.exhausted }),?_,?_⟩
   ·exact run_endLoop (P:=Tryz.prog) jq.l (by simp)
   ·obtain ⟨W5,hW5⟩:∃ W5,w'.putObj (L1+1+1) (.loop { ({ r with state:=.done,pending:=some .ret }:Loop) with state:=.exhausted })=W5:=⟨_,rfl⟩
    have po:∀ b,b≠L1+1+1→W5.heap[b]?=w'.heap[b]?:=fun b hb=>by rw [←hW5];exact World.putObj_heap_other hb
    have j5:RB h w k s (.slice a kids.length cap) fr tn 22 W5:=jq.j.keep (by rw [←hW5];exact below_put jq.j.b _ _ (by omega)) (by rw [←hW5,World.putObj_size];exact Nat.le_refl _) fun b hb=>po b (by omega)
    have d5:W5.heap[L1+1]?=some (.deferred (some [])):=(po _ (by omega)).trans jq.d
    rw [hW5]
    clear hW5 po jq hqt hq hr hr1 hr2 hr3
    gi_wp2
    refine ⟨by simp,.inl ⟨_,_,rfl,run_takeDeferred d5,?_⟩⟩
    have po:∀ b,b≠L1+1→(W5.putObj (L1+1) (.deferred none)).heap[b]?=W5.heap[b]?:=fun b hb=>World.putObj_heap_other hb
    have r5:Row3 (W5.putObj (L1+1) (.deferred none)) (h+1+1+1) (.int .i64 0) (.string ⟨#[]⟩) (.slice none 0 0):=(po _ (by omega)).trans j5.r
    obtain ⟨⟨r0,r1,r2⟩,_⟩:=r5.cells
    have re0:(W5.putObj (L1+1) (.deferred none)).cell? ⟨h+1+1+1+1,0,none⟩=some (.int .i64 22):=cell_of_row _ _ _ _ _ _ ((po _ (by omega)).trans j5.e)
    refine ⟨.tuple #[.agg #[.int .i64 0,.string ⟨#[]⟩,.slice none 0 0],.int .i64 22],by simp [results,Tryz.results25,go_sem,r0,r1,r2,re0],?_⟩
    exact ⟨_,_,_,rfl,zero_ndr _,by rw [HH.out];exact below_put j5.b _ _ (by omega)⟩
 | false =>
  gi_wp2
  obtain ⟨V,hVw⟩:∃ V,w5=V:=⟨_,rfl⟩
  have zV:kb < V.heap.size:=by rw [←hVw];exact z5
  have jV:RB h w k s (.slice a kids.length cap) fr tn 0 V:=by rw [←hVw];exact j5
  have kV:V.heap[kb]?=some (.cells #[.int .i64 kind] 3 (0,0)):=by rw [←hVw,HKD.out];exact k5
  have nrV:Hid (NdR V (.mk k s kids) (.int .i64 k) (.string s) (.slice a kids.length cap)):=qh (by rw [←hVw];exact nr5.out)
  rw [hVw]
  clear hVw ck cz k5 z5 j5 nr5
  obtain ⟨⟨n0,n1,n2⟩,_⟩:=jV.n.cells
  obtain ⟨L1,hL1⟩:∃ L1,V.heap.size=L1:=⟨_,rfl⟩
  rw [hL1] at zV
  refine wpAt_seq (wpAt_seq (wpAt_of_wpIn ?_))
  gi_wp2_with fail
  refine ⟨trivial,((callsIn_wide (n:=5)).2 (walk_any k s a kids.length cap _)).mono ?_⟩
  rintro e w2' ⟨rfl,rfl⟩
  gi_wp2
  (try rw [hL1])
  clear n0 n1 n2
  refine wpAt_block (wpAt_rangeFunc_fn (gf:=127) (lb:=#[.pointer (some ⟨L1,0,none⟩)]) rfl eg ?_)
  intro r hr
  have hr1:r.state = .ready:=by rw [hr]
  have hr2:r.pending=none:=by rw [hr]
  have hr3:r.params=#[31,32]:=by rw [hr]
  obtain ⟨W4,hW4⟩:∃ W4,V.alloc (.cells #[.int .i64 k,.string s,.slice a kids.length cap] 24)=W4:=⟨_,rfl⟩
  have z4:W4.heap.size=L1+1:=by rw [←hW4,World.size_alloc,hL1]
  have b4:Row3 W4 L1 (.int .i64 k) (.string s) (.slice a kids.length cap):=by rw [←hW4];exact alloc_at hL1.symm
  have B4:Below L1 V W4:=by rw [←hW4,←hL1];exact (Below.refl _ _).alloc (Nat.le_refl _) _
  rw [hW4]
  clear hW4
  obtain ⟨W1,hW1⟩:∃ W1,(W4.alloc (.deferred (some []))).alloc (.loop r)=W1:=⟨_,rfl⟩
  have old:∀ b,b < L1+1→W1.heap[b]?=W4.heap[b]?:=fun b hb=>by rw [←hW1];exact (Below.heap_alloc _ _ _ (by simp only [World.size_alloc];omega)).trans (Below.heap_alloc _ _ _ (by omega))
  have zW1:W1.heap.size=L1+1+1+1:=by rw [←hW1];simp [z4]
  have hd1:W1.heap[L1+1]?=some (.deferred (some [])):=by rw [←hW1];exact (Below.heap_alloc _ _ _ (by simp only [World.size_alloc];omega)).trans (alloc_at (by omega))
  have hl1:W1.heap[L1+1+1]?=some (.loop r):=by rw [←hW1];exact alloc_at (by simp only [World.size_alloc];omega)
  have hB1:Below L1 V W1:=by rw [←hW1];exact (B4.alloc (by omega) _).alloc (by simp only [World.size_alloc];omega) _
  have jq0:JQ h L1 kb w k s (.slice a kids.length cap) fr tn kind 0 r W1:=⟨jV.keep (jV.b.trans (hB1.mono (by omega))) (by omega) fun b hb=>hB1.block b (by omega),by omega,hd1,hl1,(hB1.block kb (by omega)).trans kV⟩
  have hsup:Sup w W1:=fun b c t z e=>by
   have hb:=heap_lt e
   rw [HH.out] at hb
   exact (jq0.j.b.block b hb).trans e
  have hcall:CallsIn Fence.wide 5 Tryz.prog 127 #[.func (.yield (L1+1+1)) #[] #[],.pointer (some ⟨L1,0,none⟩)] W1
    (fun e w'=>(∃ v,e = .returned v)∧((((preN 0 [] false (.mk k s kids)).length≤4000∧(preN 0 [] false (.mk k s kids)).any (takenB fr tn)=false)∧JQ h L1 kb w k s (.slice a kids.length cap) fr tn kind 0 r w')∨∃ q,q <+: preN 0 [] false (.mk k s kids)∧q.any (takenB fr tn)=true∧JQ h L1 kb w k s (.slice a kids.length cap) fr tn kind 22 { r with state:=.done,pending:=some .ret } w')):=by
   refine (callsIn_wide (n:=5)).2 ?_
   refine walkI_any (fun _ b=>b=h+1+1+1∨b=h+1+1+1+1) (L1+1+1) L1 w W1 (fun pre W=>(pre.length≤4000∧pre.any (takenB fr tn)=false)∧JQ h L1 kb w k s (.slice a kids.length cap) fr tn kind 0 r W) (fun q W=>q.any (takenB fr tn)=true∧JQ h L1 kb w k s (.slice a kids.length cap) fr tn kind 22 { r with state:=.done,pending:=some .ret } W) k s kids a cap
    (fun pre W hj=>by have:=hj.1.1;omega) (fun pre A B hj hb _=>⟨hj.1,hj.2.keep (hj.2.j.b.trans (hb.mono (by omega))) hb.size hkb5 zV fun b hb'=>hb.block b (by omega)⟩) (fun _ _ _ b hb=>hb) (fun pre A hj b hb=>by have:=hj.2.j.z;omega) ?_ ht ((old L1 (by omega)).trans b4) hsup (by rw [HH.out];have:=jq0.j.z;omega) (fun b hb=>by rw [HH.out];omega) ⟨⟨by simp,by simp⟩,jq0⟩
   intro m pre it A vp vi u0 u1 u2 n₁ ps hn1 hj hall hpd hg
   obtain ⟨⟨hpl,hpt⟩,hjq⟩:=hj
   obtain ⟨hgd,hgp,hgi,hgt⟩:=hg
   have hlen:(pre++[it]).length≤4000:=by have:=hall.length_le;rw [preN_len] at this;omega
   obtain ⟨ap,cp,rfl⟩:=row_shape hgp
   obtain ⟨ai,ci,hvi⟩:=row_shape hgi
   subst hvi
   rw [List.length_map] at hgi
   obtain ⟨k1,s1,l1,a1,c1,ht1,rfl,rfl,rfl,_,_⟩:=hgt.form
   have hil:it.ins.length≤90000:=by have:=ins_pre 0 [] false _ it (hall.subset (by simp));simp only [List.length_nil] at this;omega
   obtain ⟨FV,hF⟩:∃ FV,((k1==15 || k1==16) && (!it.wd && !Lib.containsS it.ins s1))=FV:=⟨_,rfl⟩
   obtain ⟨CV,hC⟩:∃ CV,Lib.containsS it.ins tn=CV:=⟨_,rfl⟩
   have htk:(pre++[it]).any (takenB fr tn)=((s1.toList==fr.toList && fr.toList != tn.toList) && (FV && CV)):=by
    rw [any_snoc,hpt,Bool.false_or,←hF,←hC]
    unfold takenB It.fr
    rw [ht1]
    rfl
   obtain ⟨R,hR⟩:∃ R:Ending→World→Prop,(fun e W'=>(e = .returned (.bool true)∧(((pre++[it]).length≤4000∧(pre++[it]).any (takenB fr tn)=false)∧JQ h L1 kb w k s (.slice a kids.length cap) fr tn kind 0 r W')∧Kc (fun _ b=>b=h+1+1+1∨b=h+1+1+1+1) A W')∨(e = .returned (.bool false)∧((pre++[it]).any (takenB fr tn)=true∧JQ h L1 kb w k s (.slice a kids.length cap) fr tn kind 22 { r with state:=.done,pending:=some .ret } W')∧Kc (fun _ b=>b=h+1+1+1∨b=h+1+1+1+1) A W'))=R:=⟨_,rfl⟩
   show YieldAt Fence.wide m Tryz.prog (L1+1+1) _ A (fun e W'=>(e = .returned (.bool true)∧(((pre++[it]).length≤4000∧(pre++[it]).any (takenB fr tn)=false)∧JQ h L1 kb w k s (.slice a kids.length cap) fr tn kind 0 r W')∧Kc (fun _ b=>b=h+1+1+1∨b=h+1+1+1+1) A W')∨(e = .returned (.bool false)∧((pre++[it]).any (takenB fr tn)=true∧JQ h L1 kb w k s (.slice a kids.length cap) fr tn kind 22 { r with state:=.done,pending:=some .ret } W')∧Kc (fun _ b=>b=h+1+1+1∨b=h+1+1+1+1) A W'))
   rw [hR]
   rw [htk] at hR
   have HR:=qh hR
   clear hR htk hpt hpl hall hpd
   refine ⟨_,_,_,_,run_yield (P:=Tryz.prog) hjq.l (by rw [hr3];rfl),?_⟩
   have hr4:r.fn=25:=by rw [hr]
   rw [hr4]
   refine roundIn_of_wpIn_p trivial Tryz.func25 ?_
   have hrs:=hr1
   have HJ:=qh hjq
   have HRR:=qh hr
   have HGI:=qh hgi
   simp only [hr]
   clear hgp hgi hgt hjq hr hr1 hr2 hr3 hr4
   gi_wp2
   refine ⟨_,run_beginRound (r:=r) ((Below.heap_alloc _ _ _ (by have:=heap_lt HJ.out.l;simp only [World.size_alloc];omega)).trans ((Below.heap_alloc _ _ _ (heap_lt HJ.out.l)).trans HJ.out.l)) hrs,?_⟩
   obtain ⟨N,hN⟩:∃ N,A.heap.size=N:=⟨_,rfl⟩
   obtain ⟨W2,hW2⟩:∃ W2,((A.alloc (.cells #[.slice ap ps.length cp,.slice ai it.ins.length ci,.bool it.wd] 88)).alloc (.cells #[.int .i64 k1,.string s1,.slice a1 l1.length c1] 24)).putObj (L1+1+1) (.loop { r with state:=.busy })=W2:=⟨_,rfl⟩
   have hTN:L1+1+1 < N:=by have:=HJ.out.z;omega
   have ko:∀ b,b < N→b≠L1+1+1→W2.heap[b]?=A.heap[b]?:=fun b hb1 hb2=>by
    rw [←hW2];exact (World.putObj_heap_other hb2).trans ((Below.heap_alloc _ _ _ (by simp only [World.size_alloc];omega)).trans (Below.heap_alloc _ _ _ (by omega)))
   have mz:W2.heap.size=N+1+1:=by rw [←hW2,World.putObj_size,World.size_alloc,World.size_alloc,hN]
   have m5:W2.heap[L1+1+1]?=some (.loop { r with state:=.busy }):=by rw [←hW2];exact World.putObj_heap_same (by simp only [World.size_alloc];omega)
   have mt:RowP W2 N (.slice ap ps.length cp) (.slice ai it.ins.length ci) (.bool it.wd):=by
    rw [←hW2,←hN];exact (World.putObj_heap_other (by omega)).trans ((Below.heap_alloc _ _ _ (by simp only [World.size_alloc];omega)).trans (World.alloc_heap_new _ _))
   have mx:Row3 W2 (N+1) (.int .i64 k1) (.string s1) (.slice a1 l1.length c1):=by
    rw [←hW2,←hN];exact (World.putObj_heap_other (by omega)).trans (alloc_at (by simp))
   have mb:Below h w W2:=by rw [←hW2];exact below_put ((HJ.out.j.b.alloc (by omega) _).alloc (by simp only [World.size_alloc];omega) _) _ _ (by omega)
   have mj:RB h w k s (.slice a kids.length cap) fr tn 0 W2:=HJ.out.j.keep mb (by omega) fun b hb=>ko b (by omega) (by omega)
   have mi:RowS n₁ W2 (.slice ai it.ins.length ci) it.ins:=row_keep HGI.out fun g e=>by have:=World.ownsRow.lt HGI.out g e;exact ko g (by omega) (by omega)
   rw [hW2,hN]
   obtain ⟨⟨p0,p1,p2⟩,_⟩:=mt.cells
   obtain ⟨⟨x0,x1,x2⟩,_⟩:=mx.cells
   have cf:W2.cell? ⟨h+1,0,none⟩=some (.string fr):=cell_of_row _ _ _ _ _ _ mj.f
   have ct:W2.cell? ⟨h+1+1,0,none⟩=some (.string tn):=cell_of_row _ _ _ _ _ _ mj.t
   have CFR:=qh (frees_any n₁ ap ai ps.length cp it.ins.length ci it.wd k1 s1 a1 l1.length c1 it.ins W2 mi hil)
   rw [hF] at CFR
   have HMT:=qh mt
   have HMI:=qh mi
   have HMJ:=qh mj
   have HMZ:=qh mz
   have HCV:=qh hC
   have HIL:=qh hil
   have e0:({ ({ r with state:=.busy }:Loop) with state:=.ready,pending:=none }:Loop)=r:=by rw [HRR.out]
   have E0:=qh e0
   have KEEP:Hid (∀ (er:Int) (W':World) (rl:Loop),W2.heap.size≤W'.heap.size→Below h w W'→(∀ b,b < W2.heap.size→b≠h+1+1+1→b≠h+1+1+1+1→W'.heap[b]?=W2.heap[b]?)→Row3 W' (h+1+1+1) (.int .i64 0) (.string ⟨#[]⟩) (.slice none 0 0)→W'.heap[h+1+1+1+1]?=some (.cells #[.int .i64 er] 26 (0,0)) →
     JQ h L1 kb w k s (.slice a kids.length cap) fr tn kind er rl (W'.putObj (L1+1+1) (.loop rl))∧Kc (fun _ b=>b=h+1+1+1∨b=h+1+1+1+1) A (W'.putObj (L1+1+1) (.loop rl))):=qh (fun er W' rl hz hbw ho hr3 he4=>by
    have po:∀ b,b≠L1+1+1→(W'.putObj (L1+1+1) (.loop rl)).heap[b]?=W'.heap[b]?:=fun b hb=>World.putObj_heap_other hb
    have kk:∀ b,b < N→b≠L1+1+1→b≠h+1+1+1→b≠h+1+1+1+1→(W'.putObj (L1+1+1) (.loop rl)).heap[b]?=A.heap[b]?:=fun b h1 h2 h3 h4=>(po b h2).trans ((ho b (by omega) h3 h4).trans (ko b h1 h2))
    refine ⟨⟨⟨below_put hbw _ _ (by omega),by rw [World.putObj_size];omega,(kk _ (by omega) (by omega) (by omega) (by omega)).trans HJ.out.j.n,(kk _ (by omega) (by omega) (by omega) (by omega)).trans HJ.out.j.f,(kk _ (by omega) (by omega) (by omega) (by omega)).trans HJ.out.j.t,(po _ (by omega)).trans hr3,(po _ (by omega)).trans he4⟩,by rw [World.putObj_size];omega,(kk _ (by omega) (by omega) (by omega) (by omega)).trans HJ.out.d,World.putObj_heap_same (by omega),(kk _ (by omega) (by omega) (by omega) (by omega)).trans HJ.out.k⟩,by rw [World.putObj_size];omega,fun b c t z hb e=>?_,fun b hb=>.inl hb⟩
    have hlt:b < N:=by rw [←hN];exact heap_lt e
    have hne:b≠L1+1+1:=by rintro rfl;rw [HJ.out.l] at e;cases e
    exact (kk b hlt hne (fun e=>hb (.inl e)) (fun e=>hb (.inr e))).trans e)
   have FIN:Hid (∀ W',Below W2.heap.size W2 W'→((s1.toList==fr.toList && fr.toList != tn.toList) && (FV && CV))=false→R (.returned (.bool true)) (W'.putObj (L1+1+1) (.loop r))):=qh (fun W' hb he=>by
    rw [←HR.out]
    have kq:=KEEP.out 0 W' r hb.size (mb.trans (hb.mono (by omega))) (fun b h1 _ _=>hb.block b h1) ((hb.block _ (by omega)).trans mj.r) ((hb.block _ (by omega)).trans mj.e)
    exact .inl ⟨rfl,⟨⟨hlen,he⟩,kq.1⟩,kq.2⟩)
   have FINL:Hid (∀ W',Below W2.heap.size W2 W'→W'.heap[L1+1+1]?=some (.loop { r with state:=.busy })):=qh (fun W' hb=>(hb.block _ (by omega)).trans m5)
   have HM5:=qh m5
   obtain ⟨wd,hwd⟩:∃ wd,it.wd=wd:=⟨_,rfl⟩
   obtain ⟨NI,hni⟩:∃ NI,it.ins.length=NI:=⟨_,rfl⟩
   obtain ⟨NP,hnp⟩:∃ NP,ps.length=NP:=⟨_,rfl⟩
   rw [hwd,hni,hnp] at CFR HMT
   rw [hwd] at p2
   rw [hni] at p1 HMI
   rw [hnp] at p0
   clear ko mz m5 mt mx mj mb mi hW2 hN hwd hnp e0 hF hC hil hlen
   by_cases h1:s1.toList=fr.toList
   ·have e1:(s1.toList==fr.toList)=true:=by rw [beq_iff_eq];exact h1
    rw [e1,Bool.true_and] at FIN
    have HE1:=qh h1
    clear h1
    by_cases h2:fr.toList=tn.toList
    ·have e2:(fr.toList != tn.toList)=false:=by rw [h2];simp
     have hFT:=FIN.out _ (Below.refl _ _) (by rw [e2];rfl)
     have HE2:=qh h2
     clear h2
     gi_wp2
     refine ⟨trivial,?_⟩
     gi_wp2
     refine ⟨trivial,?_⟩
     gi_wp2
     refine ⟨_,_,run_endRound none (FINL.out _ (Below.refl _ _)),?_⟩
     simp only [Option.isNone_none,if_true]
     rw [E0.out]
     exact hFT
    ·have e2:(fr.toList != tn.toList)=true:=by rw [bne_iff_ne];exact h2
     have e3:(fr.toList==tn.toList)=false:=by rw [beq_eq_false_iff_ne];exact h2
     rw [e2,Bool.true_and] at FIN
     gi_wp2_with fail
     refine ⟨trivial,fun e=>(by cases e),(CallsIn.inRound _ ((callsIn_wide (n:=m - 1)).2 CFR.out)).mono ?_⟩
     rintro e w5 ⟨rfl,hb5⟩
     have HB5:=qh hb5
     have z5:=hb5.size
     have hmz:=HMZ.out
     have mj5:RB h w k s (.slice a kids.length cap) fr tn 0 w5:=HMJ.out.below hb5 (by omega)
     have mt5:RowP w5 N (.slice ap NP cp) (.slice ai NI ci) (.bool wd):=(hb5.block _ (by omega)).trans HMT.out
     have mi5:RowS n₁ w5 (.slice ai NI ci) it.ins:=row_keep HMI.out fun g e=>hb5.block g (World.ownsRow.lt HMI.out g e).2
     have CB:=qh (contains_row w5 ai NI ci it.ins tn mi5 (by have:=HIL.out;omega))
     rw [HCV.out] at CB
     have HMJ5:=qh mj5
     obtain ⟨⟨y0,y1,y2⟩,_⟩:=mt5.cells
     have ct5:w5.cell? ⟨h+1+1,0,none⟩=some (.string tn):=cell_of_row _ _ _ _ _ _ mj5.t
     clear hb5 CFR p0 p1 p2 x0 x1 x2 cf ct mj5 mt5 mi5
     cases FV with
     | false =>
      have hFT:=FIN.out _ HB5.out rfl
      gi_wp2
      refine ⟨trivial,?_⟩
      gi_wp2
      refine ⟨_,_,run_endRound none (FINL.out _ HB5.out),?_⟩
      simp only [Option.isNone_none,if_true]
      rw [E0.out]
      exact hFT
     | true =>
      gi_wp2_with fail
      refine ⟨trivial,fun e=>(by cases e),(CallsIn.inRound _ ((callsIn_wide (n:=m - 1)).2 CB.out)).mono ?_⟩
      rintro e w6 ⟨rfl,rfl⟩
      cases CV with
      | false =>
       have hFT:=FIN.out _ HB5.out rfl
       gi_wp2
       refine ⟨_,_,run_endRound none (FINL.out _ HB5.out),?_⟩
       simp only [Option.isNone_none,if_true]
       rw [E0.out]
       exact hFT
      | true =>
       obtain ⟨⟨r0,r1,r2⟩,rf0,rf1,rf2⟩:=HMJ5.out.r.cells
       have er0:=cell_of_row _ _ 0 _ _ _ HMJ5.out.e
       have ef0:=frozen_of_row _ _ 0 _ _ HMJ5.out.e
       clear CB y0 y1 y2 ct5
       gi_wp2
       obtain ⟨V6,hV6⟩:∃ V6,(((w6.setCell ⟨h+1+1+1,0,none⟩ (.int .i64 0)).setCell ⟨h+1+1+1,1,none⟩ (.string ⟨#[]⟩)).setCell ⟨h+1+1+1,2,none⟩ (.slice none 0 0)).setCell ⟨h+1+1+1+1,0,none⟩ (.int .i64 22)=V6:=⟨_,rfl⟩
       have far6:∀ b,b≠h+1+1+1→b≠h+1+1+1+1→V6.heap[b]?=w6.heap[b]?:=fun b h1 h2=>by
        rw [←hV6];exact (Below.heap_setCell _ _ _ _ (by simp only;exact h2)).trans ((Below.heap_setCell _ _ _ _ (by simp only;exact h1)).trans ((Below.heap_setCell _ _ _ _ (by simp only;exact h1)).trans (Below.heap_setCell _ _ _ _ (by simp only;exact h1))))
       have zV6:V6.heap.size=w6.heap.size:=by rw [←hV6];simp only [setCell_size]
       have rV6:Row3 V6 (h+1+1+1) (.int .i64 0) (.string ⟨#[]⟩) (.slice none 0 0):=by
        rw [←hV6];exact (HMJ5.out.r.put _ _ _).other (p:=⟨h+1+1+1+1,0,none⟩) _ (by simp)
       have eV6:V6.heap[h+1+1+1+1]?=some (.cells #[.int .i64 22] 26 (0,0)):=by
        rw [←hV6];exact heap_setCell_same _ _ 0 _ _ _ ((Below.heap_setCell _ _ _ _ (by simp)).trans ((Below.heap_setCell _ _ _ _ (by simp)).trans ((Below.heap_setCell _ _ _ _ (by simp)).trans HMJ5.out.e)))
       have bV6:Below h w V6:=by
        rw [←hV6];exact (((HMJ5.out.b.setCell (p:=⟨h+1+1+1,0,none⟩) (by simp only;omega) _).setCell (p:=⟨h+1+1+1,1,none⟩) (by simp only;omega) _).setCell (p:=⟨h+1+1+1,2,none⟩) (by simp only;omega) _).setCell (p:=⟨h+1+1+1+1,0,none⟩) (by simp only;omega) _
       rw [hV6]
       clear hV6
       refine ⟨_,_,run_endRound (some .ret) ((far6 _ (by omega) (by omega)).trans (FINL.out _ HB5.out)),?_⟩
       simp only [Option.isNone_some,Bool.false_eq_true,if_false]
       rw [←HR.out]
       have kq:=KEEP.out 22 V6 { r with state:=.done,pending:=some .ret } (by rw [zV6];exact z5) bV6 (fun b h1 h2 h3=>(far6 b h2 h3).trans (HB5.out.block b h1)) rV6 eV6
       exact .inr ⟨rfl,⟨by rw [HE1.out,e2];simp,kq.1⟩,kq.2⟩
   ·have e1:(s1.toList==fr.toList)=false:=by rw [beq_eq_false_iff_ne];exact h1
    have e2:(s1=fr)=False:=eq_false (by rintro rfl;exact h1 rfl)
    have hFT:=FIN.out _ (Below.refl _ _) (by rw [e1];rfl)
    clear h1 CFR HMT p0 p1 p2
    gi_wp2
    refine ⟨trivial,?_⟩
    gi_wp2
    refine ⟨trivial,?_⟩
    gi_wp2
    refine ⟨_,_,run_endRound none (FINL.out _ (Below.refl _ _)),?_⟩
    simp only [Option.isNone_none,if_true]
    rw [E0.out]
    exact hFT
  rw [z4,hW1]
  refine hcall.mono ?_
  clear hcall hsup old b4 B4 hd1 hl1 hB1 jq0 jV kV
  rintro e w' ⟨⟨v0,rfl⟩,⟨⟨hp4,hpt⟩,jq⟩ | ⟨q,hq,hqt,jq⟩⟩
  ·have hT:TK=false:=by rw [←hTK];exact hpt
   refine ⟨none,w'.putObj (L1+1+1) (.loop { r with state:=.exhausted }),?_,?_⟩
   ·refine (run_endLoop (P:=Tryz.prog) jq.l (by rw [hr1];simp)).trans ?_
    rw [hr2]
   ·obtain ⟨W5,hW5⟩:∃ W5,w'.putObj (L1+1+1) (.loop { r with state:=.exhausted })=W5:=⟨_,rfl⟩
    have po:∀ b,b≠L1+1+1→W5.heap[b]?=w'.heap[b]?:=fun b hb=>by rw [←hW5];exact World.putObj_heap_other hb
    have j5:RB h w k s (.slice a kids.length cap) fr tn 0 W5:=jq.j.keep (by rw [←hW5];exact below_put jq.j.b _ _ (by omega)) (by rw [←hW5,World.putObj_size];exact Nat.le_refl _) fun b hb=>po b (by omega)
    have d5:W5.heap[L1+1]?=some (.deferred (some [])):=(po _ (by omega)).trans jq.d
    have k5:W5.heap[kb]?=some (.cells #[.int .i64 kind] 3 (0,0)):=(po _ (by omega)).trans jq.k
    have z5:L1+1+1 < W5.heap.size:=by rw [←hW5,World.putObj_size];exact jq.z
    rw [hW5]
    dsimp only [Exit.inBlock,Exit.then]
    have nr5:NdR W5 (.mk k s kids) (.int .i64 k) (.string s) (.slice a kids.length cap):=ht.later (by rw [HH.out];exact j5.b)
    have hsz5:=renN_sz fr tn kind [] false (.mk k s kids)
    have hsm5:=renN_sm fr tn h64 kind [] false _ hsm
    have RBD:=qh (rebuild_any 79 #[.pointer (some ⟨h+1,0,none⟩),.pointer (some ⟨kb,0,none⟩),.pointer (some ⟨h+1+1,0,none⟩)] W5 (RenC (h+1) kb (h+1+1) fr tn kind) (fun _ _ _ _=>True) (chRn fr tn kind) (fun _ _=>rfl)
     (fun A B hC hb=>⟨(hb.block _ (by omega)).trans hC.1,(hb.block _ (by omega)).trans hC.2.1,(hb.block _ (by omega)).trans hC.2.2⟩)
     (fun n₁ H A vp vi v0 v1 v2 ps ins wd t _ _ h3 h4 h5 h6 h7 _ h9 _=>ren1_all (h+1) kb (h+1+1) fr tn kind hts n₁ H A vp vi v0 v1 v2 ps ins wd t h3 h4 h5 h6 h7 h9) _ _ (bld_ren hk56 _ (.mk k s kids) (Nat.le_refl _) [] [] false) _ _ _ ⟨j5.f,k5,j5.t⟩ nr5 (by omega) hsm5)
    obtain ⟨⟨n0,n1,n2⟩,_⟩:=j5.n.cells
    have J5:=qh j5
    have D5:=qh d5
    clear hsz5 hsm5 nr5 k5 hpt hp4 po hW5
    refine wpAt_of_wpIn (n:=6) ?_
    refine wpIn_wide.2 ?_
    go_wp2_with fail
    refine RBD.out.mono ?_
    rintro e w6 ⟨u0,u1,u2,rfl,t6,b6⟩
    have j6:=J5.out.below b6 (by have:=J5.out.z;omega)
    have d6:w6.heap[L1+1]?=some (.deferred (some [])):=(b6.block _ (by omega)).trans D5.out
    have CK:=qh (checked_any _ _ _ _ _ w6 t6 er tr HCK.out HAS.out)
    obtain ⟨_,_,_,a6,c6,e6,rfl,rfl,rfl,_,_⟩:=t6.form
    have z6:L1+1+1 < w6.heap.size:=by have:=b6.size;omega
    clear RBD n0 n1 n2 b6 J5 D5 j5 d5
    go_wp2_with fail
    refine CK.out.mono ?_
    rintro e w7 ⟨y0,y1,y2,rfl,t7,b7⟩
    have j7:=j6.below b7 (by have:=j6.z;omega)
    have d7:w7.heap[L1+1]?=some (.deferred (some [])):=(b7.block _ (by omega)).trans d6
    have T7:=qh t7
    obtain ⟨k7,s7,l7,a7,c7,e7,rfl,rfl,rfl,_,_⟩:=t7.form
    obtain ⟨⟨r0,r1,r2⟩,rf0,rf1,rf2⟩:=j7.r.cells
    have er0:=cell_of_row _ _ 0 _ _ _ j7.e
    have ef0:=frozen_of_row _ _ 0 _ _ j7.e
    have J7:=qh j7
    have D7:=qh d7
    have B67:=qh b7
    have hzz:h+1+1+1+1 < W5.heap.size:=by omega
    clear CK t6 t7 b7 j6 d6 j7 d7
    go_wp2
    obtain ⟨V7,hV7⟩:∃ V7,(((w7.setCell ⟨h+1+1+1,0,none⟩ (.int .i64 k7)).setCell ⟨h+1+1+1,1,none⟩ (.string s7)).setCell ⟨h+1+1+1,2,none⟩ (.slice a7 l7.length c7)).setCell ⟨h+1+1+1+1,0,none⟩ (.int .i64 er)=V7:=⟨_,rfl⟩
    have far7:∀ b,b≠h+1+1+1→b≠h+1+1+1+1→V7.heap[b]?=w7.heap[b]?:=fun b h1 h2=>by
     rw [←hV7];exact (Below.heap_setCell _ _ _ _ (by simp only;exact h2)).trans ((Below.heap_setCell _ _ _ _ (by simp only;exact h1)).trans ((Below.heap_setCell _ _ _ _ (by simp only;exact h1)).trans (Below.heap_setCell _ _ _ _ (by simp only;exact h1))))
    have rV7:Row3 V7 (h+1+1+1) (.int .i64 k7) (.string s7) (.slice a7 l7.length c7):=by
     rw [←hV7];exact (J7.out.r.put _ _ _).other (p:=⟨h+1+1+1+1,0,none⟩) _ (by simp)
    have eV7:V7.heap[h+1+1+1+1]?=some (.cells #[.int .i64 er] 26 (0,0)):=by
     rw [←hV7];exact heap_setCell_same _ _ 0 _ _ _ ((Below.heap_setCell _ _ _ _ (by simp)).trans ((Below.heap_setCell _ _ _ _ (by simp)).trans ((Below.heap_setCell _ _ _ _ (by simp)).trans J7.out.e)))
    have bV7:Below h w V7:=by
     rw [←hV7];exact (((J7.out.b.setCell (p:=⟨h+1+1+1,0,none⟩) (by simp only;omega) _).setCell (p:=⟨h+1+1+1,1,none⟩) (by simp only;omega) _).setCell (p:=⟨h+1+1+1,2,none⟩) (by simp only;omega) _).setCell (p:=⟨h+1+1+1+1,0,none⟩) (by simp only;omega) _
    rw [hV7]
    clear hV7
    have dV7:V7.heap[L1+1]?=some (.deferred (some [])):=(far7 _ (by omega) (by omega)).trans D7.out
    refine ⟨by simp,.inl ⟨_,_,rfl,run_takeDeferred dV7,?_⟩⟩
    have po:∀ b,b≠L1+1→(V7.putObj (L1+1) (.deferred none)).heap[b]?=V7.heap[b]?:=fun b hb=>World.putObj_heap_other hb
    have r8:Row3 (V7.putObj (L1+1) (.deferred none)) (h+1+1+1) (.int .i64 k7) (.string s7) (.slice a7 l7.length c7):=(po _ (by omega)).trans rV7
    obtain ⟨⟨g0,g1,g2⟩,_⟩:=r8.cells
    have ge0:(V7.putObj (L1+1) (.deferred none)).cell? ⟨h+1+1+1+1,0,none⟩=some (.int .i64 er):=cell_of_row _ _ _ _ _ _ ((po _ (by omega)).trans eV7)
    refine ⟨.tuple #[.agg #[.int .i64 k7,.string s7,.slice a7 l7.length c7],.int .i64 er],by simp [results,Tryz.results25,go_sem,g0,g1,g2,ge0],?_⟩
    exact .inr ⟨hT,_,_,_,rfl,(T7.out.keep (S':=fun _=>True) (fun b (h1:W5.heap.size≤b) _=>⟨(po b (by omega)).trans (far7 b (by omega) (by omega)),trivial⟩)).toR,by rw [HH.out];exact below_put bV7 _ _ (by omega)⟩
  ·have hT:TK=true:=by
    rw [←hTK]
    unfold takenN
    rw [List.any_eq_true] at hqt ⊢
    obtain ⟨x,hx1,hx2⟩:=hqt
    exact ⟨x,hq.subset hx1,hx2⟩
   refine ⟨some .ret,w'.putObj (L1+1+1) (.loop { ({ r with state:=.done,pending:=some .ret }:Loop) with state:=.exhausted }),?_,?_⟩
   ·exact run_endLoop (P:=Tryz.prog) jq.l (by simp)
   ·obtain ⟨W5,hW5⟩:∃ W5,w'.putObj (L1+1+1) (.loop { ({ r with state:=.done,pending:=some .ret }:Loop) with state:=.exhausted })=W5:=⟨_,rfl⟩
    have po:∀ b,b≠L1+1+1→W5.heap[b]?=w'.heap[b]?:=fun b hb=>by rw [←hW5];exact World.putObj_heap_other hb
    have j5:RB h w k s (.slice a kids.length cap) fr tn 22 W5:=jq.j.keep (by rw [←hW5];exact below_put jq.j.b _ _ (by omega)) (by rw [←hW5,World.putObj_size];exact Nat.le_refl _) fun b hb=>po b (by omega)
    have d5:W5.heap[L1+1]?=some (.deferred (some [])):=(po _ (by omega)).trans jq.d
    rw [hW5]
    clear hW5 po jq hqt hq hr hr1 hr2 hr3
    gi_wp2
    refine ⟨by simp,.inl ⟨_,_,rfl,run_takeDeferred d5,?_⟩⟩
    have po:∀ b,b≠L1+1→(W5.putObj (L1+1) (.deferred none)).heap[b]?=W5.heap[b]?:=fun b hb=>World.putObj_heap_other hb
    have r5:Row3 (W5.putObj (L1+1) (.deferred none)) (h+1+1+1) (.int .i64 0) (.string ⟨#[]⟩) (.slice none 0 0):=(po _ (by omega)).trans j5.r
    obtain ⟨⟨r0,r1,r2⟩,_⟩:=r5.cells
    have re0:(W5.putObj (L1+1) (.deferred none)).cell? ⟨h+1+1+1+1,0,none⟩=some (.int .i64 22):=cell_of_row _ _ _ _ _ _ ((po _ (by omega)).trans j5.e)
    refine ⟨.tuple #[.agg #[.int .i64 0,.string ⟨#[]⟩,.slice none 0 0],.int .i64 22],by simp [results,Tryz.results25,go_sem,r0,r1,r2,re0],?_⟩
    exact ⟨_,_,_,rfl,zero_ndr _,by rw [HH.out];exact below_put j5.b _ _ (by omega)⟩
end Go.Proofs.YtcimcjmdkjajfaaGreatDoor
namespace Go.Proofs.YtcimcjmdkjajfaaGreatDoor
open Go.RowKit Go.Shelf
attribute [local go_sem] Oper.semAt_some
theorem ren_zero {h:Nat} {w w1:World} {a:Act} {er x:Int} (hq:Row3 w1 (h+1+1+1) (.int .i64 0) (.string ⟨#[]⟩) (.slice none 0 0)) (he:w1.heap[h+1+1+1+1]?=some (.cells #[.int .i64 x] 26 (0,0))) (hb:Below h w w1) (hh:w.heap.size=h) (hd:a.defers=[])
  (h6:(a.tmps[6]?).getD undef = .pointer (some ⟨h+1+1+1,0,none⟩)) (h7:(a.tmps[7]?).getD undef = .pointer (some ⟨h+1+1+1+1,0,none⟩)) :
  bodyPost Tryz.prog Tryz.f25 (PR er zeroN w) .ret a ((((w1.setCell ⟨h+1+1+1,0,none⟩ (.int .i64 0)).setCell ⟨h+1+1+1,1,none⟩ (.string ⟨#[]⟩)).setCell ⟨h+1+1+1,2,none⟩ (.slice none 0 0)).setCell ⟨h+1+1+1+1,0,none⟩ (.int .i64 er)):=by
 obtain ⟨V7,hV7⟩:∃ V7,(((w1.setCell ⟨h+1+1+1,0,none⟩ (.int .i64 0)).setCell ⟨h+1+1+1,1,none⟩ (.string ⟨#[]⟩)).setCell ⟨h+1+1+1,2,none⟩ (.slice none 0 0)).setCell ⟨h+1+1+1+1,0,none⟩ (.int .i64 er)=V7:=⟨_,rfl⟩
 have rV7:Row3 V7 (h+1+1+1) (.int .i64 0) (.string ⟨#[]⟩) (.slice none 0 0):=by
  rw [←hV7];exact (hq.put _ _ _).other (p:=⟨h+1+1+1+1,0,none⟩) _ (by simp)
 have eV7:V7.heap[h+1+1+1+1]?=some (.cells #[.int .i64 er] 26 (0,0)):=by
  rw [←hV7];exact heap_setCell_same _ _ 0 _ _ _ ((Below.heap_setCell _ _ _ _ (by simp)).trans ((Below.heap_setCell _ _ _ _ (by simp)).trans ((Below.heap_setCell _ _ _ _ (by simp)).trans he)))
 have bV7:Below h w V7:=by
  rw [←hV7];exact (((hb.setCell (p:=⟨h+1+1+1,0,none⟩) (by simp only;omega) _).setCell (p:=⟨h+1+1+1,1,none⟩) (by simp only;omega) _).setCell (p:=⟨h+1+1+1,2,none⟩) (by simp only;omega) _).setCell (p:=⟨h+1+1+1+1,0,none⟩) (by simp only;omega) _
 rw [hV7]
 obtain ⟨⟨g0,g1,g2⟩,_⟩:=rV7.cells
 have ge0:=cell_of_row _ _ 0 _ _ _ eV7
 have hr:Tryz.f25.results=#[ResultVar.cell 6 24,ResultVar.cell 7 26]:=rfl
 exact bodyPost_ret (v:=.tuple #[.agg #[.int .i64 0,.string ⟨#[]⟩,.slice none 0 0],.int .i64 er]) (by simp [results,go_sem,h6,h7,g0,g1,g2,ge0]) hd ⟨_,_,_,rfl,zero_ndr _,by rw [hh];exact bV7⟩
set_option maxRecDepth 100000 in
set_option maxHeartbeats 1000000 in
theorem rename_bad (t:Nd) (fr tn:ByteArray) (w:World) (v0 v1 v2:Value) (ht:NdR w t v0 v1 v2) (er:Int) (hv:chkN t=er) (h0:er≠0) :
  Calls Tryz.prog 25 #[.agg #[v0,v1,v2],.string fr,.string tn] w (PR er zeroN w):=by
 obtain ⟨k,s,kids,a,cap,rfl,rfl,rfl,rfl,hs,hl⟩:=ht.form
 obtain ⟨W0,hW0⟩:∃ W0,((((w.alloc (.cells #[.int .i64 k,.string s,.slice a kids.length cap] 24)).alloc (.cells #[.string fr] 9)).alloc (.cells #[.string tn] 9)).alloc (.cells #[.int .i64 0,.string ⟨#[]⟩,.slice none 0 0] 24)).alloc (.cells #[.int .i64 0] 26)=W0:=⟨_,rfl⟩
 obtain ⟨h,hh⟩:∃ h,w.heap.size=h:=⟨_,rfl⟩
 have b0:Below h w W0:=by rw [←hW0,←hh];exact (((((Below.refl _ w).alloc (Nat.le_refl _) _).alloc (by simp) _).alloc (by simp only [World.size_alloc];omega) _).alloc (by simp only [World.size_alloc];omega) _).alloc (by simp only [World.size_alloc];omega) _
 have z0:W0.heap.size=h+1+1+1+1+1:=by rw [←hW0];simp [hh]
 have r0:Row3 W0 h (.int .i64 k) (.string s) (.slice a kids.length cap):=by
  rw [←hW0,←hh];exact (Below.heap_alloc _ _ _ (by simp only [World.size_alloc];omega)).trans ((Below.heap_alloc _ _ _ (by simp only [World.size_alloc];omega)).trans ((Below.heap_alloc _ _ _ (by simp only [World.size_alloc];omega)).trans ((Below.heap_alloc _ _ _ (by simp only [World.size_alloc];omega)).trans (World.alloc_heap_new _ _))))
 have q0:Row3 W0 (h+1+1+1) (.int .i64 0) (.string ⟨#[]⟩) (.slice none 0 0):=by
  rw [←hW0,←hh];exact (Below.heap_alloc _ _ _ (by simp only [World.size_alloc];omega)).trans (alloc_at (by simp))
 have e0:W0.heap[h+1+1+1+1]?=some (.cells #[.int .i64 0] 26 (0,0)):=by rw [←hW0,←hh];exact alloc_at (by simp)
 have CC:=qh (check_tree _ W0 _ _ _ (ht.later (by rw [hh];exact b0)))
 rw [hv] at CC
 have hne:((er:Int) != 0)=true:=by rw [bne_iff_ne];exact h0
 obtain ⟨⟨n0,n1,n2⟩,_⟩:=r0.cells
 have B0:=qh b0
 have Q0:=qh q0
 have E0:=qh e0
 have HH:=qh hh
 clear ht hv b0 r0 q0 e0
 go_enter Tryz.func25,Tryz.ntmps25
 go_upto_region 1 with fail
 (try rw [hW0])
 (try rw [hh])
 clear hW0 hh
 go_wp2_with fail
 refine CC.out.mono ?_
 rintro e w1 ⟨rfl,hb1⟩
 have B1:=qh (B0.out.trans (hb1.mono (by omega)))
 have q1:Row3 w1 (h+1+1+1) (.int .i64 0) (.string ⟨#[]⟩) (.slice none 0 0):=(hb1.block _ (by omega)).trans Q0.out
 have e1:w1.heap[h+1+1+1+1]?=some (.cells #[.int .i64 0] 26 (0,0)):=(hb1.block _ (by omega)).trans E0.out
 obtain ⟨⟨r0,r1,r2⟩,rf0,rf1,rf2⟩:=q1.cells
 have er0:=cell_of_row _ _ 0 _ _ _ e1
 have ef0:=frozen_of_row _ _ 0 _ _ e1
 have Q1:=qh q1
 have E1:=qh e1
 clear hb1 CC n0 n1 n2 q1 e1 Q0 E0 B0
 go_wp2
 exact ren_zero Q1.out E1.out B1.out HH.out rfl rfl rfl
set_option maxRecDepth 100000 in
set_option maxHeartbeats 1000000 in
theorem rename_arg (t:Nd) (fr tn:ByteArray) (w:World) (v0 v1 v2:Value) (ht:NdR w t v0 v1 v2) (hfs:fr.size≤maxLen) (hts:tn.size≤maxLen) (hv:chkN t=0) (X Y:Bool) (hX:(nameB fr || varB fr)=X) (hY:(nameB tn || varB tn)=Y) (hN:(X && Y)=false) :
  Calls Tryz.prog 25 #[.agg #[v0,v1,v2],.string fr,.string tn] w (PR 1 zeroN w):=by
 obtain ⟨k,s,kids,a,cap,rfl,rfl,rfl,rfl,hs,hl⟩:=ht.form
 obtain ⟨W0,hW0⟩:∃ W0,((((w.alloc (.cells #[.int .i64 k,.string s,.slice a kids.length cap] 24)).alloc (.cells #[.string fr] 9)).alloc (.cells #[.string tn] 9)).alloc (.cells #[.int .i64 0,.string ⟨#[]⟩,.slice none 0 0] 24)).alloc (.cells #[.int .i64 0] 26)=W0:=⟨_,rfl⟩
 obtain ⟨h,hh⟩:∃ h,w.heap.size=h:=⟨_,rfl⟩
 have b0:Below h w W0:=by rw [←hW0,←hh];exact (((((Below.refl _ w).alloc (Nat.le_refl _) _).alloc (by simp) _).alloc (by simp only [World.size_alloc];omega) _).alloc (by simp only [World.size_alloc];omega) _).alloc (by simp only [World.size_alloc];omega) _
 have z0:W0.heap.size=h+1+1+1+1+1:=by rw [←hW0];simp [hh]
 have r0:Row3 W0 h (.int .i64 k) (.string s) (.slice a kids.length cap):=by
  rw [←hW0,←hh];exact (Below.heap_alloc _ _ _ (by simp only [World.size_alloc];omega)).trans ((Below.heap_alloc _ _ _ (by simp only [World.size_alloc];omega)).trans ((Below.heap_alloc _ _ _ (by simp only [World.size_alloc];omega)).trans ((Below.heap_alloc _ _ _ (by simp only [World.size_alloc];omega)).trans (World.alloc_heap_new _ _))))
 have f0:W0.heap[h+1]?=some (.cells #[.string fr] 9 (0,0)):=by
  rw [←hW0,←hh];exact (Below.heap_alloc _ _ _ (by simp only [World.size_alloc];omega)).trans ((Below.heap_alloc _ _ _ (by simp only [World.size_alloc];omega)).trans ((Below.heap_alloc _ _ _ (by simp only [World.size_alloc];omega)).trans (alloc_at (by simp))))
 have t0:W0.heap[h+1+1]?=some (.cells #[.string tn] 9 (0,0)):=by
  rw [←hW0,←hh];exact (Below.heap_alloc _ _ _ (by simp only [World.size_alloc];omega)).trans ((Below.heap_alloc _ _ _ (by simp only [World.size_alloc];omega)).trans (alloc_at (by simp)))
 have q0:Row3 W0 (h+1+1+1) (.int .i64 0) (.string ⟨#[]⟩) (.slice none 0 0):=by
  rw [←hW0,←hh];exact (Below.heap_alloc _ _ _ (by simp only [World.size_alloc];omega)).trans (alloc_at (by simp))
 have e0:W0.heap[h+1+1+1+1]?=some (.cells #[.int .i64 0] 26 (0,0)):=by rw [←hW0,←hh];exact alloc_at (by simp)
 have CC:=qh (check_tree _ W0 _ _ _ (ht.later (by rw [hh];exact b0)))
 rw [hv] at CC
 have CF:=qh (isAny_any fr hfs)
 have CT:=qh (isAny_any tn hts)
 unfold SaysN at CF CT
 simp only [hX] at CF
 simp only [hY] at CT
 have j0:=qh (⟨b0,by omega,r0,f0,t0,q0,e0⟩:RB h w k s (.slice a kids.length cap) fr tn 0 W0)
 obtain ⟨⟨n0,n1,n2⟩,_⟩:=r0.cells
 have HH:=qh hh
 clear ht hv b0 r0 f0 t0 q0 e0 hX hY
 go_enter Tryz.func25,Tryz.ntmps25
 go_upto_region 1 with fail
 (try rw [hW0])
 (try rw [hh])
 clear hW0 hh
 go_wp2_with fail
 refine CC.out.mono ?_
 rintro e w1 ⟨rfl,hb1⟩
 have j1:=qh (j0.out.below hb1 j0.out.z)
 have cf:w1.cell? ⟨h+1,0,none⟩=some (.string fr):=cell_of_row _ _ _ _ _ _ j1.out.f
 clear hb1 CC n0 n1 n2 j0
 go_wp2_with fail
 refine (CF.out _).mono ?_
 rintro e w2 ⟨rfl,hb2⟩
 have j2:=qh (j1.out.below hb2 j1.out.z)
 have ct:w2.cell? ⟨h+1+1,0,none⟩=some (.string tn):=cell_of_row _ _ _ _ _ _ j2.out.t
 clear hb2 CF cf j1
 cases X with
 | false =>
  obtain ⟨⟨r0,r1,r2⟩,rf0,rf1,rf2⟩:=j2.out.r.cells
  have er0:=cell_of_row _ _ 0 _ _ _ j2.out.e
  have ef0:=frozen_of_row _ _ 0 _ _ j2.out.e
  go_wp2
  exact ren_zero j2.out.r j2.out.e j2.out.b HH.out rfl rfl rfl
 | true =>
  have hYf:Y=false:=by simpa using hN
  subst hYf
  go_wp2_with fail
  refine (CT.out _).mono ?_
  rintro e w3 ⟨rfl,hb3⟩
  have j3:=qh (j2.out.below hb3 j2.out.z)
  obtain ⟨⟨r0,r1,r2⟩,rf0,rf1,rf2⟩:=j3.out.r.cells
  have er0:=cell_of_row _ _ 0 _ _ _ j3.out.e
  have ef0:=frozen_of_row _ _ 0 _ _ j3.out.e
  clear hb3 CT ct j2
  go_wp2
  exact ren_zero j3.out.r j3.out.e j3.out.b HH.out rfl rfl rfl
def renK (tn:ByteArray):Int:=if varB tn=true then 16 else 15
def renE (fr tn:ByteArray) (t:Nd):Int :=
 if chkN t≠0 then chkN t else if ((nameB fr || varB fr) && (nameB tn || varB tn))=false then 1 else if takenN fr tn t=true then 22 else chkN (renN fr tn (renK tn) [] false t)
def renT (fr tn:ByteArray) (t:Nd):Nd:=if renE fr tn t=0 then renN fr tn (renK tn) [] false t else zeroN
theorem any_small {s:ByteArray} (h:(nameB s || varB s)=true):s.size≤64:=by
 rcases (Bool.or_eq_true _ _).mp h with h | h
 ·exact nameB_small h
 ·exact varB_small h
theorem rename_any (t:Nd) (fr tn:ByteArray) (w:World) (v0 v1 v2:Value) (ht:NdR w t v0 v1 v2) (hfs:fr.size≤maxLen) (hts:tn.size≤maxLen) :
  Calls Tryz.prog 25 #[.agg #[v0,v1,v2],.string fr,.string tn] w (PR (renE fr tn t) (renT fr tn t) w):=by
 unfold renT
 by_cases h0:chkN t=0
 ·by_cases h1:((nameB fr || varB fr) && (nameB tn || varB tn))=false
  ·have e:renE fr tn t=1:=by unfold renE;rw [if_neg (by simp [h0]),if_pos h1]
   rw [e,if_neg (by decide)]
   exact rename_arg t fr tn w v0 v1 v2 ht hfs hts h0 _ _ rfl rfl h1
  ·have h1':(nameB fr || varB fr)=true∧(nameB tn || varB tn)=true:=by
    rw [Bool.not_eq_false,Bool.and_eq_true] at h1
    exact h1
   have hf:=valid_facts h0
   have main:=rename_main t fr tn w v0 v1 v2 ht hfs hts h0 hf.1 (chk_sz h0) h1'.1 h1'.2 (takenN fr tn t) rfl (renK tn) rfl (any_small h1'.2) (chkN (renN fr tn (renK tn) [] false t)) (if chkN (renN fr tn (renK tn) [] false t)=0 then renN fr tn (renK tn) [] false t else zeroN) rfl (by
    by_cases h:chkN (renN fr tn (renK tn) [] false t)=0
    ·exact .inr ⟨h,by rw [if_pos h]⟩
    ·exact .inl ⟨h,by rw [if_neg h]⟩)
   refine main.mono ?_
   rintro e w' (⟨hT,h⟩ | ⟨hT,h⟩)
   ·have e:renE fr tn t=22:=by unfold renE;rw [if_neg (by simp [h0]),if_neg h1,if_pos hT]
    rw [e,if_neg (by decide)]
    exact h
   ·have e:renE fr tn t=chkN (renN fr tn (renK tn) [] false t):=by unfold renE;rw [if_neg (by simp [h0]),if_neg h1,if_neg (by rw [hT];decide)]
    rw [e]
    exact h
 ·have e:renE fr tn t=chkN t:=by unfold renE;rw [if_pos h0]
  rw [e,if_neg h0]
  exact rename_bad t fr tn w v0 v1 v2 ht _ rfl h0
end Go.Proofs.YtcimcjmdkjajfaaGreatDoor
namespace Go.Proofs.YtcimcjmdkjajfaaGreatDoor
theorem kid_valid {k:Int} {s:ByteArray} {l:List Nd} (h:chkN (.mk k s l)=0) (i:Nat) (hi:i < l.length) (h7:k≠7) (hb:¬ (bindK k=true∧i+1=l.length)):chkN l[i]=0:=by
 have bodies:∀ {l:List Nd} (i:Nat) (hi:i < l.length),((∃ x,l=[x])∨∃ x y,l=[x,y]∧typB x=true)→¬ i+1=l.length→typB l[i]=true:=by
  intro l i hi hf hn
  rcases hf with ⟨x,rfl⟩ | ⟨x,y,rfl,hx⟩
  ·simp only [List.length_singleton] at hi hn;omega
  ·simp only [List.length_cons,List.length_nil] at hi hn
   obtain rfl:i=0:=by omega
   exact hx
 have main:(typB l[i] || (termB l[i] || (formB l[i] || (itemB l[i] || textB l[i]))))=true:=by
  unfold chkN at h
  split at h
  ·cases h
  ·split at h
   ·cases h
   ·split at h
    ·rename_i hv
     simp only [Bool.or_eq_true] at hv
     rcases hv with h | h | h | h | h
     ·simp only [typB] at h
      split at h
      ·simp only [Bool.and_eq_true] at h
       rw [(typL_iff l).1 h.2.2 i hi];rfl
      ·simp only [Bool.and_eq_true,decide_eq_true_eq] at h
       omega
     ·simp only [termB] at h
      split at h
      ·simp only [Bool.and_eq_true] at h
       rw [(termL_iff l).1 h.2.1 i hi];simp
      ·split at h
       ·simp only [Bool.and_eq_true] at h
        rw [(termL_iff l).1 h.2.1 i hi];simp
       ·simp only [Bool.and_eq_true,decide_eq_true_eq] at h
        obtain ⟨rfl,hbb,_⟩:=h
        rw [bodies i hi (bind_form hbb) (fun e=>hb ⟨rfl,e⟩)];rfl
     ·simp only [formB] at h
      split at h
      ·rename_i hk
       subst hk
       simp only [termB,if_true,Bool.and_eq_true] at h
       rw [(termL_iff l).1 h.2.1 i hi];simp
      ·split at h
       ·rename_i hk
        simp only [Bool.and_eq_true] at h
        rw [bodies i hi (bind_form h.1) (fun e=>hb ⟨by rcases hk with rfl | rfl <;> rfl,e⟩)];rfl
       ·split at h
        ·simp only [Bool.and_eq_true,decide_eq_true_eq] at h
         omega
        ·split at h
         ·simp only [Bool.and_eq_true] at h
          rw [formL_mem h.2.2 l[i] (List.getElem_mem hi)];simp
         ·simp only [Bool.and_eq_true] at h
          rw [formL_mem h.2.2.2 l[i] (List.getElem_mem hi)];simp
     ·have lone:∀ {t:Nd},loneB t=true→typB t=true:=by
       rintro ⟨k,s,l⟩ h
       simp only [loneB,Bool.and_eq_true,decide_eq_true_eq] at h
       simp only [typB]
       rw [if_neg (by omega)]
       simp [h.1,h.2.1,h.2.2]
      simp only [itemB] at h
      split at h
      ·simp only [Bool.and_eq_true] at h
       rw [lone ((nameL_iff l).1 h.2.2 i hi)];rfl
      ·split at h
       ·simp only [Bool.and_eq_true,decide_eq_true_eq] at h
        by_cases hlast:i+1=l.length
        ·have:=h.2.2.2
         rw [typE_get (by omega)] at this
         have e:l[l.length - 1]'(by omega)=l[i]:=by congr 1;omega
         rw [e] at this
         rw [this];rfl
        ·have:=(nameL_iff _).1 h.2.2.1 i (by rw [List.length_take];omega)
         rw [List.getElem_take] at this
         rw [lone this];rfl
       ·simp only [Bool.and_eq_true] at h
        obtain ⟨_,h⟩:=h
        split at h
        ·simp only [Bool.and_eq_true] at h
         rw [(typL_iff l).1 h.1 i hi];rfl
        ·split at h
         ·simp only [Bool.and_eq_true] at h
          rw [formL_mem h.2 l[i] (List.getElem_mem hi)];simp
         ·split at h
          ·simp only [decide_eq_true_eq] at h;omega
          ·cases h
     ·simp only [textB,Bool.and_eq_true] at h
      rw [(itemL_iff l).1 h.2.2 i hi];simp
    ·cases h
 have h1:l[i].sz < (Nd.mk k s l).sz:=Nd.kid_lt k s l i hi
 have h2:l[i].dp≤(Nd.mk k s l).dp:=by
  have:=dpL_take l i hi
  have h3:∀ (l:List Nd) (j:Nat),Nd.dpL (l.take j)≤Nd.dpL l:=by
   intro l
   induction l with
   | nil=>intro j;simp [Nd.dpL]
   | cons a l ih =>
    intro j
    cases j with
    | zero=>simp [Nd.dpL]
    | succ j=>simp only [List.take_succ_cons,Nd.dpL];have:=ih j;omega
  have:=h3 l (i+1)
  simp only [Nd.dp]
  omega
 unfold chkN at h ⊢
 split at h
 ·cases h
 ·split at h
  ·cases h
  ·rw [if_neg (by omega),if_neg (by omega),if_pos main]
mutual
theorem hit_d {kind:Int} {s:ByteArray} (d d':Nat) (ins:List ByteArray) (wd:Bool):∀ t:Nd,(∃ x∈preN d ins wd t,hit kind s x)→∃ x∈preN d' ins wd t,hit kind s x
 | .mk k s' l=>by
  simp only [preN,List.mem_cons,or_and_right,exists_or,exists_eq_left]
  rintro (h | h)
  ·exact .inl h
  ·exact .inr (hitL_d (d+1) (d'+1) ins _ (k==7) l h)
theorem hitL_d {kind:Int} {s:ByteArray} (d d':Nat) (ins il:List ByteArray) (wd:Bool):∀ l:List Nd,(∃ x∈preL d ins il wd l,hit kind s x)→∃ x∈preL d' ins il wd l,hit kind s x
 | []=>by simp [preL]
 | a :: l=>by
  simp only [preL,List.mem_append,or_and_right,exists_or]
  rintro (h | h)
  ·exact .inl (hit_d d d' _ wd a h)
  ·exact .inr (hitL_d d d' ins il wd l h)
end
theorem mem_preL {d:Nat} {ins il:List ByteArray} {wd:Bool} {x:It}:∀ (l:List Nd) (i:Nat) (hi:i < l.length),x∈preN d (if i+1=l.length then il else ins) wd l[i]→x∈preL d ins il wd l
 | a :: l,0,_,h=>by
  simp only [preL,List.mem_append]
  left
  simp only [List.length_cons,List.getElem_cons_zero] at h
  cases l with
  | nil=>simpa using h
  | cons b l=>simpa using h
 | a :: l,i+1,hi,h=>by
  simp only [preL,List.mem_append]
  right
  refine mem_preL l i (by simpa using hi) ?_
  simp only [List.length_cons,List.getElem_cons_succ,Nat.add_right_cancel_iff] at h
  exact h
theorem kid_names {kind:Int} {k:Int} {s':ByteArray} {l:List Nd} (i:Nat) (hi:i < l.length) (h7:k≠7) (hb:¬ (bindK k=true∧i+1=l.length)) (s:ByteArray) (h:s∈occs kind (preN 0 [] false l[i])):s∈occs kind (preN 0 [] false (.mk k s' l)):=by
 unfold occs at h ⊢
 rw [fold_mem] at h ⊢
 rcases h with h | h
 ·simp at h
 ·right
  obtain ⟨x,hx1,hx2⟩:=hit_d 0 1 [] false l[i] h
  refine ⟨x,?_,hx2⟩
  simp only [preN,List.mem_cons]
  right
  have e7:(k==7)=false:=by rw [beq_eq_false_iff_ne];exact h7
  rw [e7]
  refine mem_preL l i hi ?_
  by_cases hl:i+1=l.length
  ·have hbk:bindK k=false:=by
    cases hbk:bindK k with
    | false=>rfl
    | true=>exact absurd ⟨hbk,hl⟩ hb
   rw [if_pos hl,hbk]
   exact hx1
  ·rw [if_neg hl]
   exact hx1
mutual
def hasN (name:ByteArray):Nd→Bool
 | .mk _ s l=>s.toList==name.toList || hasL name l
def hasL (name:ByteArray):List Nd→Bool
 | []=>false
 | a :: l=>hasN name a || hasL name l
end
theorem contains_snoc {ins:List ByteArray} {s tn:ByteArray} (h1:Lib.containsS ins tn=false) (h2:(s.toList==tn.toList)=false):Lib.containsS (ins++[s]) tn=false:=by
 rw [←Bool.not_eq_true,Lib.containsS_iff] at h1 ⊢
 rw [List.mem_append,List.mem_singleton]
 rintro (h | rfl)
 ·exact h1 h
 ·simp at h2
theorem ren_bind {fr tn:ByteArray} {kind:Int} (hk:kind=15∨kind=16) (ins:List ByteArray) (wd:Bool) (k:Int) (s:ByteArray) (l:List Nd):∃ k' s',renN fr tn kind ins wd (.mk k s l) = .mk k' s' (renL fr tn kind ins (if bindK k then ins++[s] else ins) (k==7) l)∧(if bindK k' then ins++[s'] else ins)=(if bindK k then ins++[s] else ins)∧(k'==7)=(k==7)∧((renB fr ins wd k s=true∧k'=kind∧s'=tn)∨(renB fr ins wd k s=false∧k'=k∧s'=s)):=by
 simp only [renN]
 by_cases hb:renB fr ins wd k s=true
 ·have hkk:=renB_kind hb
  rw [if_pos hb,if_pos hb]
  have b1:bindK k=false:=by rcases hkk with rfl | rfl <;> rfl
  have b2:bindK kind=false:=by rcases hk with rfl | rfl <;> rfl
  have b3:(k==7)=false:=by rcases hkk with rfl | rfl <;> rfl
  have b4:(kind==7)=false:=by rcases hk with rfl | rfl <;> rfl
  exact ⟨kind,tn,rfl,by rw [b1,b2];rfl,by rw [b3,b4],.inl ⟨hb,rfl,rfl⟩⟩
 ·rw [if_neg hb,if_neg hb]
  exact ⟨k,s,rfl,rfl,rfl,.inr ⟨by simpa using hb,rfl,rfl⟩⟩
mutual
theorem ren_gone {fr tn:ByteArray} {kind kd:Int} (hk:kind=15∨kind=16) (hkd:kd=15∨kd=16) (d:Nat) (ins:List ByteArray) (wd:Bool):∀ t:Nd,hasN tn t=false→¬ ∃ x∈preN d ins wd (renN fr tn kind ins wd t),hit kd fr x
 | .mk k s l,h=>by
  simp only [hasN,Bool.or_eq_false_iff] at h
  obtain ⟨k',s',e,e1,e2,hc⟩:=ren_bind (fr:=fr) (tn:=tn) hk ins wd k s l
  rw [e]
  simp only [preN,List.mem_cons,or_and_right,exists_or,exists_eq_left]
  rw [e1,e2]
  rintro (⟨_,h2,h3⟩ | h4)
  ·have j3:s'=fr:=h3
   have j2:((k'==15 || k'==16) && (!wd && !Lib.containsS ins s'))=true:=h2
   clear h2 h3
   rcases hc with ⟨hb,e3,e4⟩ | ⟨hb,e3,e4⟩
   ·unfold renB at hb
    simp only [Bool.and_eq_true] at hb
    rw [←e4,j3,hb.1] at h
    cases h.1
   ·rw [←e3,←e4,←j3] at hb
    unfold renB at hb
    rw [j2] at hb
    simp at hb
  ·exact renL_gone hk hkd (d+1) ins _ (k==7) l h.2 h4
theorem renL_gone {fr tn:ByteArray} {kind kd:Int} (hk:kind=15∨kind=16) (hkd:kd=15∨kd=16) (d:Nat) (ins il:List ByteArray) (wd:Bool):∀ l:List Nd,hasL tn l=false→¬ ∃ x∈preL d ins il wd (renL fr tn kind ins il wd l),hit kd fr x
 | [],_=>by simp [renL,preL]
 | a :: l,h=>by
  simp only [hasL,Bool.or_eq_false_iff] at h
  have he:(renL fr tn kind ins il wd l).isEmpty=l.isEmpty:=by
   rw [Bool.eq_iff_iff,List.isEmpty_iff,List.isEmpty_iff,←List.length_eq_zero_iff,renL_length,List.length_eq_zero_iff]
  simp only [renL,preL,List.mem_append,or_and_right,exists_or]
  rw [he]
  rintro (h1 | h1)
  ·exact ren_gone hk hkd d _ wd a h.1 h1
  ·exact renL_gone hk hkd d ins il wd l h.2 h1
end
mutual
theorem ren_free {fr tn:ByteArray} {kind:Int} (hk:kind=15∨kind=16) (d:Nat) (ins:List ByteArray) (wd:Bool):∀ t:Nd,hasN tn t=false→∀ x∈preN d ins wd (renN fr tn kind ins wd t),takenB tn fr x=false
 | .mk k s l,h=>by
  simp only [hasN,Bool.or_eq_false_iff] at h
  obtain ⟨k',s',e,e1,e2,hc⟩:=ren_bind (fr:=fr) (tn:=tn) hk ins wd k s l
  rw [e]
  simp only [preN,List.mem_cons]
  rw [e1,e2]
  rintro x (rfl | h4)
  ·show ((s'.toList==tn.toList && tn.toList != fr.toList) && (((k'==15 || k'==16) && (!wd && !Lib.containsS ins s')) && Lib.containsS ins fr))=false
   rcases hc with ⟨hb,rfl,rfl⟩ | ⟨hb,rfl,rfl⟩
   ·unfold renB at hb
    simp only [Bool.and_eq_true,beq_iff_eq] at hb
    have hs:=toList_injP hb.1
    subst hs
    have hn:Lib.containsS ins s=false:=by simpa using hb.2.2.2
    rw [hn]
    simp
   ·rw [h.1];rfl
  ·exact renL_free hk (d+1) ins _ (k==7) l h.2 x h4
theorem renL_free {fr tn:ByteArray} {kind:Int} (hk:kind=15∨kind=16) (d:Nat) (ins il:List ByteArray) (wd:Bool):∀ l:List Nd,hasL tn l=false→∀ x∈preL d ins il wd (renL fr tn kind ins il wd l),takenB tn fr x=false
 | [],_=>by simp [renL,preL]
 | a :: l,h=>by
  simp only [hasL,Bool.or_eq_false_iff] at h
  have he:(renL fr tn kind ins il wd l).isEmpty=l.isEmpty:=by
   rw [Bool.eq_iff_iff,List.isEmpty_iff,List.isEmpty_iff,←List.length_eq_zero_iff,renL_length,List.length_eq_zero_iff]
  simp only [renL,preL,List.mem_append]
  rw [he]
  rintro x (h1 | h1)
  ·exact ren_free hk d _ wd a h.1 x h1
  ·exact renL_free hk d ins il wd l h.2 x h1
end
mutual
def okk (wd:Bool):Nd→Prop
 | .mk k s l=>(wd=false→(k=15→nameB s=true)∧(k=16→varB s=true))∧okkL (k==7) l
def okkL (wd:Bool):List Nd→Prop
 | []=>True
 | a :: l=>okk wd a∧okkL wd l
end
mutual
theorem ren_back {fr tn:ByteArray} (hd:nameB fr=true→varB fr=false) (ins:List ByteArray) (hin:Lib.containsS ins tn=false) (wd:Bool):∀ t:Nd,hasN tn t=false→okk wd t→renN tn fr (renK fr) ins wd (renN fr tn (renK tn) ins wd t)=t
 | .mk k s l,h,ho=>by
  simp only [hasN,Bool.or_eq_false_iff] at h
  simp only [okk] at ho
  have hk:renK tn=15∨renK tn=16:=by unfold renK;split <;> simp
  obtain ⟨k',s',e,e1,e2,hc⟩:=ren_bind (fr:=fr) (tn:=tn) hk ins wd k s l
  rw [e]
  have hil:Lib.containsS (if bindK k then ins++[s] else ins) tn=false:=by
   split
   ·exact contains_snoc hin h.1
   ·exact hin
  have hL:=renL_back hd ins hin (if bindK k then ins++[s] else ins) hil (k==7) l h.2 ho.2
  simp only [renN]
  rw [e1,e2,hL]
  rcases hc with ⟨hb,rfl,rfl⟩ | ⟨hb,rfl,rfl⟩
  ·unfold renB at hb
   simp only [Bool.and_eq_true,beq_iff_eq] at hb
   have hs:=toList_injP hb.1
   subst hs
   have hwd:wd=false:=by simpa using hb.2.2.1
   have hb2:renB s' ins wd (renK s') s'=true:=by
    unfold renB
    rw [hin,hwd]
    rcases hk with hk | hk <;> rw [hk] <;> simp
   rw [if_pos hb2,if_pos hb2]
   have hkk:renK s=k:=by
    have h15:=(ho.1 hwd).1
    have h16:=(ho.1 hwd).2
    unfold renK
    have h2:=hb.2.1
    rw [Bool.or_eq_true,beq_iff_eq,beq_iff_eq] at h2
    rcases h2 with rfl | rfl
    ·rw [hd (h15 rfl)];rfl
    ·rw [h16 rfl];rfl
   rw [hkk]
  ·have hb2:renB tn ins wd k' s'=false:=by
    unfold renB
    rw [h.1]
    rfl
   rw [if_neg (by rw [hb2];decide),if_neg (by rw [hb2];decide)]
theorem renL_back {fr tn:ByteArray} (hd:nameB fr=true→varB fr=false) (ins:List ByteArray) (hin:Lib.containsS ins tn=false) (il:List ByteArray) (hil:Lib.containsS il tn=false) (wd:Bool):∀ l:List Nd,hasL tn l=false→okkL wd l→renL tn fr (renK fr) ins il wd (renL fr tn (renK tn) ins il wd l)=l
 | [],_,_=>by simp only [renL]
 | a :: l,h,ho=>by
  simp only [hasL,Bool.or_eq_false_iff] at h
  simp only [okkL] at ho
  have he:(renL fr tn (renK tn) ins il wd l).isEmpty=l.isEmpty:=by
   rw [Bool.eq_iff_iff,List.isEmpty_iff,List.isEmpty_iff,←List.length_eq_zero_iff,renL_length,List.length_eq_zero_iff]
  simp only [renL]
  rw [he,ren_back hd (if l.isEmpty then il else ins) (by split;exact hil;exact hin) wd a h.1 ho.1,renL_back hd ins hin il hil wd l h.2 ho.2]
end
end Go.Proofs.YtcimcjmdkjajfaaGreatDoor
namespace Go.Proofs.YtcimcjmdkjajfaaGreatDoor
namespace Lx
structure KT where
 k:Nat
 x:Bs
 deriving DecidableEq
def Tok.kt (t:Tok):KT:=⟨t.kind,t.text⟩
end Lx
end Go.Proofs.YtcimcjmdkjajfaaGreatDoor
namespace Go.Proofs.YtcimcjmdkjajfaaGreatDoor
open Go.RowKit
def kt (a:AT):Lx.KT:=⟨a.k.toNat,bs a.t⟩
theorem kt_of (t:Lx.Tok):kt (ofTok t)=t.kt:=by
 unfold kt ofTok Lx.Tok.kt
 simp only [Int.toNat_natCast]
 rfl
theorem kt_map (ts:List Lx.Tok):(ts.map ofTok).map kt=ts.map Lx.Tok.kt:=by
 rw [List.map_map]
 exact List.map_congr_left fun t _=>kt_of t
theorem text_eq (a b:ByteArray):a.toList=b.toList↔bs a=bs b:=by
 rw [ByteArray.toList_eq,ByteArray.toList_eq];rfl
theorem sameB_iff:∀ (l m:List AT),sameB l m=true↔(l.map fun a=>(a.k,bs a.t))=m.map fun a=>(a.k,bs a.t)
 | [],[]=>by simp [sameB]
 | [],b :: m=>by simp [sameB]
 | a :: l,[]=>by simp [sameB]
 | a :: l,b :: m=>by
  simp only [sameB,List.map_cons,List.cons.injEq,Prod.mk.injEq,Bool.and_eq_true,sameB_iff l m,text_eq,beq_iff_eq]
theorem sameB_kt (l m:List AT) (h:sameB l m=true):l.map kt=m.map kt:=by
 have:=(sameB_iff l m).1 h
 have h2:=congrArg (List.map fun p:Int×Lx.Bs=>(⟨p.1.toNat,p.2⟩:Lx.KT)) this
 rw [List.map_map,List.map_map] at h2
 exact h2
theorem sameB_ts (ts:List Lx.Tok) (m:List AT):sameB (ts.map ofTok) m=true↔(ts.map Lx.Tok.kt=m.map kt∧∀ a∈m,0≤a.k):=by
 constructor
 ·intro h
  refine ⟨by rw [←kt_map];exact sameB_kt _ _ h,?_⟩
  have h1:=(sameB_iff _ _).1 h
  intro a ha
  have:(a.k,bs a.t)∈(ts.map ofTok).map fun a=>(a.k,bs a.t):=by rw [h1];exact List.mem_map_of_mem (f:=fun a:AT=>(a.k,bs a.t)) ha
  rw [List.map_map] at this
  obtain ⟨t,_,e⟩:=List.mem_map.1 this
  simp only [Function.comp,Prod.mk.injEq] at e
  rw [←e.1]
  exact Int.natCast_nonneg _
 ·rintro ⟨h1,h2⟩
  rw [sameB_iff]
  have h3:=congrArg (List.map fun p:Lx.KT=>((p.k:Int),p.x)) h1
  rw [List.map_map,List.map_map] at h3
  rw [List.map_map]
  refine h3.trans (List.map_congr_left fun a ha=>?_)
  simp only [Function.comp,kt,Prod.mk.injEq,and_true]
  exact Int.toNat_of_nonneg (h2 a ha)
theorem scansB_iff (s:ByteArray) (m:List AT):scansB s m=true↔∃ ts,Lx.scan (bs s) = .toks ts∧ts.map Lx.Tok.kt=m.map kt∧∀ a∈m,0≤a.k:=by
 unfold scansB
 cases Lx.scan (bs s) with
 | bad p e=>simp
 | toks ts=>simp only [sameB_ts,Lx.Res.toks.injEq,exists_eq_left']
end Go.Proofs.YtcimcjmdkjajfaaGreatDoor
namespace Go.Proofs.YtcimcjmdkjajfaaGreatDoor
theorem name_novar {s:ByteArray} (h:nameB s=true):varB s=false:=by
 cases hv:varB s with
 | false=>rfl
 | true =>
  unfold nameB checkB at h
  unfold varB checkB at hv
  obtain ⟨ts,h1,h2,_⟩:=(scansB_iff _ _).1 h
  obtain ⟨us,g1,g2,_⟩:=(scansB_iff _ _).1 hv
  simp only at h1 g1
  rw [h1] at g1
  cases g1
  rw [h2] at g2
  simp [kt] at g2
theorem okkL_iff (wd:Bool):∀ l:List Nd,okkL wd l↔∀ x∈l,okk wd x
 | []=>by simp [okkL]
 | a :: l=>by simp [okkL,okkL_iff wd l]
theorem okk_mk {wd:Bool} {k:Int} {s:ByteArray} {l:List Nd} (h15:k=15→nameB s=true) (h16:k=16→varB s=true) (h7:k≠7) (hl:∀ x∈l,okk false x):okk wd (.mk k s l):=by
 simp only [okk]
 have e:(k==7)=false:=by rw [beq_eq_false_iff_ne];exact h7
 rw [e]
 exact ⟨fun _=>⟨h15,h16⟩,(okkL_iff false l).2 hl⟩
theorem typ_okk:∀ (N:Nat) (t:Nd),t.sz≤N→typB t=true→okk false t:=by
 intro N
 induction N with
 | zero=>rintro ⟨k,s,l⟩ h;simp only [Nd.sz] at h;omega
 | succ N ih =>
  rintro ⟨k,s,l⟩ h ht
  simp only [Nd.sz] at h
  simp only [typB] at ht
  split at ht
  ·rename_i hk
   simp only [Bool.and_eq_true] at ht
   exact okk_mk (fun e=>by omega) (fun e=>by omega) (by omega) fun x hx=>by
    obtain ⟨i,hi,rfl⟩:=List.getElem_of_mem hx
    exact ih _ (by have:=szL_get l i hi;omega) ((typL_iff l).1 ht.2.2 i hi)
  ·simp only [Bool.and_eq_true,decide_eq_true_eq] at ht
   have hl:l=[]:=List.eq_nil_of_length_eq_zero ht.2.1
   subst hl
   exact okk_mk (fun _=>ht.2.2) (fun e=>by omega) (by omega) fun x hx=>by simp at hx
theorem bind_okk {s:ByteArray} {l:List Nd} (h:bindB s l=true) (hb:∀ x,(l=[x]∨∃ y,l=[y,x])→okk false x):∀ x∈l,okk false x:=by
 rcases bind_form h with ⟨x,rfl⟩ | ⟨x,y,rfl,hx⟩
 ·exact mem_one (P:=okk false) (hb x (.inl rfl))
 ·exact mem_two (P:=okk false) (typ_okk _ x (Nat.le_refl _) hx) (hb y (.inr ⟨x,rfl⟩))
theorem term_okk:∀ (N:Nat) (t:Nd),t.sz≤N→termB t=true→okk false t:=by
 intro N
 induction N with
 | zero=>rintro ⟨k,s,l⟩ h;simp only [Nd.sz] at h;omega
 | succ N ih =>
  rintro ⟨k,s,l⟩ h ht
  simp only [Nd.sz] at h
  simp only [termB] at ht
  split at ht
  ·rename_i hk
   simp only [Bool.and_eq_true] at ht
   exact okk_mk (fun _=>ht.1) (fun e=>by omega) (by omega) fun x hx=>ih x (by have:=szL_mem hx;omega) (termL_mem ht.2.1 x hx)
  ·split at ht
   ·rename_i hk
    simp only [Bool.and_eq_true] at ht
    exact okk_mk (fun e=>by omega) (fun _=>ht.1) (by omega) fun x hx=>ih x (by have:=szL_mem hx;omega) (termL_mem ht.2.1 x hx)
   ·simp only [Bool.and_eq_true,decide_eq_true_eq] at ht
    obtain ⟨rfl,hb,he⟩:=ht
    refine okk_mk (fun e=>by omega) (fun e=>by omega) (by decide) (bind_okk hb ?_)
    rintro x (rfl | ⟨y,rfl⟩)
    ·simp only [termE,List.isEmpty_nil,if_true,Nd.szL] at he h
     exact ih x (by omega) he
    ·simp only [termE,List.isEmpty_cons,List.isEmpty_nil,if_true,Nd.szL] at he h
     exact ih x (by omega) (by simpa using he)
theorem form_okk:∀ (N:Nat) (t:Nd),t.sz≤N→formB t=true→okk false t:=by
 intro N
 induction N with
 | zero=>rintro ⟨k,s,l⟩ h;simp only [Nd.sz] at h;omega
 | succ N ih =>
  rintro ⟨k,s,l⟩ h ht
  simp only [Nd.sz] at h
  simp only [formB] at ht
  split at ht
  ·exact term_okk _ _ (Nat.le_refl _) ht
  ·rename_i hk15
   split at ht
   ·rename_i hk
    simp only [Bool.and_eq_true] at ht
    obtain ⟨hb,he⟩:=ht
    refine okk_mk (fun e=>by omega) (fun e=>by omega) (by omega) (bind_okk hb ?_)
    rintro x (rfl | ⟨y,rfl⟩)
    ·simp only [formE,List.isEmpty_nil,if_true,Nd.szL] at he h
     exact ih x (by omega) he
    ·simp only [formE,List.isEmpty_cons,List.isEmpty_nil,if_true,Nd.szL] at he h
     exact ih x (by omega) (by simpa using he)
   ·split at ht
    ·rename_i hk
     simp only [Bool.and_eq_true,decide_eq_true_eq] at ht
     have hl:l=[]:=List.eq_nil_of_length_eq_zero ht.2
     subst hl
     exact okk_mk (fun e=>by omega) (fun e=>by omega) (by omega) fun x hx=>by simp at hx
    ·split at ht
     ·rename_i hk
      simp only [Bool.and_eq_true] at ht
      exact okk_mk (fun e=>by omega) (fun e=>by omega) (by omega) fun x hx=>ih x (by have:=szL_mem hx;omega) (formL_mem ht.2.2 x hx)
     ·simp only [isBinary,Bool.and_eq_true,decide_eq_true_eq] at ht
      exact okk_mk (fun e=>by omega) (fun e=>by omega) (by omega) fun x hx=>ih x (by have:=szL_mem hx;omega) (formL_mem ht.2.2.2 x hx)
theorem lone_okk {t:Nd} (h:loneB t=true):okk false t:=by
 obtain ⟨k,s,l⟩:=t
 simp only [loneB,Bool.and_eq_true,decide_eq_true_eq] at h
 have hl:l=[]:=List.eq_nil_of_length_eq_zero h.2.1
 subst hl
 exact okk_mk (fun _=>h.2.2) (fun e=>by omega) (by omega) fun x hx=>by simp at hx
theorem item_okk {t:Nd} (h:itemB t=true):okk false t:=by
 obtain ⟨k,s,l⟩:=t
 simp only [itemB] at h
 split at h
 ·rename_i hk
  simp only [Bool.and_eq_true] at h
  exact okk_mk (fun e=>by omega) (fun e=>by omega) (by omega) fun x hx=>by
   obtain ⟨i,hi,rfl⟩:=List.getElem_of_mem hx
   exact lone_okk ((nameL_iff l).1 h.2.2 i hi)
 ·split at h
  ·rename_i hk
   simp only [Bool.and_eq_true,decide_eq_true_eq] at h
   refine okk_mk (fun e=>by omega) (fun e=>by omega) (by omega) fun x hx=>?_
   obtain ⟨i,hi,rfl⟩:=List.getElem_of_mem hx
   by_cases hlast:i+1=l.length
   ·have:=h.2.2.2
    rw [typE_get (by omega)] at this
    have e:l[l.length - 1]'(by omega)=l[i]:=by congr 1;omega
    rw [e] at this
    exact typ_okk _ _ (Nat.le_refl _) this
   ·have:=(nameL_iff _).1 h.2.2.1 i (by rw [List.length_take];omega)
    rw [List.getElem_take] at this
    exact lone_okk this
  ·simp only [Bool.and_eq_true] at h
   obtain ⟨hs,h⟩:=h
   split at h
   ·rename_i hk
    simp only [Bool.and_eq_true] at h
    exact okk_mk (fun e=>by omega) (fun e=>by omega) (by omega) fun x hx=>by
     obtain ⟨i,hi,rfl⟩:=List.getElem_of_mem hx
     exact typ_okk _ _ (Nat.le_refl _) ((typL_iff l).1 h.1 i hi)
   ·split at h
    ·rename_i hk
     simp only [Bool.and_eq_true] at h
     subst hk
     simp only [okk]
     refine ⟨fun _=>⟨fun e=>by omega,fun e=>by omega⟩,(okkL_iff _ l).2 fun x hx=>?_⟩
     obtain ⟨i,hi,rfl⟩:=List.getElem_of_mem hx
     obtain ⟨k1,s1,e⟩:=modeB_leaf ((modeL_iff l).1 h.1 i hi)
     rw [e]
     simp only [okk,okkL]
     exact ⟨fun e=>by simp at e,trivial⟩
    ·split at h
     ·rename_i hk
      simp only [Bool.and_eq_true] at h
      exact okk_mk (fun e=>by omega) (fun e=>by omega) (by omega) fun x hx=>form_okk _ x (Nat.le_refl _) (formL_mem h.2 x hx)
     ·split at h
      ·rename_i hk
       simp only [decide_eq_true_eq] at h
       have hl:l=[]:=List.eq_nil_of_length_eq_zero h
       subst hl
       exact okk_mk (fun e=>by omega) (fun e=>by omega) (by omega) fun x hx=>by simp at hx
      ·cases h
theorem valid_okk {t:Nd} (h:chkN t=0):okk false t:=by
 unfold chkN at h
 split at h
 ·cases h
 ·split at h
  ·cases h
  ·split at h
   ·rename_i hv
    simp only [Bool.or_eq_true] at hv
    rcases hv with h | h | h | h | h
    ·exact typ_okk _ t (Nat.le_refl _) h
    ·exact term_okk _ t (Nat.le_refl _) h
    ·exact form_okk _ t (Nat.le_refl _) h
    ·exact item_okk h
    ·obtain ⟨k,s,l⟩:=t
     simp only [textB,Bool.and_eq_true,decide_eq_true_eq] at h
     obtain ⟨rfl,hs,hl⟩:=h
     exact okk_mk (fun e=>by omega) (fun e=>by omega) (by decide) fun x hx=>by
      obtain ⟨i,hi,rfl⟩:=List.getElem_of_mem hx
      exact item_okk ((itemL_iff l).1 hl i hi)
   ·cases h
theorem chk_ren (fr tn:ByteArray) (kind:Int) {t:Nd} (h:chkN t=0):chkN (renN fr tn kind [] false t)≠2∧chkN (renN fr tn kind [] false t)≠5:=by
 have hs:=renN_sz fr tn kind [] false t
 unfold chkN at h ⊢
 rw [hs.1,hs.2]
 split at h
 ·cases h
 ·rename_i h1
  split at h
  ·cases h
  ·rename_i h2
   rw [if_neg h1,if_neg h2]
   constructor <;> (split <;> decide)
theorem renE_short (fr tn:ByteArray) {t:Nd} (h:chkN t=0):renE fr tn t≠2∧renE fr tn t≠5:=by
 unfold renE
 rw [if_neg (by simp [h])]
 split
 ·decide
 ·split
  ·decide
  ·exact chk_ren fr tn _ h
theorem ren_facts {fr tn:ByteArray} {t:Nd} (h:chkN t=0) (he:renE fr tn t=0) (hn:hasN tn t=false) :
  chkN (renT fr tn t)=0∧(∀ kd,(kd=15∨kd=16)→¬ fr∈occs kd (preN 0 [] false (renT fr tn t)))∧renE tn fr (renT fr tn t)=0∧renT tn fr (renT fr tn t)=t:=by
 have hT:renT fr tn t=renN fr tn (renK tn) [] false t:=by unfold renT;rw [if_pos he]
 have hkn:renK tn=15∨renK tn=16:=by unfold renK;split <;> simp
 have hst:chkN t=0∧((nameB fr || varB fr) && (nameB tn || varB tn))=true∧chkN (renN fr tn (renK tn) [] false t)=0:=by
  unfold renE at he
  rw [if_neg (by simp [h])] at he
  split at he
  ·cases he
  ·rename_i h1
   split at he
   ·cases he
   ·exact ⟨h,by rw [Bool.not_eq_false] at h1;exact h1,he⟩
 obtain ⟨_,hnm,hc⟩:=hst
 have hback:=ren_back (fr:=fr) (tn:=tn) name_novar [] (by rw [←Bool.not_eq_true,Lib.containsS_iff];simp) false t hn (valid_okk h)
 have hfree:takenN tn fr (renN fr tn (renK tn) [] false t)=false:=by
  unfold takenN
  rw [List.any_eq_false]
  intro x hx
  rw [ren_free hkn 0 [] false t hn x hx]
  simp
 have hE:renE tn fr (renN fr tn (renK tn) [] false t)=0:=by
  unfold renE
  rw [if_neg (by simp [hc]),if_neg (by rw [Bool.and_comm,hnm];decide),if_neg (by rw [hfree];decide),hback,h]
 rw [hT]
 refine ⟨hc,fun kd hkd hm=>?_,hE,?_⟩
 ·unfold occs at hm
  rw [fold_mem] at hm
  rcases hm with hm | hm
  ·simp at hm
  ·exact ren_gone hkn hkd 0 [] false t hn hm
 ·unfold renT
  rw [if_pos hE,hback]
end Go.Proofs.YtcimcjmdkjajfaaGreatDoor
namespace Go.Proofs.YtcimcjmdkjajfaaGreatDoor
open Go.RowKit
theorem hasL_step {name:ByteArray} {l:List Nd} {i:Nat} (h:i < l.length):hasL name (l.drop i)=(hasN name l[i] || hasL name (l.drop (i+1))):=by
 rw [List.drop_eq_getElem_cons h]
 simp only [hasL]
set_option maxRecDepth 100000 in
set_option maxHeartbeats 2000000 in
theorem rHas (n:Nat):∀ (t:Nd) (name:ByteArray) (w:World) (v0 v1 v2:Value),t.sz≤n→NdR w t v0 v1 v2 →
  Calls Tryz.prog 36 #[.agg #[v0,v1,v2],.string name] w fun e w'=>e = .returned (.bool (hasN name t))∧Below w.heap.size w w':=by
 induction n with
 | zero=>intro t name w v0 v1 v2 h;cases t;simp only [Nd.sz] at h;omega
 | succ n ih =>
  intro t name w v0 v1 v2 hsz ht
  obtain ⟨k,s,l,a,cap,rfl,rfl,rfl,rfl,hs,hl⟩:=ht.form
  have IH:=qh ih
  clear ih
  unfold maxLen at hl
  by_cases hse:s.toList=name.toList
  ·have e1:(s.toList==name.toList)=true:=by rw [beq_iff_eq];exact hse
   have HR:Hid (hasN name (.mk k s l)=true):=qh (by simp only [hasN];rw [e1];rfl)
   have HSE:=qh hse
   clear hse ht
   go_enter Tryz.func36,Tryz.ntmps36
   go_wp2
   go_ret
   exact ⟨by rw [HR.out];rfl,(Below.refl _ w).alloc (Nat.le_refl _) _⟩
  ·have e1:(s.toList==name.toList)=false:=by rw [beq_eq_false_iff_ne];exact hse
   have e2:(s=name)=False:=eq_false (by rintro rfl;exact hse rfl)
   have HR:Hid (hasN name (.mk k s l)=hasL name l):=qh (by simp only [hasN];rw [e1];rfl)
   have HT:=qh ht
   have Hsz:Hid (∀ i,(h:i < l.length)→(l[i]).sz≤n):=qh fun i h=>by have:=Nd.kid_lt k s l i h;omega
   clear ht hsz hse
   go_enter Tryz.func36,Tryz.ntmps36
   go_wp2
   obtain ⟨h,hh⟩:∃ h,w.heap.size=h:=⟨_,rfl⟩
   obtain ⟨wz,hwz⟩:∃ wz,w.alloc (Obj.cells #[Value.int IntKind.i64 k,Value.string s,Value.slice a l.length cap] 24)=wz:=⟨_,rfl⟩
   have hB:Hid (Below w.heap.size w wz):=qh (by rw [←hwz];exact (Below.refl _ w).alloc (Nat.le_refl _) _)
   have hz:wz.heap.size=h+1:=by rw [←hwz];simp [hh]
   have g0:wz.cell? ⟨h,2,none⟩=some (.slice a l.length cap):=by
    rw [←hwz,←hh];exact (World.cell?_alloc_at _ _ _ _ rfl).trans rfl
   have HG0:=qh g0
   have Hz:=qh hz
   have HTz:=qh (HT.out.later hB.out)
   rw [hwz,hh]
   clear hwz hh hz g0 HT
   go_loopw [5] (fun v5 wr=>∃ i:Nat,i≤l.length∧v5 = .int .i64 (i:Int)∧Hid (hasL name l=hasL name (l.drop i))∧Hid (Below wz.heap.size wz wr)) (fun v5 _=>l.length - (intOf v5).toNat)
   case atStart=>exact ⟨0,Nat.zero_le _,rfl,qh (by rw [List.drop_zero]),Below.refl _ _⟩
   case round =>
    obtain ⟨i,hi,rfl,hrun,hbl⟩:=hrel
    have g0:=(hbl.out.cell (p:=⟨h,2,none⟩) (by have:=Hz.out;simp only;omega)).trans HG0.out
    by_cases hlt:i < l.length
    ·have hlt':(i:Int) < (l.length:Int):=by omega
     have hi0:(0:Int)≤(i:Int):=by omega
     obtain ⟨b,o,k1,s1,l1,a1,c1,rfl,e3,x0,x1,x2,r1⟩:=(HTz.out.later hbl.out).kid i hlt
     have hsz1:=Hsz.out i hlt
     have hst:=hasL_step (name:=name) hlt
     rw [e3] at hsz1 hst
     have C:=qh (IH.out (.mk k1 s1 l1) name wr _ _ _ hsz1 r1)
     obtain ⟨V,hV⟩:∃ V,hasN name (.mk k1 s1 l1)=V:=⟨_,rfl⟩
     rw [hV] at C hst
     have HST:=qh hst
     clear e3 r1 hsz1 hV hst
     go_wp2_with fail
     refine C.out.mono ?_
     clear C
     rintro e w5 ⟨rfl,hb5⟩
     have Hb5:Hid (Below wz.heap.size wz w5):=qh (hbl.out.trans (hb5.mono hbl.out.size))
     clear hb5 x0 x1 x2 g0
     cases V with
     | true =>
      go_wp2
      go_ret
      exact ⟨by rw [HR.out,hrun.out,HST.out];rfl,hB.out.trans (Hb5.out.mono hB.out.size)⟩
     | false =>
      go_wp2
      go_roundw
      case rel=>exact ⟨i+1,hlt,by push_cast;rfl,qh (by rw [hrun.out,HST.out];rfl),Hb5⟩
      case measure=>simp [intOf];omega
    ·have hlt':¬ ((i:Int) < (l.length:Int)):=by omega
     go_wp2
     go_ret
     exact ⟨by rw [HR.out,hrun.out,List.drop_of_length_le (by omega)];rfl,hB.out.trans (hbl.out.mono hB.out.size)⟩
set_option maxRecDepth 100000 in
set_option maxHeartbeats 1000000 in
theorem rBinder_any (k:Int) (s:ByteArray) (a:Option Addr) (n cap:Nat) (w:World) :
  Calls Tryz.prog 34 #[.agg #[.int .i64 k,.string s,.slice a n cap]] w fun e w'=>e = .returned (.bool (bindK k))∧Below w.heap.size w w':=by
 obtain ⟨X,hX⟩:∃ X,bindK k=X:=⟨_,rfl⟩
 rw [hX]
 unfold bindK at hX
 cases h17:(k==17) with
 | true =>
  have HX:Hid (X=true):=qh (by rw [←hX,h17];rfl)
  clear hX
  go_enter Tryz.func34,Tryz.ntmps34
  go_wp2
  go_ret
  exact ⟨by rw [HX.out];rfl,(Below.refl _ w).alloc (Nat.le_refl _) _⟩
 | false =>
  cases h18:(k==18) with
  | true =>
   have HX:Hid (X=true):=qh (by rw [←hX,h17,h18];rfl)
   clear hX
   go_enter Tryz.func34,Tryz.ntmps34
   go_wp2
   go_ret
   exact ⟨by rw [HX.out];rfl,(Below.refl _ w).alloc (Nat.le_refl _) _⟩
  | false =>
   have HX:Hid (X=(k==19)):=qh (by rw [←hX,h17,h18];rfl)
   clear hX
   go_enter Tryz.func34,Tryz.ntmps34
   go_wp2
   go_ret
   exact ⟨by rw [HX.out];rfl,(Below.refl _ w).alloc (Nat.le_refl _) _⟩
end Go.Proofs.YtcimcjmdkjajfaaGreatDoor
namespace Go.Proofs.YtcimcjmdkjajfaaGreatDoor
open Go.RowKit
structure LS (h:Nat) (w:World) (k:Int) (s:ByteArray) (l:List Nd) (a:Option Addr) (c:Nat) (W:World):Prop where
 b:Below h w W
 z:h+1≤W.heap.size
 n:Row3 W h (.int .i64 k) (.string s) (.slice a l.length c)
 t:NdR W (.mk k s l) (.int .i64 k) (.string s) (.slice a l.length c)
theorem LS.below {h:Nat} {w A B:World} {k:Int} {s:ByteArray} {l:List Nd} {a:Option Addr} {c:Nat} (j:LS h w k s l a c A) (hb:Below A.heap.size A B):LS h w k s l a c B :=
 ⟨j.b.trans (hb.mono (by have:=j.z;omega)),Nat.le_trans j.z hb.size,j.n.below hb j.n.lt,j.t.later hb⟩
theorem names_err (g:Nat) (kind:Int) (hg:(g=21∧kind=15)∨(g=23∧kind=16)) (t:Nd) (w:World) (v0 v1 v2:Value) (ht:NdR w t v0 v1 v2) :
  Calls Tryz.prog g #[.agg #[v0,v1,v2]] w fun e w'=>(∃ a n c,e = .returned (.tuple #[.slice a n c,.int .i64 (chkN t)]))∧Below w.heap.size w w':=by
 refine (occur_any g kind hg t w v0 v1 v2 ht).mono ?_
 rintro e w' ⟨v,rfl,hr,hb⟩
 obtain ⟨a,c,rfl,_⟩:=strSl_row hr
 exact ⟨⟨a,_,c,rfl⟩,hb⟩
set_option maxRecDepth 100000 in
set_option maxHeartbeats 1000000 in
theorem renames_bad (t:Nd) (fr tn:ByteArray) (w:World) (v0 v1 v2:Value) (ht:NdR w t v0 v1 v2) (hw:2≤w.heap.size) (gl:GLw w) (er:Int) (hc:chkN t=er) (h0:¬ er=0) :
  Calls Tryz.prog 7 #[.agg #[v0,v1,v2],.string fr,.string tn] w fun e w'=>e = .returned (.bool true)∧Below w.heap.size w w':=by
 obtain ⟨k,s,l,a,c,rfl,rfl,rfl,rfl,_,_⟩:=ht.form
 obtain ⟨h,hh⟩:∃ h,w.heap.size=h:=⟨_,rfl⟩
 obtain ⟨W0,hW0⟩:∃ W0,w.alloc (.cells #[.int .i64 k,.string s,.slice a l.length c] 24)=W0:=⟨_,rfl⟩
 have b0:Below h w W0:=by rw [←hW0,←hh];exact (Below.refl _ w).alloc (Nat.le_refl _) _
 have z0:W0.heap.size=h+1:=by rw [←hW0];simp [hh]
 have r0:Row3 W0 h (.int .i64 k) (.string s) (.slice a l.length c):=by rw [←hW0,←hh];exact World.alloc_heap_new _ _
 have CS:=qh (saneS_any W0 (by omega) (gl.keep fun b hb hl=>b0.block b (by omega)))
 have j0:Hid (LS h w k s l a c W0):=qh ⟨b0,by omega,r0,ht.later (by rw [hh];exact b0)⟩
 have CN:=qh (fun W v0 v1 v2 ht=>names_err 21 15 (.inl ⟨rfl,rfl⟩) (.mk k s l) W v0 v1 v2 ht)
 have CV:=qh (fun W v0 v1 v2 ht=>names_err 23 16 (.inr ⟨rfl,rfl⟩) (.mk k s l) W v0 v1 v2 ht)
 rw [hc] at CN CV
 have hne:((er:Int) != 0)=true:=by rw [bne_iff_ne];exact h0
 clear ht gl hc b0 r0
 rw [hh]
 go_enter Tryz.func7,Tryz.ntmps7
 go_upto_region 1 with fail
 (try rw [hW0])
 (try rw [hh])
 clear hW0
 go_wp2_with fail
 refine CS.out.mono ?_
 rintro e w1 ⟨rfl,hb1⟩
 have j1:=qh (j0.out.below hb1)
 clear hb1 CS j0
 obtain ⟨⟨p0,p1,p2⟩,_⟩:=j1.out.n.cells
 go_wp2_with fail
 refine (CN.out _ _ _ _ j1.out.t).mono ?_
 rintro e w2 ⟨⟨na,nn,nc,rfl⟩,hb2⟩
 have j2:=qh (j1.out.below hb2)
 clear hb2 CN p0 p1 p2 j1
 obtain ⟨⟨p0,p1,p2⟩,_⟩:=j2.out.n.cells
 go_wp2_with fail
 refine (CV.out _ _ _ _ j2.out.t).mono ?_
 rintro e w3 ⟨⟨ma,mn,mc,rfl⟩,hb3⟩
 have j3:=qh (j2.out.below hb3)
 clear hb3 CV p0 p1 p2 j2
 go_wp2
 all_goals (try go_ret)
 all_goals first
  | exact ⟨rfl,j3.out.b⟩
  | (exfalso;omega)
theorem anyEq_not {L:List ByteArray} {s:ByteArray} (h:¬ s∈L):anyEq L s=false:=by
 unfold anyEq
 rw [List.any_eq_false]
 intro x hx hq
 rw [beq_iff_eq] at hq
 exact h (toList_injP hq▸hx)
set_option maxRecDepth 100000 in
set_option maxHeartbeats 4000000 in
theorem renames_good (t:Nd) (fr tn:ByteArray) (w:World) (v0 v1 v2:Value) (ht:NdR w t v0 v1 v2) (hw:2≤w.heap.size) (gl:GLw w) (hc:chkN t=0) (hfs:fr.size≤maxLen) (hts:tn.size≤maxLen) :
  Calls Tryz.prog 7 #[.agg #[v0,v1,v2],.string fr,.string tn] w fun e w'=>e = .returned (.bool true)∧Below w.heap.size w w':=by
 obtain ⟨k,s,l,a,c,rfl,rfl,rfl,rfl,_,hl⟩:=ht.form
 unfold maxLen at hl
 obtain ⟨h,hh⟩:∃ h,w.heap.size=h:=⟨_,rfl⟩
 obtain ⟨W0,hW0⟩:∃ W0,w.alloc (.cells #[.int .i64 k,.string s,.slice a l.length c] 24)=W0:=⟨_,rfl⟩
 have b0:Below h w W0:=by rw [←hW0,←hh];exact (Below.refl _ w).alloc (Nat.le_refl _) _
 have z0:W0.heap.size=h+1:=by rw [←hW0];simp [hh]
 have r0:Row3 W0 h (.int .i64 k) (.string s) (.slice a l.length c):=by rw [←hW0,←hh];exact World.alloc_heap_new _ _
 have CS:=qh (saneS_any W0 (by omega) (gl.keep fun b hb hl=>b0.block b (by omega)))
 have j0:Hid (LS h w k s l a c W0):=qh ⟨b0,by omega,r0,ht.later (by rw [hh];exact b0)⟩
 have CN:=qh (fun W v0 v1 v2 ht=>names_says 21 15 (.inl ⟨rfl,rfl⟩) (.mk k s l) hc W v0 v1 v2 ht)
 have CV:=qh (fun W v0 v1 v2 ht=>names_says 23 16 (.inr ⟨rfl,rfl⟩) (.mk k s l) hc W v0 v1 v2 ht)
 have m1:=occs_small hc 15
 have m2:=occs_small hc 16
 obtain ⟨A1,hA1⟩:∃ A1,occs 15 (preN 0 [] false (.mk k s l))=A1:=⟨_,rfl⟩
 obtain ⟨A2,hA2⟩:∃ A2,occs 16 (preN 0 [] false (.mk k s l))=A2:=⟨_,rfl⟩
 rw [hA1] at CN m1
 rw [hA2] at CV m2
 have KID:Hid (∀ i,(hi:i < l.length)→k≠7→¬ (bindK k=true∧i+1=l.length)→chkN l[i]=0∧(∀ s∈occs 15 (preN 0 [] false l[i]),s∈A1)∧(∀ s∈occs 16 (preN 0 [] false l[i]),s∈A2)):=qh (fun i hi h7 hb=>by
  refine ⟨kid_valid hc i hi h7 hb,fun s' hs=>?_,fun s' hs=>?_⟩
  ·rw [←hA1];exact kid_names i hi h7 hb s' hs
  ·rw [←hA2];exact kid_names i hi h7 hb s' hs)
 have HC:=qh hc
 have CR:=qh (fun W v0 v1 v2 ht=>rename_any (.mk k s l) fr tn W v0 v1 v2 ht hfs hts)
 have RS:=qh (renE_short fr tn hc)
 have RF:Hid (renE fr tn (.mk k s l)=0→hasN tn (.mk k s l)=false→_):=qh (fun he hn=>ren_facts hc he hn)
 have CH:=qh (fun W v0 v1 v2 ht=>rHas _ (.mk k s l) tn W v0 v1 v2 (Nat.le_refl _) ht)
 clear ht gl hc b0 r0 hA1 hA2
 rw [hh]
 go_enter Tryz.func7,Tryz.ntmps7
 go_upto_region 1 with fail
 (try rw [hW0])
 (try rw [hh])
 clear hW0
 go_wp2_with fail
 refine CS.out.mono ?_
 rintro e w1 ⟨rfl,hb1⟩
 have j1:=qh (j0.out.below hb1)
 clear hb1 CS j0
 obtain ⟨⟨p0,p1,p2⟩,_⟩:=j1.out.n.cells
 go_wp2_with fail
 refine (CN.out _ _ _ _ j1.out.t).mono ?_
 rintro e w2 ⟨na,nn,nc,rfl,sl2,hb2⟩
 have j2:=qh (j1.out.below hb2)
 have L2:=qh sl2
 clear hb2 CN p0 p1 p2 j1 sl2
 obtain ⟨⟨p0,p1,p2⟩,_⟩:=j2.out.n.cells
 go_wp2_with fail
 refine (CV.out _ _ _ _ j2.out.t).mono ?_
 rintro e w3 ⟨ma,mn,mc,rfl,sl3,hb3⟩
 have j3:=qh (j2.out.below hb3)
 have L3:=qh (L2.out.below hb3)
 have M3:=qh sl3
 clear hb3 CV p0 p1 p2 j2 L2 sl3
 go_wp2_with fail
 go_loopw [12] (fun v wr=>∃ i:Nat,i≤l.length∧v = .int .i64 i∧Hid (Below w3.heap.size w3 wr)) (fun v _=>l.length - (intOf v).toNat)
 case atStart=>exact ⟨0,Nat.zero_le _,rfl,Below.refl _ _⟩
 case round =>
  obtain ⟨i,hi,rfl,hbl⟩:=hrel
  have jr:=qh (j3.out.below hbl.out)
  obtain ⟨⟨g0,g1,g2⟩,_⟩:=jr.out.n.cells
  by_cases hlt:i < l.length
  ·have hlt':(i:Int) < (l.length:Int):=by omega
   by_cases h7:k=7
   ·have e7:(k != 7)=false:=by rw [h7];rfl
    clear h7
    clear KID m1 m2 L3 M3
    go_wp2_with fail
    refine (CR.out _ _ _ _ jr.out.t).mono ?_
    rintro e w4 ⟨u0,u1,u2,rfl,tm,hb4⟩
    obtain ⟨k2,s2,l2,a2,c2,eM,rfl,rfl,rfl,_,_⟩:=tm.form
    have hb4':=hb4.alloc hb4.size (.cells #[.int .i64 k2,.string s2,.slice a2 l2.length c2] 24)
    have tm':=tm.later ((Below.refl _ w4).alloc (Nat.le_refl _) (.cells #[.int .i64 k2,.string s2,.slice a2 l2.length c2] 24))
    have Q4':=Row3.new w4 (.int .i64 k2) (.string s2) (.slice a2 l2.length c2)
    obtain ⟨V4,hV4⟩:∃ V4,w4.alloc (.cells #[.int .i64 k2,.string s2,.slice a2 l2.length c2] 24)=V4:=⟨_,rfl⟩
    obtain ⟨h2,hh2⟩:∃ h2,w4.heap.size=h2:=⟨_,rfl⟩
    rw [hV4] at hb4' tm' Q4'
    rw [hh2] at Q4'
    have j4:=qh (jr.out.below hb4')
    have TM:=qh tm'
    have Q4:=qh Q4'
    obtain ⟨E,hE⟩:∃ E,renE fr tn (.mk k s l)=E:=⟨_,rfl⟩
    have HE:=qh hE
    rw [hE] at RS
    have HV4:=qh hV4
    have HH2:=qh hh2
    clear g0 g1 g2 hb4 hb4' tm tm' Q4' hE hV4 hh2 jr CR
    rw [HE.out]
    by_cases h0:E=0
    ·subst h0
     go_upto_region 15 with fail
     rw [HV4.out,HH2.out]
     clear HV4 HH2
     obtain ⟨⟨g0,g1,g2⟩,_⟩:=j4.out.n.cells
     obtain ⟨HB,hHB⟩:∃ HB,hasN tn (.mk k s l)=HB:=⟨_,rfl⟩
     rw [hHB] at CH
     go_wp2_with fail
     refine (CH.out _ _ _ _ j4.out.t).mono ?_
     rintro e w5 ⟨rfl,hb5⟩
     have j5:=qh (j4.out.below hb5)
     have TM5:=qh (TM.out.later hb5)
     have Q5:=qh (Q4.out.below hb5 Q4.out.lt)
     clear g0 g1 g2 hb5 CH j4 TM Q4
     cases HB with
     | true =>
      go_wp2
      go_ret
      exact ⟨rfl,j5.out.b⟩
     | false =>
      obtain ⟨f1,f2,f3,f4⟩:=RF.out HE.out hHB
      have F15:=f2 15 (.inl rfl)
      have F16:=f2 16 (.inr rfl)
      have CN2:=qh (fun W v0 v1 v2 ht=>names_says 21 15 (.inl ⟨rfl,rfl⟩) (renT fr tn (.mk k s l)) f1 W v0 v1 v2 ht)
      have CV2:=qh (fun W v0 v1 v2 ht=>names_says 23 16 (.inr ⟨rfl,rfl⟩) (renT fr tn (.mk k s l)) f1 W v0 v1 v2 ht)
      have CR2:=qh (fun W v0 v1 v2 ht=>rename_any (renT fr tn (.mk k s l)) tn fr W v0 v1 v2 ht hts hfs)
      rw [f3,f4] at CR2
      have o1:=occs_small f1 15
      have o2:=occs_small f1 16
      obtain ⟨Y1,hY1⟩:∃ Y1,occs 15 (preN 0 [] false (renT fr tn (.mk k s l)))=Y1:=⟨_,rfl⟩
      obtain ⟨Y2,hY2⟩:∃ Y2,occs 16 (preN 0 [] false (renT fr tn (.mk k s l)))=Y2:=⟨_,rfl⟩
      rw [hY1] at CN2 F15 o1
      rw [hY2] at CV2 F16 o2
      have N1:=anyEq_not F15
      have N2:=anyEq_not F16
      have IX1:=qh (fun v W hv=>rIndex v Y1 fr W hv o1)
      have IX2:=qh (fun v W hv=>rIndex v Y2 fr W hv o2)
      rw [N1] at IX1
      rw [N2] at IX2
      have CM:=qh (fun W v0 v1 v2 u0 u1 u2 h1 h2=>rSameN _ (.mk k s l) (.mk k s l) W v0 v1 v2 u0 u1 u2 (Nat.le_refl _) h1 h2)
      rw [sameN_self] at CM
      clear f1 f2 f3 f4 F15 F16 hY1 hY2 N1 N2 o1 o2 hHB RF HE RS HC eM
      obtain ⟨⟨q0,q1,q2⟩,_⟩:=Q5.out.cells
      go_wp2_with fail
      refine (CN2.out _ _ _ _ TM5.out).mono ?_
      rintro e w6 ⟨ya,yn,yc,rfl,sl6,hb6⟩
      have j6:=qh (j5.out.below hb6)
      have TM6:=qh (TM5.out.later hb6)
      have Q6:=qh (Q5.out.below hb6 Q5.out.lt)
      have Y6:=qh sl6
      clear q0 q1 q2 sl6 hb6 CN2 j5 TM5 Q5
      obtain ⟨⟨q0,q1,q2⟩,_⟩:=Q6.out.cells
      go_wp2_with fail
      refine (CV2.out _ _ _ _ TM6.out).mono ?_
      rintro e w7 ⟨za,zn,zc,rfl,sl7,hb7⟩
      have j7:=qh (j6.out.below hb7)
      have TM7:=qh (TM6.out.later hb7)
      have Q7:=qh (Q6.out.below hb7 Q6.out.lt)
      have Y7:=qh (Y6.out.below hb7)
      have Z7:=qh sl7
      clear q0 q1 q2 sl7 hb7 CV2 j6 TM6 Q6 Y6
      obtain ⟨⟨q0,q1,q2⟩,_⟩:=Q7.out.cells
      go_wp2_with fail
      refine (CR2.out _ _ _ _ TM7.out).mono ?_
      rintro e w8 ⟨u0,u1,u2,rfl,tb,hb8⟩
      obtain ⟨k3,s3,l3,a3,c3,eB,rfl,rfl,rfl,_,_⟩:=tb.form
      have hb8':=hb8.alloc hb8.size (.cells #[.int .i64 k3,.string s3,.slice a3 l3.length c3] 24)
      have tb':=tb.later ((Below.refl _ w8).alloc (Nat.le_refl _) (.cells #[.int .i64 k3,.string s3,.slice a3 l3.length c3] 24))
      have P8':=Row3.new w8 (.int .i64 k3) (.string s3) (.slice a3 l3.length c3)
      obtain ⟨V8,hV8⟩:∃ V8,w8.alloc (.cells #[.int .i64 k3,.string s3,.slice a3 l3.length c3] 24)=V8:=⟨_,rfl⟩
      obtain ⟨h3,hh3⟩:∃ h3,w8.heap.size=h3:=⟨_,rfl⟩
      rw [hV8] at hb8' tb' P8'
      rw [hh3] at P8'
      have j8:=qh (j7.out.below hb8')
      have TB:=qh tb'
      have P8:=qh P8'
      have Y8:=qh (Y7.out.below hb8')
      have Z8:=qh (Z7.out.below hb8')
      have HV8:=qh hV8
      have HH3:=qh hh3
      clear q0 q1 q2 tb tb' P8' hb8 hb8' hV8 hh3 CR2 j7 TM7 Q7 Y7 Z7 eB
      go_upto_region 20 with fail
      rw [HV8.out,HH3.out]
      clear HV8 HH3
      go_wp2_with fail
      refine (IX1.out _ _ Y8.out).mono ?_
      rintro e w9 ⟨⟨x,rfl,hx⟩,hw9⟩
      subst hw9
      have hx':x < 0:=by
       rw [decide_eq_false_iff_not] at hx
       omega
      clear IX1 hx
      go_wp2_with fail
      refine (IX2.out _ _ Z8.out).mono ?_
      rintro e w9 ⟨⟨y,rfl,hy⟩,hw9⟩
      subst hw9
      have hy':y < 0:=by
       rw [decide_eq_false_iff_not] at hy
       omega
      clear IX2 hy
      obtain ⟨⟨g0,g1,g2⟩,_⟩:=j8.out.n.cells
      obtain ⟨⟨q0,q1,q2⟩,_⟩:=P8.out.cells
      go_wp2_with fail
      refine (CM.out _ _ _ _ _ _ _ TB.out j8.out.t).mono ?_
      rintro e w9 ⟨rfl,hb9⟩
      have j9:=qh (j8.out.below hb9)
      clear hb9 CM g0 g1 g2 q0 q1 q2 j8
      go_wp2
      go_ret
      exact ⟨rfl,j9.out.b⟩
    ·have e0:((E:Int) != 0)=true:=by rw [bne_iff_ne];exact h0
     have e2:((E:Int) != 2)=true:=by rw [bne_iff_ne];exact RS.out.1
     have e5:((E:Int) != 5)=true:=by rw [bne_iff_ne];exact RS.out.2
     go_upto_region 15 with fail
     rw [HV4.out,HH2.out]
     clear HV4 HH2
     go_wp2
     all_goals (try go_ret)
     all_goals first
      | exact ⟨rfl,j4.out.b⟩
      | (exfalso;omega)
   ·have e7:(k != 7)=true:=by rw [bne_iff_ne];exact h7
    have CB:=qh (rBinder_any k s a l.length c wr)
    have CNI:=qh (fun (hb:¬ (bindK k=true∧i+1=l.length)) W v0 v1 v2 (ht:NdR W (l[i]'hlt) v0 v1 v2)=>names_says 21 15 (.inl ⟨rfl,rfl⟩) (l[i]'hlt) (KID.out i hlt h7 hb).1 W v0 v1 v2 ht)
    have CVI:=qh (fun (hb:¬ (bindK k=true∧i+1=l.length)) W v0 v1 v2 (ht:NdR W (l[i]'hlt) v0 v1 v2)=>names_says 23 16 (.inr ⟨rfl,rfl⟩) (l[i]'hlt) (KID.out i hlt h7 hb).1 W v0 v1 v2 ht)
    have S1:=qh (fun (hb:¬ (bindK k=true∧i+1=l.length)) W va vb h1 h2=>rWithin va vb (occs 15 (preN 0 [] false (l[i]'hlt))) A1 W h1 h2 (occs_small (KID.out i hlt h7 hb).1 15) m1 (KID.out i hlt h7 hb).2.1)
    have S2:=qh (fun (hb:¬ (bindK k=true∧i+1=l.length)) W va vb h1 h2=>rWithin va vb (occs 16 (preN 0 [] false (l[i]'hlt))) A2 W h1 h2 (occs_small (KID.out i hlt h7 hb).1 16) m2 (KID.out i hlt h7 hb).2.2)
    obtain ⟨Y1,hY1⟩:∃ Y1,occs 15 (preN 0 [] false l[i])=Y1:=⟨_,rfl⟩
    obtain ⟨Y2,hY2⟩:∃ Y2,occs 16 (preN 0 [] false l[i])=Y2:=⟨_,rfl⟩
    rw [hY1] at CNI S1
    rw [hY2] at CVI S2
    obtain ⟨BK,hBK⟩:∃ BK,bindK k=BK:=⟨_,rfl⟩
    rw [hBK] at CB CNI CVI S1 S2
    clear hY1 hY2 hBK
    go_wp2_with fail
    refine CB.out.mono ?_
    rintro e w4 ⟨rfl,hb4⟩
    have j4:=qh (jr.out.below hb4)
    have B4:=qh (hbl.out.trans (hb4.mono hbl.out.size))
    clear hb4 CB g0 g1 g2 jr
    obtain ⟨⟨g0,g1,g2⟩,_⟩:=j4.out.n.cells
    by_cases hbo:BK=true∧i+1=l.length
    ·obtain ⟨rfl,hil⟩:=hbo
     have e1:((i:Int)==(l.length:Int) - 1)=true:=by rw [beq_iff_eq];omega
     clear CNI CVI S1 S2
     go_wp2
     go_roundw
     case rel=>exact ⟨i+1,hlt,by push_cast;rfl,B4⟩
     case measure=>simp [intOf];omega
    ·have e1:BK=true→((i:Int)==(l.length:Int) - 1)=false:=fun e=>by
      rw [beq_eq_false_iff_ne]
      intro h
      exact hbo ⟨e,by omega⟩
     have CNI2:=qh (CNI.out hbo)
     have CVI2:=qh (CVI.out hbo)
     have S12:=qh (S1.out hbo)
     have S22:=qh (S2.out hbo)
     clear CNI CVI S1 S2 hbo
     have hi0:(0:Int)≤(i:Int):=by omega
     obtain ⟨b,o,k1,s1,l1,a1,c1,rfl,e3,x0,x1,x2,r1⟩:=j4.out.t.kid i hlt
     have X4:=qh (show NdR w4 l[i] (.int .i64 k1) (.string s1) (.slice a1 l1.length c1) by rw [e3];exact r1)
     clear e3 r1
     cases BK with
     | true =>
      have e2:=e1 rfl
      clear e1
      go_wp2_with fail
      refine (CNI2.out _ _ _ _ X4.out).mono ?_
      rintro e w5 ⟨ya,yn,yc,rfl,sl5,hb5⟩
      have X5:=qh (X4.out.later hb5)
      have j5:=qh (j4.out.below hb5)
      have B5:=qh (B4.out.trans (hb5.mono B4.out.size))
      have Y5:=qh sl5
      have x0':=(hb5.cell (p:=⟨b,o+i*3,none⟩) (lt_of_cell x0)).trans x0
      have x1':=(hb5.cell (p:=⟨b,o+i*3+1,none⟩) (lt_of_cell x0)).trans x1
      have x2':=(hb5.cell (p:=⟨b,o+i*3+2,none⟩) (lt_of_cell x0)).trans x2
      clear g0 g1 g2 x0 x1 x2 sl5 hb5 CNI2 j4 B4 X4
      obtain ⟨⟨g0,g1,g2⟩,_⟩:=j5.out.n.cells
      go_wp2_with fail
      refine (CVI2.out _ _ _ _ X5.out).mono ?_
      rintro e w6 ⟨za,zn,zc,rfl,sl6,hb6⟩
      have B6:=qh (B5.out.trans (hb6.mono B5.out.size))
      have Y6:=qh (Y5.out.below hb6)
      have Z6:=qh sl6
      have L6:=qh (L3.out.below B6.out)
      have M6:=qh (M3.out.below B6.out)
      clear g0 g1 g2 x0' x1' x2' sl6 hb6 CVI2 j5 B5 X5 Y5
      go_wp2_with fail
      refine (S12.out _ _ _ Y6.out L6.out).mono ?_
      rintro e w7 ⟨rfl,hw7⟩
      subst hw7
      go_wp2_with fail
      refine (S22.out _ _ _ Z6.out M6.out).mono ?_
      rintro e w8 ⟨rfl,hw8⟩
      subst hw8
      clear S12 S22 Y6 Z6 L6 M6
      go_wp2
      go_roundw
      case rel=>exact ⟨i+1,hlt,by push_cast;rfl,B6⟩
      case measure=>simp [intOf];omega
     | false =>
      clear e1
      go_wp2_with fail
      refine (CNI2.out _ _ _ _ X4.out).mono ?_
      rintro e w5 ⟨ya,yn,yc,rfl,sl5,hb5⟩
      have X5:=qh (X4.out.later hb5)
      have j5:=qh (j4.out.below hb5)
      have B5:=qh (B4.out.trans (hb5.mono B4.out.size))
      have Y5:=qh sl5
      have x0':=(hb5.cell (p:=⟨b,o+i*3,none⟩) (lt_of_cell x0)).trans x0
      have x1':=(hb5.cell (p:=⟨b,o+i*3+1,none⟩) (lt_of_cell x0)).trans x1
      have x2':=(hb5.cell (p:=⟨b,o+i*3+2,none⟩) (lt_of_cell x0)).trans x2
      clear g0 g1 g2 x0 x1 x2 sl5 hb5 CNI2 j4 B4 X4
      obtain ⟨⟨g0,g1,g2⟩,_⟩:=j5.out.n.cells
      go_wp2_with fail
      refine (CVI2.out _ _ _ _ X5.out).mono ?_
      rintro e w6 ⟨za,zn,zc,rfl,sl6,hb6⟩
      have B6:=qh (B5.out.trans (hb6.mono B5.out.size))
      have Y6:=qh (Y5.out.below hb6)
      have Z6:=qh sl6
      have L6:=qh (L3.out.below B6.out)
      have M6:=qh (M3.out.below B6.out)
      clear g0 g1 g2 x0' x1' x2' sl6 hb6 CVI2 j5 B5 X5 Y5
      go_wp2_with fail
      refine (S12.out _ _ _ Y6.out L6.out).mono ?_
      rintro e w7 ⟨rfl,hw7⟩
      subst hw7
      go_wp2_with fail
      refine (S22.out _ _ _ Z6.out M6.out).mono ?_
      rintro e w8 ⟨rfl,hw8⟩
      subst hw8
      clear S12 S22 Y6 Z6 L6 M6
      go_wp2
      go_roundw
      case rel=>exact ⟨i+1,hlt,by push_cast;rfl,B6⟩
      case measure=>simp [intOf];omega
  ·have hlt':¬ ((i:Int) < (l.length:Int)):=by omega
   clear KID m1 m2 L3 M3
   go_wp2_with fail
   refine (CR.out _ _ _ _ jr.out.t).mono ?_
   rintro e w4 ⟨u0,u1,u2,rfl,tm,hb4⟩
   obtain ⟨k2,s2,l2,a2,c2,eM,rfl,rfl,rfl,_,_⟩:=tm.form
   have hb4':=hb4.alloc hb4.size (.cells #[.int .i64 k2,.string s2,.slice a2 l2.length c2] 24)
   have tm':=tm.later ((Below.refl _ w4).alloc (Nat.le_refl _) (.cells #[.int .i64 k2,.string s2,.slice a2 l2.length c2] 24))
   have Q4':=Row3.new w4 (.int .i64 k2) (.string s2) (.slice a2 l2.length c2)
   obtain ⟨V4,hV4⟩:∃ V4,w4.alloc (.cells #[.int .i64 k2,.string s2,.slice a2 l2.length c2] 24)=V4:=⟨_,rfl⟩
   obtain ⟨h2,hh2⟩:∃ h2,w4.heap.size=h2:=⟨_,rfl⟩
   rw [hV4] at hb4' tm' Q4'
   rw [hh2] at Q4'
   have j4:=qh (jr.out.below hb4')
   have TM:=qh tm'
   have Q4:=qh Q4'
   obtain ⟨E,hE⟩:∃ E,renE fr tn (.mk k s l)=E:=⟨_,rfl⟩
   have HE:=qh hE
   rw [hE] at RS
   have HV4:=qh hV4
   have HH2:=qh hh2
   clear g0 g1 g2 hb4 hb4' tm tm' Q4' hE hV4 hh2 jr CR
   rw [HE.out]
   by_cases h0:E=0
   ·subst h0
    go_upto_region 15 with fail
    rw [HV4.out,HH2.out]
    clear HV4 HH2
    obtain ⟨⟨g0,g1,g2⟩,_⟩:=j4.out.n.cells
    obtain ⟨HB,hHB⟩:∃ HB,hasN tn (.mk k s l)=HB:=⟨_,rfl⟩
    rw [hHB] at CH
    go_wp2_with fail
    refine (CH.out _ _ _ _ j4.out.t).mono ?_
    rintro e w5 ⟨rfl,hb5⟩
    have j5:=qh (j4.out.below hb5)
    have TM5:=qh (TM.out.later hb5)
    have Q5:=qh (Q4.out.below hb5 Q4.out.lt)
    clear g0 g1 g2 hb5 CH j4 TM Q4
    cases HB with
    | true =>
     go_wp2
     go_ret
     exact ⟨rfl,j5.out.b⟩
    | false =>
     obtain ⟨f1,f2,f3,f4⟩:=RF.out HE.out hHB
     have F15:=f2 15 (.inl rfl)
     have F16:=f2 16 (.inr rfl)
     have CN2:=qh (fun W v0 v1 v2 ht=>names_says 21 15 (.inl ⟨rfl,rfl⟩) (renT fr tn (.mk k s l)) f1 W v0 v1 v2 ht)
     have CV2:=qh (fun W v0 v1 v2 ht=>names_says 23 16 (.inr ⟨rfl,rfl⟩) (renT fr tn (.mk k s l)) f1 W v0 v1 v2 ht)
     have CR2:=qh (fun W v0 v1 v2 ht=>rename_any (renT fr tn (.mk k s l)) tn fr W v0 v1 v2 ht hts hfs)
     rw [f3,f4] at CR2
     have o1:=occs_small f1 15
     have o2:=occs_small f1 16
     obtain ⟨Y1,hY1⟩:∃ Y1,occs 15 (preN 0 [] false (renT fr tn (.mk k s l)))=Y1:=⟨_,rfl⟩
     obtain ⟨Y2,hY2⟩:∃ Y2,occs 16 (preN 0 [] false (renT fr tn (.mk k s l)))=Y2:=⟨_,rfl⟩
     rw [hY1] at CN2 F15 o1
     rw [hY2] at CV2 F16 o2
     have N1:=anyEq_not F15
     have N2:=anyEq_not F16
     have IX1:=qh (fun v W hv=>rIndex v Y1 fr W hv o1)
     have IX2:=qh (fun v W hv=>rIndex v Y2 fr W hv o2)
     rw [N1] at IX1
     rw [N2] at IX2
     have CM:=qh (fun W v0 v1 v2 u0 u1 u2 h1 h2=>rSameN _ (.mk k s l) (.mk k s l) W v0 v1 v2 u0 u1 u2 (Nat.le_refl _) h1 h2)
     rw [sameN_self] at CM
     clear f1 f2 f3 f4 F15 F16 hY1 hY2 N1 N2 o1 o2 hHB RF HE RS HC eM
     obtain ⟨⟨q0,q1,q2⟩,_⟩:=Q5.out.cells
     go_wp2_with fail
     refine (CN2.out _ _ _ _ TM5.out).mono ?_
     rintro e w6 ⟨ya,yn,yc,rfl,sl6,hb6⟩
     have j6:=qh (j5.out.below hb6)
     have TM6:=qh (TM5.out.later hb6)
     have Q6:=qh (Q5.out.below hb6 Q5.out.lt)
     have Y6:=qh sl6
     clear q0 q1 q2 sl6 hb6 CN2 j5 TM5 Q5
     obtain ⟨⟨q0,q1,q2⟩,_⟩:=Q6.out.cells
     go_wp2_with fail
     refine (CV2.out _ _ _ _ TM6.out).mono ?_
     rintro e w7 ⟨za,zn,zc,rfl,sl7,hb7⟩
     have j7:=qh (j6.out.below hb7)
     have TM7:=qh (TM6.out.later hb7)
     have Q7:=qh (Q6.out.below hb7 Q6.out.lt)
     have Y7:=qh (Y6.out.below hb7)
     have Z7:=qh sl7
     clear q0 q1 q2 sl7 hb7 CV2 j6 TM6 Q6 Y6
     obtain ⟨⟨q0,q1,q2⟩,_⟩:=Q7.out.cells
     go_wp2_with fail
     refine (CR2.out _ _ _ _ TM7.out).mono ?_
     rintro e w8 ⟨u0,u1,u2,rfl,tb,hb8⟩
     obtain ⟨k3,s3,l3,a3,c3,eB,rfl,rfl,rfl,_,_⟩:=tb.form
     have hb8':=hb8.alloc hb8.size (.cells #[.int .i64 k3,.string s3,.slice a3 l3.length c3] 24)
     have tb':=tb.later ((Below.refl _ w8).alloc (Nat.le_refl _) (.cells #[.int .i64 k3,.string s3,.slice a3 l3.length c3] 24))
     have P8':=Row3.new w8 (.int .i64 k3) (.string s3) (.slice a3 l3.length c3)
     obtain ⟨V8,hV8⟩:∃ V8,w8.alloc (.cells #[.int .i64 k3,.string s3,.slice a3 l3.length c3] 24)=V8:=⟨_,rfl⟩
     obtain ⟨h3,hh3⟩:∃ h3,w8.heap.size=h3:=⟨_,rfl⟩
     rw [hV8] at hb8' tb' P8'
     rw [hh3] at P8'
     have j8:=qh (j7.out.below hb8')
     have TB:=qh tb'
     have P8:=qh P8'
     have Y8:=qh (Y7.out.below hb8')
     have Z8:=qh (Z7.out.below hb8')
     have HV8:=qh hV8
     have HH3:=qh hh3
     clear q0 q1 q2 tb tb' P8' hb8 hb8' hV8 hh3 CR2 j7 TM7 Q7 Y7 Z7 eB
     go_upto_region 20 with fail
     rw [HV8.out,HH3.out]
     clear HV8 HH3
     go_wp2_with fail
     refine (IX1.out _ _ Y8.out).mono ?_
     rintro e w9 ⟨⟨x,rfl,hx⟩,hw9⟩
     subst hw9
     have hx':x < 0:=by
      rw [decide_eq_false_iff_not] at hx
      omega
     clear IX1 hx
     go_wp2_with fail
     refine (IX2.out _ _ Z8.out).mono ?_
     rintro e w9 ⟨⟨y,rfl,hy⟩,hw9⟩
     subst hw9
     have hy':y < 0:=by
      rw [decide_eq_false_iff_not] at hy
      omega
     clear IX2 hy
     obtain ⟨⟨g0,g1,g2⟩,_⟩:=j8.out.n.cells
     obtain ⟨⟨q0,q1,q2⟩,_⟩:=P8.out.cells
     go_wp2_with fail
     refine (CM.out _ _ _ _ _ _ _ TB.out j8.out.t).mono ?_
     rintro e w9 ⟨rfl,hb9⟩
     have j9:=qh (j8.out.below hb9)
     clear hb9 CM g0 g1 g2 q0 q1 q2 j8
     go_wp2
     go_ret
     exact ⟨rfl,j9.out.b⟩
   ·have e0:((E:Int) != 0)=true:=by rw [bne_iff_ne];exact h0
    have e2:((E:Int) != 2)=true:=by rw [bne_iff_ne];exact RS.out.1
    have e5:((E:Int) != 5)=true:=by rw [bne_iff_ne];exact RS.out.2
    go_upto_region 15 with fail
    rw [HV4.out,HH2.out]
    clear HV4 HH2
    go_wp2
    all_goals (try go_ret)
    all_goals first
     | exact ⟨rfl,j4.out.b⟩
     | (exfalso;omega)
theorem renames_any (t:Nd) (fr tn:ByteArray) (w:World) (v0 v1 v2:Value) (ht:NdR w t v0 v1 v2) (hw:2≤w.heap.size) (gl:GLw w) (hfs:fr.size≤maxLen) (hts:tn.size≤maxLen) :
  Calls Tryz.prog 7 #[.agg #[v0,v1,v2],.string fr,.string tn] w fun e w'=>e = .returned (.bool true)∧Below w.heap.size w w':=by
 by_cases h:chkN t=0
 ·exact renames_good t fr tn w v0 v1 v2 ht hw gl h hfs hts
 ·exact renames_bad t fr tn w v0 v1 v2 ht hw gl _ rfl h
end Go.Proofs.YtcimcjmdkjajfaaGreatDoor
namespace Go.Proofs.YtcimcjmdkjajfaaGreatDoor
open Go.ChangeShapes Go.WideShapes Go.ChangeAt Go.RowKit Go.ChangeMaps
abbrev nodeR:Value:=.agg #[.int .i64 0,.string ⟨#[]⟩,.slice none 0 0]
set_option maxHeartbeats 800000 in
set_option maxRecDepth 100000 in
theorem syntaxRenames_lifted (os:Os) (started:os.Started) (H:Type) (enc:TypeId×Value→H) :
  ReturnsInHanded {} Tryz.checked os 7 .any (fun w args=>(Rows.syntaxRenamesSpec.pre enc Tryz.prog Tryz.f7 [] false w args∧laidMetH Tryz.prog laidL w)∧sizedMet enc Tryz.prog Tryz.f7 (OpenSpec.ofChange Rows.syntaxRenamesSpec) false w args)
   (Rows.syntaxRenamesSpec.post enc Tryz.prog Tryz.f7 false true false false):=by
 refine returnsInHanded_of_change_and (C:=Tryz.checked) (X:=fun w _=>laidMetH Tryz.prog laidL w) (fun _ _ _ hh h=>h.of_heap hh) ownAll started (by kernel_rfl) Tryz.func7
  (ChangeSpec.witness_shaped (enc:=enc) (C:=Tryz.checked) (os:=os) (X:=fun w _=>laidMetH Tryz.prog laidL w) false (World.doorLaid Tryz.prog 400 os) #[nodeR,.string ⟨#[]⟩,.string ⟨#[]⟩] 8 rfl (World.shaped_of_RefB (by kernel_rfl) (by kernel_rfl)) (by kernel_rfl) (by kernel_rfl) (by kernel_rfl) (door_met os _)) ?_
 intro W base args ds gs before hval0 hW _ _ hL _
 have hval:∀ (j:Nat) t v,Tryz.f7.params[j]?=some t→args[j]?=some v→Value.okWide Tryz.prog W .any base t v:=hval0
 have hW':=hW
 have hlt0:=hW.lt
 obtain ⟨p,q,hA0,hV,rfl,_,_⟩:=hW
 have hA:DataW.TrodAll enc Tryz.prog W 0 (fun _=>true) true Tryz.f7.params.toList args.toList ds p:=hA0
 rw [Tryz.params7] at hA hval
 have hA2:=hA
 have hlt:∀ r∈p,r.block < W.heap.size:=fun r hr=>hlt0 r (List.mem_append_left _ hr)
 clear hlt0
 obtain ⟨v0,v1,v2,d0,d1,d2,p0,p1,p2,rfl,rfl,rfl,h0,h1,h2⟩:=trodAll_three hA
 obtain ⟨rfl,rfl⟩:=trodVars_none hV
 obtain ⟨t,t0,t1,t2,rfl,ht⟩:=open_tree (hval 0 24 v0 rfl rfl) h0
 obtain ⟨fr,rfl,rfl,rfl,ws1⟩:=open_string Tryz.underlying9 (hval 1 9 v1 rfl rfl) h1
 obtain ⟨tn,rfl,rfl,rfl,ws2⟩:=open_string Tryz.underlying9 (hval 2 9 v2 rfl rfl) h2
 obtain ⟨gl,hz⟩:=of_laid hL
 clear hA0 hval0
 simp only [List.append_nil] at hW'
 refine (renames_any t fr tn W _ _ _ ht hz gl ws1 ws2).mono fun e W' ⟨he,hnx⟩=>?_
 subst he
 exact ⟨_,rfl,_,_,_,[],_,[],hW',trodAll_mk1 (shut_bool Tryz.underlying4 true),args_stay laidAll mapsAll fullAll (by kernel_rfl) hA2 hlt hnx (fun r hr=>by simpa using hlt r hr),rfl,hnx.frame _,fun h=>by cases h⟩
theorem syntaxRenames_holds:Rows.SyntaxRenamesSaid :=
 OpenClaim.holds_of_wide 7 Tryz.f7 rfl rfl rfl rfl rfl rfl rfl ⟨rfl,rfl,rfl,rfl,rfl⟩ rfl rfl rfl rfl rfl (by kernel_rfl) Tryz.func7 (by kernel_rfl)
  (of_decide_eq_true (by kernel_rfl)) (by unfold Func.isWrapper;first | (rw [if_pos (by decide +kernel)];kernel_rfl) | (rw [if_neg (by decide +kernel)];exact ⟨rfl,rfl⟩))
  (fun os started H enc _=>syntaxRenames_lifted os started H enc)
theorem syntaxRenames_card:Rows.SyntaxRenamesCardSaid :=
 Claim7.holds_tied_plain_at .later [] [.data,.data] true _ true
  syntaxRenames_holds (fun _ h=>by cases h) (by kernel_rfl) (fun _ h=>by cases h) syntaxRenames_row_tie rfl ⟨rfl,rfl⟩ (by kernel_rfl) rfl
  (fun f fn hf hfn=>by
   obtain rfl : f = 7 := Option.some.inj ((show Tryz.prog.funcNamed "peculium/peculiumlaw02.SyntaxRenames" = some 7 by kernel_rfl).symm.trans hf) |>.symm
   obtain rfl:fn=Tryz.f7:=(Option.some.inj (Tryz.func7.symm.trans hfn)).symm
   exact ⟨by kernel_rfl,fun j t ht=>by
    rw [Tryz.params7] at ht
    have hm:t∈[24,9,9]:=by simpa using Array.mem_of_getElem? ht
    have hall:([24,9,9].all fun u=>!Tryz.prog.wantsStandIn u)=true:=by kernel_rfl
    exact (show Tryz.prog.wantsStandIn t=false by simpa using List.all_eq_true.1 hall t hm)⟩)
  (by kernel_rfl)
end Go.Proofs.YtcimcjmdkjajfaaGreatDoor
