/- A part of the proof, packed: see the last text of this claim. -/
import Derived.Test.YtcimcjmdkjajfaaGreatDoorPkPa
import Derived.Test.YtcimcjmdkjajfaaGreatDoorPkPb
import Derived.Test.YtcimcjmdkjajfaaGreatDoorPkPc
import Derived.Test.YtcimcjmdkjajfaaGreatDoorPkPd
import Derived.Test.YtcimcjmdkjajfaaGreatDoorPkPe
import Derived.BigQuiet
import Derived.StillTailTactics
import Derived.Deep.RegionHeld3
import Derived.OwnWalkIn
import Derived.Stop.RegionWithIn
import Derived.BigGuardIn
import Derived.Shelf.Abstract
import Derived.Test.YtcimcjmdkjajfaaGreatDoorRows
import Derived.Test.YtcimcjmdkjajfaaGreatDoorChecked
import Derived.ProofKit
import Derived.SizedLaws
import Derived.ReadAgain
import Derived.Below
import Derived.Deep.Slices
import Derived.Deep.Fields
import Derived.ChangeSame
namespace Go.Proofs.YtcimcjmdkjajfaaGreatDoor
open Go.RowKit
theorem name_small {k p:Int} {s:ByteArray} (h:checkB ⟨k,s,p⟩=true):s.size≤64:=by
 unfold checkB scansB at h
 cases hs:Lx.scan (bs s) with
 | bad i e=>rw [hs] at h;cases h
 | toks ts =>
  rw [hs] at h
  simp only at h
  have hb:=scan_bounds hs
  match ts,h,hb with
  | [],h,_=>simp [sameB] at h
  | [t],h,hb =>
   simp only [List.map_cons,List.map_nil,sameB,ofTok] at h
   have h1:=(hb t (by simp)).1
   simp only [Bool.and_eq_true,beq_iff_eq] at h
   have h2:t.text.length=s.size:=by
    have:=h.1.2
    first | (rw [←this];simp [ByteArray.size]) | (have h3:=toList_injP this;rw [←h3];simp [ByteArray.size])
   omega
  | t :: u :: r,h,_=>simp [sameB] at h
theorem nameB_small {s:ByteArray} (h:nameB s=true):s.size≤64:=name_small h
theorem varB_small {s:ByteArray} (h:varB s=true):s.size≤64:=name_small h
theorem noneB_small {s:ByteArray} (h:noneB s=true):s.size≤64:=by
 unfold noneB at h
 rw [ByteArray.toList_eq] at h
 have h2:s.data.toList=[]:=by simpa using h
 have:s.size=0:=by
  show s.data.size=0
  rw [←Array.length_toList,h2]
  rfl
 omega
theorem okL_mem:∀ {l:List Nd},(∀ x∈l,x.okP=true)→Nd.okL l=true
 | [],_=>by simp only [Nd.okL]
 | a :: l,h=>by
  simp only [Nd.okL,Bool.and_eq_true]
  exact ⟨h a (by simp),okL_mem fun x hx=>h x (by simp [hx])⟩
theorem okL_all:∀ {l:List Nd},Nd.okL l=true→∀ x∈l,x.okP=true
 | a :: l,h,x,hx=>by
  simp only [Nd.okL,Bool.and_eq_true] at h
  rcases List.mem_cons.1 hx with rfl | hx
  ·exact h.1
  ·exact okL_all h.2 x hx
theorem szL_mem:∀ {l:List Nd} {x:Nd},x∈l→x.sz≤Nd.szL l
 | a :: l,x,hx=>by
  simp only [Nd.szL]
  rcases List.mem_cons.1 hx with rfl | hx
  ·omega
  ·have:=szL_mem hx;omega
theorem typL_mem:∀ {l:List Nd},typL l=true→∀ x∈l,typB x=true
 | a :: l,h,x,hx=>by
  simp only [typL,Bool.and_eq_true] at h
  rcases List.mem_cons.1 hx with rfl | hx
  ·exact h.1
  ·exact typL_mem h.2 x hx
theorem termL_mem:∀ {l:List Nd},termL l=true→∀ x∈l,termB x=true
 | a :: l,h,x,hx=>by
  simp only [termL,Bool.and_eq_true] at h
  rcases List.mem_cons.1 hx with rfl | hx
  ·exact h.1
  ·exact termL_mem h.2 x hx
theorem formL_mem:∀ {l:List Nd},formL l=true→∀ x∈l,formB x=true
 | a :: l,h,x,hx=>by
  simp only [formL,Bool.and_eq_true] at h
  rcases List.mem_cons.1 hx with rfl | hx
  ·exact h.1
  ·exact formL_mem h.2 x hx
theorem ok_mk {k:Int} {s:ByteArray} {l:List Nd} (h1:shapeB k l.length=true) (h2:s.size≤64) (h3:Nd.okL l=true):(Nd.mk k s l).okP=true:=by
 simp only [Nd.okP,Bool.and_eq_true,decide_eq_true_eq]
 exact ⟨h1,h2,h3⟩
theorem typ_ok:∀ (N:Nat) (t:Nd),t.sz≤N→typB t=true→t.okP=true:=by
 intro N
 induction N with
 | zero=>rintro ⟨k,s,l⟩ h;simp only [Nd.sz] at h;omega
 | succ N ih =>
  rintro ⟨k,s,l⟩ h ht
  simp only [Nd.sz] at h
  simp only [typB] at ht
  split at ht
  ·rename_i hk
   subst hk
   simp only [Bool.and_eq_true,decide_eq_true_eq] at ht
   exact ok_mk (by rw [ht.2.1];decide) (noneB_small ht.1) (okL_mem fun x hx=>ih x (by have:=szL_mem hx;omega) (typL_mem ht.2.2 x hx))
  ·simp only [Bool.and_eq_true,decide_eq_true_eq] at ht
   obtain ⟨rfl,hl,hn⟩:=ht
   have:l=[]:=List.eq_nil_of_length_eq_zero hl
   subst this
   exact ok_mk (by decide) (nameB_small hn) (by simp only [Nd.okL])
theorem bind_small {s:ByteArray} {l:List Nd} (h:bindB s l=true):s.size≤64∧(l.length=1∨l.length=2)∧(l.length=2→headTyp l=true):=by
 simp only [bindB,Bool.and_eq_true,Bool.or_eq_true,decide_eq_true_eq] at h
 refine ⟨h.1.elim nameB_small varB_small,h.2.imp id (·.1),fun e=>?_⟩
 rcases h.2 with h2 | h2
 ·omega
 ·exact h2.2
theorem term_ok:∀ (N:Nat) (t:Nd),t.sz≤N→termB t=true→t.okP=true:=by
 intro N
 induction N with
 | zero=>rintro ⟨k,s,l⟩ h;simp only [Nd.sz] at h;omega
 | succ N ih =>
  rintro ⟨k,s,l⟩ h ht
  simp only [Nd.sz] at h
  simp only [termB] at ht
  split at ht
  ·rename_i hk
   subst hk
   simp only [Bool.and_eq_true,decide_eq_true_eq] at ht
   exact ok_mk rfl (nameB_small ht.1) (okL_mem fun x hx=>ih x (by have:=szL_mem hx;omega) (termL_mem ht.2.1 x hx))
  ·split at ht
   ·rename_i hk
    subst hk
    simp only [Bool.and_eq_true,decide_eq_true_eq] at ht
    exact ok_mk rfl (varB_small ht.1) (okL_mem fun x hx=>ih x (by have:=szL_mem hx;omega) (termL_mem ht.2.1 x hx))
   ·simp only [Bool.and_eq_true,decide_eq_true_eq] at ht
    obtain ⟨rfl,hb,he⟩:=ht
    obtain ⟨h1,h2,h3⟩:=bind_small hb
    refine ok_mk (by rcases h2 with e | e <;> rw [e] <;> decide) h1 ?_
    match l,h2,h3,he,h with
    | [x],_,_,he,h =>
     simp only [termE,List.isEmpty_nil,if_true,Nd.szL] at he h
     exact okL_mem fun y hy=>by rw [List.mem_singleton.1 hy];exact ih x (by omega) he
    | [x,y],_,h3,he,h =>
     have hx:=h3 rfl
     simp only [headTyp] at hx
     simp only [termE,List.isEmpty_cons,List.isEmpty_nil,if_true,Nd.szL] at he h
     refine okL_mem fun z hz=>?_
     rcases List.mem_cons.1 hz with rfl | hz
     ·exact typ_ok _ z (Nat.le_refl _) hx
     ·rw [List.mem_singleton.1 hz];exact ih y (by omega) (by simpa using he)
    | [],h2,_,_,_=>simp at h2
    | _ :: _ :: _ :: _,h2,_,_,_=>simp at h2
theorem form_ok:∀ (N:Nat) (t:Nd),t.sz≤N→formB t=true→t.okP=true:=by
 intro N
 induction N with
 | zero=>rintro ⟨k,s,l⟩ h;simp only [Nd.sz] at h;omega
 | succ N ih =>
  rintro ⟨k,s,l⟩ h ht
  simp only [Nd.sz] at h
  simp only [formB] at ht
  split at ht
  ·exact term_ok _ _ (Nat.le_refl _) ht
  ·split at ht
   ·rename_i _ hk
    simp only [Bool.and_eq_true] at ht
    obtain ⟨hb,he⟩:=ht
    obtain ⟨h1,h2,h3⟩:=bind_small hb
    refine ok_mk (by rcases hk with rfl | rfl <;> rcases h2 with e | e <;> rw [e] <;> decide) h1 ?_
    match l,h2,h3,he,h with
    | [x],_,_,he,h =>
     simp only [formE,List.isEmpty_nil,if_true,Nd.szL] at he h
     exact okL_mem fun y hy=>by rw [List.mem_singleton.1 hy];exact ih x (by omega) he
    | [x,y],_,h3,he,h =>
     have hx:=h3 rfl
     simp only [headTyp] at hx
     simp only [formE,List.isEmpty_cons,List.isEmpty_nil,if_true,Nd.szL] at he h
     refine okL_mem fun z hz=>?_
     rcases List.mem_cons.1 hz with rfl | hz
     ·exact typ_ok _ z (Nat.le_refl _) hx
     ·rw [List.mem_singleton.1 hz];exact ih y (by omega) (by simpa using he)
    | [],h2,_,_,_=>simp at h2
    | _ :: _ :: _ :: _,h2,_,_,_=>simp at h2
   ·split at ht
    ·rename_i _ _ hk
     simp only [Bool.and_eq_true,decide_eq_true_eq] at ht
     have:l=[]:=List.eq_nil_of_length_eq_zero ht.2
     subst this
     exact ok_mk (by rcases hk with rfl | rfl <;> decide) (noneB_small ht.1) (by simp only [Nd.okL])
    ·split at ht
     ·rename_i _ _ _ hk
      simp only [Bool.and_eq_true,decide_eq_true_eq] at ht
      exact ok_mk (by rw [ht.2.1];rcases hk with rfl | rfl <;> decide) (noneB_small ht.1) (okL_mem fun x hx=>ih x (by have:=szL_mem hx;omega) (formL_mem ht.2.2 x hx))
     ·simp only [Bool.and_eq_true,decide_eq_true_eq,isBinary] at ht
      have hk:=ht.1
      exact ok_mk (by rw [ht.2.2.1]; have : k = 22 ∨ k = 23 ∨ k = 24 ∨ k = 25 ∨ k = 26 ∨ k = 27 ∨ k = 28 := by omega
                      rcases this with rfl | rfl | rfl | rfl | rfl | rfl | rfl <;> decide) (noneB_small ht.2.1) (okL_mem fun x hx => ih x (by have := szL_mem hx; omega) (formL_mem ht.2.2.2 x hx))
def Nd.okI:Nd→Prop | .mk k s l=>s.size≤64∧itemOk k l.length∧Nd.okL l=true
theorem lone_ok {t:Nd} (h:loneB t=true):t.okP=true:=by
 obtain ⟨k,s,l⟩:=t
 simp only [loneB,Bool.and_eq_true,decide_eq_true_eq] at h
 obtain ⟨rfl,hl,hn⟩:=h
 have:l=[]:=List.eq_nil_of_length_eq_zero hl
 subst this
 exact ok_mk (by decide) (nameB_small hn) (by simp only [Nd.okL])
theorem mode_ok {t:Nd} (h:modeB t=true):t.okP=true:=by
 obtain ⟨k,s,l⟩:=t
 simp only [modeB,Bool.and_eq_true,Bool.or_eq_true,decide_eq_true_eq] at h
 obtain ⟨rfl,hl,hn⟩:=h
 have:l=[]:=List.eq_nil_of_length_eq_zero hl
 subst this
 exact ok_mk (by decide) (by rcases hn with rfl | rfl | rfl <;> decide) (by simp only [Nd.okL])
theorem okL_idx {l:List Nd} (h:∀ i (hi:i < l.length),(l[i]).okP=true):Nd.okL l=true:=okL_mem fun x hx=>by
 obtain ⟨i,hi,rfl⟩:=List.getElem_of_mem hx
 exact h i hi
theorem item_ok {t:Nd} (h:itemB t=true):t.okI:=by
 obtain ⟨k,s,l⟩:=t
 simp only [itemB] at h
 split at h
 ·rename_i hk
  simp only [Bool.and_eq_true,decide_eq_true_eq] at h
  exact ⟨noneB_small h.1,fun e=>by omega,okL_idx fun i hi=>lone_ok ((nameL_iff l).1 h.2.2 i hi)⟩
 ·split at h
  ·simp only [Bool.and_eq_true,decide_eq_true_eq] at h
   refine ⟨noneB_small h.1,fun e=>by omega,okL_idx fun i hi=>?_⟩
   by_cases he:i=l.length - 1
   ·subst he
    have h9:=h.2.2.2
    rw [typE_get (by omega)] at h9
    exact typ_ok _ _ (Nat.le_refl _) h9
   ·have:=(nameL_iff _).1 h.2.2.1 i (by rw [List.length_take];omega)
    rw [List.getElem_take] at this
    exact lone_ok this
  ·simp only [Bool.and_eq_true] at h
   have hs:=nameB_small h.1
   split at h
   ·simp only [Bool.and_eq_true] at h
    exact ⟨hs,fun e=>by omega,okL_mem fun x hx=>typ_ok _ x (Nat.le_refl _) (typL_mem h.2.1 x hx)⟩
   ·split at h
    ·simp only [Bool.and_eq_true] at h
     exact ⟨hs,fun e=>by omega,okL_idx fun i hi=>mode_ok ((modeL_iff l).1 h.2.1 i hi)⟩
    ·split at h
     ·simp only [Bool.and_eq_true,decide_eq_true_eq] at h
      exact ⟨hs,fun e=>by omega,okL_mem fun x hx=>form_ok _ x (Nat.le_refl _) (formL_mem h.2.2 x hx)⟩
     ·split at h
      ·simp only [decide_eq_true_eq] at h
       have:l=[]:=List.eq_nil_of_length_eq_zero h.2
       subst this
       exact ⟨hs,fun e=>by omega,by simp only [Nd.okL]⟩
      ·simp at h
def Nd.okW:Nd→Prop | .mk k s l=>if k=1 then ∀ x∈l,x.okI else if itemB (.mk k s l)=true then (Nd.mk k s l).okI else (Nd.mk k s l).okP=true
theorem valid_ok {t:Nd} (h:chkN t=0):t.okW∧t.sz≤4000:=by
 unfold chkN at h
 split at h
 ·cases h
 ·split at h
  ·cases h
  ·split at h
   ·rename_i h1 _ hv
    refine ⟨?_,by omega⟩
    obtain ⟨k,s,l⟩:=t
    simp only [Bool.or_eq_true] at hv
    show if k=1 then ∀ x∈l,x.okI else if itemB (.mk k s l)=true then (Nd.mk k s l).okI else (Nd.mk k s l).okP=true
    have hp:typB (.mk k s l)=true∨termB (.mk k s l)=true∨formB (.mk k s l)=true→(Nd.mk k s l).okP=true:=by
     rintro (h | h | h)
     ·exact typ_ok _ _ (Nat.le_refl _) h
     ·exact term_ok _ _ (Nat.le_refl _) h
     ·exact form_ok _ _ (Nat.le_refl _) h
    by_cases hk:k=1
    ·subst hk
     rw [if_pos rfl]
     rcases hv with h | h | h | h | h
     ·have:=hp (.inl h);simp [Nd.okP,shapeB] at this
     ·have:=hp (.inr (.inl h));simp [Nd.okP,shapeB] at this
     ·have:=hp (.inr (.inr h));simp [Nd.okP,shapeB] at this
     ·simp [itemB] at h
     ·simp only [textB,Bool.and_eq_true] at h
      intro x hx
      obtain ⟨i,hi,rfl⟩:=List.getElem_of_mem hx
      exact item_ok ((itemL_iff l).1 h.2.2 i hi)
    ·rw [if_neg hk]
     split
     ·rename_i h;exact item_ok h
     ·rename_i hi
      rcases hv with h | h | h | h | h
      ·exact hp (.inl h)
      ·exact hp (.inr (.inl h))
      ·exact hp (.inr (.inr h))
      ·exact absurd h hi
      ·simp only [textB,Bool.and_eq_true,decide_eq_true_eq] at h
       exact absurd h.1 hk
   ·cases h
def Nd.whl:Nd→Tx | .mk k s l=>if k=1 then l.flatMap fun x=>x.itm++[10] else if itemB (.mk k s l)=true then (Nd.mk k s l).itm else (Nd.mk k s l).txt 0 false
theorem findO_len (k:Int):∀ l:List (List UInt8×Int),(∀ o∈l,o.1.length≤8)→(findO k l).length≤8
 | [],_=>by simp [findO]
 | o :: l,h=>by
  simp only [findO]
  split
  ·exact h o (by simp)
  ·exact findO_len k l fun o ho=>h o (by simp [ho])
theorem opensW_len (k:Int):(opensW k).length≤8:=findO_len k _ (by decide)
theorem opSign_len (k:Int):(opSign k).length≤2:=by
 unfold opSign
 split
 ·rename_i sg bd h
  unfold opOf opsL at h
  simp only [findP] at h
  repeat' split at h
  all_goals first | (cases h;decide) | cases h
 ·simp
theorem txtF_len (k:Int) (f:Bool→Tx) (n:Nat) (h:∀ m,(f m).length≤n) (bind:Nat) (more:Bool):(txtF k f bind more).length≤n+2:=by
 unfold txtF
 split
 ·have:=h false
  simp
  omega
 ·have:=h more
  omega
theorem txt_len {t:Nd} (h:∀ m,(t.bare m).length+10≤100*t.sz) (bind:Nat) (more:Bool):(t.txt bind more).length+8≤100*t.sz:=by
 have h0:=h false
 have:=txtF_len t.kd t.bare (100*t.sz - 10) (fun m=>by have:=h m;omega) bind more
 unfold Nd.txt
 omega
theorem sum_len {l:List Nd} (F:Nd→Tx) (h:∀ x∈l,(F x).length≤100*x.sz):(l.flatMap F).length≤100*Nd.szL l:=by
 induction l with
 | nil=>simp
 | cons a l ih =>
  have h1:=h a (by simp)
  have h2:=ih fun x hx=>h x (by simp [hx])
  simp only [List.flatMap_cons,List.length_append,Nd.szL]
  omega
theorem arg_len {t:Nd} (ho:t.okP=true) (h:∀ m,(t.bare m).length+10≤100*t.sz):t.arg.length+8≤100*t.sz:=by
 have h0:=h false
 obtain ⟨k,s,l⟩:=t
 unfold Nd.arg argF
 simp only [Nd.okP,Bool.and_eq_true,decide_eq_true_eq] at ho
 have h1:1≤(Nd.mk k s l).sz:=by simp only [Nd.sz];omega
 simp only
 split
 ·simp
  omega
 ·rw [bs_len]
  omega
theorem kidF_len {l:List Nd} (h:∀ x∈l,∀ m,(x.bare m).length+10≤100*x.sz) (i:Nat) (hi:i < l.length) (bind:Nat) (more:Bool):(kidF l (Nd.bareL l) i bind more).length+8≤100*(l[i]).sz:=by
 rw [kidF_at hi]
 exact txt_len (h _ (List.getElem_mem hi)) bind more
theorem bare_len:∀ (N:Nat) (t:Nd),t.sz≤N→t.okP=true→∀ m,(t.bare m).length+10≤100*t.sz:=by
 intro N
 induction N with
 | zero=>rintro ⟨k,s,l⟩ h;simp only [Nd.sz] at h;omega
 | succ N ih =>
  rintro ⟨k,s,l⟩ h ho m
  simp only [Nd.okP,Bool.and_eq_true,decide_eq_true_eq] at ho
  obtain ⟨h1,h2,h3⟩:=ho
  simp only [Nd.sz] at h ⊢
  have hk:∀ x∈l,∀ m,(x.bare m).length+10≤100*x.sz:=fun x hx=>ih x (by have:=szL_mem hx;omega) (okL_all h3 x hx)
  have hsb:(bs s).length≤64:=by rw [bs_len];exact h2
  have how:=opensW_len k
  have hsg:=opSign_len k
  by_cases h15:k=15∨k=16
  ·rw [bare_name h15]
   have:=sum_len (l:=l) (fun x=>32 :: x.arg) (fun x hx=>by have:=arg_len (okL_all h3 x hx) (hk x hx);simp only [List.length_cons];omega)
   rw [List.length_append]
   omega
  ·simp only [Nd.bare,bareF]
   rw [if_neg h15]
   by_cases hb:17≤k∧k≤19
   ·have h12:l.length=1∨l.length=2:=by
     have:k=17∨k=18∨k=19:=by omega
     rcases this with rfl | rfl | rfl <;> simpa [shapeB] using h1
    have hbf:(binderF s l (Nd.bareL l)).length≤72+100*Nd.szL l:=by
     unfold binderF
     rcases h12 with e | e
     ·match l,e with
      | [x],_ =>
       have h0:=kidF_len hk 0 (by simp) 0 false
       simp only [List.length_singleton,Nat.sub_self,List.length_append,Nd.szL,List.getElem_cons_zero] at h0 ⊢
       rw [if_neg (by omega)]
       simp
       omega
     ·match l,e with
      | [x,y],_ =>
       have h0:=kidF_len hk 0 (by simp) 6 false
       have h9:=kidF_len hk 1 (by simp) 0 false
       simp only [List.length_cons,List.length_nil,Nat.zero_add,Nat.reduceAdd,List.length_append,Nd.szL,List.getElem_cons_zero,List.getElem_cons_succ] at h0 h9 ⊢
       rw [if_pos (by omega)]
       simp
       omega
    split
    ·rw [List.length_append];omega
    ·rw [if_pos (by omega),List.length_append,List.length_append]
     simp
     omega
   ·rw [if_neg (by omega),if_neg (by omega)]
    split
    ·omega
    ·split
     ·rename_i _ hk29
      subst hk29
      have:1≤l.length:=by simpa [shapeB] using h1
      have h0:=kidF_len hk 0 (by omega) 5 m
      have h9:=szL_get l 0 (by omega)
      rw [List.length_append]
      omega
     ·split
      ·rename_i _ _ hk30
       subst hk30
       have:1≤l.length:=by simpa [shapeB] using h1
       have h0:=kidF_len hk 0 (by omega) 0 false
       have h9:=szL_get l 0 (by omega)
       rw [List.length_append,List.length_append]
       simp
       omega
      ·rename_i m20 m29 m30
       have hl2:2≤l.length:=by
        simp only [shapeB,decide_eq_false (fun e=>h15 (.inl e)),decide_eq_false (fun e=>h15 (.inr e)),decide_eq_false (fun e=>m20 (.inl e)),decide_eq_false (fun e=>m20 (.inr e)),decide_eq_false m29,decide_eq_false m30,Bool.false_or,Bool.or_eq_true,Bool.and_eq_true,decide_eq_true_eq,Bool.false_and] at h1
        omega
       match l,hl2 with
       | x :: y :: r,_ =>
        have h0:=kidF_len hk 0 (by simp) (leftB (opBind k)) true
        have h9:=kidF_len hk 1 (by simp) (rightB (opBind k)) m
        simp only [Nd.szL,List.length_append,List.getElem_cons_zero,List.getElem_cons_succ,List.length_cons,List.length_nil] at h0 h9 ⊢
        omega
theorem node_len {t:Nd} (ho:t.okP=true) (bind:Nat) (more:Bool):(t.txt bind more).length+8≤100*t.sz:=txt_len (bare_len _ t (Nat.le_refl _) ho) bind more
theorem comF_len:∀ {l:List Nd} (f:Bool),Nd.okL l=true→(comF l f).length≤66*Nd.szL l
 | [],f,_=>by simp [comF]
 | ⟨k,s,kl⟩ :: l,f,h=>by
  simp only [Nd.okL,Bool.and_eq_true,Nd.okP,decide_eq_true_eq] at h
  have:=comF_len false h.2
  simp only [comF,Nd.nm,List.length_append,Nd.szL,Nd.sz]
  have h2:(if f=true then ([]:Tx) else [44,32]).length≤2:=by split <;> simp
  rw [bs_len]
  omega
theorem okL_take {l:List Nd} (h:Nd.okL l=true) (n:Nat):Nd.okL (l.take n)=true:=okL_mem fun x hx=>okL_all h x (List.mem_of_mem_take hx)
theorem itm_len {t:Nd} (h:t.okI):t.itm.length≤100*t.sz:=by
 obtain ⟨k,s,l⟩:=t
 obtain ⟨h1,h2,h3⟩:=h
 have how:=opensW_len k
 have hb:(itemBody k l).length≤100*Nd.szL l+10:=by
  unfold itemBody
  split
  ·have:=comF_len true h3;omega
  ·split
   ·rename_i hk
    have hl:=h2 (.inl hk)
    have e:l.length - 1 < l.length:=by omega
    have h4:=comF_len true (okL_take h3 (l.length - 1))
    have h5:=node_len (okL_all h3 _ (List.getElem_mem e)) 6 false
    have h6:=szL_take l (l.length - 1) e
    rw [List.take_of_length_le (by omega)] at h6
    rw [kidT_at e]
    simp only [List.length_append,List.length_cons,List.length_nil]
    omega
   ·split
    ·have:=sum_len (l:=l) (fun x=>32 :: x.txt 7 false) (fun x hx=>by have:=node_len (okL_all h3 x hx) 7 false;simp only [List.length_cons];omega)
     omega
    ·split
     ·rename_i hk
      have hl:=h2 (by omega)
      have h5:=node_len (okL_all h3 _ (List.getElem_mem (show 0 < l.length by omega))) 0 false
      have h6:=szL_get l 0 (by omega)
      rw [kidT_at (by omega)]
      simp only [List.length_append,List.length_cons,List.length_nil]
      omega
     ·simp
 simp only [Nd.itm,List.length_append,List.length_cons,List.length_nil,bs_len,Nd.sz]
 omega
theorem whl_len {t:Nd} (h:t.okW):t.whl.length≤200*t.sz:=by
 obtain ⟨k,s,l⟩:=t
 unfold Nd.whl
 have h':if k=1 then ∀ x∈l,x.okI else if itemB (.mk k s l)=true then (Nd.mk k s l).okI else (Nd.mk k s l).okP=true:=h
 simp only
 split
 ·rename_i hk
  rw [if_pos hk] at h'
  have:∀ l:List Nd,(∀ x∈l,x.okI)→(l.flatMap fun x=>x.itm++[10]).length≤200*Nd.szL l:=by
   intro l
   induction l with
   | nil=>simp
   | cons a l ih =>
    intro hl
    have h1:=itm_len (hl a (by simp))
    have h2:=ih fun x hx=>hl x (by simp [hx])
    have h3:1≤a.sz:=by obtain ⟨k,s,l⟩:=a;simp only [Nd.sz];omega
    simp only [List.flatMap_cons,List.length_append,Nd.szL,List.length_cons,List.length_nil]
    omega
  have:=this l h'
  simp only [Nd.sz]
  omega
 ·rename_i hk
  rw [if_neg hk] at h'
  split
  ·rename_i hi
   rw [if_pos hi] at h'
   have:=itm_len h'
   omega
  ·rename_i hi
   rw [if_neg hi] at h'
   have:=node_len h' 0 false
   omega
end Go.Proofs.YtcimcjmdkjajfaaGreatDoor
namespace Go.Proofs.YtcimcjmdkjajfaaGreatDoor
theorem shape_not7 {n:Nat}:shapeB 7 n=false:=by
 unfold shapeB
 simp
mutual
theorem okP_facts:∀ t:Nd,t.okP=true→smN t∧mdOk t
 | .mk k s l,h=>by
  simp only [Nd.okP,Bool.and_eq_true,decide_eq_true_eq] at h
  obtain ⟨h1,h2,h3⟩:=h
  have:=okL_facts l h3
  simp only [smN,mdOk]
  refine ⟨⟨h2,this.1⟩,?_⟩
  split
  ·rename_i hk
   subst hk
   rw [shape_not7] at h1
   cases h1
  ·exact this.2
theorem okL_facts:∀ l:List Nd,Nd.okL l=true→smL l∧mdL l
 | [],_=>by simp only [smL,mdL];exact ⟨trivial,trivial⟩
 | a :: l,h=>by
  simp only [Nd.okL,Bool.and_eq_true] at h
  have h1:=okP_facts a h.1
  have h2:=okL_facts l h.2
  simp only [smL,mdL]
  exact ⟨⟨h1.1,h2.1⟩,h1.2,h2.2⟩
end
theorem modeB_leaf {t:Nd} (h:modeB t=true):∃ k s,t = .mk k s []:=by
 obtain ⟨k,s,l⟩:=t
 simp only [modeB,Bool.and_eq_true,decide_eq_true_eq] at h
 have:l=[]:=List.eq_nil_of_length_eq_zero h.2.1
 subst this
 exact ⟨k,s,rfl⟩
theorem item_facts {t:Nd} (h:itemB t=true):smN t∧mdOk t:=by
 have ho:=item_ok h
 obtain ⟨k,s,l⟩:=t
 obtain ⟨h1,_,h3⟩:=ho
 have hf:=okL_facts l h3
 simp only [smN,mdOk]
 refine ⟨⟨h1,hf.1⟩,?_⟩
 split
 ·rename_i hk
  subst hk
  simp only [itemB,Int.reduceEq,or_self,if_false,if_true,Bool.and_eq_true] at h
  intro x hx
  obtain ⟨i,hi,rfl⟩:=List.getElem_of_mem hx
  exact modeB_leaf ((modeL_iff l).1 h.2.1 i hi)
 ·exact hf.2
theorem valid_facts {t:Nd} (h:chkN t=0):smN t∧mdOk t:=by
 unfold chkN at h
 split at h
 ·cases h
 ·split at h
  ·cases h
  ·split at h
   ·rename_i hv
    simp only [Bool.or_eq_true] at hv
    rcases hv with h | h | h | h | h
    ·exact okP_facts t (typ_ok _ _ (Nat.le_refl _) h)
    ·exact okP_facts t (term_ok _ _ (Nat.le_refl _) h)
    ·exact okP_facts t (form_ok _ _ (Nat.le_refl _) h)
    ·exact item_facts h
    ·obtain ⟨k,s,l⟩:=t
     simp only [textB,Bool.and_eq_true,decide_eq_true_eq] at h
     obtain ⟨rfl,hs,hl⟩:=h
     have hi:∀ x∈l,smN x∧mdOk x:=fun x hx=>by
      obtain ⟨i,hi,rfl⟩:=List.getElem_of_mem hx
      exact item_facts ((itemL_iff l).1 hl i hi)
     simp only [smN,mdOk]
     refine ⟨⟨noneB_small hs,(smL_iff l).2 fun x hx=>(hi x hx).1⟩,?_⟩
     rw [if_neg (by decide)]
     exact (mdL_iff l).2 fun x hx=>(hi x hx).2
   ·cases h
end Go.Proofs.YtcimcjmdkjajfaaGreatDoor
namespace Go.Proofs.YtcimcjmdkjajfaaGreatDoor
open Go.RowKit Go.Shelf
attribute [local go_sem] Oper.semAt_some
abbrev zeroN:Nd:=.mk 0 ⟨#[]⟩ []
theorem zero_ndr (w:World):NdR w zeroN (.int .i64 0) (.string ⟨#[]⟩) (.slice none 0 0):=(NdS.leaf (fun _=>True) w 0 ⟨#[]⟩ (by decide) none 0).toR
theorem chk_sz {t:Nd} (h:chkN t=0):t.sz≤4000:=by
 unfold chkN at h
 split at h
 ·cases h
 ·omega
def PR (er:Int) (tr:Nd) (W:World) (e:Ending) (W':World):Prop :=
 ∃ u0 u1 u2,e = .returned (.tuple #[.agg #[u0,u1,u2],.int .i64 er])∧NdR W' tr u0 u1 u2∧Below W.heap.size W W'
def AtS (c:Int) (r:Option Nd) (er:Int) (tr:Nd):Prop:=(c≠0∧er=c∧tr=zeroN)∨(c=0∧r=none∧er=3∧tr=zeroN)∨(c=0∧r=some tr∧er=0)
theorem unchanged_all (n₁ H:Nat) (A:World) (vp vi v0 v1 v2:Value) (ps:List Value) (ins:List ByteArray) (wd:Bool) (t:Nd) (_hH:H≤A.heap.size) (hp:RowI n₁ A vp ps) (hi:RowS n₁ A vi ins) (ht:NdO (fun b=>b < H) vp vi A t v0 v1 v2) :
  Calls Tryz.prog 88 (#[.agg #[vp,vi,.bool wd],.agg #[v0,v1,v2]]++#[]) A fun e W'=>∃ u0 u1 u2,e = .returned (.agg #[u0,u1,u2])∧NdO (fun b=>b < H∨A.heap.size≤b) vp vi W' t u0 u1 u2∧Below A.heap.size A W':=by
 obtain ⟨k,s,l,a,c,rfl,rfl,rfl,rfl,_,_⟩:=ht.form
 obtain ⟨ap,cp,hvp⟩:=row_shape hp
 obtain ⟨ai,ci,hvi⟩:=row_shape hi
 refine (unchanged_any vp vi wd k s a l.length c ap ai _ cp _ ci hvp hvi A).mono ?_
 rintro e w' ⟨rfl,hb⟩
 exact ⟨_,_,_,rfl,NdS.keep (fun b (h1:(vp.ownBlock≠some b∧vi.ownBlock≠some b)∧b < H) _=>⟨hb.block b (by omega),h1.1,Or.inl h1.2⟩) ht,hb⟩
set_option maxRecDepth 100000 in
set_option maxHeartbeats 2000000 in
theorem at_any (t:Nd) (v0 v1 v2 vp:Value) (p:List Int) (w:World) (ht:NdR w t v0 v1 v2) (hp:PathR w vp p) (er:Int) (tr:Nd) (hA:AtS (chkN t) (goN t p) er tr) :
  Calls Tryz.prog 30 #[.agg #[v0,v1,v2],vp] w (PR er tr w):=by
 obtain ⟨k0,s0,l0,a0,c0,rfl,rfl,rfl,rfl,_,_⟩:=ht.form
 obtain ⟨c,hc⟩:∃ c,chkN (.mk k0 s0 l0)=c:=⟨_,rfl⟩
 obtain ⟨r,hr⟩:∃ r,goN (.mk k0 s0 l0) p=r:=⟨_,rfl⟩
 have hvp:∃ b1 c1,vp = .slice b1 p.length c1:=by obtain ⟨_,_,_,c1,b1,e,_⟩:=hp;exact ⟨b1,c1,e⟩
 obtain ⟨b1,c1,rfl⟩:=hvp
 obtain ⟨H,hH⟩:∃ H,w.heap.size=H:=⟨_,rfl⟩
 obtain ⟨W2,hW2⟩:∃ W2,(w.alloc (.cells #[.int .i64 k0,.string s0,.slice a0 l0.length c0] 24)).alloc (.cells #[.int .i64 0,.string ⟨#[]⟩,.slice none 0 0] 24)=W2:=⟨_,rfl⟩
 have z2:W2.heap.size=H+1+1:=by rw [←hW2];simp [hH]
 have B2:Below H w W2:=by rw [←hW2,←hH];exact ((Below.refl _ w).alloc (Nat.le_refl _) _).alloc (by simp) _
 have N2:Row3 W2 H (.int .i64 k0) (.string s0) (.slice a0 l0.length c0):=by
  rw [←hW2,←hH];exact (Below.heap_alloc _ _ _ (by simp)).trans (World.alloc_heap_new _ _)
 have R2:Row3 W2 (H+1) (.int .i64 0) (.string ⟨#[]⟩) (.slice none 0 0):=by rw [←hW2,←hH];exact alloc_at (by simp)
 have CK:=qh (check_tree _ W2 _ _ _ (ht.later (by rw [hH];exact B2)))
 rw [hc] at CK hA
 rw [hr] at hA
 have HT:=qh ht
 have HP:=qh hp
 have HH:=qh hH
 have HZ:=qh z2
 have HC:=qh hc
 have HR:=qh hr
 have HAS:=qh hA
 have HB2:=qh B2
 have HN2:=qh N2
 have HR2:=qh R2
 obtain ⟨⟨n0,n1,n2⟩,_⟩:=N2.cells
 clear ht hp hc hr hA B2 N2 R2
 go_enter Tryz.func30,Tryz.ntmps30
 go_upto_region 1 with fail
 (try rw [hW2])
 (try rw [HH.out])
 clear hW2
 go_wp2_with fail
 refine CK.out.mono ?_
 rintro e w3 ⟨rfl,b3⟩
 have zz:=HZ.out
 have N3:Row3 w3 H (.int .i64 k0) (.string s0) (.slice a0 l0.length c0):=HN2.out.below b3 HN2.out.lt
 have R3:Row3 w3 (H+1) (.int .i64 0) (.string ⟨#[]⟩) (.slice none 0 0):=HR2.out.below b3 HR2.out.lt
 have HB3:=qh (HB2.out.trans (b3.mono (by omega)))
 obtain ⟨⟨n0',n1',n2'⟩,_⟩:=N3.cells
 obtain ⟨⟨r0,r1,r2⟩,q0,q1,q2⟩:=R3.cells
 have HR3:=qh R3
 clear n0 n1 n2 N3 R3 CK HN2 HR2 HB2
 by_cases hc0:c=0
 ·subst hc0
  have FW:=qh (follow_any _ _ _ _ _ p w3 (HT.out.later (by rw [HH.out];exact HB3.out)) (HP.out.later (by rw [HH.out];exact HB3.out)) r HR.out)
  go_wp2_with fail
  refine FW.out.mono ?_
  rintro e w4 ⟨b4,h4⟩
  have hz4:H+1+1≤w3.heap.size:=by have:=b3.size;omega
  have HB4:=qh (HB3.out.trans (b4.mono (by omega)))
  have R4:Row3 w4 (H+1) (.int .i64 0) (.string ⟨#[]⟩) (.slice none 0 0):=HR3.out.below b4 HR3.out.lt
  have HR4:=qh R4
  obtain ⟨⟨r0',r1',r2'⟩,q0',q1',q2'⟩:=R4.cells
  have HB3':=qh b3
  have HB4':=qh b4
  clear n0' n1' n2' r0 r1 r2 q0 q1 q2 R4 FW b3 b4 HR3
  cases r with
  | none =>
   obtain rfl:=h4
   have hE:Hid (er=3∧tr=zeroN):=qh (by
    rcases HAS.out with h | ⟨_,_,h⟩ | ⟨_,h,_⟩
    ·exact absurd rfl h.1
    ·exact h
    ·cases h)
   have z4:H+1+1≤w4.heap.size:=by have:=HB4'.out.size;omega
   obtain ⟨Y,hY⟩:∃ Y,w4.heap.size=Y:=⟨_,rfl⟩
   obtain ⟨W5,hW5⟩:∃ W5,w4.alloc (.cells #[.int .i64 0,.string ⟨#[]⟩,.slice none 0 0] 24)=W5:=⟨_,rfl⟩
   have N5:Row3 W5 Y (.int .i64 0) (.string ⟨#[]⟩) (.slice none 0 0):=by rw [←hW5,←hY];exact Row3.new _ _ _ _
   obtain ⟨W6,hW6⟩:∃ W6,((W5.setCell ⟨Y,0,none⟩ (.int .i64 0)).setCell ⟨Y,1,none⟩ (.string ⟨#[]⟩)).setCell ⟨Y,2,none⟩ (.slice none 0 0)=W6:=⟨_,rfl⟩
   have R5:Row3 W6 (H+1) (.int .i64 0) (.string ⟨#[]⟩) (.slice none 0 0):=by
    rw [←hW6,←hW5];exact (((HR4.out.alloc _).other _ (by simp only;omega)).other _ (by simp only;omega)).other _ (by simp only;omega)
   have HR5:=qh R5
   have HB5:Hid (Below H w W6):=qh (by rw [←hW6,←hW5];exact below_put3 (HB4.out.alloc (by omega) _) (by omega) _ _ _)
   have HZ4:=qh z4
   obtain ⟨⟨r0,r1,r2⟩,q0,q1,q2⟩:=R5.cells
   obtain ⟨⟨n0,n1,n2⟩,m0,m1,m2⟩:=N5.cells
   clear R5 N5 r0' r1' r2' q0' q1' q2'
   go_wp2
   refine ret_node2 (HR5.out.put _ _ _) rfl rfl rfl rfl ?_
   obtain ⟨rfl,rfl⟩:=hE.out
   exact ⟨_,_,_,rfl,zero_ndr _,by rw [HH.out];exact below_put3 HB5.out (by omega) _ _ _⟩
  | some t' =>
   obtain ⟨u0,u1,u2,rfl,hu⟩:=h4
   have hE:Hid (er=0∧tr=t'):=qh (by
    rcases HAS.out with h | ⟨_,h,_⟩ | ⟨_,h,h2⟩
    ·exact absurd rfl h.1
    ·cases h
    ·cases h;exact ⟨h2,rfl⟩)
   obtain ⟨k1,s1,l1,a1,c1,rfl,rfl,rfl,rfl,_,_⟩:=hu.form
   have hf:=go_sm p _ _ HR.out (valid_facts HC.out).1
   have hsz:=chk_sz HC.out
   obtain ⟨W5,hW5⟩:∃ W5,w4.alloc (.cells #[.int .i64 k1,.string s1,.slice a1 l1.length c1] 24)=W5:=⟨_,rfl⟩
   have R5:Row3 W5 (H+1) (.int .i64 0) (.string ⟨#[]⟩) (.slice none 0 0):=by rw [←hW5];exact HR4.out.alloc _
   have z4:H+1+1≤w4.heap.size:=by have:=HB4'.out.size;omega
   have b5:Below w4.heap.size w4 W5:=by rw [←hW5];exact (Below.refl _ _).alloc (Nat.le_refl _) _
   have N5:Row3 W5 w4.heap.size (.int .i64 k1) (.string s1) (.slice a1 l1.length c1):=by rw [←hW5];exact Row3.new _ _ _ _
   have HR5:=qh R5
   have HB5:Hid (Below H w W5):=qh (HB4.out.trans (b5.mono (by omega)))
   have RB:=qh (rebuild_any 88 #[] W5 (fun _=>True) (fun _ _ _ _=>True) (fun _ _ _ t=>t) (fun _ _=>rfl) (fun _ _ _ _=>trivial) (fun n₁ H A vp vi v0 v1 v2 ps ins wd t _ _ h3 _ h5 h6 _ _ h9 _=>unchanged_all n₁ H A vp vi v0 v1 v2 ps ins wd t h3 h5 h6 h9) _ _ (bld_id (.mk k1 s1 l1) [] [] false) _ _ _ trivial ((hu.later HB4'.out).later b5) (by omega) hf.1)
   obtain ⟨⟨n0,n1,n2⟩,_⟩:=N5.cells
   have HZ5:=qh (show H+1+1≤W5.heap.size by have:=b5.size;omega)
   clear R5 N5 b5 hf hsz hu r0' r1' r2' q0' q1' q2'
   go_wp2_with fail
   refine RB.out.mono ?_
   rintro e w6 ⟨u0,u1,u2,rfl,t6,b6⟩
   obtain ⟨_,_,_,a6,c6,e6,rfl,rfl,rfl,_,_⟩:=t6.form
   have R6:Row3 w6 (H+1) (.int .i64 0) (.string ⟨#[]⟩) (.slice none 0 0):=HR5.out.below b6 HR5.out.lt
   have HR6:=qh R6
   have HB6:=qh (HB5.out.trans (b6.mono (by have:=HZ5.out;omega)))
   have T6:=qh t6
   obtain ⟨⟨r0,r1,r2⟩,q0,q1,q2⟩:=R6.cells
   clear R6 b6 t6 RB n0 n1 n2
   go_wp2
   refine ret_node2 (HR6.out.put _ _ _) rfl rfl rfl rfl ?_
   obtain ⟨rfl,rfl⟩:=hE.out
   refine ⟨_,_,_,rfl,(T6.out.keep (S':=fun _=>True) (fun b (h1:W5.heap.size≤b) _=>⟨?_,trivial⟩)).toR,by rw [HH.out];exact below_put3 HB6.out (by omega) _ _ _⟩
   have:=HZ5.out
   exact (Below.heap_setCell _ _ _ _ (by simp only;omega)).trans ((Below.heap_setCell _ _ _ _ (by simp only;omega)).trans (Below.heap_setCell _ _ _ _ (by simp only;omega)))
 ·have hc1:(c==0)=false:=by simp [hc0]
  have hE:Hid (er=c∧tr=zeroN):=qh (by
   rcases HAS.out with h | h | h
   ·exact h.2
   ·exact absurd h.1 hc0
   ·exact absurd h.1 hc0)
  clear n0' n1' n2'
  go_wp2
  refine ret_node2 (HR3.out.put _ _ _) rfl rfl rfl rfl ?_
  obtain ⟨rfl,rfl⟩:=hE.out
  exact ⟨_,_,_,rfl,zero_ndr _,by rw [HH.out];exact below_put3 HB3.out (by omega) _ _ _⟩
end Go.Proofs.YtcimcjmdkjajfaaGreatDoor
namespace Go.Proofs.YtcimcjmdkjajfaaGreatDoor
open Go.RowKit Go.Shelf
attribute [local go_sem] Oper.semAt_some
theorem NdS.lts {S:Nat→Prop} {w:World} {t:Nd} {v0 v1 v2:Value} (h:NdS S w t v0 v1 v2):NdS (fun b=>S b∧b < w.heap.size) w t v0 v1 v2:=NdS.mono (fun _ h1 h2=>⟨h1,h2⟩) h
def PRS (S:Nat→Prop) (er:Int) (tr:Nd) (W:World) (e:Ending) (W':World):Prop :=
 ∃ u0 u1 u2,e = .returned (.tuple #[.agg #[u0,u1,u2],.int .i64 er])∧NdS S W' tr u0 u1 u2∧Below W.heap.size W W'
set_option maxRecDepth 100000 in
set_option maxHeartbeats 1000000 in
theorem checked_any (S:Nat→Prop) (t:Nd) (v0 v1 v2:Value) (w:World) (ht:NdS S w t v0 v1 v2) (er:Int) (tr:Nd) (hc:chkN t=er) (hA:(er≠0∧tr=zeroN)∨(er=0∧tr=t)) :
  Calls Tryz.prog 77 #[.agg #[v0,v1,v2]] w (PRS S er tr w):=by
 obtain ⟨k0,s0,l0,a0,c0,rfl,rfl,rfl,rfl,_,_⟩:=ht.form
 obtain ⟨H,hH⟩:∃ H,w.heap.size=H:=⟨_,rfl⟩
 obtain ⟨W2,hW2⟩:∃ W2,(w.alloc (.cells #[.int .i64 k0,.string s0,.slice a0 l0.length c0] 24)).alloc (.cells #[.int .i64 0,.string ⟨#[]⟩,.slice none 0 0] 24)=W2:=⟨_,rfl⟩
 have z2:W2.heap.size=H+1+1:=by rw [←hW2];simp [hH]
 have B2:Below H w W2:=by rw [←hW2,←hH];exact ((Below.refl _ w).alloc (Nat.le_refl _) _).alloc (by simp) _
 have N2:Row3 W2 H (.int .i64 k0) (.string s0) (.slice a0 l0.length c0):=by
  rw [←hW2,←hH];exact (Below.heap_alloc _ _ _ (by simp)).trans (World.alloc_heap_new _ _)
 have R2:Row3 W2 (H+1) (.int .i64 0) (.string ⟨#[]⟩) (.slice none 0 0):=by rw [←hW2,←hH];exact alloc_at (by simp)
 have CK:=qh (check_tree _ W2 _ _ _ (ht.toR.later (by rw [hH];exact B2)))
 rw [hc] at CK
 have HT:=qh (NdS.lts ht)
 have HH:=qh hH
 have HZ:=qh z2
 have HAS:=qh hA
 have HB2:=qh B2
 have HN2:=qh N2
 have HR2:=qh R2
 obtain ⟨⟨n0,n1,n2⟩,_⟩:=N2.cells
 clear ht hc hA B2 N2 R2
 go_enter Tryz.func77,Tryz.ntmps77
 go_upto_region 1 with fail
 (try rw [hW2])
 (try rw [HH.out])
 clear hW2
 go_wp2_with fail
 refine CK.out.mono ?_
 rintro e w3 ⟨rfl,b3⟩
 have zz:=HZ.out
 have N3:Row3 w3 H (.int .i64 k0) (.string s0) (.slice a0 l0.length c0):=HN2.out.below b3 HN2.out.lt
 have R3:Row3 w3 (H+1) (.int .i64 0) (.string ⟨#[]⟩) (.slice none 0 0):=HR2.out.below b3 HR2.out.lt
 have HB3:=qh (HB2.out.trans (b3.mono (by omega)))
 obtain ⟨⟨n0',n1',n2'⟩,_⟩:=N3.cells
 obtain ⟨⟨r0,r1,r2⟩,q0,q1,q2⟩:=R3.cells
 have HR3:=qh R3
 clear n0 n1 n2 N3 R3 CK HN2 HR2 HB2
 by_cases hc0:er=0
 ·subst hc0
  have hE:Hid (tr = .mk k0 s0 l0):=qh (by
   rcases HAS.out with h | h
   ·exact absurd rfl h.1
   ·exact h.2)
  go_wp2
  refine ret_node2 (HR3.out.put _ _ _) rfl rfl rfl rfl ?_
  refine ⟨_,_,_,rfl,?_,by rw [HH.out];exact below_put3 HB3.out (by omega) _ _ _⟩
  rw [hE.out]
  have hh:=HH.out
  exact HT.out.keep (S':=S) (fun b (h1:S b∧b < w.heap.size) _=>⟨(below_put3 HB3.out (show H≤H+1 by omega) _ _ _).block b (by omega),h1.1⟩)
 ·have hc1:(er==0)=false:=by simp [hc0]
  have hE:Hid (tr=zeroN):=qh (by
   rcases HAS.out with h | h
   ·exact h.2
   ·exact absurd h.1 hc0)
  clear n0' n1' n2'
  go_wp2
  refine ret_node2 (HR3.out.put _ _ _) rfl rfl rfl rfl ?_
  rw [hE.out]
  exact ⟨_,_,_,rfl,NdS.leaf _ _ _ _ (by decide) _ _,by rw [HH.out];exact below_put3 HB3.out (by omega) _ _ _⟩
theorem put1_all (W:World) (pb xb:Nat) (path:List Int) (vpath:Value) (x:Nd) (x0 x1 x2:Value) (hpb:W.heap[pb]?=some (.cells #[vpath] 46 (0,0))) (hpp:PathR W vpath path) (hxb:Row3 W xb x0 x1 x2) (hx:NdR W x x0 x1 x2)
  (n₁ H:Nat) (A:World) (vp vi v0 v1 v2:Value) (ps:List Value) (ins:List ByteArray) (wd:Bool) (t:Nd) (hn:W.heap.size≤n₁) (hnH:n₁≤H) (_hH:H≤A.heap.size) (hb:Below W.heap.size W A) (hp:RowI n₁ A vp ps) (hi:RowS n₁ A vi ins) (hpl:ps.length≤90000) (ht:NdO (fun b=>b < H) vp vi A t v0 v1 v2) (hP:PPut ps ins wd t) :
  Calls Tryz.prog 89 (#[.agg #[vp,vi,.bool wd],.agg #[v0,v1,v2]]++#[.pointer (some ⟨pb,0,none⟩),.pointer (some ⟨xb,0,none⟩)]) A fun e W'=>∃ u0 u1 u2,e = .returned (.agg #[u0,u1,u2])∧NdO (fun b=>b < H∨A.heap.size≤b) vp vi W' (chPut path x ps ins wd t) u0 u1 u2∧Below A.heap.size A W':=by
 obtain ⟨q,rfl⟩:=hP
 obtain ⟨k,s,l,a,c,rfl,rfl,rfl,rfl,_,_⟩:=ht.form
 obtain ⟨kx,sx,lx,ax,cx,rfl,rfl,rfl,rfl,_,_⟩:=hx.form
 have hownp:=fun g e=>(World.ownsRow.lt hp g e).1
 have howni:=fun g e=>(World.ownsRow.lt hi g e).1
 obtain ⟨ap,cp,hvp⟩:=row_shape hp
 obtain ⟨ai,ci,hvi⟩:=row_shape hi
 rw [List.length_map] at hvp hvi
 subst hvp hvi
 have hql:q.length≤maxLen:=by rw [List.length_map] at hpl;unfold maxLen;omega
 refine (put1_any pb xb path q vpath kx k sx s lx.length l.length cx c cp ins.length ci ax a ap ai wd A ((hb.block _ (lt_of_heap hpb)).trans hpb) (hpp.later hb) ((hb.block _ hxb.lt).trans hxb) (PathR.ofRow hp hql) (decide (q=path)) rfl).mono ?_
 rintro e w' ⟨rfl,hb'⟩
 by_cases hq:q=path
 ·rw [decide_eq_true hq,if_pos rfl]
  refine ⟨_,_,_,rfl,?_,hb'⟩
  unfold chPut
  rw [intsOf_intV,if_pos hq]
  exact NdS.keep (fun b (h1:b < W.heap.size) _=>⟨(hb'.block b (by have:=hb.size;omega)).trans (hb.block b h1),⟨fun e=>by have:=hownp b e;omega,fun e=>by have:=howni b e;omega⟩,Or.inl (by omega)⟩) hx.toS
 ·rw [decide_eq_false hq,if_neg (by simp)]
  refine ⟨_,_,_,rfl,?_,hb'⟩
  unfold chPut
  rw [intsOf_intV,if_neg hq]
  exact NdS.keep (fun b (h1:((Value.slice ap q.length cp).ownBlock≠some b∧(Value.slice ai ins.length ci).ownBlock≠some b)∧b < H) _=>⟨hb'.block b (by omega),h1.1,Or.inl h1.2⟩) ht
end Go.Proofs.YtcimcjmdkjajfaaGreatDoor
namespace Go.Proofs.YtcimcjmdkjajfaaGreatDoor
open Go.RowKit Go.Shelf
attribute [local go_sem] Oper.semAt_some
def PutS (cn cx:Int) (r:Option Nd) (cp:Int) (pt:Nd) (er:Int) (tr:Nd):Prop :=
 (cn≠0∧er=cn∧tr=zeroN)∨(cn=0∧cx≠0∧er=cx∧tr=zeroN)∨(cn=0∧cx=0∧r=none∧er=3∧tr=zeroN)∨(cn=0∧cx=0∧r≠none∧cp=er∧((er≠0∧tr=zeroN)∨(er=0∧tr=pt)))
set_option maxRecDepth 100000 in
set_option maxHeartbeats 2000000 in
theorem putTree_any (t x:Nd) (v0 v1 v2 vp x0 x1 x2:Value) (p:List Int) (w:World) (ht:NdR w t v0 v1 v2) (hp:PathR w vp p) (hx:NdR w x x0 x1 x2) (er:Int) (tr:Nd) (hA:PutS (chkN t) (chkN x) (goN t p) (chkN (putN t p x)) (putN t p x) er tr) :
  Calls Tryz.prog 32 #[.agg #[v0,v1,v2],vp,.agg #[x0,x1,x2]] w (PR er tr w):=by
 obtain ⟨k0,s0,l0,a0,c0,rfl,rfl,rfl,rfl,_,_⟩:=ht.form
 obtain ⟨kx,sx,lx,ax,c9,rfl,rfl,rfl,rfl,_,_⟩:=hx.form
 obtain ⟨c,hc⟩:∃ c,chkN (.mk k0 s0 l0)=c:=⟨_,rfl⟩
 obtain ⟨d,hd⟩:∃ d,chkN (.mk kx sx lx)=d:=⟨_,rfl⟩
 obtain ⟨r,hr⟩:∃ r,goN (.mk k0 s0 l0) p=r:=⟨_,rfl⟩
 obtain ⟨pt,hpt⟩:∃ pt,putN (.mk k0 s0 l0) p (.mk kx sx lx)=pt:=⟨_,rfl⟩
 have hvp:∃ b1 c1,vp = .slice b1 p.length c1:=by obtain ⟨_,_,_,c1,b1,e,_⟩:=hp;exact ⟨b1,c1,e⟩
 obtain ⟨b1,c1,rfl⟩:=hvp
 obtain ⟨H,hH⟩:∃ H,w.heap.size=H:=⟨_,rfl⟩
 obtain ⟨W4,hW4⟩:∃ W4,(((w.alloc (.cells #[.int .i64 k0,.string s0,.slice a0 l0.length c0] 24)).alloc (.cells #[.slice b1 p.length c1] 46)).alloc (.cells #[.int .i64 kx,.string sx,.slice ax lx.length c9] 24)).alloc (.cells #[.int .i64 0,.string ⟨#[]⟩,.slice none 0 0] 24)=W4:=⟨_,rfl⟩
 have z4:W4.heap.size=H+1+1+1+1:=by rw [←hW4];simp [hH]
 have B4:Below H w W4:=by rw [←hW4,←hH];exact ((((Below.refl _ w).alloc (Nat.le_refl _) _).alloc (by simp) _).alloc (by simp only [World.size_alloc];omega) _).alloc (by simp only [World.size_alloc];omega) _
 have N4:Row3 W4 H (.int .i64 k0) (.string s0) (.slice a0 l0.length c0):=by
  rw [←hW4,←hH];exact (Below.heap_alloc _ _ _ (by simp only [World.size_alloc];omega)).trans ((Below.heap_alloc _ _ _ (by simp only [World.size_alloc];omega)).trans ((Below.heap_alloc _ _ _ (by simp only [World.size_alloc];omega)).trans (World.alloc_heap_new _ _)))
 have P4:W4.heap[H+1]?=some (.cells #[.slice b1 p.length c1] 46 (0,0)):=by
  rw [←hW4,←hH];exact (Below.heap_alloc _ _ _ (by simp only [World.size_alloc];omega)).trans ((Below.heap_alloc _ _ _ (by simp only [World.size_alloc];omega)).trans (alloc_at (by simp)))
 have X4:Row3 W4 (H+1+1) (.int .i64 kx) (.string sx) (.slice ax lx.length c9):=by
  rw [←hW4,←hH];exact (Below.heap_alloc _ _ _ (by simp only [World.size_alloc];omega)).trans (alloc_at (by simp))
 have R4:Row3 W4 (H+1+1+1) (.int .i64 0) (.string ⟨#[]⟩) (.slice none 0 0):=by rw [←hW4,←hH];exact alloc_at (by simp)
 have CK:=qh (fun W (hb:Below H w W)=>check_tree _ W _ _ _ (ht.later (by rw [hH];exact hb)))
 have CX:=qh (fun W (hb:Below H w W)=>check_tree _ W _ _ _ (hx.later (by rw [hH];exact hb)))
 rw [hc] at CK hA
 rw [hd] at CX hA
 rw [hr,hpt] at hA
 have HT:=qh ht
 have HX:=qh hx
 have HP:=qh hp
 have HH:=qh hH
 have HZ:=qh z4
 have HC:=qh hc
 have HD:=qh hd
 have HR:=qh hr
 have HPT:=qh hpt
 have HAS:=qh hA
 have HB4:=qh B4
 have HN4:=qh N4
 have HP4:=qh P4
 have HX4:=qh X4
 have HR4:=qh R4
 obtain ⟨⟨n0,n1,n2⟩,_⟩:=N4.cells
 clear ht hp hx hc hd hr hpt hA B4 N4 P4 X4 R4
 go_enter Tryz.func32,Tryz.ntmps32
 go_upto_region 1 with fail
 (try rw [hW4])
 (try rw [HH.out])
 clear hW4
 go_wp2_with fail
 refine (CK.out _ HB4.out).mono ?_
 rintro e w5 ⟨rfl,b5⟩
 have zz:=HZ.out
 have HB5:=qh (HB4.out.trans (b5.mono (show H≤W4.heap.size by omega)))
 have hz5:H+1+1+1+1≤w5.heap.size:=by have:=b5.size;omega
 have R5:Row3 w5 (H+1+1+1) (.int .i64 0) (.string ⟨#[]⟩) (.slice none 0 0):=HR4.out.below b5 HR4.out.lt
 have HR5:=qh R5
 have X5:Row3 w5 (H+1+1) (.int .i64 kx) (.string sx) (.slice ax lx.length c9):=HX4.out.below b5 HX4.out.lt
 obtain ⟨⟨r0,r1,r2⟩,q0,q1,q2⟩:=R5.cells
 obtain ⟨⟨x0,x1,x2⟩,_⟩:=X5.cells
 have Hb5:=qh b5
 clear R5 X5 b5 n0 n1 n2 CK
 by_cases hc0:c=0
 ·subst hc0
  go_wp2_with fail
  refine (CX.out _ HB5.out).mono ?_
  rintro e w6 ⟨rfl,b6⟩
  have HB6:=qh (HB5.out.trans (b6.mono (show H≤w5.heap.size by omega)))
  have Hb6:=qh (Hb5.out.trans (b6.mono Hb5.out.size))
  have hz6:H+1+1+1+1≤w6.heap.size:=by have:=b6.size;omega
  have R6:Row3 w6 (H+1+1+1) (.int .i64 0) (.string ⟨#[]⟩) (.slice none 0 0):=HR5.out.below b6 HR5.out.lt
  have HR6:=qh R6
  have N6:Row3 w6 H (.int .i64 k0) (.string s0) (.slice a0 l0.length c0):=HN4.out.below Hb6.out HN4.out.lt
  have p6:w6.cell? ⟨H+1,0,none⟩=some (.slice b1 p.length c1):=cell_of_row _ _ _ _ _ _ ((Hb6.out.block _ (by omega)).trans HP4.out)
  obtain ⟨⟨r0',r1',r2'⟩,q0',q1',q2'⟩:=R6.cells
  obtain ⟨⟨n0,n1,n2⟩,_⟩:=N6.cells
  clear R6 N6 b6 CX r0 r1 r2 q0 q1 q2 x0 x1 x2 HR5
  by_cases hd0:d=0
  ·subst hd0
   have FW:=qh (follow_any _ _ _ _ _ p w6 (HT.out.later (by rw [HH.out];exact HB6.out)) (HP.out.later (by rw [HH.out];exact HB6.out)) r HR.out)
   go_wp2_with fail
   refine FW.out.mono ?_
   rintro e w7 ⟨b7,h7⟩
   have HB7:=qh (HB6.out.trans (b7.mono (show H≤w6.heap.size by omega)))
   have Hb7:=qh (Hb6.out.trans (b7.mono Hb6.out.size))
   have hz7:H+1+1+1+1≤w7.heap.size:=by have:=b7.size;omega
   have R7:Row3 w7 (H+1+1+1) (.int .i64 0) (.string ⟨#[]⟩) (.slice none 0 0):=HR6.out.below b7 HR6.out.lt
   have HR7:=qh R7
   have Hb67:=qh b7
   clear R7 b7 FW n0 n1 n2 p6 r0' r1' r2' q0' q1' q2' HR6
   cases r with
   | none =>
    obtain rfl:=h7
    have hE:Hid (er=3∧tr=zeroN):=qh (by
     rcases HAS.out with h | h | h | h
     ·exact absurd rfl h.1
     ·exact absurd rfl h.2.1
     ·exact h.2.2.2
     ·exact absurd rfl h.2.2.1)
    obtain ⟨Y,hY⟩:∃ Y,w7.heap.size=Y:=⟨_,rfl⟩
    obtain ⟨W5,hW5⟩:∃ W5,w7.alloc (.cells #[.int .i64 0,.string ⟨#[]⟩,.slice none 0 0] 24)=W5:=⟨_,rfl⟩
    have N5:Row3 W5 Y (.int .i64 0) (.string ⟨#[]⟩) (.slice none 0 0):=by rw [←hW5,←hY];exact Row3.new _ _ _ _
    obtain ⟨W6,hW6⟩:∃ W6,((W5.setCell ⟨Y,0,none⟩ (.int .i64 0)).setCell ⟨Y,1,none⟩ (.string ⟨#[]⟩)).setCell ⟨Y,2,none⟩ (.slice none 0 0)=W6:=⟨_,rfl⟩
    have R5:Row3 W6 (H+1+1+1) (.int .i64 0) (.string ⟨#[]⟩) (.slice none 0 0):=by
     rw [←hW6,←hW5];exact (((HR7.out.alloc _).other _ (by simp only;omega)).other _ (by simp only;omega)).other _ (by simp only;omega)
    have HR5:=qh R5
    have HB5':Hid (Below H w W6):=qh (by rw [←hW6,←hW5];exact below_put3 (HB7.out.alloc (by omega) _) (by omega) _ _ _)
    obtain ⟨⟨r0,r1,r2⟩,q0,q1,q2⟩:=R5.cells
    obtain ⟨⟨n0,n1,n2⟩,m0,m1,m2⟩:=N5.cells
    clear R5 N5
    go_wp2
    refine ret_node2 (HR5.out.put _ _ _) rfl rfl rfl rfl ?_
    obtain ⟨rfl,rfl⟩:=hE.out
    exact ⟨_,_,_,rfl,zero_ndr _,by rw [HH.out];exact below_put3 HB5'.out (by omega) _ _ _⟩
   | some t' =>
    obtain ⟨u0,u1,u2,rfl,hu⟩:=h7
    have hE:Hid (chkN pt=er∧((er≠0∧tr=zeroN)∨(er=0∧tr=pt))):=qh (by
     rcases HAS.out with h | h | h | h
     ·exact absurd rfl h.1
     ·exact absurd rfl h.2.1
     ·cases h.2.2.1
     ·exact h.2.2.2)
    obtain ⟨k1,s1,l1,a1,c1',rfl,rfl,rfl,rfl,_,_⟩:=hu.form
    have hsx:=valid_facts HD.out
    have hst:=valid_facts HC.out
    have hpf:=put_sm _ hsx.1 p _ hst.1
    rw [HPT.out] at hpf
    have hsz1:=chk_sz HC.out
    have hsz2:=chk_sz HD.out
    obtain ⟨W5,hW5⟩:∃ W5,w7.alloc (.cells #[.int .i64 k1,.string s1,.slice a1 l1.length c1'] 24)=W5:=⟨_,rfl⟩
    have b75:Below w7.heap.size w7 W5:=by rw [←hW5];exact (Below.refl _ _).alloc (Nat.le_refl _) _
    have Hb45:=qh (Hb7.out.trans (b75.mono Hb7.out.size))
    have HBw5:=qh (HB7.out.trans (b75.mono (show H≤w7.heap.size by omega)))
    have hz8:H+1+1+1+1≤W5.heap.size:=by have:=b75.size;omega
    have N5:Row3 W5 H (.int .i64 k0) (.string s0) (.slice a0 l0.length c0):=HN4.out.below Hb45.out HN4.out.lt
    have P5:=(Hb45.out.block (H+1) (by omega)).trans HP4.out
    have X5:Row3 W5 (H+1+1) (.int .i64 kx) (.string sx) (.slice ax lx.length c9):=HX4.out.below Hb45.out HX4.out.lt
    have R5:Row3 W5 (H+1+1+1) (.int .i64 0) (.string ⟨#[]⟩) (.slice none 0 0):=HR4.out.below Hb45.out HR4.out.lt
    have HR5:=qh R5
    have hbld:Bld PPut (chPut p (.mk kx sx lx)) [] [] false (.mk k0 s0 l0) pt:=by
     have:=bld_put (path:=p) (x:=.mk kx sx lx) p [] (.mk k0 s0 l0) rfl (by rw [HR.out];simp) [] false
     rw [HPT.out] at this
     exact this
    have hxl:=HX.out.later (w':=W5) (by rw [HH.out];exact HBw5.out)
    have hpl:=HP.out.later (w':=W5) (by rw [HH.out];exact HBw5.out)
    have RB:=qh (rebuild_any 89 #[.pointer (some ⟨H+1,0,none⟩),.pointer (some ⟨H+1+1,0,none⟩)] W5 (fun A=>Below W5.heap.size W5 A) PPut (chPut p (.mk kx sx lx)) (fun _ _=>rfl) (fun A B h1 h2=>h1.trans h2) (fun n₁ H' A vp vi v0 v1 v2 ps ins wd t h1 h2 h3 h4 h5 h6 _ h8 h9 h10=>put1_all W5 (H+1) (H+1+1) p _ (.mk kx sx lx) _ _ _ P5 hpl X5 hxl n₁ H' A vp vi v0 v1 v2 ps ins wd t h1 h2 h3 h4 h5 h6 h8 h9 h10) _ _ hbld _ _ _ (Below.refl _ _) (HT.out.later (by rw [HH.out];exact HBw5.out)) (by omega) hpf.1)
    obtain ⟨⟨n0,n1,n2⟩,_⟩:=N5.cells
    clear R5 N5 P5 X5 b75 hpf hsx hst hsz1 hsz2 hu hbld hxl hpl
    go_wp2_with fail
    refine RB.out.mono ?_
    rintro e w8 ⟨u0,u1,u2,rfl,t8,b8⟩
    have CH:=qh (checked_any _ pt _ _ _ w8 t8 er tr hE.out.1 hE.out.2)
    obtain ⟨_,_,_,a6,c6,e6,rfl,rfl,rfl,_,_⟩:=t8.form
    have HB8:=qh (HBw5.out.trans (b8.mono (show H≤W5.heap.size by omega)))
    have R8:Row3 w8 (H+1+1+1) (.int .i64 0) (.string ⟨#[]⟩) (.slice none 0 0):=HR5.out.below b8 HR5.out.lt
    have HR8:=qh R8
    have hz9:H+1+1+1+1≤w8.heap.size:=by have:=b8.size;omega
    clear R8 b8 t8 RB n0 n1 n2
    go_wp2_with fail
    refine CH.out.mono ?_
    rintro e w9 ⟨u0,u1,u2,rfl,t9,b9⟩
    obtain ⟨_,_,_,a7,c7,e7,rfl,rfl,rfl,_,_⟩:=t9.form
    have R9:Row3 w9 (H+1+1+1) (.int .i64 0) (.string ⟨#[]⟩) (.slice none 0 0):=HR8.out.below b9 HR8.out.lt
    have HR9:=qh R9
    have HB9:=qh (HB8.out.trans (b9.mono (show H≤w8.heap.size by omega)))
    have T9:=qh t9
    obtain ⟨⟨r0,r1,r2⟩,q0,q1,q2⟩:=R9.cells
    clear R9 b9 t9 CH
    go_wp2
    refine ret_node2 (HR9.out.put _ _ _) rfl rfl rfl rfl ?_
    refine ⟨_,_,_,rfl,?_,by rw [HH.out];exact below_put3 HB9.out (by omega) _ _ _⟩
    exact (T9.out.keep (S':=fun _=>True) (fun b (h1:W5.heap.size≤b) _=>⟨(Below.heap_setCell _ _ _ _ (by simp only;omega)).trans ((Below.heap_setCell _ _ _ _ (by simp only;omega)).trans (Below.heap_setCell _ _ _ _ (by simp only;omega))),trivial⟩)).toR
  ·have hd1:(d==0)=false:=by simp [hd0]
   have hE:Hid (er=d∧tr=zeroN):=qh (by
    rcases HAS.out with h | h | h | h
    ·exact absurd rfl h.1
    ·exact h.2.2
    ·exact absurd h.2.1 hd0
    ·exact absurd h.2.1 hd0)
   clear n0 n1 n2 p6
   go_wp2
   refine ret_node2 (HR6.out.put _ _ _) rfl rfl rfl rfl ?_
   obtain ⟨rfl,rfl⟩:=hE.out
   exact ⟨_,_,_,rfl,zero_ndr _,by rw [HH.out];exact below_put3 HB6.out (by omega) _ _ _⟩
 ·have hc1:(c==0)=false:=by simp [hc0]
  have hE:Hid (er=c∧tr=zeroN):=qh (by
   rcases HAS.out with h | h | h | h
   ·exact h.2
   ·exact absurd h.1 hc0
   ·exact absurd h.1 hc0
   ·exact absurd h.1 hc0)
  clear x0 x1 x2 CX
  go_wp2
  refine ret_node2 (HR5.out.put _ _ _) rfl rfl rfl rfl ?_
  obtain ⟨rfl,rfl⟩:=hE.out
  exact ⟨_,_,_,rfl,zero_ndr _,by rw [HH.out];exact below_put3 HB5.out (by omega) _ _ _⟩
end Go.Proofs.YtcimcjmdkjajfaaGreatDoor
namespace Go.Proofs.YtcimcjmdkjajfaaGreatDoor
open Go.RowKit Go.Shelf
def Row4 (W:World) (b:Nat) (v0 v1 v2 v3:Value):Prop:=W.heap[b]?=some (.cells #[v0,v1,v2,v3] 40 (0,0))
section
variable {W W':World} {b:Nat} {v0 v1 v2 v3:Value}
theorem Row4.lt (h:Row4 W b v0 v1 v2 v3):b < W.heap.size:=heap_lt h
theorem Row4.below {n:Nat} (h:Row4 W b v0 v1 v2 v3) (hb:Below n W W') (hn:b < n):Row4 W' b v0 v1 v2 v3:=(hb.block b hn).trans h
theorem Row4.other (h:Row4 W b v0 v1 v2 v3) {p:Addr} (u:Value) (hn:b≠p.block):Row4 (W.setCell p u) b v0 v1 v2 v3:=(Below.heap_setCell _ _ _ _ hn).trans h
theorem Row4.cells (h:Row4 W b v0 v1 v2 v3):(W.cell? ⟨b,0,none⟩=some v0∧W.cell? ⟨b,1,none⟩=some v1∧W.cell? ⟨b,2,none⟩=some v2∧W.cell? ⟨b,3,none⟩=some v3)∧W.frozen? ⟨b,0,none⟩=false∧W.frozen? ⟨b,1,none⟩=false∧W.frozen? ⟨b,2,none⟩=false∧W.frozen? ⟨b,3,none⟩=false :=
 ⟨⟨cell_of_row _ _ _ _ _ _ h,cell_of_row _ _ _ _ _ _ h,cell_of_row _ _ _ _ _ _ h,cell_of_row _ _ _ _ _ _ h⟩,frozen_of_row _ _ _ _ _ h,frozen_of_row _ _ _ _ _ h,frozen_of_row _ _ _ _ _ h,frozen_of_row _ _ _ _ _ h⟩
abbrev put4 (W:World) (b:Nat) (u0 u1 u2 u3:Value):World:=(((W.setCell ⟨b,0,none⟩ u0).setCell ⟨b,1,none⟩ u1).setCell ⟨b,2,none⟩ u2).setCell ⟨b,3,none⟩ u3
theorem Row4.put (h:Row4 W b v0 v1 v2 v3) (u0 u1 u2 u3:Value):Row4 (put4 W b u0 u1 u2 u3) b u0 u1 u2 u3:=by
 have h0:W.heap[b]?=some (.cells #[v0,v1,v2,v3] 40 (0,0)):=h
 exact (setCell_row (setCell_row (setCell_row (setCell_row h0)))).trans rfl
theorem far4 {H:Nat} (u0 u1 u2 u3:Value) (hb:b≠H):(put4 W H u0 u1 u2 u3).heap[b]?=W.heap[b]? :=
 (Below.heap_setCell _ _ _ _ (by simp only;exact hb)).trans ((Below.heap_setCell _ _ _ _ (by simp only;exact hb)).trans ((Below.heap_setCell _ _ _ _ (by simp only;exact hb)).trans (Below.heap_setCell _ _ _ _ (by simp only;exact hb))))
theorem below_put4 {h H:Nat} {w:World} (hb:Below h w W) (hH:h≤H) (u0 u1 u2 u3:Value):Below h w (put4 W H u0 u1 u2 u3):=(below_put3 hb hH u0 u1 u2).setCell (p:=⟨H,3,none⟩) hH _
theorem ret_made {fn:Func} {t:Nat} {a:Act} {R:Ending→World→Prop} (h:Row4 W b v0 v1 v2 v3) (hr:fn.results=#[ResultVar.cell t 40]) (hd:a.defers=[]) (ha:(a.tmps[t]?).getD undef = .pointer (some ⟨b,0,none⟩))
  (hR:R (.returned (.agg #[v0,v1,v2,v3])) W):bodyPost Tryz.prog fn R .ret a W:=by
 obtain ⟨⟨c0,c1,c2,c3⟩,_⟩:=h.cells
 exact bodyPost_ret (v:=.agg #[v0,v1,v2,v3]) (by simp [results,hr,go_sem,ha,c0,c1,c2,c3]) hd hR
end
def MR (er:Int) (tr:Nd) (W:World) (e:Ending) (W':World):Prop :=
 ∃ u0 u1 u2,e = .returned (.agg #[u0,u1,u2,.int .i64 er])∧NdR W' tr u0 u1 u2∧Below W.heap.size W W'
end Go.Proofs.YtcimcjmdkjajfaaGreatDoor
namespace Go.Proofs.YtcimcjmdkjajfaaGreatDoor
open Go.RowKit Go.Shelf
attribute [local go_sem] Oper.semAt_some
def MRS (S:Nat→Prop) (er:Int) (tr:Nd) (W:World) (e:Ending) (W':World):Prop :=
 ∃ u0 u1 u2,e = .returned (.agg #[u0,u1,u2,.int .i64 er])∧NdS S W' tr u0 u1 u2∧Below W.heap.size W W'
set_option maxRecDepth 100000 in
set_option maxHeartbeats 1000000 in
theorem rChecked_any (S:Nat→Prop) (t:Nd) (v0 v1 v2:Value) (w:World) (ht:NdS S w t v0 v1 v2) (er:Int) (tr:Nd) (hc:chkN t=er) (hA:(er≠0∧tr=zeroN)∨(er=0∧tr=t)) :
  Calls Tryz.prog 83 #[.agg #[v0,v1,v2]] w (MRS S er tr w):=by
 obtain ⟨k0,s0,l0,a0,c0,rfl,rfl,rfl,rfl,_,_⟩:=ht.form
 obtain ⟨H,hH⟩:∃ H,w.heap.size=H:=⟨_,rfl⟩
 obtain ⟨W2,hW2⟩:∃ W2,(w.alloc (.cells #[.int .i64 k0,.string s0,.slice a0 l0.length c0] 24)).alloc (.cells #[.int .i64 0,.string ⟨#[]⟩,.slice none 0 0,.int .i64 0] 40)=W2:=⟨_,rfl⟩
 have z2:W2.heap.size=H+1+1:=by rw [←hW2];simp [hH]
 have B2:Below H w W2:=by rw [←hW2,←hH];exact ((Below.refl _ w).alloc (Nat.le_refl _) _).alloc (by simp) _
 have N2:Row3 W2 H (.int .i64 k0) (.string s0) (.slice a0 l0.length c0):=by
  rw [←hW2,←hH];exact (Below.heap_alloc _ _ _ (by simp)).trans (World.alloc_heap_new _ _)
 have R2:Row4 W2 (H+1) (.int .i64 0) (.string ⟨#[]⟩) (.slice none 0 0) (.int .i64 0):=by rw [←hW2,←hH];exact alloc_at (by simp)
 have CK:=qh (rCheckN _ W2 _ _ _ (ht.toR.later (by rw [hH];exact B2)))
 rw [hc] at CK
 have HT:=qh (NdS.lts ht)
 have HH:=qh hH
 have HZ:=qh z2
 have HAS:=qh hA
 have HB2:=qh B2
 have HN2:=qh N2
 have HR2:=qh R2
 obtain ⟨⟨n0,n1,n2⟩,_⟩:=N2.cells
 clear ht hc hA B2 N2 R2
 go_enter Tryz.func83,Tryz.ntmps83
 go_upto_region 1 with fail
 (try rw [hW2])
 (try rw [HH.out])
 clear hW2
 go_wp2_with fail
 refine CK.out.mono ?_
 rintro e w3 ⟨rfl,b3⟩
 have zz:=HZ.out
 have N3:Row3 w3 H (.int .i64 k0) (.string s0) (.slice a0 l0.length c0):=HN2.out.below b3 HN2.out.lt
 have R3:Row4 w3 (H+1) (.int .i64 0) (.string ⟨#[]⟩) (.slice none 0 0) (.int .i64 0):=HR2.out.below b3 HR2.out.lt
 have HB3:=qh (HB2.out.trans (b3.mono (by omega)))
 obtain ⟨⟨n0',n1',n2'⟩,_⟩:=N3.cells
 obtain ⟨⟨r0,r1,r2,r3⟩,q0,q1,q2,q3⟩:=R3.cells
 have HR3:=qh R3
 clear n0 n1 n2 N3 R3 CK HN2 HR2 HB2
 by_cases hc0:er=0
 ·subst hc0
  have hE:Hid (tr = .mk k0 s0 l0):=qh (by
   rcases HAS.out with h | h
   ·exact absurd rfl h.1
   ·exact h.2)
  go_wp2
  refine ret_made (HR3.out.put _ _ _ _) rfl rfl rfl ?_
  refine ⟨_,_,_,rfl,?_,by rw [HH.out];exact below_put4 HB3.out (by omega) _ _ _ _⟩
  rw [hE.out]
  have hh:=HH.out
  exact HT.out.keep (S':=S) (fun b (h1:S b∧b < w.heap.size) _=>⟨(below_put4 HB3.out (show H≤H+1 by omega) _ _ _ _).block b (by omega),h1.1⟩)
 ·have hc1:(er==0)=false:=by simp [hc0]
  have hE:Hid (tr=zeroN):=qh (by
   rcases HAS.out with h | h
   ·exact h.2
   ·exact absurd h.1 hc0)
  clear n0' n1' n2'
  go_wp2
  refine ret_made (HR3.out.put _ _ _ _) rfl rfl rfl ?_
  rw [hE.out]
  exact ⟨_,_,_,rfl,NdS.leaf _ _ _ _ (by decide) _ _,by rw [HH.out];exact below_put4 HB3.out (by omega) _ _ _ _⟩
set_option maxRecDepth 100000 in
set_option maxHeartbeats 2000000 in
theorem rAt_any (t:Nd) (v0 v1 v2 vp:Value) (p:List Int) (w:World) (ht:NdR w t v0 v1 v2) (hp:PathR w vp p) (er:Int) (tr:Nd) (hA:AtS (chkN t) (goN t p) er tr) :
  Calls Tryz.prog 31 #[.agg #[v0,v1,v2],vp] w (MR er tr w):=by
 obtain ⟨k0,s0,l0,a0,c0,rfl,rfl,rfl,rfl,_,_⟩:=ht.form
 obtain ⟨c,hc⟩:∃ c,chkN (.mk k0 s0 l0)=c:=⟨_,rfl⟩
 obtain ⟨r,hr⟩:∃ r,goN (.mk k0 s0 l0) p=r:=⟨_,rfl⟩
 obtain ⟨hpm,b,o,cap,a,rfl,hcap,ha,hcell⟩:=hp
 unfold maxLen at hpm
 obtain ⟨H,hH⟩:∃ H,w.heap.size=H:=⟨_,rfl⟩
 obtain ⟨W2,hW2⟩:∃ W2,(w.alloc (.cells #[.int .i64 k0,.string s0,.slice a0 l0.length c0] 24)).alloc (.cells #[.int .i64 0,.string ⟨#[]⟩,.slice none 0 0,.int .i64 0] 40)=W2:=⟨_,rfl⟩
 have z2:W2.heap.size=H+1+1:=by rw [←hW2];simp [hH]
 have B2:Below H w W2:=by rw [←hW2,←hH];exact ((Below.refl _ w).alloc (Nat.le_refl _) _).alloc (by simp) _
 have N2:Row3 W2 H (.int .i64 k0) (.string s0) (.slice a0 l0.length c0):=by
  rw [←hW2,←hH];exact (Below.heap_alloc _ _ _ (by simp)).trans (World.alloc_heap_new _ _)
 have R2:Row4 W2 (H+1) (.int .i64 0) (.string ⟨#[]⟩) (.slice none 0 0) (.int .i64 0):=by rw [←hW2,←hH];exact alloc_at (by simp)
 have CK:=qh (rCheckN _ W2 _ _ _ (ht.later (by rw [hH];exact B2)))
 rw [hc] at CK hA
 rw [hr] at hA
 have hcell':=qh (show ∀ wr,Below H w wr→∀ j (h:j < p.length),wr.cell? ⟨b,o+j,none⟩=some (.int .i64 p[j]) from fun wr hb j hj=>(hb.cell (p:=⟨b,o+j,none⟩) (by rw [←hH];exact lt_of_cell (hcell j hj))).trans (hcell j hj))
 have HT:=qh ht
 have HA:=qh ha
 have HH:=qh hH
 have HZ:=qh z2
 have HC:=qh hc
 have HR:=qh hr
 have HAS:=qh hA
 have HB2:=qh B2
 have HN2:=qh N2
 have HR2:=qh R2
 obtain ⟨⟨n0,n1,n2⟩,_⟩:=N2.cells
 clear ht ha hcell hc hr hA B2 N2 R2
 go_enter Tryz.func31,Tryz.ntmps31
 go_upto_region 1 with fail
 (try rw [hW2])
 (try rw [HH.out])
 clear hW2
 go_wp2_with fail
 refine CK.out.mono ?_
 rintro e w3 ⟨rfl,b3⟩
 have zz:=HZ.out
 have N3:Row3 w3 H (.int .i64 k0) (.string s0) (.slice a0 l0.length c0):=HN2.out.below b3 HN2.out.lt
 have R3:Row4 w3 (H+1) (.int .i64 0) (.string ⟨#[]⟩) (.slice none 0 0) (.int .i64 0):=HR2.out.below b3 HR2.out.lt
 have HB3:=qh (HB2.out.trans (b3.mono (by omega)))
 clear n0 n1 n2 CK HN2 HR2 HB2
 by_cases hc0:c=0
 ·subst hc0
  have FX:Hid (Below H w w3∧Row4 w3 (H+1) (.int .i64 0) (.string ⟨#[]⟩) (.slice none 0 0) (.int .i64 0)∧∃ k s l a c,Row3 w3 H (.int .i64 k) (.string s) (.slice a l.length c)∧NdR w (.mk k s l) (.int .i64 k) (.string s) (.slice a l.length c)∧r=goN (.mk k s l) (p.drop 0)) :=
   qh ⟨HB3.out,R3,k0,s0,l0,a0,c0,N3,HT.out,by rw [←HR.out];rfl⟩
  clear N3 R3 HR
  go_wp2
  go_loopw [6] (fun v wr=>∃ j:Nat,j≤p.length∧v = .int .i64 j∧Hid (Below H w wr∧Row4 wr (H+1) (.int .i64 0) (.string ⟨#[]⟩) (.slice none 0 0) (.int .i64 0)∧∃ k s l a c,Row3 wr H (.int .i64 k) (.string s) (.slice a l.length c)∧NdR w (.mk k s l) (.int .i64 k) (.string s) (.slice a l.length c)∧r=goN (.mk k s l) (p.drop j))) (fun v _=>p.length - (intOf v).toNat)
  case atStart=>exact ⟨0,Nat.zero_le _,rfl,FX⟩
  case round =>
   obtain ⟨j,hj,rfl,hF⟩:=hrel
   obtain ⟨B,R,k,s,l,a',c,N,T,hgo⟩:=hF.out
   have HB:=qh B
   have HR:=qh R
   have HN:=qh N
   have HT':=qh T
   have HG:=qh hgo
   obtain ⟨⟨n0,n1,n2⟩,m0,m1,m2⟩:=N.cells
   obtain ⟨⟨r0,r1,r2,r3⟩,q0,q1,q2,q3⟩:=R.cells
   have hsz:=N.lt
   clear hF FX B R N T hgo
   by_cases hlt:j < p.length
   ·have hlt':(j:Int) < (p.length:Int):=by omega
    have hj0:(0:Int)≤(j:Int):=by omega
    obtain rfl:=HA.out (by rintro rfl;simp at hlt)
    have pj:=hcell'.out wr HB.out j hlt
    obtain ⟨i,hi⟩:∃ i,p[j]=i:=⟨_,rfl⟩
    rw [hi] at pj
    have hdr:goN (.mk k s l) (p.drop j)=if h:0≤i∧i < (l.length:Int) then goN (l[i.toNat]'(by omega)) (p.drop (j+1)) else none:=by
     rw [←hi,List.drop_eq_getElem_cons hlt,goN]
    have HD:=qh hdr
    clear hi hdr
    have hnE:Hid (r=none→er=3∧tr=zeroN):=qh (fun e=>by
     rcases HAS.out with h | ⟨_,_,h⟩ | ⟨_,h,_⟩
     ·exact absurd rfl h.1
     ·exact h
     ·rw [e] at h;cases h)
    by_cases h1:i < 0
    ·have hd1:decide (i < 0)=true:=by simp [h1]
     have hno:Hid (r=none):=qh (by rw [HG.out,HD.out,dif_neg (by omega)])
     clear HG HD
     go_upto_region 7 with fail
     go_quiet (fail)
     all_goals (try go_wp2)
     refine ret_made ((Row4.put (W:=wr.drewN _) HR.out) _ _ _ _) rfl rfl rfl ?_
     obtain ⟨rfl,rfl⟩:=hnE.out hno.out
     exact ⟨_,_,_,rfl,zero_ndr _,by rw [HH.out];exact below_put4 (below_drewN HB.out _) (by omega) _ _ _ _⟩
    ·have hd1:decide (i < 0)=false:=by simp;omega
     by_cases h2:i < (l.length:Int)
     ·have h2':¬ ((l.length:Int)≤i):=by omega
      have h0':(0:Int)≤i:=by omega
      obtain ⟨m,rfl⟩:=Int.eq_ofNat_of_zero_le h0'
      obtain ⟨b1,o1,k1,s1,l1,a1,c1,rfl,e1,x0,x1,x2,T1⟩:=NdR.kid HT'.out m (by omega)
      have y0:=(HB.out.cell (p:=⟨b1,o1+m*3,none⟩) (by rw [←HH.out];exact lt_of_cell x0)).trans x0
      have y1:=(HB.out.cell (p:=⟨b1,o1+m*3+1,none⟩) (by rw [←HH.out];exact lt_of_cell x1)).trans x1
      have y2:=(HB.out.cell (p:=⟨b1,o1+m*3+2,none⟩) (by rw [←HH.out];exact lt_of_cell x2)).trans x2
      have hnext:Hid (r=goN (.mk k1 s1 l1) (p.drop (j+1))):=qh (by rw [HG.out,HD.out,dif_pos ⟨h0',h2⟩];simp only [Int.toNat_natCast];rw [e1])
      have HT1:=qh T1
      clear HG HD x0 x1 x2 T1 e1 HT'
      go_upto_region 7 with fail
      go_quiet (fail)
      generalize hW1:wr.drewN _=W1
      have b1':Below wr.heap.size wr W1:=by rw [←hW1];exact below_drewN (Below.refl _ _) _
      have N1:Row3 W1 H (.int .i64 k) (.string s) (.slice (some ⟨b1,o1,none⟩) l.length c):=HN.out.below b1' HN.out.lt
      have HB1:=qh (HB.out.trans (b1'.mono (show H≤wr.heap.size by omega)))
      have HR1:Hid (Row4 W1 (H+1) (.int .i64 0) (.string ⟨#[]⟩) (.slice none 0 0) (.int .i64 0)):=qh (HR.out.below b1' HR.out.lt)
      have pj1:=(b1'.cell (p:=⟨b,o+j,none⟩) (lt_of_cell pj)).trans pj
      have z0:=(b1'.cell (p:=⟨b1,o1+m*3,none⟩) (lt_of_cell y0)).trans y0
      have z1:=(b1'.cell (p:=⟨b1,o1+m*3+1,none⟩) (lt_of_cell y1)).trans y1
      have z2':=(b1'.cell (p:=⟨b1,o1+m*3+2,none⟩) (lt_of_cell y2)).trans y2
      have HN1:=qh N1
      clear hW1 b1' y0 y1 y2 pj n0 n1 n2 m0 m1 m2 r0 r1 r2 r3 q0 q1 q2 q3 HB HR HN
      obtain ⟨⟨n0,n1,n2⟩,m0,m1,m2⟩:=N1.cells
      clear N1
      (try go_upto_region 9 with fail)
      go_still_tail 8,(by kernel_rfl)
      change wpList _ _ _ _ _ W1.drew
      go_wp2
      go_roundw
      case rel=>exact ⟨j+1,hlt,by push_cast;rfl,qh ⟨below_put3 (HB1.out.drew) (Nat.le_refl _) _ _ _,(Row4.other (W:=W1.drew) HR1.out _ (by simp only;omega)).other _ (by simp only;omega) |>.other _ (by simp only;omega),k1,s1,l1,a1,c1,Row3.put (W:=W1.drew) HN1.out _ _ _,HT1.out,hnext.out⟩⟩
      case measure=>simp [intOf];omega
     ·have h2':(l.length:Int)≤i:=by omega
      have hno:Hid (r=none):=qh (by rw [HG.out,HD.out,dif_neg (by omega)])
      clear HG HD
      go_upto_region 7 with fail
      go_quiet (fail)
      all_goals (try go_wp2)
      refine ret_made ((Row4.put (W:=wr.drewN _) HR.out) _ _ _ _) rfl rfl rfl ?_
      obtain ⟨rfl,rfl⟩:=hnE.out hno.out
      exact ⟨_,_,_,rfl,zero_ndr _,by rw [HH.out];exact below_put4 (below_drewN HB.out _) (by omega) _ _ _ _⟩
   ·have hlt':¬ ((j:Int) < (p.length:Int)):=by omega
    have hend:Hid (er=0∧tr = .mk k s l):=qh (by
     have e:r=some (.mk k s l):=by rw [HG.out,List.drop_of_length_le (by omega)];rfl
     rcases HAS.out with h | ⟨_,h,_⟩ | ⟨_,h,h2⟩
     ·exact absurd rfl h.1
     ·rw [e] at h;cases h
     ·rw [e] at h;cases h;exact ⟨h2,rfl⟩)
    clear HG
    go_wp2
    refine ret_made (HR.out.put _ _ _ _) rfl rfl rfl ?_
    rw [hend.out.1,hend.out.2]
    have hh:=HH.out
    exact ⟨_,_,_,rfl,HT'.out.later (by rw [HH.out];exact below_put4 HB.out (by omega) _ _ _ _),by rw [HH.out];exact below_put4 HB.out (by omega) _ _ _ _⟩
 ·have hc1:(c==0)=false:=by simp [hc0]
  have hE:Hid (er=c∧tr=zeroN):=qh (by
   rcases HAS.out with h | h | h
   ·exact h.2
   ·exact absurd h.1 hc0
   ·exact absurd h.1 hc0)
  obtain ⟨⟨r0,r1,r2,r3⟩,q0,q1,q2,q3⟩:=R3.cells
  have HR3:=qh R3
  clear N3 R3
  go_wp2
  refine ret_made (HR3.out.put _ _ _ _) rfl rfl rfl ?_
  obtain ⟨rfl,rfl⟩:=hE.out
  exact ⟨_,_,_,rfl,zero_ndr _,by rw [HH.out];exact below_put4 HB3.out (by omega) _ _ _ _⟩
end Go.Proofs.YtcimcjmdkjajfaaGreatDoor
namespace Go.Proofs.YtcimcjmdkjajfaaGreatDoor
open Go.RowKit Go.Shelf
attribute [local go_sem] Oper.semAt_some
section
variable {ops:Array Oper} {rest:List Oper} {o:Oper} {a:Act} {Q:Exit→Act→World→Prop} {w:World}
theorem step_append_kidT {K:Act→World→Prop} {Ex:Prop} (hgd:o.guard=none) (s x:Operand)
  (ho:o.op = .call { callee:=.builtin .append,args:=#[s,x],argTypes:=#[22,22] })
  (S:Nat→Prop) (v:Value) (l:List Nd) (hs:a.eval s=v) (hk:KidsS S w v l) (ad:Addr) (c:Nat) (hx:a.eval x = .slice (some ad) 1 c) (t:Nd) (v0 v1 v2:Value)
  (hnews:∀ j u,[v0,v1,v2][j]?=some u→w.cell? (ad.add j)=some u) (hn:NdS (fun b=>S b∧v.ownBlock≠some b) w t v0 v1 v2) (hlen:l.length≤1000000) (hSn:S w.heap.size)
  (hK:∀ g cap w',KidsS S w' (.slice (some ⟨g,0,none⟩) (l.length+1) cap) (l++[t])→w.grownBy w' v.ownBlock→(v.ownBlock=some g∨g=w.heap.size)→K (a.put o.dst (.slice (some ⟨g,0,none⟩) (l.length+1) cap)) w') :
  if Region.wanted o (yielded ops a.tmps)=true then Oper.wp Tryz.prog o a w K Q else Ex:=by
 obtain ⟨i0,hi0,hz0,hz1,hz2⟩:=info_parts infoNode
 obtain ⟨xs,h1,hS,h2⟩:=hk
 refine step_append_lies w hgd s x 22 ho 0 24 i0 _ 3 48 Tryz.underlying22 hi0 hz0 hz1 hz2 rfl (by decide) v l.length xs hs h1 ad 1 c [v0,v1,v2] hx rfl hnews hn.ones (by decide) (by unfold maxLen;omega) (by omega) (Nat.zero_le _) _ rfl ?_
 intro g cap w' h3 h4 h5 h6
 exact hK g cap w' (KidsS.snoc h1 h2 hS hn h3 h4 h5 hSn) h4 h5
end
def Kp2 (H D:Nat) (ov:Value) (w wr w':World):Prop:=wr.heap.size≤w'.heap.size∧(∀ b,b < wr.heap.size→b≠D→ov.ownBlock≠some b→w'.heap[b]?=wr.heap[b]?)∧Below H w w'
section
variable {H D:Nat} {ov:Value} {w wr w' w'':World}
theorem Kp2.refl (h:Below H w wr):Kp2 H D ov w wr wr:=⟨Nat.le_refl _,fun _ _ _ _=>rfl,h⟩
theorem Kp2.later (k:Kp2 H D ov w wr w') (hH:H≤wr.heap.size) (hb:Below w'.heap.size w' w''):Kp2 H D ov w wr w'' :=
 ⟨Nat.le_trans k.1 hb.size,fun b h1 h2 h3=>(hb.block b (Nat.lt_of_lt_of_le h1 k.1)).trans (k.2.1 b h1 h2 h3),k.2.2.trans (hb.mono (Nat.le_trans hH k.1))⟩
theorem Kp2.drew (k:Kp2 H D ov w wr w'):Kp2 H D ov w wr w'.drew:=⟨k.1,k.2.1,k.2.2.drew⟩
theorem Kp2.alloc (k:Kp2 H D ov w wr w') (hH:H≤wr.heap.size) (o:Obj):Kp2 H D ov w wr (w'.alloc o):=k.later hH ((Below.refl _ _).alloc (Nat.le_refl _) _)
theorem Kp2.grown (k:Kp2 H D ov w wr w') (hH:H≤wr.heap.size) (hg:w'.grownBy w'' ov.ownBlock) (ho:∀ g,ov.ownBlock=some g→D < g) (hD:H≤D):Kp2 H D ov w wr w'' :=
 ⟨Nat.le_trans k.1 hg.size,fun b h1 h2 h3=>(hg.block b (Nat.lt_of_lt_of_le h1 k.1) (fun e=>h3 e.symm)).trans (k.2.1 b h1 h2 h3),k.2.2.grown hg (Nat.le_trans hH k.1) (fun g e=>by have:=ho g e;omega)⟩
theorem Kp2.set (k:Kp2 H D ov w wr w') (hD:H≤D) (v:Value):Kp2 H D ov w wr (w'.setCell ⟨D,2,none⟩ v) :=
 ⟨by rw [setCell_size];exact k.1,fun b h1 h2 h3=>(Below.heap_setCell _ _ _ _ (by simp only;exact h2)).trans (k.2.1 b h1 h2 h3),k.2.2.setCell (p:=⟨D,2,none⟩) hD _⟩
end
abbrev Sx2 (H D b1 o1 i:Nat) (ov:Value) (n2 x0 x1 x2 y0 y1 y2:Value) (w wr w':World):Prop :=
 w'.cell? ⟨H,2,none⟩=some n2∧w'.cell? ⟨H+1,0,none⟩=some x0∧w'.cell? ⟨H+1,1,none⟩=some x1∧w'.cell? ⟨H+1,2,none⟩=some x2∧w'.cell? ⟨b1,o1+i*3,none⟩=some y0∧w'.cell? ⟨b1,o1+i*3+1,none⟩=some y1∧w'.cell? ⟨b1,o1+i*3+2,none⟩=some y2∧Hid (Kp2 H D ov w wr w')
theorem sx_of {H D b1 o1 i:Nat} {ov n2 x0 x1 x2 y0 y1 y2:Value} {w wr w' w'':World} (S:Sx2 H D b1 o1 i ov n2 x0 x1 x2 y0 y1 y2 w wr w') (_hs:wr.heap.size≤w'.heap.size) (hD:H+1 < D) (hb1:b1 < H) (hDr:D < wr.heap.size) (ho:∀ g,ov.ownBlock=some g→D < g) (k0:∀ b,b=H∨b=H+1∨b=b1→w'.heap[b]?=wr.heap[b]?) (k:Kp2 H D ov w wr w''):Sx2 H D b1 o1 i ov n2 x0 x1 x2 y0 y1 y2 w wr w'':=by
 obtain ⟨c0,c1,c2,c3,c4,c5,c6,_⟩:=S
 have f:∀ b o v,(b=H∨b=H+1∨b=b1)→w'.cell? ⟨b,o,none⟩=some v→w''.cell? ⟨b,o,none⟩=some v:=fun b o v e hc =>
  (World.cell?_of_block (w:=w') ((k.2.1 b (by omega) (by omega) (fun e2=>by have:=ho b e2;omega)).trans (k0 b e).symm)).trans hc
 exact ⟨f _ _ _ (by simp) c0,f _ _ _ (by simp) c1,f _ _ _ (by simp) c2,f _ _ _ (by simp) c3,f _ _ _ (by simp) c4,f _ _ _ (by simp) c5,f _ _ _ (by simp) c6,qh k⟩
structure Fp (T:Nat→Prop) (H:Nat) (k:Int) (s:ByteArray) (n2 x0 x1 x2:Value) (l':List Nd) (w:World) (j:Nat) (wr:World):Prop where
 b:Below H w wr
 n:Row3 wr H (.int .i64 k) (.string s) n2
 x:Row3 wr (H+1) x0 x1 x2
 r:Row3 wr (H+1+1) (.int .i64 0) (.string ⟨#[]⟩) (.slice none 0 0)
 d:∃ oa oc,Row3 wr (H+1+1+1) (.int .i64 k) (.string s) (.slice oa j oc)∧KidsS (fun b=>T b∨H+1+1+1 < b) wr (.slice oa j oc) (l'.take j)∧∀ g,(Value.slice oa j oc).ownBlock=some g→H+1+1+1 < g
theorem Fp.next {T:Nat→Prop} {H j g6 cap6:Nat} {k:Int} {s:ByteArray} {n2 x0 x1 x2:Value} {l':List Nd} {w wr w8:World} {oa:Option Addr} {oc:Nat} {kid:Nd} (F:Fp T H k s n2 x0 x1 x2 l' w j wr) (ho:∀ g,(Value.slice oa j oc).ownBlock=some g→H+1+1+1 < g) (hT:∀ b,T b→b < H) (kp:Kp2 H (H+1+1+1) (.slice oa j oc) w wr w8)
  (hk:l'.take (j+1)=l'.take j++[kid]) (R:Row3 w8 (H+1+1+1) (.int .i64 k) (.string s) (.slice oa j oc)) (K:KidsS (fun b=>T b∨H+1+1+1 < b) w8 (.slice (some ⟨g6,0,none⟩) (j+1) cap6) (l'.take j++[kid])) (hg:H+1+1+1 < g6) :
  Fp T H k s n2 x0 x1 x2 l' w (j+1) (w8.setCell ⟨H+1+1+1,2,none⟩ (.slice (some ⟨g6,0,none⟩) (j+1) cap6)):=by
 have kp':=kp.set (by omega) (.slice (some ⟨g6,0,none⟩) (j+1) cap6)
 have old:∀ b,b < H+1+1+1→b < wr.heap.size→(w8.setCell ⟨H+1+1+1,2,none⟩ (.slice (some ⟨g6,0,none⟩) (j+1) cap6)).heap[b]?=wr.heap[b]?:=fun b h1 h2=>kp'.2.1 b h2 (by omega) (fun e=>by have:=ho b e;omega)
 exact ⟨kp'.2.2,(old _ (by omega) F.n.lt).trans F.n,(old _ (by omega) F.x.lt).trans F.x,(old _ (by omega) F.r.lt).trans F.r,_,_,R.put2 _,by rw [hk];exact K.keep fun b h1 _=>⟨Below.heap_setCell _ _ _ _ (show b≠H+1+1+1 from h1.elim (fun h=>by have:=hT b h;omega) (fun h=>by omega)),h1⟩,fun g e=>by cases e;exact hg⟩
theorem PathR.tail {w:World} {b o cap:Nat} {a:Option Addr} {i:Int} {p:List Int} (h0:(i :: p).length≤maxLen) (h1:(i :: p).length≤cap) (_h2:a=some ⟨b,o,none⟩) (h3:∀ j (h:j < (i :: p).length),w.cell? ⟨b,o+j,none⟩=some (.int .i64 (i :: p)[j])):PathR w (.slice (if cap=1 then some ⟨b,o,none⟩ else some ⟨b,o+1,none⟩) p.length (cap - 1)) p:=by
 simp only [List.length_cons] at h0 h1 h3
 refine ⟨by omega,b,o+1,cap - 1,_,rfl,by omega,fun hne=>if_neg (by have:=List.length_pos_iff.2 hne;omega),fun j hj=>?_⟩
 have:=h3 (j+1) (by omega)
 rw [show o+1+j=o+(j+1) from by omega]
 simpa using this
set_option maxRecDepth 100000 in
set_option maxHeartbeats 2000000 in
theorem rPut_any (T:Nat→Prop) (x:Nd):∀ (p:List Int) (t:Nd) (v0 v1 v2 vp x0 x1 x2:Value) (w:World) (_:∀ b,T b→b < w.heap.size) (_:NdS T w t v0 v1 v2) (_:PathR w vp p) (_:NdS T w x x0 x1 x2) (_:goN t p≠none) (_:t.sz≤90000),
  Calls Tryz.prog 91 #[.agg #[v0,v1,v2],vp,.agg #[x0,x1,x2]] w fun e W'=>∃ u0 u1 u2,e = .returned (.agg #[u0,u1,u2])∧NdS (fun b=>T b∨w.heap.size≤b) W' (putN t p x) u0 u1 u2∧Below w.heap.size w W':=by
 intro p
 induction p with
 | nil =>
  intro t v0 v1 v2 vp x0 x1 x2 w hT ht hp hx hg hz
  obtain ⟨k0,s0,l0,a0,c0,rfl,rfl,rfl,rfl,_,_⟩:=ht.form
  obtain ⟨kx,sx,lx,ax,c9,rfl,rfl,rfl,rfl,_,_⟩:=hx.form
  obtain ⟨hpm,b,o,cap,a,rfl,hcap,ha,hcell⟩:=hp
  obtain ⟨H,hH⟩:∃ H,w.heap.size=H:=⟨_,rfl⟩
  obtain ⟨W3,hW3⟩:∃ W3,((w.alloc (.cells #[.int .i64 k0,.string s0,.slice a0 l0.length c0] 24)).alloc (.cells #[.int .i64 kx,.string sx,.slice ax lx.length c9] 24)).alloc (.cells #[.int .i64 0,.string ⟨#[]⟩,.slice none 0 0] 24)=W3:=⟨_,rfl⟩
  have B3:Below H w W3:=by rw [←hW3,←hH];exact (((Below.refl _ w).alloc (Nat.le_refl _) _).alloc (by simp) _).alloc (by simp only [World.size_alloc];omega) _
  have X3:Row3 W3 (H+1) (.int .i64 kx) (.string sx) (.slice ax lx.length c9):=by
   rw [←hW3,←hH];exact (Below.heap_alloc _ _ _ (by simp only [World.size_alloc];omega)).trans (alloc_at (by simp))
  have R3:Row3 W3 (H+1+1) (.int .i64 0) (.string ⟨#[]⟩) (.slice none 0 0):=by rw [←hW3,←hH];exact alloc_at (by simp)
  obtain ⟨⟨x0,x1,x2⟩,_⟩:=X3.cells
  obtain ⟨⟨r0,r1,r2⟩,q0,q1,q2⟩:=R3.cells
  have HB3:=qh B3
  have HR3:=qh R3
  have HX:=qh hx
  have HT:=qh hT
  have HH:=qh hH
  have hput:putN (.mk k0 s0 l0) [] (.mk kx sx lx) = .mk kx sx lx:=rfl
  rw [hput]
  clear B3 X3 R3 hx ht hT ha hcell hg hput
  go_enter Tryz.func91,Tryz.ntmps91
  go_upto_region 1 with fail
  (try rw [hW3])
  (try rw [HH.out])
  clear hW3
  go_wp2
  refine ret_node (HR3.out.put _ _ _) rfl rfl rfl ?_
  have hh:=HH.out
  refine ⟨_,_,_,rfl,HX.out.keep (fun b h1 h2=>⟨(below_put3 HB3.out (show H≤H+1+1 by omega) _ _ _).block b (by omega),Or.inl h1⟩),?_⟩
  first
   | exact below_put3 HB3.out (by omega) _ _ _
   | (rw [HH.out];exact below_put3 HB3.out (by omega) _ _ _)
 | cons i p ih =>
  intro t v0 v1 v2 vp x0 x1 x2 w hT ht hp hx hg hz
  obtain ⟨k0,s0,l0,a0,c0,rfl,rfl,rfl,rfl,hs0,hl0⟩:=ht.form
  obtain ⟨kx,sx,lx,ax,c9,rfl,rfl,rfl,rfl,_,_⟩:=hx.form
  obtain ⟨hpm,b,o,cap,a,rfl,hcap,ha,hcell⟩:=hp
  obtain rfl:=ha (by simp)
  have hi:0≤i∧i < (l0.length:Int):=by
   by_cases h:0≤i∧i < (l0.length:Int)
   ·exact h
   ·exact absurd (by simp only [goN,dif_neg h]) hg
  obtain ⟨m,rfl⟩:=Int.eq_ofNat_of_zero_le hi.1
  have hm:m < l0.length:=by omega
  simp only [goN,dif_pos hi,Int.toNat_natCast] at hg
  have hput:putN (.mk k0 s0 l0) ((m:Int) :: p) (.mk kx sx lx) = .mk k0 s0 (l0.set m (putN l0[m] p (.mk kx sx lx))):=by simp only [putN,dif_pos hi,Int.toNat_natCast]
  rw [hput]
  obtain ⟨y,hy⟩:∃ y,putN l0[m] p (.mk kx sx lx)=y:=⟨_,rfl⟩
  rw [hy]
  obtain ⟨l',hl'⟩:∃ l',l0.set m y=l':=⟨_,rfl⟩
  rw [hl']
  have hll:l'.length=l0.length:=by rw [←hl'];simp
  have hpt:=qh (PathR.tail hpm hcap rfl hcell)
  have h00:w.cell? ⟨b,o,none⟩=some (.int .i64 m):=by have:=hcell 0 (by simp);simpa using this
  simp only [List.length_cons] at hpm hcap ⊢
  unfold maxLen at hpm
  obtain ⟨H,hH⟩:∃ H,w.heap.size=H:=⟨_,rfl⟩
  obtain ⟨W3,hW3⟩:∃ W3,((w.alloc (.cells #[.int .i64 k0,.string s0,.slice a0 l0.length c0] 24)).alloc (.cells #[.int .i64 kx,.string sx,.slice ax lx.length c9] 24)).alloc (.cells #[.int .i64 0,.string ⟨#[]⟩,.slice none 0 0] 24)=W3:=⟨_,rfl⟩
  have z3:W3.heap.size=H+1+1+1:=by rw [←hW3];simp [hH]
  have B3:Below H w W3:=by rw [←hW3,←hH];exact (((Below.refl _ w).alloc (Nat.le_refl _) _).alloc (by simp) _).alloc (by simp only [World.size_alloc];omega) _
  have N3:Row3 W3 H (.int .i64 k0) (.string s0) (.slice a0 l0.length c0):=by
   rw [←hW3,←hH];exact (Below.heap_alloc _ _ _ (by simp only [World.size_alloc];omega)).trans ((Below.heap_alloc _ _ _ (by simp only [World.size_alloc];omega)).trans (World.alloc_heap_new _ _))
  have X3:Row3 W3 (H+1) (.int .i64 kx) (.string sx) (.slice ax lx.length c9):=by
   rw [←hW3,←hH];exact (Below.heap_alloc _ _ _ (by simp only [World.size_alloc];omega)).trans (alloc_at (by simp))
  have R3:Row3 W3 (H+1+1) (.int .i64 0) (.string ⟨#[]⟩) (.slice none 0 0):=by rw [←hW3,←hH];exact alloc_at (by simp)
  obtain ⟨W4,hW4⟩:∃ W4,W3.alloc (.cells #[.int .i64 k0,.string s0,.slice none 0 0] 24)=W4:=⟨_,rfl⟩
  have D4:Row3 W4 (H+1+1+1) (.int .i64 k0) (.string s0) (.slice none 0 0):=by rw [←hW4];exact alloc_at z3.symm
  have B4:Below H w W4:=by rw [←hW4];exact B3.alloc (by omega) _
  obtain ⟨W5,hW5⟩:∃ W5,W4.setCell ⟨H+1+1+1,2,none⟩ (.slice none 0 0)=W5:=⟨_,rfl⟩
  have D5:Row3 W5 (H+1+1+1) (.int .i64 k0) (.string s0) (.slice none 0 0):=by rw [←hW5];exact D4.put2 _
  have o5:∀ b',b'≠H+1+1+1→W5.heap[b']?=W4.heap[b']?:=fun b' hb=>by rw [←hW5];exact Below.heap_setCell _ _ _ _ (by simp only;exact hb)
  have FX:Hid (Fp T H k0 s0 (.slice a0 l0.length c0) (.int .i64 kx) (.string sx) (.slice ax lx.length c9) l' w 0 W5) :=
   qh ⟨by rw [←hW5];exact B4.setCell (p:=⟨H+1+1+1,2,none⟩) (by simp only;omega) _,(o5 _ (by omega)).trans (by rw [←hW4];exact N3.alloc _),(o5 _ (by omega)).trans (by rw [←hW4];exact X3.alloc _),(o5 _ (by omega)).trans (by rw [←hW4];exact R3.alloc _),none,0,D5,⟨[],World.ownsRow_nil _ _ _ _,(fun g e=>by cases e),fun i hi=>absurd hi (Nat.not_lt_zero i)⟩,(fun g e=>by cases e)⟩
  obtain ⟨⟨n0,n1,n2⟩,_⟩:=N3.cells
  obtain ⟨⟨d0,d1,d2⟩,e0,e1,e2⟩:=D4.cells
  have HH:=qh hH
  have HTT:Hid (∀ b,T b→b < H):=qh (fun b h=>by rw [←hH];exact hT b h)
  have HT:=qh ht
  have HX:=qh hx
  have HG:=qh hg
  have HY:=qh hy
  have HL':=qh hl'
  have HLL:=qh hll
  have HIH:=qh ih
  have H00:=qh h00
  have HS0:=qh hs0
  have HZ:Hid (1+Nd.szL l0≤90000):=qh (by simpa only [Nd.sz] using hz)
  have hlz:l0.length≤90000:=by have:=len_le_szL l0;have:=HZ.out;omega
  have hne:(((p.length+1:Nat):Int)==0)=false:=by simp;omega
  have hne2:((p.length:Int)+1==0)=false:=by simp;omega
  have hne3:¬ ((p.length:Int)+1=0):=by omega
  have hp1:(0:Int) < (p.length:Int)+1:=by omega
  have hp2:(1:Int)≤(p.length:Int)+1:=by omega
  have hcap2:(p.length:Int)+1≤(cap:Int):=by omega
  clear ht hx hT ha hcell hg hput hy hl' hll ih h00 hs0 hl0 hz B3 B4 N3 X3 R3 D4 D5 o5
  go_enter Tryz.func91,Tryz.ntmps91
  go_upto_region 1 with fail
  (try rw [hW3])
  (try rw [HH.out])
  go_upto_region 4 with fail
  (try rw [hW4])
  (try rw [hW5])
  clear hW3 hW4 hW5 n0 n1 n2 d0 d1 d2 e0 e1 e2 z3
  go_wp2
  go_loopw [8] (fun v wr=>∃ j:Nat,j≤l0.length∧v = .int .i64 j∧Hid (Fp T H k0 s0 (.slice a0 l0.length c0) (.int .i64 kx) (.string sx) (.slice ax lx.length c9) l' w j wr)) (fun v _=>l0.length - (intOf v).toNat)
  case atStart=>exact ⟨0,Nat.zero_le _,rfl,FX⟩
  case round =>
   obtain ⟨j,hj,rfl,hF⟩:=hrel
   clear FX
   by_cases hlt:j < l0.length
   ·have hlt':(j:Int) < (l0.length:Int):=by omega
    have hj0:(0:Int)≤(j:Int):=by omega
    obtain ⟨b1,o1,k1,s1,l1,a1,c1,rfl,e1,g0,g1,g2,r1⟩:=NdS.kid HT.out j hlt
    have hb1:b1 < H:=by rw [←HH.out];exact lt_of_cell g0
    have y0:=(hF.out.b.cell (p:=⟨b1,o1+j*3,none⟩) hb1).trans g0
    have y1:=(hF.out.b.cell (p:=⟨b1,o1+j*3+1,none⟩) hb1).trans g1
    have y2:=(hF.out.b.cell (p:=⟨b1,o1+j*3+2,none⟩) hb1).trans g2
    clear g0 g1 g2
    obtain ⟨oa,oc,dr,kd,hown⟩:=hF.out.d
    have pj:=(hF.out.b.cell (p:=⟨b,o,none⟩) (by rw [←HH.out];exact lt_of_cell H00.out)).trans H00.out
    have hDr:=dr.lt
    have hHw:H≤wr.heap.size:=by omega
    have SD:Sx2 H (H+1+1+1) b1 o1 j (.slice oa j oc) (.slice (some ⟨b1,o1,none⟩) l0.length c0) (.int .i64 kx) (.string sx) (.slice ax lx.length c9) (.int .i64 k1) (.string s1) (.slice a1 l1.length c1) w wr wr.drew :=
     ⟨hF.out.n.cells.1.2.2,hF.out.x.cells.1.1,hF.out.x.cells.1.2.1,hF.out.x.cells.1.2.2,y0,y1,y2,qh (Kp2.refl hF.out.b).drew⟩
    have SXO:=qh (fun (w'':World) (k:Kp2 H (H+1+1+1) (.slice oa j oc) w wr w'')=>sx_of SD (Nat.le_refl _) (by omega) hb1 hDr hown (fun _ _=>rfl) k)
    have d5:wr.drew.cell? ⟨H+1+1+1,2,none⟩=some (.slice oa j oc):=dr.cells.1.2.2
    have DR:=qh dr
    have KD:=qh kd
    have HOWN:=qh hown
    have HOWB:=qh (fun g e=>kd.base0.own g e)
    obtain ⟨⟨n0,n1,n2⟩,_⟩:=hF.out.n.cells
    have hli:(l'.take j).length=j:=by rw [List.length_take,HLL.out];omega
    have HLI:=qh hli
    clear kd hown dr hli
    by_cases hjm:j=m
    ·subst hjm
     have hjm':((j:Int)==(j:Int))=true:=by simp
     obtain ⟨kid,hkid⟩:∃ kid,l0[j]=kid:=⟨_,rfl⟩
     have HTK:Hid (l'.take (j+1)=l'.take j++[y]):=qh (by rw [List.take_succ_eq_append_getElem (by rw [HLL.out];omega)];congr 2;simp only [←HL'.out];simp)
     have CI:=qh (HIH.out l0[j] _ _ _ _ _ _ _ wr.drew (fun b' h=>by have:=HTT.out b' h;exact Nat.lt_of_lt_of_le this hHw) (by rw [e1];exact r1.keep (w':=wr.drew) fun b' h1 _=>⟨hF.out.b.block b' (HTT.out b' h1),h1⟩) (hpt.out.later (w':=wr.drew) (by rw [HH.out];exact hF.out.b.drew)) (HX.out.keep (w':=wr.drew) fun b' h1 _=>⟨hF.out.b.block b' (HTT.out b' h1),h1⟩) HG.out (by have:=szL_get l0 j hlt;have:=HZ.out;omega))
     rw [HY.out] at CI
     obtain ⟨A1,hA1⟩:∃ A1:Option Addr,(if cap=1 then some ⟨b,o,none⟩ else some ⟨b,o+1,none⟩)=A1:=⟨_,rfl⟩
     rw [hA1] at CI
     clear y0 y1 y2 r1 e1 hkid
     go_upto_region 8 with fail
     refine wp_region_held_drew (S:=(fun w'=>w'.cell? ⟨H,2,none⟩=some (.slice (some ⟨b1,o1,none⟩) l0.length c0)∧w'.cell? ⟨H+1,0,none⟩=some (.int .i64 kx)∧w'.cell? ⟨H+1,1,none⟩=some (.string sx)∧w'.cell? ⟨H+1,2,none⟩=some (.slice ax lx.length c9)∧w'.cell? ⟨b1,o1+j*3,none⟩=some (.int .i64 k1)∧w'.cell? ⟨b1,o1+j*3+1,none⟩=some (.string s1)∧w'.cell? ⟨b1,o1+j*3+2,none⟩=some (.slice a1 l1.length c1)∧Hid (Kp2 H (H+1+1+1) (.slice oa j oc) w wr w'))) (by kernel_rfl) SD (fun hHeld=>?_)
     refine wpAnyH_take (i:=0) (v:=?_) rfl (by kernel_rfl) (by kernel_rfl) (by kernel_rfl) (fun _ _ _ h=>h) (Or.inl ⟨by rfl,?_⟩) (by assumption) ?_
     rotate_left
     ·(intro w hSw;(try dsimp only at hSw);go_simp;try with_reducible rfl)
     try simp only [Act.put,List.setIfInBounds_toArray]
     refine wpAnyH_take (i:=2) (v:=?_) rfl (by kernel_rfl) (by kernel_rfl) (by kernel_rfl) (fun _ _ _ h=>h) (Or.inl ⟨by rfl,?_⟩) (by assumption) ?_
     rotate_left
     ·(intro w hSw;(try dsimp only at hSw);go_simp;try with_reducible rfl)
     try simp only [Act.put]
     refine wpAnyH_take (i:=3) (v:=?_) rfl (by kernel_rfl) (by kernel_rfl) (by kernel_rfl) (fun _ _ _ h=>h) (Or.inl ⟨by rfl,?_⟩) (by assumption) ?_
     rotate_left
     ·(intro w hSw;(try dsimp only at hSw);go_simp;try with_reducible rfl)
     try simp only [Act.put]
     refine wpAnyH_take (i:=4) (v:=?_) rfl (by kernel_rfl) (by kernel_rfl) (by kernel_rfl) (fun _ _ _ h=>h) (Or.inl ⟨by rfl,?_⟩) (by assumption) ?_
     rotate_left
     ·(intro w hSw;(try dsimp only at hSw);go_simp;try with_reducible rfl)
     try simp only [Act.put]
     refine wpAnyH_take (i:=5) (v:=?_) rfl (by kernel_rfl) (by kernel_rfl) (by kernel_rfl) (fun _ _ _ h=>h) (Or.inl ⟨by rfl,?_⟩) (by assumption) ?_
     rotate_left
     ·(intro w hSw;(try dsimp only at hSw);go_simp;try with_reducible rfl)
     try simp only [Act.put]
     refine wpAnyH_take (i:=6) (v:=?_) rfl (by kernel_rfl) (by kernel_rfl) (by kernel_rfl) (fun _ _ _ h=>h) (Or.inl ⟨by rfl,?_⟩) (by assumption) ?_
     rotate_left
     ·(intro w hSw;(try dsimp only at hSw);go_simp;try with_reducible rfl)
     try simp only [Act.put]
     refine wpAnyH_take (i:=7) (v:=?_) rfl (by kernel_rfl) (by kernel_rfl) (by kernel_rfl) (fun _ _ _ h=>h) (Or.inl ⟨by rfl,?_⟩) (by assumption) ?_
     rotate_left
     ·(intro w hSw;(try dsimp only at hSw);go_simp;try with_reducible rfl)
     try simp only [Act.put]
     refine wpAnyH_take (i:=8) (v:=?_) rfl (by kernel_rfl) (by kernel_rfl) (by kernel_rfl) (fun _ _ _ h=>h) (Or.inl ⟨by rfl,?_⟩) (by assumption) ?_
     rotate_left
     ·(intro w hSw;(try dsimp only at hSw);go_simp;try with_reducible rfl)
     try simp only [Act.put]
     refine wpAnyH_take (i:=9) (v:=?_) rfl (by kernel_rfl) (by kernel_rfl) (by kernel_rfl) (fun _ _ _ h=>h) (Or.inl ⟨by rfl,?_⟩) (by assumption) ?_
     rotate_left
     ·(intro w hSw;(try dsimp only at hSw);go_simp;try with_reducible rfl)
     try simp only [Act.put]
     refine wpAnyH_ready (rs:=[1,10]) (by kernel_rfl) (by simp) ?_
     refine AllReadyH.cons rfl (fun K hK=>?_) ?_
     ·skip
      go_simp
      refine hK.out _ _ ?_ (fun hHeld=>?_)
      ·exact SD
      clear hK K
      try simp only [Act.put,List.setIfInBounds_toArray,List.set_cons_zero,List.set_cons_succ]
      refine wpAnyH_ready (rs:=[10]) (by kernel_rfl) (by simp) ?_
      refine AllReadyH.cons rfl (fun K hK=>?_) ?_
      ·skip
       go_simp
       refine CI.out.mono ?_
       rintro e w7 ⟨u0,u1,u2,rfl,t7,b7⟩
       obtain ⟨k7,q7,l7,a7,c7,ek7,rfl,rfl,rfl,_,_⟩:=t7.form
       have KP7:=qh (SD.2.2.2.2.2.2.2.out.later hHw b7)
       have SS7:=SXO.out _ KP7.out
       have hz7:wr.heap.size≤w7.heap.size:=KP7.out.1
       have K7D:Hid (KidsS (fun b=>T b∨H+1+1+1 < b) w7 (.slice oa j oc) (l'.take j)):=qh (KD.out.keep fun b' h1 h2=>⟨b7.block b' h2,h1⟩)
       have R7D:Hid (Row3 w7 (H+1+1+1) (.int .i64 k0) (.string s0) (.slice oa j oc)):=qh ((b7.block _ hDr).trans DR.out)
       have T7:=qh t7
       have d7:w7.cell? ⟨H+1+1+1,2,none⟩=some (.slice oa j oc):=R7D.out.cells.1.2.2
       have d7':=(fun x=>(World.cell?_alloc_past (w:=w7) x (H+1+1+1) 2 (by omega)).trans d7)
       clear b7 t7 ek7
       go_wp2_with fail
       refine hK.out _ _ ?_ (fun hHeld=>?_)
       ·exact SS7
       clear hK K
       try simp only [Act.put,List.setIfInBounds_toArray,List.set_cons_zero,List.set_cons_succ]
       refine wpAnyH_ready (rs:=[11]) (by kernel_rfl) (by simp) ?_
       refine AllReadyH.cons rfl (fun K hK=>?_) ?_
       ·skip
        go_simp
        refine hK.out _ _ ?_ (fun hHeld=>?_)
        ·exact (SXO.out _ (KP7.out.alloc hHw _))
        clear hK K
        try simp only [Act.put,List.setIfInBounds_toArray,List.set_cons_zero,List.set_cons_succ]
        refine wpAnyH_ready (rs:=[12]) (by kernel_rfl) (by simp) ?_
        refine AllReadyH.cons rfl (fun K hK=>?_) ?_
        ·skip
         refine step_append_kidT rfl _ _ rfl (fun b=>T b∨H+1+1+1 < b) (.slice oa j oc) (l'.take j) rfl (K7D.out.keep fun b' h1 h2=>⟨Below.heap_alloc _ _ _ h2,h1⟩) ⟨w7.heap.size,0,none⟩ 1 (by rfl) y (.int .i64 k7) (.string q7) (.slice a7 l7.length c7) (cells3 w7 _ _ _ _ _ rfl) (T7.out.keep (fun b' (h1:T b'∨wr.heap.size≤b') h2=>⟨Below.heap_alloc _ _ _ h2,(h1.imp id (fun h=>by omega)),fun e=>by have:=HOWB.out b' e;have:=HOWN.out b' e;exact h1.elim (fun h=>by have:=HTT.out b' h;omega) (fun h=>by omega)⟩)) (by rw [HLI.out];omega) (Or.inr (show H+1+1+1 < (World.alloc w7 _).heap.size by rw [World.size_alloc];omega)) ?_
         intro g6 cap6 w8 K8 G8 hg8
         rw [HLI.out] at K8 ⊢
         have KP8:=qh ((KP7.out.alloc hHw _).grown hHw G8 HOWN.out (by omega))
         have SS8:=SXO.out _ KP8.out
         have R8:=qh ((R7D.out.alloc _).grown' G8 (fun e=>by have:=HOWN.out _ e.symm;omega))
         have HG8:Hid (H+1+1+1 < g6):=qh (by
          rcases hg8 with h | h
          ·exact HOWN.out _ h
          ·have h9:g6=(World.alloc w7 _).heap.size:=h
           rw [h9,World.size_alloc];omega)
         obtain ⟨⟨y0,y1,y2⟩,z0,z1,z2⟩:=R8.out.cells
         have HK8:=qh K8
         clear K8 G8 hg8
         refine hK.out _ _ ?_ (fun hHeld=>?_)
         ·exact SS8
         clear hK K
         try simp only [Act.put,List.setIfInBounds_toArray]
         refine wpAnyH_take (i:=13) (v:=?_) rfl (by kernel_rfl) (by kernel_rfl) (by kernel_rfl) (fun _ _ _ h=>h) (Or.inl ⟨by rfl,?_⟩) (by assumption) ?_
         rotate_left
         ·(intro w hSw;(try dsimp only at hSw);go_simp;try with_reducible rfl)
         try simp only [Act.put]
         refine wpAnyH_ready (rs:=[14]) (by kernel_rfl) (by simp) ?_
         refine AllReadyH.cons rfl (fun K hK=>?_) ?_
         ·skip
          go_simp
          refine hK.out _ _ ?_ (fun hHeld=>?_)
          ·exact (SXO.out _ (KP8.out.set (by omega) _))
          clear hK K
          try simp only [Act.put,List.setIfInBounds_toArray,List.set_cons_zero,List.set_cons_succ]
          refine wpAnyH_done (by kernel_rfl) ?_ _
          have HFN:=qh (Fp.next hF.out HOWN.out HTT.out KP8.out HTK.out R8.out HK8.out HG8.out)
          clear SD SS7 SS8 d5 d7 d7' y0 y1 y2 z0 z1 z2
          go_wp2
          go_roundw
          case rel=>exact ⟨j+1,hlt,by push_cast;rfl,HFN⟩
          case measure=>simp [intOf];omega
         exact AllReadyH.nil
        exact AllReadyH.nil
       exact AllReadyH.nil
      exact AllReadyH.nil
     refine AllReadyH.cons rfl (fun K hK=>?_) ?_
     ·skip
      go_simp
      refine CI.out.mono ?_
      rintro e w7 ⟨u0,u1,u2,rfl,t7,b7⟩
      obtain ⟨k7,q7,l7,a7,c7,ek7,rfl,rfl,rfl,_,_⟩:=t7.form
      have KP7:=qh (SD.2.2.2.2.2.2.2.out.later hHw b7)
      have SS7:=SXO.out _ KP7.out
      have hz7:wr.heap.size≤w7.heap.size:=KP7.out.1
      have K7D:Hid (KidsS (fun b=>T b∨H+1+1+1 < b) w7 (.slice oa j oc) (l'.take j)):=qh (KD.out.keep fun b' h1 h2=>⟨b7.block b' h2,h1⟩)
      have R7D:Hid (Row3 w7 (H+1+1+1) (.int .i64 k0) (.string s0) (.slice oa j oc)):=qh ((b7.block _ hDr).trans DR.out)
      have T7:=qh t7
      have d7:w7.cell? ⟨H+1+1+1,2,none⟩=some (.slice oa j oc):=R7D.out.cells.1.2.2
      have d7':=(fun x=>(World.cell?_alloc_past (w:=w7) x (H+1+1+1) 2 (by omega)).trans d7)
      clear b7 t7 ek7
      go_wp2_with fail
      refine hK.out _ _ ?_ (fun hHeld=>?_)
      ·exact SS7
      clear hK K
      try simp only [Act.put,List.setIfInBounds_toArray,List.set_cons_zero,List.set_cons_succ]
      refine wpAnyH_ready (rs:=[1,11]) (by kernel_rfl) (by simp) ?_
      refine AllReadyH.cons rfl (fun K hK=>?_) ?_
      ·skip
       go_simp
       refine hK.out _ _ ?_ (fun hHeld=>?_)
       ·exact SS7
       clear hK K
       try simp only [Act.put,List.setIfInBounds_toArray,List.set_cons_zero,List.set_cons_succ]
       refine wpAnyH_ready (rs:=[11]) (by kernel_rfl) (by simp) ?_
       refine AllReadyH.cons rfl (fun K hK=>?_) ?_
       ·skip
        go_simp
        refine hK.out _ _ ?_ (fun hHeld=>?_)
        ·exact (SXO.out _ (KP7.out.alloc hHw _))
        clear hK K
        try simp only [Act.put,List.setIfInBounds_toArray,List.set_cons_zero,List.set_cons_succ]
        refine wpAnyH_ready (rs:=[12]) (by kernel_rfl) (by simp) ?_
        refine AllReadyH.cons rfl (fun K hK=>?_) ?_
        ·skip
         refine step_append_kidT rfl _ _ rfl (fun b=>T b∨H+1+1+1 < b) (.slice oa j oc) (l'.take j) rfl (K7D.out.keep fun b' h1 h2=>⟨Below.heap_alloc _ _ _ h2,h1⟩) ⟨w7.heap.size,0,none⟩ 1 (by rfl) y (.int .i64 k7) (.string q7) (.slice a7 l7.length c7) (cells3 w7 _ _ _ _ _ rfl) (T7.out.keep (fun b' (h1:T b'∨wr.heap.size≤b') h2=>⟨Below.heap_alloc _ _ _ h2,(h1.imp id (fun h=>by omega)),fun e=>by have:=HOWB.out b' e;have:=HOWN.out b' e;exact h1.elim (fun h=>by have:=HTT.out b' h;omega) (fun h=>by omega)⟩)) (by rw [HLI.out];omega) (Or.inr (show H+1+1+1 < (World.alloc w7 _).heap.size by rw [World.size_alloc];omega)) ?_
         intro g6 cap6 w8 K8 G8 hg8
         rw [HLI.out] at K8 ⊢
         have KP8:=qh ((KP7.out.alloc hHw _).grown hHw G8 HOWN.out (by omega))
         have SS8:=SXO.out _ KP8.out
         have R8:=qh ((R7D.out.alloc _).grown' G8 (fun e=>by have:=HOWN.out _ e.symm;omega))
         have HG8:Hid (H+1+1+1 < g6):=qh (by
          rcases hg8 with h | h
          ·exact HOWN.out _ h
          ·have h9:g6=(World.alloc w7 _).heap.size:=h
           rw [h9,World.size_alloc];omega)
         obtain ⟨⟨y0,y1,y2⟩,z0,z1,z2⟩:=R8.out.cells
         have HK8:=qh K8
         clear K8 G8 hg8
         refine hK.out _ _ ?_ (fun hHeld=>?_)
         ·exact SS8
         clear hK K
         try simp only [Act.put,List.setIfInBounds_toArray]
         refine wpAnyH_take (i:=13) (v:=?_) rfl (by kernel_rfl) (by kernel_rfl) (by kernel_rfl) (fun _ _ _ h=>h) (Or.inl ⟨by rfl,?_⟩) (by assumption) ?_
         rotate_left
         ·(intro w hSw;(try dsimp only at hSw);go_simp;try with_reducible rfl)
         try simp only [Act.put]
         refine wpAnyH_ready (rs:=[14]) (by kernel_rfl) (by simp) ?_
         refine AllReadyH.cons rfl (fun K hK=>?_) ?_
         ·skip
          go_simp
          refine hK.out _ _ ?_ (fun hHeld=>?_)
          ·exact (SXO.out _ (KP8.out.set (by omega) _))
          clear hK K
          try simp only [Act.put,List.setIfInBounds_toArray,List.set_cons_zero,List.set_cons_succ]
          refine wpAnyH_done (by kernel_rfl) ?_ _
          have HFN:=qh (Fp.next hF.out HOWN.out HTT.out KP8.out HTK.out R8.out HK8.out HG8.out)
          clear SD SS7 SS8 d5 d7 d7' y0 y1 y2 z0 z1 z2
          go_wp2
          go_roundw
          case rel=>exact ⟨j+1,hlt,by push_cast;rfl,HFN⟩
          case measure=>simp [intOf];omega
         exact AllReadyH.nil
        exact AllReadyH.nil
       exact AllReadyH.nil
      refine AllReadyH.cons rfl (fun K hK=>?_) ?_
      ·skip
       go_simp
       refine hK.out _ _ ?_ (fun hHeld=>?_)
       ·exact (SXO.out _ (KP7.out.alloc hHw _))
       clear hK K
       try simp only [Act.put,List.setIfInBounds_toArray,List.set_cons_zero,List.set_cons_succ]
       refine wpAnyH_ready (rs:=[1]) (by kernel_rfl) (by simp) ?_
       refine AllReadyH.cons rfl (fun K hK=>?_) ?_
       ·skip
        go_simp
        refine hK.out _ _ ?_ (fun hHeld=>?_)
        ·exact (SXO.out _ (KP7.out.alloc hHw _))
        clear hK K
        try simp only [Act.put,List.setIfInBounds_toArray,List.set_cons_zero,List.set_cons_succ]
        refine wpAnyH_ready (rs:=[12]) (by kernel_rfl) (by simp) ?_
        refine AllReadyH.cons rfl (fun K hK=>?_) ?_
        ·skip
         refine step_append_kidT rfl _ _ rfl (fun b=>T b∨H+1+1+1 < b) (.slice oa j oc) (l'.take j) rfl (K7D.out.keep fun b' h1 h2=>⟨Below.heap_alloc _ _ _ h2,h1⟩) ⟨w7.heap.size,0,none⟩ 1 (by rfl) y (.int .i64 k7) (.string q7) (.slice a7 l7.length c7) (cells3 w7 _ _ _ _ _ rfl) (T7.out.keep (fun b' (h1:T b'∨wr.heap.size≤b') h2=>⟨Below.heap_alloc _ _ _ h2,(h1.imp id (fun h=>by omega)),fun e=>by have:=HOWB.out b' e;have:=HOWN.out b' e;exact h1.elim (fun h=>by have:=HTT.out b' h;omega) (fun h=>by omega)⟩)) (by rw [HLI.out];omega) (Or.inr (show H+1+1+1 < (World.alloc w7 _).heap.size by rw [World.size_alloc];omega)) ?_
         intro g6 cap6 w8 K8 G8 hg8
         rw [HLI.out] at K8 ⊢
         have KP8:=qh ((KP7.out.alloc hHw _).grown hHw G8 HOWN.out (by omega))
         have SS8:=SXO.out _ KP8.out
         have R8:=qh ((R7D.out.alloc _).grown' G8 (fun e=>by have:=HOWN.out _ e.symm;omega))
         have HG8:Hid (H+1+1+1 < g6):=qh (by
          rcases hg8 with h | h
          ·exact HOWN.out _ h
          ·have h9:g6=(World.alloc w7 _).heap.size:=h
           rw [h9,World.size_alloc];omega)
         obtain ⟨⟨y0,y1,y2⟩,z0,z1,z2⟩:=R8.out.cells
         have HK8:=qh K8
         clear K8 G8 hg8
         refine hK.out _ _ ?_ (fun hHeld=>?_)
         ·exact SS8
         clear hK K
         try simp only [Act.put,List.setIfInBounds_toArray]
         refine wpAnyH_take (i:=13) (v:=?_) rfl (by kernel_rfl) (by kernel_rfl) (by kernel_rfl) (fun _ _ _ h=>h) (Or.inl ⟨by rfl,?_⟩) (by assumption) ?_
         rotate_left
         ·(intro w hSw;(try dsimp only at hSw);go_simp;try with_reducible rfl)
         try simp only [Act.put]
         refine wpAnyH_ready (rs:=[14]) (by kernel_rfl) (by simp) ?_
         refine AllReadyH.cons rfl (fun K hK=>?_) ?_
         ·skip
          go_simp
          refine hK.out _ _ ?_ (fun hHeld=>?_)
          ·exact (SXO.out _ (KP8.out.set (by omega) _))
          clear hK K
          try simp only [Act.put,List.setIfInBounds_toArray,List.set_cons_zero,List.set_cons_succ]
          refine wpAnyH_done (by kernel_rfl) ?_ _
          have HFN:=qh (Fp.next hF.out HOWN.out HTT.out KP8.out HTK.out R8.out HK8.out HG8.out)
          clear SD SS7 SS8 d5 d7 d7' y0 y1 y2 z0 z1 z2
          go_wp2
          go_roundw
          case rel=>exact ⟨j+1,hlt,by push_cast;rfl,HFN⟩
          case measure=>simp [intOf];omega
         exact AllReadyH.nil
        exact AllReadyH.nil
       exact AllReadyH.nil
      exact AllReadyH.nil
     exact AllReadyH.nil
    ·have hjm':((j:Int)==(m:Int))=false:=by simp;omega
     have hjm2:¬ ((j:Int)=(m:Int)):=by omega
     have HTK:Hid (l'.take (j+1)=l'.take j++[.mk k1 s1 l1]):=qh (by rw [List.take_succ_eq_append_getElem (by rw [HLL.out];omega),←e1];congr 2;simp only [←HL'.out];rw [List.getElem_set_ne (fun e=>hjm e.symm)])
     have KDd:=qh (show KidsS (fun b=>T b∨H+1+1+1 < b) wr.drew (.slice oa j oc) (l'.take j) from KD.out.keep (w':=wr.drew) fun b' h1 _=>⟨rfl,h1⟩)
     have DRd:=qh (show Row3 wr.drew (H+1+1+1) (.int .i64 k0) (.string s0) (.slice oa j oc) from DR.out)
     have KPd:=qh (show Kp2 H (H+1+1+1) (.slice oa j oc) w wr wr.drew from (Kp2.refl hF.out.b).drew)
     have d5':=(fun x=>show (wr.alloc x).drew.cell? ⟨H+1+1+1,2,none⟩=some (.slice oa j oc) from (World.cell?_alloc_past (w:=wr) x (H+1+1+1) 2 hDr).trans d5)
     have d5'':=(fun x=>show (wr.alloc x).cell? ⟨H+1+1+1,2,none⟩=some (.slice oa j oc) from (World.cell?_alloc_past (w:=wr) x (H+1+1+1) 2 hDr).trans d5)
     have T1:=qh (show NdS T wr.drew (.mk k1 s1 l1) (.int .i64 k1) (.string s1) (.slice a1 l1.length c1) from r1.keep (w':=wr.drew) fun b' h1 _=>⟨hF.out.b.block b' (HTT.out b' h1),h1⟩)
     have hzd:wr.drew.heap.size=wr.heap.size:=rfl
     clear y0 y1 y2 r1 e1
     go_upto_region 9 with fail
     refine wp_region_held_drew (S:=(fun w'=>w'.cell? ⟨H,2,none⟩=some (.slice (some ⟨b1,o1,none⟩) l0.length c0)∧w'.cell? ⟨H+1,0,none⟩=some (.int .i64 kx)∧w'.cell? ⟨H+1,1,none⟩=some (.string sx)∧w'.cell? ⟨H+1,2,none⟩=some (.slice ax lx.length c9)∧w'.cell? ⟨b1,o1+j*3,none⟩=some (.int .i64 k1)∧w'.cell? ⟨b1,o1+j*3+1,none⟩=some (.string s1)∧w'.cell? ⟨b1,o1+j*3+2,none⟩=some (.slice a1 l1.length c1)∧Hid (Kp2 H (H+1+1+1) (.slice oa j oc) w wr w'))) (by kernel_rfl) SD (fun hHeld=>?_)
     refine wpAnyH_take (i:=0) (v:=?_) rfl (by kernel_rfl) (by kernel_rfl) (by kernel_rfl) (fun _ _ _ h=>h) (Or.inl ⟨by rfl,?_⟩) (by assumption) ?_
     rotate_left
     ·(intro w hSw;(try dsimp only at hSw);go_simp;try with_reducible rfl)
     try simp only [Act.put,List.setIfInBounds_toArray]
     refine wpAnyH_take (i:=2) (v:=?_) rfl (by kernel_rfl) (by kernel_rfl) (by kernel_rfl) (fun _ _ _ h=>h) (Or.inl ⟨by rfl,?_⟩) (by assumption) ?_
     rotate_left
     ·(intro w hSw;(try dsimp only at hSw);go_simp;try with_reducible rfl)
     try simp only [Act.put]
     refine wpAnyH_take (i:=3) (v:=?_) rfl (by kernel_rfl) (by kernel_rfl) (by kernel_rfl) (fun _ _ _ h=>h) (Or.inl ⟨by rfl,?_⟩) (by assumption) ?_
     rotate_left
     ·(intro w hSw;(try dsimp only at hSw);go_simp;try with_reducible rfl)
     try simp only [Act.put]
     refine wpAnyH_take (i:=4) (v:=?_) rfl (by kernel_rfl) (by kernel_rfl) (by kernel_rfl) (fun _ _ _ h=>h) (Or.inl ⟨by rfl,?_⟩) (by assumption) ?_
     rotate_left
     ·(intro w hSw;(try dsimp only at hSw);go_simp;try with_reducible rfl)
     try simp only [Act.put]
     refine wpAnyH_take (i:=5) (v:=?_) rfl (by kernel_rfl) (by kernel_rfl) (by kernel_rfl) (fun _ _ _ h=>h) (Or.inl ⟨by rfl,?_⟩) (by assumption) ?_
     rotate_left
     ·(intro w hSw;(try dsimp only at hSw);go_simp;try with_reducible rfl)
     try simp only [Act.put]
     refine wpAnyH_take (i:=6) (v:=?_) rfl (by kernel_rfl) (by kernel_rfl) (by kernel_rfl) (fun _ _ _ h=>h) (Or.inl ⟨by rfl,?_⟩) (by assumption) ?_
     rotate_left
     ·(intro w hSw;(try dsimp only at hSw);go_simp;try with_reducible rfl)
     try simp only [Act.put]
     refine wpAnyH_ready (rs:=[1,7]) (by kernel_rfl) (by simp) ?_
     refine AllReadyH.cons rfl (fun K hK=>?_) ?_
     ·skip
      go_simp
      refine hK.out _ _ ?_ (fun hHeld=>?_)
      ·exact SD
      clear hK K
      try simp only [Act.put,List.setIfInBounds_toArray,List.set_cons_zero,List.set_cons_succ]
      refine wpAnyH_ready (rs:=[7]) (by kernel_rfl) (by simp) ?_
      refine AllReadyH.cons rfl (fun K hK=>?_) ?_
      ·skip
       go_simp
       refine hK.out _ _ ?_ (fun hHeld=>?_)
       ·exact (SXO.out _ (KPd.out.alloc hHw _))
       clear hK K
       try simp only [Act.put,List.setIfInBounds_toArray,List.set_cons_zero,List.set_cons_succ]
       refine wpAnyH_ready (rs:=[8]) (by kernel_rfl) (by simp) ?_
       refine AllReadyH.cons rfl (fun K hK=>?_) ?_
       ·skip
        refine step_append_kidT rfl _ _ rfl (fun b=>T b∨H+1+1+1 < b) (.slice oa j oc) (l'.take j) rfl (KDd.out.keep fun b' h1 h2=>⟨Below.heap_alloc _ _ _ h2,h1⟩) ⟨wr.drew.heap.size,0,none⟩ 1 (by rfl) (.mk k1 s1 l1) (.int .i64 k1) (.string s1) (.slice a1 l1.length c1) (cells3 wr.drew _ _ _ _ _ rfl) (T1.out.keep (fun b' h1 h2=>⟨Below.heap_alloc _ _ _ h2,Or.inl h1,fun e=>by have:=HOWN.out b' e;have:=HTT.out b' h1;omega⟩)) (by rw [HLI.out];omega) (Or.inr (show H+1+1+1 < (World.alloc wr _).heap.size by rw [World.size_alloc];omega)) ?_
        intro g6 cap6 w8 K8 G8 hg8
        rw [HLI.out] at K8 ⊢
        have KP8:=qh ((KPd.out.alloc hHw _).grown hHw G8 HOWN.out (by omega))
        have SS8:=SXO.out _ KP8.out
        have R8:=qh ((DRd.out.alloc _).grown' G8 (fun e=>by have:=HOWN.out _ e.symm;omega))
        have HG8:Hid (H+1+1+1 < g6):=qh (by
         rcases hg8 with h | h
         ·exact HOWN.out _ h
         ·have h9:g6=(World.alloc wr _).heap.size:=h
          rw [h9,World.size_alloc];omega)
        obtain ⟨⟨y0,y1,y2⟩,z0,z1,z2⟩:=R8.out.cells
        have HK8:=qh K8
        clear K8 G8 hg8
        refine hK.out _ _ ?_ (fun hHeld=>?_)
        ·exact SS8
        clear hK K
        try simp only [Act.put,List.setIfInBounds_toArray]
        refine wpAnyH_take (i:=9) (v:=?_) rfl (by kernel_rfl) (by kernel_rfl) (by kernel_rfl) (fun _ _ _ h=>h) (Or.inl ⟨by rfl,?_⟩) (by assumption) ?_
        rotate_left
        ·(intro w hSw;(try dsimp only at hSw);go_simp;try with_reducible rfl)
        try simp only [Act.put]
        refine wpAnyH_ready (rs:=[10]) (by kernel_rfl) (by simp) ?_
        refine AllReadyH.cons rfl (fun K hK=>?_) ?_
        ·skip
         go_simp
         refine hK.out _ _ ?_ (fun hHeld=>?_)
         ·exact (SXO.out _ (KP8.out.set (by omega) _))
         clear hK K
         try simp only [Act.put,List.setIfInBounds_toArray,List.set_cons_zero,List.set_cons_succ]
         refine wpAnyH_done (by kernel_rfl) ?_ _
         have HFN:=qh (Fp.next hF.out HOWN.out HTT.out KP8.out HTK.out R8.out HK8.out HG8.out)
         clear SD  SS8 d5 d5' y0 y1 y2 z0 z1 z2
         go_wp2
         go_roundw
         case rel=>exact ⟨j+1,hlt,by push_cast;rfl,HFN⟩
         case measure=>simp [intOf];omega
        exact AllReadyH.nil
       exact AllReadyH.nil
      exact AllReadyH.nil
     refine AllReadyH.cons rfl (fun K hK=>?_) ?_
     ·skip
      go_simp
      refine hK.out _ _ ?_ (fun hHeld=>?_)
      ·exact (SXO.out _ (KPd.out.alloc hHw _))
      clear hK K
      try simp only [Act.put,List.setIfInBounds_toArray,List.set_cons_zero,List.set_cons_succ]
      refine wpAnyH_ready (rs:=[1]) (by kernel_rfl) (by simp) ?_
      refine AllReadyH.cons rfl (fun K hK=>?_) ?_
      ·skip
       go_simp
       refine hK.out _ _ ?_ (fun hHeld=>?_)
       ·exact (SXO.out _ (KPd.out.alloc hHw _))
       clear hK K
       try simp only [Act.put,List.setIfInBounds_toArray,List.set_cons_zero,List.set_cons_succ]
       refine wpAnyH_ready (rs:=[8]) (by kernel_rfl) (by simp) ?_
       refine AllReadyH.cons rfl (fun K hK=>?_) ?_
       ·skip
        refine step_append_kidT rfl _ _ rfl (fun b=>T b∨H+1+1+1 < b) (.slice oa j oc) (l'.take j) rfl (KDd.out.keep fun b' h1 h2=>⟨Below.heap_alloc _ _ _ h2,h1⟩) ⟨wr.drew.heap.size,0,none⟩ 1 (by rfl) (.mk k1 s1 l1) (.int .i64 k1) (.string s1) (.slice a1 l1.length c1) (cells3 wr.drew _ _ _ _ _ rfl) (T1.out.keep (fun b' h1 h2=>⟨Below.heap_alloc _ _ _ h2,Or.inl h1,fun e=>by have:=HOWN.out b' e;have:=HTT.out b' h1;omega⟩)) (by rw [HLI.out];omega) (Or.inr (show H+1+1+1 < (World.alloc wr _).heap.size by rw [World.size_alloc];omega)) ?_
        intro g6 cap6 w8 K8 G8 hg8
        rw [HLI.out] at K8 ⊢
        have KP8:=qh ((KPd.out.alloc hHw _).grown hHw G8 HOWN.out (by omega))
        have SS8:=SXO.out _ KP8.out
        have R8:=qh ((DRd.out.alloc _).grown' G8 (fun e=>by have:=HOWN.out _ e.symm;omega))
        have HG8:Hid (H+1+1+1 < g6):=qh (by
         rcases hg8 with h | h
         ·exact HOWN.out _ h
         ·have h9:g6=(World.alloc wr _).heap.size:=h
          rw [h9,World.size_alloc];omega)
        obtain ⟨⟨y0,y1,y2⟩,z0,z1,z2⟩:=R8.out.cells
        have HK8:=qh K8
        clear K8 G8 hg8
        refine hK.out _ _ ?_ (fun hHeld=>?_)
        ·exact SS8
        clear hK K
        try simp only [Act.put,List.setIfInBounds_toArray]
        refine wpAnyH_take (i:=9) (v:=?_) rfl (by kernel_rfl) (by kernel_rfl) (by kernel_rfl) (fun _ _ _ h=>h) (Or.inl ⟨by rfl,?_⟩) (by assumption) ?_
        rotate_left
        ·(intro w hSw;(try dsimp only at hSw);go_simp;try with_reducible rfl)
        try simp only [Act.put]
        refine wpAnyH_ready (rs:=[10]) (by kernel_rfl) (by simp) ?_
        refine AllReadyH.cons rfl (fun K hK=>?_) ?_
        ·skip
         go_simp
         refine hK.out _ _ ?_ (fun hHeld=>?_)
         ·exact (SXO.out _ (KP8.out.set (by omega) _))
         clear hK K
         try simp only [Act.put,List.setIfInBounds_toArray,List.set_cons_zero,List.set_cons_succ]
         refine wpAnyH_done (by kernel_rfl) ?_ _
         have HFN:=qh (Fp.next hF.out HOWN.out HTT.out KP8.out HTK.out R8.out HK8.out HG8.out)
         clear SD  SS8 d5 d5' y0 y1 y2 z0 z1 z2
         go_wp2
         go_roundw
         case rel=>exact ⟨j+1,hlt,by push_cast;rfl,HFN⟩
         case measure=>simp [intOf];omega
        exact AllReadyH.nil
       exact AllReadyH.nil
      exact AllReadyH.nil
     exact AllReadyH.nil
   ·have hlt':¬ ((j:Int) < (l0.length:Int)):=by omega
    obtain rfl:j=l0.length:=by omega
    obtain ⟨oa,oc,dr,kd,hown⟩:=hF.out.d
    have R:=hF.out.r
    have HR:=qh R
    have hhD:=dr.lt
    obtain ⟨⟨d0,d1,d2⟩,_⟩:=dr.cells
    obtain ⟨⟨r0,r1,r2⟩,q0,q1,q2⟩:=R.cells
    obtain ⟨⟨n0,n1,n2⟩,_⟩:=hF.out.n.cells
    have KD:=qh kd
    clear dr kd hown R
    go_wp2
    refine ret_node (HR.out.put _ _ _) rfl rfl rfl ?_
    have hh:=HH.out
    have kn:=KD.out
    rw [List.take_of_length_le (by rw [HLL.out];omega)] at kn
    have kn2:=kn.node k0 s0 HS0.out (by rw [HLL.out];unfold maxLen;omega)
    refine ⟨_,_,_,rfl,kn2.keep (fun b' h1 _=>⟨(Below.heap_setCell _ _ _ _ (show b'≠H+1+1 from h1.elim (fun h=>by have:=HTT.out b' h;omega) (fun h=>by omega))).trans ((Below.heap_setCell _ _ _ _ (show b'≠H+1+1 from h1.elim (fun h=>by have:=HTT.out b' h;omega) (fun h=>by omega))).trans (Below.heap_setCell _ _ _ _ (show b'≠H+1+1 from h1.elim (fun h=>by have:=HTT.out b' h;omega) (fun h=>by omega)))),h1.imp id (fun h=>by omega)⟩),?_⟩
    first
     | exact below_put3 hF.out.b (by omega) _ _ _
     | (rw [HH.out];exact below_put3 hF.out.b (by omega) _ _ _)
end Go.Proofs.YtcimcjmdkjajfaaGreatDoor
namespace Go.Proofs.YtcimcjmdkjajfaaGreatDoor
open Go.RowKit Go.Shelf
attribute [local go_sem] Oper.semAt_some
set_option maxRecDepth 100000 in
set_option maxHeartbeats 2000000 in
theorem rPutTree_any (t x:Nd) (v0 v1 v2 vp x0 x1 x2:Value) (p:List Int) (w:World) (ht:NdR w t v0 v1 v2) (hp:PathR w vp p) (hx:NdR w x x0 x1 x2) (er:Int) (tr:Nd) (hA:PutS (chkN t) (chkN x) (goN t p) (chkN (putN t p x)) (putN t p x) er tr) :
  Calls Tryz.prog 33 #[.agg #[v0,v1,v2],vp,.agg #[x0,x1,x2]] w (MR er tr w):=by
 obtain ⟨k0,s0,l0,a0,c0,rfl,rfl,rfl,rfl,_,_⟩:=ht.form
 obtain ⟨kx,sx,lx,ax,c9,rfl,rfl,rfl,rfl,_,_⟩:=hx.form
 obtain ⟨c,hc⟩:∃ c,chkN (.mk k0 s0 l0)=c:=⟨_,rfl⟩
 obtain ⟨d,hd⟩:∃ d,chkN (.mk kx sx lx)=d:=⟨_,rfl⟩
 obtain ⟨r,hr⟩:∃ r,goN (.mk k0 s0 l0) p=r:=⟨_,rfl⟩
 obtain ⟨pt,hpt⟩:∃ pt,putN (.mk k0 s0 l0) p (.mk kx sx lx)=pt:=⟨_,rfl⟩
 have hvp:∃ b1 c1,vp = .slice b1 p.length c1:=by obtain ⟨_,_,_,c1,b1,e,_⟩:=hp;exact ⟨b1,c1,e⟩
 obtain ⟨b1,c1,rfl⟩:=hvp
 obtain ⟨H,hH⟩:∃ H,w.heap.size=H:=⟨_,rfl⟩
 obtain ⟨W4,hW4⟩:∃ W4,((w.alloc (.cells #[.int .i64 k0,.string s0,.slice a0 l0.length c0] 24)).alloc (.cells #[.int .i64 kx,.string sx,.slice ax lx.length c9] 24)).alloc (.cells #[.int .i64 0,.string ⟨#[]⟩,.slice none 0 0,.int .i64 0] 40)=W4:=⟨_,rfl⟩
 have z4:W4.heap.size=H+1+1+1:=by rw [←hW4];simp [hH]
 have B4:Below H w W4:=by rw [←hW4,←hH];exact (((Below.refl _ w).alloc (Nat.le_refl _) _).alloc (by simp) _).alloc (by simp only [World.size_alloc];omega) _
 have N4:Row3 W4 H (.int .i64 k0) (.string s0) (.slice a0 l0.length c0):=by
  rw [←hW4,←hH];exact (Below.heap_alloc _ _ _ (by simp only [World.size_alloc];omega)).trans ((Below.heap_alloc _ _ _ (by simp only [World.size_alloc];omega)).trans (World.alloc_heap_new _ _))
 have X4:Row3 W4 (H+1) (.int .i64 kx) (.string sx) (.slice ax lx.length c9):=by
  rw [←hW4,←hH];exact (Below.heap_alloc _ _ _ (by simp only [World.size_alloc];omega)).trans (alloc_at (by simp))
 have R4:Row4 W4 (H+1+1) (.int .i64 0) (.string ⟨#[]⟩) (.slice none 0 0) (.int .i64 0):=by rw [←hW4,←hH];exact alloc_at (by simp)
 have CK:=qh (fun W (hb:Below H w W)=>rCheckN _ W _ _ _ (ht.later (by rw [hH];exact hb)))
 have CX:=qh (fun W (hb:Below H w W)=>rCheckN _ W _ _ _ (hx.later (by rw [hH];exact hb)))
 rw [hc] at CK hA
 rw [hd] at CX hA
 rw [hr,hpt] at hA
 have HT:=qh ht
 have HX:=qh hx
 have HP:=qh hp
 have HH:=qh hH
 have HZ:=qh z4
 have HC:=qh hc
 have HR:=qh hr
 have HPT:=qh hpt
 have HAS:=qh hA
 have HB4:=qh B4
 have HN4:=qh N4
 have HX4:=qh X4
 have HR4:=qh R4
 obtain ⟨⟨n0,n1,n2⟩,_⟩:=N4.cells
 clear ht hp hx hc hd hr hpt hA B4 N4 X4 R4
 go_enter Tryz.func33,Tryz.ntmps33
 go_upto_region 1 with fail
 (try rw [hW4])
 (try rw [HH.out])
 clear hW4
 go_wp2_with fail
 refine (CK.out _ HB4.out).mono ?_
 rintro e w5 ⟨rfl,b5⟩
 have zz:=HZ.out
 have HB5:=qh (HB4.out.trans (b5.mono (show H≤W4.heap.size by omega)))
 have hz5:H+1+1+1≤w5.heap.size:=by have:=b5.size;omega
 have R5:Row4 w5 (H+1+1) (.int .i64 0) (.string ⟨#[]⟩) (.slice none 0 0) (.int .i64 0):=HR4.out.below b5 HR4.out.lt
 have HR5:=qh R5
 have X5:Row3 w5 (H+1) (.int .i64 kx) (.string sx) (.slice ax lx.length c9):=HX4.out.below b5 HX4.out.lt
 obtain ⟨⟨r0,r1,r2,r3⟩,q0,q1,q2,q3⟩:=R5.cells
 obtain ⟨⟨x0,x1,x2⟩,_⟩:=X5.cells
 have Hb5:=qh b5
 clear R5 X5 b5 n0 n1 n2 CK
 by_cases hc0:c=0
 ·subst hc0
  go_wp2_with fail
  refine (CX.out _ HB5.out).mono ?_
  rintro e w6 ⟨rfl,b6⟩
  have HB6:=qh (HB5.out.trans (b6.mono (show H≤w5.heap.size by omega)))
  have Hb6:=qh (Hb5.out.trans (b6.mono Hb5.out.size))
  have hz6:H+1+1+1≤w6.heap.size:=by have:=b6.size;omega
  have R6:Row4 w6 (H+1+1) (.int .i64 0) (.string ⟨#[]⟩) (.slice none 0 0) (.int .i64 0):=HR5.out.below b6 HR5.out.lt
  have HR6:=qh R6
  have N6:Row3 w6 H (.int .i64 k0) (.string s0) (.slice a0 l0.length c0):=HN4.out.below Hb6.out HN4.out.lt
  obtain ⟨⟨r0',r1',r2',r3'⟩,q0',q1',q2',q3'⟩:=R6.cells
  obtain ⟨⟨n0,n1,n2⟩,_⟩:=N6.cells
  clear R6 N6 b6 CX r0 r1 r2 r3 q0 q1 q2 q3 x0 x1 x2 HR5
  by_cases hd0:d=0
  ·subst hd0
   clear r0' r1' r2' r3' q0' q1' q2' q3'
   obtain ⟨ea,ta,hat,hea⟩:∃ ea ta,AtS 0 r ea ta∧((r=none∧ea=3∧ta=zeroN)∨(r≠none∧ea=0)):=by
    cases r with
    | none=>exact ⟨3,zeroN,.inr (.inl ⟨rfl,rfl,rfl,rfl⟩),.inl ⟨rfl,rfl,rfl⟩⟩
    | some t'=>exact ⟨0,t',.inr (.inr ⟨rfl,rfl,rfl⟩),.inr ⟨by simp,rfl⟩⟩
   have FW:=qh (rAt_any _ _ _ _ _ p w6 (HT.out.later (by rw [HH.out];exact HB6.out)) (HP.out.later (by rw [HH.out];exact HB6.out)) ea ta (by rw [HC.out,HR.out];exact hat))
   have HEA:=qh hea
   clear hat hea
   go_wp2_with fail
   refine FW.out.mono ?_
   rintro e w7 ⟨u0,u1,u2,rfl,tu,b7⟩
   obtain ⟨ku,su,lu,au,cu,eu,rfl,rfl,rfl,_,_⟩:=tu.form
   have HB7:=qh (HB6.out.trans (b7.mono (show H≤w6.heap.size by omega)))
   have Hb7:=qh (Hb6.out.trans (b7.mono Hb6.out.size))
   have hz7:H+1+1+1≤w7.heap.size:=by have:=b7.size;omega
   have HEU:=qh eu
   clear tu b7 FW n0 n1 n2 HR6 eu
   obtain ⟨Y,hY⟩:∃ Y,w7.heap.size=Y:=⟨_,rfl⟩
   rcases HEA.out with ⟨hrn,rfl,rfl⟩ | ⟨hrn,rfl⟩
   ·have hE:Hid (er=3∧tr=zeroN):=qh (by
     rcases HAS.out with h | h | h | h
     ·exact absurd rfl h.1
     ·exact absurd rfl h.2.1
     ·exact h.2.2.2
     ·exact absurd hrn h.2.2.1)
    obtain ⟨W5,hW5⟩:∃ W5,w7.alloc (.cells #[.int .i64 ku,.string su,.slice au lu.length cu,.int .i64 3] 40)=W5:=⟨_,rfl⟩
    have A5:Row4 W5 Y (.int .i64 ku) (.string su) (.slice au lu.length cu) (.int .i64 3):=by rw [←hW5];exact alloc_at hY.symm
    have b75:Below w7.heap.size w7 W5:=by rw [←hW5];exact (Below.refl _ _).alloc (Nat.le_refl _) _
    have R5:Row4 W5 (H+1+1) (.int .i64 0) (.string ⟨#[]⟩) (.slice none 0 0) (.int .i64 0):=HR4.out.below (Hb7.out.trans (b75.mono Hb7.out.size)) HR4.out.lt
    have HR5:=qh R5
    have HB5':=qh (HB7.out.trans (b75.mono (show H≤w7.heap.size by omega)))
    obtain ⟨⟨r0,r1,r2,r3⟩,q0,q1,q2,q3⟩:=R5.cells
    obtain ⟨⟨n0,n1,n2,n3⟩,_⟩:=A5.cells
    clear R5 A5 b75
    go_wp2
    refine ret_made (HR5.out.put _ _ _ _) rfl rfl rfl ?_
    obtain ⟨rfl,rfl⟩:=hE.out
    have h9:=HEU.out
    cases h9
    exact ⟨_,_,_,rfl,(NdS.leaf (fun _=>True) _ 0 ⟨#[]⟩ (by decide) au cu).toR,by rw [HH.out];exact below_put4 HB5'.out (by omega) _ _ _ _⟩
   ·obtain ⟨W5,hW5⟩:∃ W5,w7.alloc (.cells #[.int .i64 ku,.string su,.slice au lu.length cu,.int .i64 0] 40)=W5:=⟨_,rfl⟩
    have A5:Row4 W5 Y (.int .i64 ku) (.string su) (.slice au lu.length cu) (.int .i64 0):=by rw [←hW5];exact alloc_at hY.symm
    obtain ⟨W6,hW6⟩:∃ W6,W5.setCell ⟨Y,3,none⟩ (.int .i64 0)=W6:=⟨_,rfl⟩
    have A6:Row4 W6 Y (.int .i64 ku) (.string su) (.slice au lu.length cu) (.int .i64 0):=by rw [←hW6];exact (setCell_row A5).trans rfl
    have b76:Below w7.heap.size w7 W6:=by rw [←hW6,←hW5];exact ((Below.refl _ _).alloc (Nat.le_refl _) _).setCell (p:=⟨Y,3,none⟩) (by simp only;omega) _
    have Hb46:=qh (Hb7.out.trans (b76.mono Hb7.out.size))
    have HB6':=qh (HB7.out.trans (b76.mono (show H≤w7.heap.size by omega)))
    have hz8:H+1+1+1≤W6.heap.size:=by have:=b76.size;omega
    have N6:Row3 W6 H (.int .i64 k0) (.string s0) (.slice a0 l0.length c0):=HN4.out.below Hb46.out HN4.out.lt
    have X6:Row3 W6 (H+1) (.int .i64 kx) (.string sx) (.slice ax lx.length c9):=HX4.out.below Hb46.out HX4.out.lt
    have R6:Row4 W6 (H+1+1) (.int .i64 0) (.string ⟨#[]⟩) (.slice none 0 0) (.int .i64 0):=HR4.out.below Hb46.out HR4.out.lt
    have HR6:=qh R6
    have hE:Hid (chkN pt=er∧((er≠0∧tr=zeroN)∨(er=0∧tr=pt))):=qh (by
     rcases HAS.out with h | h | h | h
     ·exact absurd rfl h.1
     ·exact absurd rfl h.2.1
     ·exact absurd h.2.2.1 hrn
     ·exact h.2.2.2)
    have hsz1:=chk_sz HC.out
    have RB:=qh (rPut_any (fun b=>b < H) (.mk kx sx lx) p (.mk k0 s0 l0) _ _ _ (.slice b1 p.length c1) _ _ _ W6 (fun b h=>by omega) (HT.out.toS.keep (w':=W6) fun b h1 h2=>⟨HB6'.out.block b (by omega),by omega⟩) (HP.out.later (by rw [HH.out];exact HB6'.out)) (HX.out.toS.keep (w':=W6) fun b h1 h2=>⟨HB6'.out.block b (by omega),by omega⟩) (by rw [HR.out];exact hrn) (by omega))
    rw [HPT.out] at RB
    obtain ⟨⟨n0,n1,n2⟩,_⟩:=N6.cells
    obtain ⟨⟨x0,x1,x2⟩,_⟩:=X6.cells
    obtain ⟨⟨y0,y1,y2,y3⟩,z0,z1,z2,z3⟩:=A5.cells
    obtain ⟨⟨g0,g1,g2,g3⟩,_⟩:=A6.cells
    clear R6 N6 X6 A5 A6 b76 hsz1
    go_wp2_with fail
    refine RB.out.mono ?_
    rintro e w8 ⟨u0,u1,u2,rfl,t8,b8⟩
    have CH:=qh (rChecked_any _ pt _ _ _ w8 t8 er tr hE.out.1 hE.out.2)
    obtain ⟨_,_,_,a6,c6,e6,rfl,rfl,rfl,_,_⟩:=t8.form
    have HB8:=qh (HB6'.out.trans (b8.mono (show H≤W6.heap.size by omega)))
    have R8:Row4 w8 (H+1+1) (.int .i64 0) (.string ⟨#[]⟩) (.slice none 0 0) (.int .i64 0):=HR6.out.below b8 HR6.out.lt
    have HR8:=qh R8
    have hz9:H+1+1+1≤w8.heap.size:=by have:=b8.size;omega
    clear R8 b8 t8 RB n0 n1 n2 x0 x1 x2 y0 y1 y2 y3 z0 z1 z2 z3 g0 g1 g2 g3
    go_wp2_with fail
    refine CH.out.mono ?_
    rintro e w9 ⟨u0,u1,u2,rfl,t9,b9⟩
    obtain ⟨_,_,_,a7,c7,e7,rfl,rfl,rfl,_,_⟩:=t9.form
    have R9:Row4 w9 (H+1+1) (.int .i64 0) (.string ⟨#[]⟩) (.slice none 0 0) (.int .i64 0):=HR8.out.below b9 HR8.out.lt
    have HR9:=qh R9
    have HB9:=qh (HB8.out.trans (b9.mono (show H≤w8.heap.size by omega)))
    have T9:=qh t9
    obtain ⟨⟨r0,r1,r2,r3⟩,q0,q1,q2,q3⟩:=R9.cells
    clear R9 b9 t9 CH
    go_wp2
    refine ret_made (HR9.out.put _ _ _ _) rfl rfl rfl ?_
    refine ⟨_,_,_,rfl,(T9.out.keep (S':=fun _=>True) (fun b (h1:b < H∨W6.heap.size≤b) _=>⟨far4 _ _ _ _ (by omega),trivial⟩)).toR,by rw [HH.out];exact below_put4 HB9.out (by omega) _ _ _ _⟩
  ·have hd1:(d==0)=false:=by simp [hd0]
   have hE:Hid (er=d∧tr=zeroN):=qh (by
    rcases HAS.out with h | h | h | h
    ·exact absurd rfl h.1
    ·exact h.2.2
    ·exact absurd h.2.1 hd0
    ·exact absurd h.2.1 hd0)
   clear n0 n1 n2
   go_wp2
   refine ret_made (HR6.out.put _ _ _ _) rfl rfl rfl ?_
   obtain ⟨rfl,rfl⟩:=hE.out
   exact ⟨_,_,_,rfl,zero_ndr _,by rw [HH.out];exact below_put4 HB6.out (by omega) _ _ _ _⟩
 ·have hc1:(c==0)=false:=by simp [hc0]
  have hE:Hid (er=c∧tr=zeroN):=qh (by
   rcases HAS.out with h | h | h | h
   ·exact h.2
   ·exact absurd h.1 hc0
   ·exact absurd h.1 hc0
   ·exact absurd h.1 hc0)
  clear x0 x1 x2 CX
  go_wp2
  refine ret_made (HR5.out.put _ _ _ _) rfl rfl rfl ?_
  obtain ⟨rfl,rfl⟩:=hE.out
  exact ⟨_,_,_,rfl,zero_ndr _,by rw [HH.out];exact below_put4 HB5.out (by omega) _ _ _ _⟩
end Go.Proofs.YtcimcjmdkjajfaaGreatDoor
namespace Go.Proofs.YtcimcjmdkjajfaaGreatDoor
open Go.RowKit
theorem item_of {w0:World} {b:Nat} {t:Nd} (h:t.okI) (v0 v1 v2:Value) (l:Tx) (w:World) (ht:NdR w0 t v0 v1 v2) (hp:PrI w0 b l w) (hlen:l.length+t.itm.length≤100000000) :
  Calls Tryz.prog 193 #[.pointer (some ⟨b,0,none⟩),.agg #[v0,v1,v2]] w (PrO w0 b l w t.itm):=by
 obtain ⟨k,s,kl⟩:=t
 exact item_says k s kl h.2.1 (fun i hi=>node_says _ (okL_get h.2.2 i hi)) v0 v1 v2 l w ht hp hlen
set_option maxRecDepth 100000 in
set_option maxHeartbeats 2000000 in
theorem whole_says {w0:World} {b:Nat} (t:Nd) (hok:t.okW) (v0 v1 v2:Value) (l:Tx) (w:World) (ht:NdR w0 t v0 v1 v2) (hp:PrI w0 b l w)
  (hlen:l.length+t.whl.length≤100000000):Calls Tryz.prog 147 #[.pointer (some ⟨b,0,none⟩),.agg #[v0,v1,v2]] w (PrO w0 b l w t.whl):=by
 obtain ⟨k,s,kl⟩:=t
 obtain ⟨_,_,_,a,cap,hform,rfl,rfl,rfl,hs,hl⟩:=ht.form
 cases hform
 obtain ⟨L,hL⟩:∃ L,kl.length=L:=⟨_,rfl⟩
 rw [hL] at ht hl
 rw [hL]
 obtain ⟨W,hW⟩:∃ W,w.alloc (.cells #[.int .i64 k,.string s,.slice a L cap] 24)=W:=⟨_,rfl⟩
 have R0':Row3 W w.heap.size (.int .i64 k) (.string s) (.slice a L cap):=by rw [←hW];exact Row3.new _ _ _ _
 have P0:=qh (hW▸hp.alloc (.cells #[.int .i64 k,.string s,.slice a L cap] 24))
 have K0:=qh (hW▸(Wr.refl w0.heap.size b w).alloc hp.size (.cells #[.int .i64 k,.string s,.slice a L cap] 24))
 have hne:w.heap.size≠b:=by have:=hp.p.lt;omega
 have HN:=qh ht
 have HL:=qh hlen
 unfold maxLen at hl
 obtain ⟨T,hT⟩:∃ T,(Nd.mk k s kl).whl=T:=⟨_,rfl⟩
 rw [hT] at HL hlen
 rw [hT]
 have HW:=qh hW
 have R0:=qh R0'
 have HLL:=qh hL
 clear hW R0' hp
 have hok':if k=1 then ∀ x∈kl,x.okI else if itemB (.mk k s kl)=true then (Nd.mk k s kl).okI else (Nd.mk k s kl).okP=true:=hok
 by_cases hk:k=1
 ·subst hk
  rw [if_pos rfl] at hok'
  have hXE:T=kl.flatMap fun x=>x.itm++[10]:=hT.symm
  have HXE:=qh hXE
  have HLen:=HL
  rw [hXE] at HLen
  have HK:=qh hok'
  clear hXE hT hlen hok hok' ht hL
  obtain ⟨⟨n0,n1,n2⟩,_⟩:=R0.out.cells
  go_enter Tryz.func147,Tryz.ntmps147
  go_upto_region 1 with fail
  rw [HW.out]
  go_wp2
  go_loopw [16] (fun v wr=>∃ i:Nat,i≤L∧v = .int .i64 i∧Hid (PrI w0 b (l++(kl.take i).flatMap fun x=>x.itm++[10]) wr)∧Hid (Wr w0.heap.size b w wr)) (fun v _=>L - (intOf v).toNat)
  case atStart=>exact ⟨0,Nat.zero_le _,rfl,qh (by simpa using P0.out),K0⟩
  case round =>
   obtain ⟨i,hi,rfl,PI,KI⟩:=hrel
   by_cases hlt:i < L
   ·have hlt':(i:Int) < (L:Int):=by omega
    have hi0:(0:Int)≤(i:Int):=by omega
    have hik:i < kl.length:=by rw [HLL.out];exact hlt
    have hm1:(i:Int)+1≤(L:Int):=by omega
    obtain ⟨bb,o,k1,s1,l1,a1,c1,rfl,e1,x0,x1,x2,r1⟩:=HN.out.kid i hik
    have y0:=PI.out.cell x0
    have y1:=PI.out.cell x1
    have y2:=PI.out.cell x2
    have yb:=lt_of_cell y0
    have hG:(kl.take (i+1)).flatMap (fun x=>x.itm++[10])=(kl.take i).flatMap (fun x=>x.itm++[10])++((kl[i]).itm++[10]):=by
     rw [List.take_succ_eq_append_getElem hik,List.flatMap_append]
     simp
    have hGl:((kl.take (i+1)).flatMap (fun x=>x.itm++[10])).length≤(kl.flatMap (fun x=>x.itm++[10])).length:=by
     conv=>rhs;rw [←List.take_append_drop (i+1) kl]
     rw [List.flatMap_append,List.length_append]
     omega
    have hlen3:=HLen.out
    rw [hG] at hGl
    simp only [List.length_append,List.length_cons,List.length_nil] at hGl
    generalize hU:(kl.take i).flatMap (fun x=>x.itm++[10])=U at *
    have hki:(kl[i]).okI:=HK.out _ (List.getElem_mem hik)
    obtain ⟨A,hA⟩:∃ A,(kl[i]).itm=A:=⟨_,rfl⟩
    rw [hA] at hG hGl
    have HG:=qh hG
    have CP:=qh (fun w' (h:PrI w0 b ((l++U)++A) w') n (hn:n=w'.heap.size)=>put1 h n hn ⟨#[10]⟩ (by have h1:(bs ⟨#[10]⟩).length=1:=rfl;simp only [List.length_append];omega))
    have CA:Hid (∀ w',PrI w0 b (l++U) w'→Calls Tryz.prog 193 #[.pointer (some ⟨b,0,none⟩),.agg #[.int .i64 k1,.string s1,.slice a1 l1.length c1]] w' (PrO w0 b (l++U) w' A)):=qh (fun w' h=>by
     have hl9:List.length (l++U)+A.length≤100000000:=by simp only [List.length_append];omega
     rw [←hA] at hl9 ⊢
     exact item_of hki _ _ _ _ w' (e1▸r1) h hl9)
    have PN:=qh (PI.out.alloc (.cells #[.int .i64 k1,.string s1,.slice a1 l1.length c1] 24))
    have KN:=qh (KI.out.alloc PI.out.size (.cells #[.int .i64 k1,.string s1,.slice a1 l1.length c1] 24))
    have hnn:wr.heap.size≠b:=by have:=PI.out.p.lt;omega
    clear hU hA hG hGl hlen3 x0 x1 x2 r1 e1 hik n0 n1 n2 hki
    go_wp2_with fail
    refine (CA.out _ PN.out).mono ?_
    rintro e w5 ⟨rfl,pp,kk⟩
    have P5:=qh pp
    have K5:=qh (KN.out.trans kk)
    clear pp kk CA y0 y1 y2 yb
    go_wp2_with fail
    refine (CP.out _ P5.out _ (by first | rfl | simp only [World.size_alloc])).mono ?_
    rintro e w6 ⟨rfl,pp,kk⟩
    have P6:Hid (PrI w0 b (l++(kl.take (i+1)).flatMap fun x=>x.itm++[10]) w6):=qh (by rw [HG.out];simpa only [List.append_assoc,bs_mk] using pp)
    have K6:=qh (K5.out.trans kk)
    clear pp kk CP
    go_wp2
    go_roundw
    case rel=>exact ⟨i+1,hlt,by push_cast;rfl,P6,K6⟩
    case measure=>simp [intOf];omega
   ·have hlt':¬ ((i:Int) < (L:Int)):=by omega
    have hG:kl.take i=kl:=List.take_of_length_le (by rw [HLL.out];omega)
    have P9:=qh (show PrI w0 b (l++T) wr by rw [HXE.out];have hh:=PI.out;rwa [hG] at hh)
    clear hG n0 n1 n2
    go_wp2
    go_end0
    exact ⟨rfl,P9.out,KI.out⟩
 ·have hk1:((k:Int)==1)=false:=by rw [beq_eq_false_iff_ne];exact hk
  rw [if_neg hk] at hok'
  obtain ⟨V,hV⟩:∃ V,itemB (.mk k s kl)=V:=⟨_,rfl⟩
  have CI:=qh (fun w' (h:PrI w0 b l w')=>isItem_any (.mk k s kl) w' _ _ _ (h.tree HN.out))
  rw [hV] at CI hok'
  cases V with
  | true =>
   rw [if_pos rfl] at hok'
   have hT2:(Nd.mk k s kl).itm=T:=by rw [←hT,Nd.whl,if_neg hk,if_pos hV]
   have C1:Hid (∀ w',PrI w0 b l w'→Calls Tryz.prog 193 #[.pointer (some ⟨b,0,none⟩),.agg #[.int .i64 k,.string s,.slice a L cap]] w' (PrO w0 b l w' T)):=qh (fun w' h=>by
    rw [←hT2] at hlen ⊢
    exact item_of hok' _ _ _ _ w' HN.out h hlen)
   clear hT hT2 hlen hok hok' ht hL hV hk HL
   obtain ⟨⟨n0,n1,n2⟩,_⟩:=R0.out.cells
   go_enter Tryz.func147,Tryz.ntmps147
   go_upto_region 1 with fail
   rw [HW.out]
   go_wp2_with fail
   refine (CI.out _ P0.out).mono ?_
   rintro e w1 ⟨rfl,bb⟩
   have P1:=qh (P0.out.later bb)
   have K1:=qh (K0.out.later bb P0.out.size)
   have R1:=qh (R0.out.below bb R0.out.lt)
   clear bb CI n0 n1 n2
   obtain ⟨⟨n0,n1,n2⟩,_⟩:=R1.out.cells
   go_wp2_with fail
   refine (C1.out _ P1.out).mono ?_
   rintro e w2 ⟨rfl,pp,kk⟩
   have P2:=qh pp
   have K2:=qh (K1.out.trans kk)
   have R2:=qh (kk.row3 R1.out hne)
   clear pp kk C1 n0 n1 n2
   go_wp2
   go_end0
   exact ⟨rfl,P2.out,K2.out⟩
  | false =>
   rw [if_neg (by decide)] at hok'
   have hT2:(Nd.mk k s kl).txt 0 false=T:=by rw [←hT,Nd.whl,if_neg hk,if_neg (by rw [hV];decide)]
   have C1:Hid (∀ (z:Int),z=((0:Nat):Int)→∀ w',PrI w0 b l w'→Calls Tryz.prog 195 #[.pointer (some ⟨b,0,none⟩),.agg #[.int .i64 k,.string s,.slice a L cap],.int .i64 z,.bool false] w' (PrO w0 b l w' T)):=qh (fun z hz w' h=>by
    subst hz
    rw [←hT2] at hlen ⊢
    exact node_says _ hok' _ _ _ 0 false _ w' (by decide) HN.out h hlen)
   clear hT hT2 hlen hok hok' ht hL hV hk HL
   obtain ⟨⟨n0,n1,n2⟩,_⟩:=R0.out.cells
   go_enter Tryz.func147,Tryz.ntmps147
   go_upto_region 1 with fail
   rw [HW.out]
   go_wp2_with fail
   refine (CI.out _ P0.out).mono ?_
   rintro e w1 ⟨rfl,bb⟩
   have P1:=qh (P0.out.later bb)
   have K1:=qh (K0.out.later bb P0.out.size)
   have R1:=qh (R0.out.below bb R0.out.lt)
   clear bb CI n0 n1 n2
   obtain ⟨⟨n0,n1,n2⟩,_⟩:=R1.out.cells
   go_wp2_with fail
   refine (C1.out _ (by first | rfl | (push_cast;rfl)) _ P1.out).mono ?_
   rintro e w2 ⟨rfl,pp,kk⟩
   have P2:=qh pp
   have K2:=qh (K1.out.trans kk)
   have R2:=qh (kk.row3 R1.out hne)
   clear pp kk C1 n0 n1 n2
   go_wp2
   go_end0
   exact ⟨rfl,P2.out,K2.out⟩
theorem pNew (w:World) (b:Nat) (hb:b=w.heap.size):PrW b b [] (w.alloc (.cells #[.pointer none,.slice none 0 0] 152)):=by
 subst hb
 exact .inl ⟨Nat.le_refl _,_,World.alloc_heap_new w _,World.ownsRow_nil _ _ _ _,by simp [Value.ownBlock]⟩
set_option maxRecDepth 100000 in
set_option maxHeartbeats 2000000 in
theorem canonical_any (t:Nd) (hv:chkN t=0) (v0 v1 v2:Value) (w:World) (ht:NdR w t v0 v1 v2) (hg:GLw w) (h2:2≤w.heap.size) :
  Calls Tryz.prog 99 #[.agg #[v0,v1,v2]] w fun e w'=>e = .returned (S_ t.whl)∧Below w.heap.size w w':=by
 obtain ⟨hok,hsz⟩:=valid_ok hv
 have hlen:=whl_len hok
 obtain ⟨k,s,kl,a,cap,rfl,rfl,rfl,rfl,hs,hl⟩:=ht.form
 obtain ⟨W,hW⟩:∃ W,w.alloc (.cells #[.int .i64 k,.string s,.slice a kl.length cap] 24)=W:=⟨_,rfl⟩
 have hb0:=(Below.refl w.heap.size w).alloc (Nat.le_refl _) (.cells #[.int .i64 k,.string s,.slice a kl.length cap] 24)
 have hsW:W.heap.size=w.heap.size+1:=by rw [←hW];simp
 have R0:Row3 W w.heap.size (.int .i64 k) (.string s) (.slice a kl.length cap):=by rw [←hW];exact Row3.new _ _ _ _
 rw [hW] at hb0
 have gW:=hg.keep fun b hb hl=>hb0.block b hl
 have tW:=ht.later hb0
 have hp0:PrI W W.heap.size [] (W.alloc (.cells #[.pointer none,.slice none 0 0] 152)):=⟨pNew W _ rfl,(Below.refl W.heap.size W).alloc (Nat.le_refl _) _,gW,by omega⟩
 obtain ⟨T,hT⟩:∃ T,(Nd.mk k s kl).whl=T:=⟨_,rfl⟩
 have CW:Hid (∀ (z:Nat),z=W.heap.size→Calls Tryz.prog 147 #[.pointer (some ⟨z,0,none⟩),.agg #[.int .i64 k,.string s,.slice a kl.length cap]] (W.alloc (.cells #[.pointer none,.slice none 0 0] 152)) (PrO W W.heap.size [] (W.alloc (.cells #[.pointer none,.slice none 0 0] 152)) T)):=qh (fun z hz=>by
  subst hz
  rw [←hT]
  exact whole_says (.mk k s kl) hok _ _ _ [] _ tW hp0 (by simp only [List.length_nil];omega))
 rw [hT]
 have HB:=qh hb0
 have HW:=qh hW
 have R1:=qh (R0.alloc (.cells #[.pointer none,.slice none 0 0] 152))
 obtain ⟨⟨n0,n1,n2⟩,_⟩:=R1.out.cells
 have HS:=qh hsW
 have HP0:=qh hp0
 obtain ⟨B,hB⟩:∃ B,W.heap.size=B:=⟨_,rfl⟩
 have HBs:=qh hB
 clear hT hlen hok hv ht hg hW hb0 gW tW hp0 R0 hsW hsz hB
 go_enter Tryz.func99,Tryz.ntmps99
 go_upto_region 1 with fail
 rw [HW.out]
 go_wp2_with fail
 refine (CW.out _ (by first | rfl | simp only [World.size_alloc])).mono ?_
 rintro e w5 ⟨rfl,pp,kk⟩
 have P5:=qh pp
 rw [List.nil_append] at P5
 have CS:=qh (pString_any W.heap.size W.heap.size T w5 P5.out.p P5.out.size)
 obtain ⟨z0,hz0⟩:∃ v,w5.cell? ⟨W.heap.size,0,none⟩=some v:=by
  rcases P5.out.p with h | h <;> exact ⟨_,h.cell0⟩
 clear pp kk CW n0 n1 n2
 go_wp2_with fail
 refine CS.out.mono ?_
 rintro e w6 ⟨rfl,hb⟩
 unfold S_
 go_wp2
 go_ret
 exact ⟨rfl,HB.out.trans ((P5.out.bl.trans hb).mono (by have:=HS.out;omega))⟩
set_option maxRecDepth 100000 in
set_option maxHeartbeats 2000000 in
theorem limited_any (s:ByteArray) (w:World) (hs:s.size≤maxLen) :
  Calls Tryz.prog 98 #[.string s] w fun e w'=>e = .returned (match Lx.scan (bs s) with | .toks _=>.tuple #[.string s,.int .i64 0] | .bad _ _=>.tuple #[.string ⟨#[]⟩,.int .i64 2])∧Below w.heap.size w w':=by
 cases hl:Lx.scan (bs s) with
 | bad i er =>
  have C:=qh (scan_bads2 s i er hl w hs)
  have her:((er:Int) != 0)=true:=by
   have:=scan_err hl
   rw [bne_iff_ne]
   omega
  clear hl
  go_enter Tryz.func98,Tryz.ntmps98
  go_wp2_with fail
  refine C.out.mono ?_
  rintro e w1 ⟨rfl,hb⟩
  have HB:=qh hb
  clear hb C
  go_wp2
  go_ret2
  exact ⟨rfl,HB.out⟩
 | toks ts =>
  have C:=qh (scan_any s w hs)
  unfold ScanOut at C
  rw [hl] at C
  clear hl
  go_enter Tryz.func98,Tryz.ntmps98
  go_wp2_with fail
  refine C.out.mono ?_
  rintro e w1 ⟨hb,v,rfl,_⟩
  have HB:=qh hb
  clear hb C
  go_wp2
  go_ret2
  exact ⟨rfl,HB.out⟩
def printP (t:Nd):Tx×Int:=if chkN t=0 then (match Lx.scan t.whl with | .toks _=>(t.whl,0) | .bad _ _=>([],2)) else ([],chkN t)
set_option maxRecDepth 100000 in
set_option maxHeartbeats 2000000 in
theorem Print_any (t:Nd) (v0 v1 v2:Value) (w:World) (ht:NdR w t v0 v1 v2) (hg:GLw w) (h2:2≤w.heap.size) :
  Calls Tryz.prog 47 #[.agg #[v0,v1,v2]] w fun e w'=>e = .returned (.tuple #[S_ (printP t).1,.int .i64 (printP t).2])∧Below w.heap.size w w':=by
 obtain ⟨k,s,kl,a,cap,rfl,rfl,rfl,rfl,hs,hl⟩:=ht.form
 obtain ⟨W,hW⟩:∃ W,w.alloc (.cells #[.int .i64 k,.string s,.slice a kl.length cap] 24)=W:=⟨_,rfl⟩
 have hb0:=(Below.refl w.heap.size w).alloc (Nat.le_refl _) (.cells #[.int .i64 k,.string s,.slice a kl.length cap] 24)
 have R0:Row3 W w.heap.size (.int .i64 k) (.string s) (.slice a kl.length cap):=by rw [←hW];exact Row3.new _ _ _ _
 rw [hW] at hb0
 have gW:=hg.keep fun b hb hl=>hb0.block b hl
 have tW:=ht.later hb0
 have hsW:W.heap.size=w.heap.size+1:=by rw [←hW];simp
 have CC:=qh (check_tree (.mk k s kl) W _ _ _ tW)
 obtain ⟨c,hc⟩:∃ c,chkN (.mk k s kl)=c:=⟨_,rfl⟩
 obtain ⟨r,hr⟩:∃ r,printP (.mk k s kl)=r:=⟨_,rfl⟩
 rw [hr]
 unfold printP at hr
 rw [hc] at CC hr
 have HB:=qh hb0
 have HW:=qh hW
 have HR:=qh R0
 have HS:=qh hsW
 have GW:=qh gW
 have TW:=qh tW
 by_cases h0:c=0
 ·subst h0
  rw [if_pos rfl] at hr
  obtain ⟨hok,hsz⟩:=valid_ok hc
  have hlen:=whl_len hok
  have CP:=qh (fun w' (hb:Below W.heap.size W w')=>canonical_any (.mk k s kl) hc _ _ _ w' (TW.out.later hb) (GW.out.keep fun b h1 h3=>hb.block b h3) (by have:=hb.size;have:=HS.out;omega))
  obtain ⟨T,hT⟩:∃ T,(Nd.mk k s kl).whl=T:=⟨_,rfl⟩
  rw [hT] at CP hr hlen
  have CL:=qh (fun w'=>limited_any ⟨T.toArray⟩ w' (by show T.toArray.size≤maxLen;unfold maxLen;simp;omega))
  have hq:∃ q,(match Lx.scan (bs ⟨T.toArray⟩) with | .toks _=>Value.tuple #[.string ⟨T.toArray⟩,.int .i64 0] | .bad _ _=>.tuple #[.string ⟨#[]⟩,.int .i64 2]) = .tuple #[.string ⟨r.1.toArray⟩,.int .i64 r.2]:=⟨0,by
   rw [←hr,bs_mk]
   cases Lx.scan T <;> rfl⟩
  obtain ⟨_,hq⟩:=hq
  simp only [hq] at CL
  obtain ⟨⟨n0,n1,n2⟩,_⟩:=R0.cells
  unfold S_ at CP
  unfold S_
  obtain ⟨r1,r2⟩:=r
  simp only at CL ⊢
  clear hT hlen hok hc hr ht hg hW hb0 gW tW R0 hsW hsz hq
  go_enter Tryz.func47,Tryz.ntmps47
  go_upto_region 1 with fail
  rw [HW.out]
  go_wp2_with fail
  refine CC.out.mono ?_
  rintro e w1 ⟨rfl,hb⟩
  have B1:=qh hb
  have R1:=qh (HR.out.below hb HR.out.lt)
  clear hb CC n0 n1 n2
  obtain ⟨⟨n0,n1,n2⟩,_⟩:=R1.out.cells
  go_wp2_with fail
  refine (CP.out _ B1.out).mono ?_
  rintro e w2 ⟨rfl,hb⟩
  have B2:=qh (B1.out.trans (hb.mono B1.out.size))
  clear hb CP n0 n1 n2
  go_wp2_with fail
  refine (CL.out _).mono ?_
  rintro e w3 ⟨rfl,hb⟩
  have B3:=qh (B2.out.trans (hb.mono B2.out.size))
  clear hb CL
  go_wp2
  go_ret2
  exact ⟨rfl,HB.out.trans (B3.out.mono (by have:=HS.out;omega))⟩
 ·rw [if_neg h0] at hr
  have hc0:((c:Int)==0)=false:=by rw [beq_eq_false_iff_ne];exact h0
  have hc1:((c:Int) != 0)=true:=by rw [bne_iff_ne];exact h0
  subst hr
  obtain ⟨⟨n0,n1,n2⟩,_⟩:=R0.cells
  clear hc ht hg hW hb0 gW tW R0 hsW h0
  go_enter Tryz.func47,Tryz.ntmps47
  go_upto_region 1 with fail
  rw [HW.out]
  go_wp2_with fail
  refine CC.out.mono ?_
  rintro e w1 ⟨rfl,hb⟩
  have B1:=qh hb
  clear hb CC n0 n1 n2
  go_wp2
  go_ret2
  exact ⟨rfl,HB.out.trans (B1.out.mono (by have:=HS.out;omega))⟩
end Go.Proofs.YtcimcjmdkjajfaaGreatDoor
namespace Go.Proofs.YtcimcjmdkjajfaaGreatDoor
def nm_ (c:UInt8):Nd:=.mk 15 ⟨#[c]⟩ []
def tree1:Nd:=.mk 25 ⟨#[]⟩ [nm_ 97,.mk 23 ⟨#[]⟩ [.mk 22 ⟨#[]⟩ [nm_ 98,nm_ 99],nm_ 100]]
def tree2:Nd:=.mk 27 ⟨#[]⟩ [.mk 27 ⟨#[]⟩ [nm_ 97,.mk 28 ⟨#[]⟩ [nm_ 98,nm_ 99]],nm_ 100]
def tree3:Nd:=.mk 22 ⟨#[]⟩ [.mk 29 ⟨#[]⟩ [.mk 18 ⟨#[120]⟩ [.mk 15 ⟨#[112]⟩ [nm_ 120]]],nm_ 113]
def varX:Nd:=.mk 16 ⟨#[88]⟩ []
def tree6:Nd:=.mk 1 ⟨#[]⟩ [.mk 4 ⟨#[112]⟩ [nm_ 105,.mk 31 ⟨#[]⟩ [nm_ 105,nm_ 105]],.mk 8 ⟨#[114]⟩ [.mk 27 ⟨#[]⟩ [.mk 15 ⟨#[112]⟩ [varX],.mk 15 ⟨#[113]⟩ [varX]]]]
abbrev txt1:ByteArray:={ data:=#[97,32,45,111,32,98,32,42,32,99,32,38,32,100] }
abbrev txt2:ByteArray:={ data:=#[97,32,111,45,32,40,98,32,60,61,32,99,41,32,111,45,32,40,40,100,41,41] }
abbrev txt4:ByteArray:={ data:=#[97,32,45,111] }
abbrev txt5:ByteArray:={ data:=#[97,32,41,32,98] }
abbrev txt6:ByteArray:={ data:=#[112,114,101,100,32,112,32,105,32,40,105,32,45,62,32,105,41,46,32,114,117,108,101,32,114,58,32,112,32,88,32,111,45,32,113,32,88,46] }
theorem parse1:parseP (bs txt1) 18=(some tree1,0,0):=by kernel_rfl
theorem parse2:parseP (bs txt2) 18=(some tree2,0,0):=by kernel_rfl
theorem parse4:parseP (bs txt4) 18=(none,4,20):=by kernel_rfl
theorem parse5:parseP (bs txt5) 18=(none,2,20):=by kernel_rfl
theorem parse6:parseP (bs txt6) 1=(some tree6,0,0):=by kernel_rfl
abbrev out2:ByteArray:={ data:=#[97,32,111,45,32,40,98,32,60,61,32,99,41,32,111,45,32,100] }
abbrev out3:ByteArray:={ data:=#[33,40,97,108,108,32,120,46,32,112,32,120,41,32,42,32,113] }
abbrev out6:ByteArray:={ data:=#[112,114,101,100,32,112,32,105,32,40,105,32,45,62,32,105,41,46,10,114,117,108,101,32,114,58,32,112,32,88,32,111,45,32,113,32,88,46,10] }
theorem print1:printP tree1=(bs txt1,0):=by kernel_rfl
theorem print2:printP tree2=(bs out2,0):=by kernel_rfl
theorem print3:printP tree3=(bs out3,0):=by kernel_rfl
theorem print6:printP tree6=(bs out6,0):=by kernel_rfl
theorem vars6:occs 16 (preN 0 [] false tree6)=[⟨#[88]⟩]:=by kernel_rfl
theorem valid6:chkN tree6=0:=by kernel_rfl
end Go.Proofs.YtcimcjmdkjajfaaGreatDoor
namespace Go.Proofs.YtcimcjmdkjajfaaGreatDoor
open Go.RowKit Go.Shelf
theorem rowS_cells {n₁:Nat} {w:World} {a:Option Addr} {n c:Nat} {ss:List ByteArray} (h:RowS n₁ w (.slice a n c) ss) :
  n=ss.length∧(ss=[]∨∃ g,a=some ⟨g,0,none⟩∧∀ j,j < ss.length→w.cell? ⟨g,0+j,none⟩=some (.string (ss.getD j ByteArray.empty))):=by
 have h':w.ownsRow n₁ 9 1 (.slice a n c) (ss.map Value.string).length (ss.map Value.string):=h
 obtain ⟨a',c',e⟩:=row_shape h'
 cases e
 refine ⟨by simp,?_⟩
 rcases h'.2 with ⟨_,h0⟩ | ⟨g,cap,cur,hv,_⟩
 ·left
  simpa using h0
 ·right
  cases hv
  refine ⟨g,rfl,fun j hj=>?_⟩
  have hc:=h'.cells (g:=g) rfl j (.string (ss.getD j ByteArray.empty)) (by
   rw [List.getElem?_map,List.getD_eq_getElem?_getD,List.getElem?_eq_getElem hj]
   rfl)
  have hadd:(⟨g,0,none⟩:Addr).add j=⟨g,0+j,none⟩:=by unfold Addr.add;split <;> simp_all
  rwa [hadd] at hc
theorem containsS_nil (x:ByteArray):Lib.containsS [] x=false:=by
 rw [←Bool.not_eq_true,Lib.containsS_iff]
 simp
theorem contains_row {n₁:Nat} (w:World) (a:Option Addr) (n c:Nat) (ss:List ByteArray) (x:ByteArray) (h:RowS n₁ w (.slice a n c) ss) (hl:ss.length≤9000000000000000000) :
  Calls Tryz.prog 76 #[.slice a n c,.string x] w fun e w'=>e = .returned (.bool (Lib.containsS ss x))∧w'=w:=by
 obtain ⟨rfl,h0 | ⟨g,rfl,hc⟩⟩:=rowS_cells h
 ·subst h0
  rw [containsS_nil]
  exact Tryz.slices_Contains_string_empty a c x w
 ·refine (Tryz.slices_Contains_string g 0 ss.length c ss x w (Nat.le_refl _) (by omega) hc).mono ?_
  rintro e w' ⟨rfl,rfl⟩
  rw [List.take_of_length_le (Nat.le_refl _)]
  exact ⟨rfl,rfl⟩
set_option maxRecDepth 100000 in
set_option maxHeartbeats 1000000 in
theorem frees_any (n₁:Nat) (ap ai:Option Addr) (np cp ni ci:Nat) (wd:Bool) (k:Int) (s:ByteArray) (a:Option Addr) (n cap:Nat) (ss:List ByteArray) (w:World) (hi:RowS n₁ w (.slice ai ni ci) ss) (hl:ss.length≤90000) :
  Calls Tryz.prog 75 #[.agg #[.slice ap np cp,.slice ai ni ci,.bool wd],.agg #[.int .i64 k,.string s,.slice a n cap]] w fun e w'=>e = .returned (.bool ((k==15 || k==16) && (!wd && !Lib.containsS ss s)))∧Below w.heap.size w w':=by
 obtain ⟨W,hW⟩:∃ W,(w.alloc (.cells #[.slice ap np cp,.slice ai ni ci,.bool wd] 88)).alloc (.cells #[.int .i64 k,.string s,.slice a n cap] 24)=W:=⟨_,rfl⟩
 have hb:Below w.heap.size w W:=by rw [←hW];exact ((Below.refl _ w).alloc (Nat.le_refl _) _).alloc (by simp) _
 have hi2:RowS n₁ W (.slice ai ni ci) ss:=row_keep hi fun g e=>hb.block g (World.ownsRow.lt hi g e).2
 have CC:=qh (contains_row W ai ni ci ss s hi2 (by omega))
 obtain ⟨V,hV⟩:∃ V,Lib.containsS ss s=V:=⟨_,rfl⟩
 rw [hV] at CC ⊢
 have HB:=qh hb
 have HW:=qh hW
 have hA:RowP W w.heap.size (.slice ap np cp) (.slice ai ni ci) (.bool wd):=by rw [←hW];exact (Below.heap_alloc _ _ _ (by simp only [World.size_alloc];omega)).trans (World.alloc_heap_new _ _)
 have hN:Row3 W (w.heap.size+1) (.int .i64 k) (.string s) (.slice a n cap):=by rw [←hW];exact alloc_at (by simp)
 obtain ⟨⟨p0,p1,p2⟩,_⟩:=hA.cells
 obtain ⟨⟨n0,n1,n2⟩,_⟩:=hN.cells
 obtain ⟨X,hX⟩:∃ X,(k==15 || k==16)=X:=⟨_,rfl⟩
 rw [hX]
 have HX:=qh hX
 clear hV hb hW hi hi2 hA hN hX hl
 cases h15:(k==15) with
 | true =>
  have HE:Hid (X=true):=qh (by rw [←HX.out,h15];rfl)
  clear HX
  cases wd with
  | true =>
   go_enter Tryz.func75,Tryz.ntmps75
   go_upto_region 1 with fail
   rw [HW.out]
   go_wp2
   go_ret
   exact ⟨by rw [HE.out];rfl,HB.out⟩
  | false =>
   go_enter Tryz.func75,Tryz.ntmps75
   go_upto_region 1 with fail
   rw [HW.out]
   go_wp2_with fail
   refine CC.out.mono ?_
   rintro e w1 ⟨rfl,rfl⟩
   go_wp2
   go_ret
   exact ⟨by rw [HE.out];rfl,HB.out⟩
 | false =>
  cases h16:(k==16) with
  | true =>
   have HE:Hid (X=true):=qh (by rw [←HX.out,h15,h16];rfl)
   clear HX
   cases wd with
   | true =>
    go_enter Tryz.func75,Tryz.ntmps75
    go_upto_region 1 with fail
    rw [HW.out]
    go_wp2
    go_ret
    exact ⟨by rw [HE.out];rfl,HB.out⟩
   | false =>
    go_enter Tryz.func75,Tryz.ntmps75
    go_upto_region 1 with fail
    rw [HW.out]
    go_wp2_with fail
    refine CC.out.mono ?_
    rintro e w1 ⟨rfl,rfl⟩
    go_wp2
    go_ret
    exact ⟨by rw [HE.out];rfl,HB.out⟩
  | false =>
   have HE:Hid (X=false):=qh (by rw [←HX.out,h15,h16];rfl)
   clear HX
   go_enter Tryz.func75,Tryz.ntmps75
   go_upto_region 1 with fail
   rw [HW.out]
   go_wp2
   go_ret
   exact ⟨by rw [HE.out];rfl,HB.out⟩
end Go.Proofs.YtcimcjmdkjajfaaGreatDoor
namespace Go.Proofs.YtcimcjmdkjajfaaGreatDoor
open Go.RowKit Go.Shelf
def mapOf (out:List ByteArray):List (List UInt8×Value):=out.map fun s=>(bs s,.bool true)
theorem S_bs (s:ByteArray):S_ (bs s) = .string s:=rfl
theorem found_map (out:List ByteArray) (s:ByteArray):found (mapOf out) (bs s)=if Lib.containsS out s=true then some (.bool true) else none:=by
 unfold found mapOf
 rw [List.find?_map]
 by_cases h:s∈out
 ·rw [if_pos ((Lib.containsS_iff _ _).2 h)]
  cases hf:out.find? ((fun p:List UInt8×Value=>p.1==bs s)∘fun s=>(bs s,Value.bool true)) with
  | none =>
   rw [List.find?_eq_none] at hf
   have:=hf s h
   simp at this
  | some x=>rfl
 ·rw [if_neg (fun e=>h ((Lib.containsS_iff _ _).1 e))]
  cases hf:out.find? ((fun p:List UInt8×Value=>p.1==bs s)∘fun s=>(bs s,Value.bool true)) with
  | none=>rfl
  | some x =>
   have h1:=List.mem_of_find?_eq_some hf
   have h2:=List.find?_some hf
   simp only [Function.comp_apply,beq_iff_eq] at h2
   rw [bs_inj h2] at h1
   exact absurd h1 h
theorem run_lookup_one {P:Program} {w:World} {t k e:TypeId} (ht:P.underlying t=some (.map k e)) (hk:P.underlying k=some .string) {z:Value} (hz:(zeroValue e).run P w = .ok z w) {b:Nat} {L:List (List UInt8×Value)} (hm:StrMap w b L) (s:List UInt8) :
  (Instr.lookup t (.map (some b)) (S_ s) false).run P w = .ok ((found L s).getD z) w:=by
 obtain ⟨es,c,h1,h2⟩:=hm
 obtain ⟨r,h3,h4⟩:=findNow_str s es.toList L 0 h2
 unfold S_ at h3 ⊢
 cases r with
 | none =>
  have h5:found L s=none:=by rw [←h4];rfl
  simp [Instr.lookup,run_underlying ht,MapKept.run_getObj_map h1,checkStr,hk,run_underlying hk,Instr.findKey,h3,hz,Result.andThen,h5]
 | some p =>
  have h5:found L s=some p.2:=by rw [←h4];rfl
  simp [Instr.lookup,run_underlying ht,MapKept.run_getObj_map h1,checkStr,hk,run_underlying hk,Instr.findKey,h3,Result.andThen,h5]
theorem run_met {w:World} {b:Nat} {out:List ByteArray} (hm:StrMap w b (mapOf out)) (s:ByteArray) :
  (Instr.lookup 121 (.map (some b)) (.string s) false).run Tryz.prog w = .ok (.bool (Lib.containsS out s)) w:=by
 have:=run_lookup_one (P:=Tryz.prog) (z:=.bool false) Tryz.underlying121 Tryz.underlying9 (by kernel_rfl) hm (bs s)
 rw [S_bs,found_map] at this
 rw [this]
 cases Lib.containsS out s <;> rfl
theorem run_meet {w:World} {b:Nat} {out:List ByteArray} (hm:StrMap w b (mapOf out)) (s:ByteArray) (hs:Lib.containsS out s=false) :
  ∃ w',(Instr.mapUpdate 121 (.map (some b)) (.string s) (.bool true)).run Tryz.prog w = .ok () w'∧StrMap w' b (mapOf (out++[s]))∧w'.heap.size=w.heap.size∧(∀ B,B≤b→Below B w w')∧∀ j,j≠b→w'.heap[j]?=w.heap[j]?:=by
 obtain ⟨w',h1,h2,h3,h4,h5,h6,h7⟩:=run_insert_str (P:=Tryz.prog) Tryz.underlying121 Tryz.underlying9 hm (bs s) (.bool true) (by rw [found_map,if_neg (by rw [hs];decide)])
 refine ⟨w',h1,?_,h3,fun B hB=>⟨h4,h5,h6,Nat.le_of_eq h3.symm,fun j hj=>h7 j (by omega)⟩,h7⟩
 unfold mapOf at h2 ⊢
 rw [List.map_append]
 exact h2
structure JFc (L1 T:Nat) (w1:World) (out:List ByteArray) (W:World):Prop where
 b:Below L1 w1 W
 z:T+1+1 < W.heap.size
 d:W.heap[T+1]?=some (.deferred (some []))
 m:StrMap W (L1+1) (mapOf out)
 v:W.heap[L1+1+1]?=some (.cells #[.map (some (L1+1))] 121 (0,0))
 c:∃ vl,W.heap[L1]?=some (.cells #[vl] 31 (0,0))∧RowS (T+1+1+1) W vl out
def Oo (L1:Nat) (W:World) (b:Nat):Prop:=b=L1∨∃ v,W.cell? ⟨L1,0,none⟩=some v∧v.ownBlock=some b
theorem JFc.keep {L1 T:Nat} {w1 W W':World} {out:List ByteArray} (j:JFc L1 T w1 out W) (hT:L1+1+1+1=T) (hb:Below L1 w1 W') (hz:W.heap.size≤W'.heap.size)
  (hk:∀ b,b < W.heap.size→b≠T+1+1→(b < T+1+1∨Oo L1 W b)→W'.heap[b]?=W.heap[b]?):JFc L1 T w1 out W':=by
 have z:=j.z
 obtain ⟨vl,c1,c2⟩:=j.c
 refine ⟨hb,by omega,(hk _ (by omega) (by omega) (.inl (by omega))).trans j.d,j.m.keep (hk _ (by omega) (by omega) (.inl (by omega))),(hk _ (by omega) (by omega) (.inl (by omega))).trans j.v,vl,(hk _ (by omega) (by omega) (.inl (by omega))).trans c1,row_keep c2 fun g e=>?_⟩
 have:=World.ownsRow.lt c2 g e
 exact hk g this.2 (by omega) (.inr (.inr ⟨vl,cell_of_row _ _ _ _ _ _ c1,e⟩))
theorem JFc.own {L1 T:Nat} {w1 W:World} {out:List ByteArray} (j:JFc L1 T w1 out W) {b:Nat} (h:Oo L1 W b):b=L1∨(T+1+1+1≤b∧b < W.heap.size):=by
 rcases h with h | ⟨v,h1,h2⟩
 ·exact .inl h
 ·obtain ⟨vl,c1,c2⟩:=j.c
  rw [cell_of_row _ _ _ _ _ _ c1] at h1
  cases h1
  exact .inr (World.ownsRow.lt c2 b h2)
theorem JFc.add {L1 T:Nat} {w1 w6 w8:World} {out:List ByteArray} {s:ByteArray} {vl v':Value} (hT:L1+1+1+1=T) (hb:Below L1 w1 w8) (z:T+1+1 < w6.heap.size) (hz:w6.heap.size≤w8.heap.size) (d:w6.heap[T+1]?=some (.deferred (some [])))
  (m:StrMap w6 (L1+1) (mapOf (out++[s]))) (v:w6.heap[L1+1+1]?=some (.cells #[.map (some (L1+1))] 121 (0,0)))
  (c:w6.heap[L1]?=some (.cells #[vl] 31 (0,0))) (ho:∀ g,vl.ownBlock=some g→T+1+1+1≤g) (hk:∀ b,b < w6.heap.size→vl.ownBlock≠some b→w8.heap[b]?=w6.heap[b]?) (r:RowS (T+1+1+1) w8 v' (out++[s])) :
  JFc L1 T w1 (out++[s]) (w8.setCell ⟨L1,0,none⟩ v'):=by
 have far:∀ b,b≠L1→(w8.setCell ⟨L1,0,none⟩ v').heap[b]?=w8.heap[b]?:=fun b hb=>Below.heap_setCell _ _ _ _ (by simp only;exact hb)
 have lo:∀ b,b < T+1+1+1→w8.heap[b]?=w6.heap[b]?:=fun b hb=>hk b (by omega) (fun e=>by have:=ho b e;omega)
 refine ⟨hb.setCell (p:=⟨L1,0,none⟩) (Nat.le_refl _) _,by rw [setCell_size];omega,(far _ (by omega)).trans ((lo _ (by omega)).trans d),m.keep ((far _ (by omega)).trans (lo _ (by omega))),(far _ (by omega)).trans ((lo _ (by omega)).trans v),v',heap_setCell_same _ _ 0 _ _ _ ((lo _ (by omega)).trans c),row_keep r fun g e=>far g (by have:=World.ownsRow.lt r g e;omega)⟩
theorem JFc.putLoop {L1 T:Nat} {w1 W:World} {out:List ByteArray} (j:JFc L1 T w1 out W) (hT:L1+1+1+1=T) (rl:Loop):JFc L1 T w1 out (W.putObj (T+1+1) (.loop rl)) :=
 j.keep hT (below_put j.b _ _ (by omega)) (by rw [World.putObj_size];exact Nat.le_refl _) (fun b _ h2 _=>World.putObj_heap_other h2)
theorem Kc.putLoop {L1 T:Nat} {A W:World} {r:Loop} (k:Kc (Oo L1) A W) (hT:L1+1+1+1=T) (hl:A.heap[T+1+1]?=some (.loop r)) (rl:Loop):Kc (Oo L1) A (W.putObj (T+1+1) (.loop rl)):=by
 refine ⟨by rw [World.putObj_size];exact k.1,fun b c t z h1 e=>(World.putObj_heap_other (by rintro rfl;rw [hl] at e;cases e)).trans (k.2.1 b c t z h1 e),fun b hb=>k.2.2 b ?_⟩
 rcases hb with h | ⟨v,h1,h2⟩
 ·exact .inl h
 ·exact .inr ⟨v,(World.cell?_of_block (w:=W) (World.putObj_heap_other (by simp only;omega))).symm.trans h1,h2⟩
theorem Kc.same {L1 T:Nat} {A W:World} {r:Loop} (hT:L1+1+1+1=T) (hz:A.heap.size≤W.heap.size) (hl:A.heap[T+1+1]?=some (.loop r)) (hk:∀ b,b < A.heap.size→b≠T+1+1→W.heap[b]?=A.heap[b]?):Kc (Oo L1) A W:=by
 have:=heap_lt hl
 refine ⟨hz,fun b c t z h1 e=>(hk b (heap_lt e) (by rintro rfl;rw [hl] at e;cases e)).trans e,fun b hb=>.inl ?_⟩
 rcases hb with h | ⟨v,h1,h2⟩
 ·exact .inl h
 ·exact .inr ⟨v,(World.cell?_of_block (w:=A) (hk L1 (by omega) (by omega))).symm.trans h1,h2⟩
theorem Kc.added {L1 T:Nat} {A W:World} {r:Loop} {vl v':Value} {L:List (List UInt8×Value)} (hz:A.heap.size≤W.heap.size) (hl:A.heap[T+1+1]?=some (.loop r)) (hm:StrMap A (L1+1) L)
  (hc:A.heap[L1]?=some (.cells #[vl] 31 (0,0))) (hc':W.heap[L1]?=some (.cells #[v'] 31 (0,0))) (hv:∀ g,v'.ownBlock=some g→vl.ownBlock=some g∨A.heap.size≤g)
  (hk:∀ b,b < A.heap.size→b≠T+1+1→b≠L1+1→b≠L1→vl.ownBlock≠some b→W.heap[b]?=A.heap[b]?):Kc (Oo L1) A W:=by
 have hcl:A.cell? ⟨L1,0,none⟩=some vl:=cell_of_row _ _ _ _ _ _ hc
 refine ⟨hz,fun b c t z h1 e=>(hk b (heap_lt e) (by rintro rfl;rw [hl] at e;cases e) (by rintro rfl;obtain ⟨es,cl,h2,_⟩:=hm;rw [h2] at e;cases e) (fun e2=>h1 (.inl e2)) (fun e2=>h1 (.inr ⟨vl,hcl,e2⟩))).trans e,fun b hb=>?_⟩
 rcases hb with h | ⟨v,h1,h2⟩
 ·exact .inl (.inl h)
 ·rw [cell_of_row _ _ _ _ _ _ hc'] at h1
  cases h1
  exact (hv b h2).imp (fun e=>.inr ⟨vl,hcl,e⟩) id
theorem app_same {w6 w7 w8:World} {vl:Value} {o:Obj} (hb7:Below w6.drew.heap.size w6.drew w7) (g:(w7.alloc o).grownBy w8 vl.ownBlock) :
  (∀ b,b < w6.heap.size→vl.ownBlock≠some b→w8.heap[b]?=w6.heap[b]?)∧w6.heap.size≤w8.heap.size∧(∀ B,B≤w6.heap.size→(∀ k,vl.ownBlock=some k→B≤k)→Below B w6 w8):=by
 have hz:w6.heap.size≤w7.heap.size:=hb7.size
 have hz2:(w7.alloc o).heap.size≤w8.heap.size:=g.size
 rw [World.size_alloc] at hz2
 refine ⟨fun b hb hne=>?_,by omega,fun B hB hk=>?_⟩
 ·exact (g.block b (by rw [World.size_alloc];omega) (fun e=>hne e.symm)).trans ((Below.heap_alloc _ _ _ (by omega)).trans (hb7.block b hb))
 ·exact (((Below.refl B w6).drew.trans (hb7.mono (show B≤w6.drew.heap.size from hB))).alloc (by omega) _).grown g (by rw [World.size_alloc];omega) hk
theorem stepIn_append {F:Fence} {n:Nat} {P:Program} {ops:Array Oper} {o:Oper} {a:Act} {w w':World} {K:Act→World→Prop} {Q:Exit→Act→World→Prop} {E:Prop} {r v u:Value} (hgd:o.guard=none) (s x:Operand) (t:TypeId)
  (ho:o.op = .call { callee:=.builtin .append,args:=#[s,x],argTypes:=#[t,t] }) (hs:a.eval s=v) (hx:a.eval x=u) (hrun:(Builtin.append_ #[t,t] o.type #[v,u]).run P w = .ok r w') (h:K (a.put o.dst r) w') :
  if Region.wanted o (yielded ops a.tmps)=true then Oper.wpIn F n P o a w K Q else E:=by
 have hw:Region.wanted o (yielded ops a.tmps)=true:=by simp [Region.wanted,hgd]
 rw [if_pos hw]
 unfold Oper.wpIn
 refine ⟨?_,?_⟩
 ·simp [Oper.about,ho,resolve,Target.leads,Sem.run_pure]
 ·rw [Oper.semAt_plain F _ _ (by rw [ho];intro c hc';cases hc')]
  simp [execOp,ho,resolve,invoke,builtin,hs,hx,hrun,Result.andThen]
  exact h
end Go.Proofs.YtcimcjmdkjajfaaGreatDoor
namespace Go.Proofs.YtcimcjmdkjajfaaGreatDoor
open Go.RowKit Go.Shelf
attribute [local go_sem] Oper.semAt_some
set_option maxRecDepth 100000 in
set_option maxHeartbeats 2000000 in
theorem occurring_ok (t:Nd) (kind:Int) (w:World) (v0 v1 v2:Value) (ht:NdR w t v0 v1 v2) (hv:chkN t=0) (hsm:smN t) (hsz:t.sz≤4000) :
  Calls Tryz.prog 70 #[.agg #[v0,v1,v2],.int .i64 kind] w fun e w'=>∃ v,e = .returned (.tuple #[v,.int .i64 0])∧RowS w.heap.size w' v (occs kind (preN 0 [] false t))∧Below w.heap.size w w':=by
 obtain ⟨k,s,kids,a,cap,rfl,rfl,rfl,rfl,hs,hl⟩:=ht.form
 have eg:∀ args w,(callFunc 127 args).run Tryz.prog w = .ok (.enter 127 args) w:=enters_of Tryz.func127 (by kernel_rfl) rfl
 have hmm:=@run_makeMap Tryz.prog
 obtain ⟨W0,hW0⟩:∃ W0,(w.alloc (.cells #[.int .i64 k,.string s,.slice a kids.length cap] 24)).alloc (.cells #[.int .i64 kind] 3)=W0:=⟨_,rfl⟩
 obtain ⟨h,hh⟩:∃ h,w.heap.size=h:=⟨_,rfl⟩
 have b0:Below h w W0:=by rw [←hW0,←hh];exact ((Below.refl _ w).alloc (Nat.le_refl _) _).alloc (by simp) _
 have r0:Row3 W0 h (.int .i64 k) (.string s) (.slice a kids.length cap):=by rw [←hW0,←hh];exact (Below.heap_alloc _ _ _ (by simp only [World.size_alloc];omega)).trans (World.alloc_heap_new _ _)
 have k0:W0.heap[h+1]?=some (.cells #[.int .i64 kind] 3 (0,0)):=by rw [←hW0,←hh];exact alloc_at (by simp)
 have z0:W0.heap.size=h+1+1:=by rw [←hW0];simp [hh]
 have t0:NdR W0 (.mk k s kids) (.int .i64 k) (.string s) (.slice a kids.length cap):=ht.later (by rw [hh];exact b0)
 have CC:=qh (check_tree _ W0 _ _ _ t0)
 rw [hv] at CC
 refine (callsIn_wide (n:=6)).1 ?_
 refine callsIn_of_wpAt Tryz.func70 rfl ?_
 simp only [Tryz.ntmps70,List.size_toArray,List.length_cons,List.length_nil,Nat.reduceAdd,Nat.reduceSub,Array.replicate_succ,Array.replicate_zero,List.push_toArray,List.append_toArray,List.nil_append,List.cons_append]
 refine wpAt_seq (wpAt_of_wpIn ?_)
 gi_wp2
 (try rw [hW0])
 (try rw [hh])
 clear hW0
 obtain ⟨⟨n0,n1,n2⟩,_⟩:=r0.cells
 refine wpAt_seq (wpAt_of_wpIn ?_)
 gi_wp2_with fail
 refine ⟨trivial,((callsIn_wide (n:=5)).2 CC.out).mono ?_⟩
 rintro e w1 ⟨rfl,hb1⟩
 have r1:Row3 w1 h (.int .i64 k) (.string s) (.slice a kids.length cap):=(hb1.block _ r0.lt).trans r0
 have k1:w1.heap[h+1]?=some (.cells #[.int .i64 kind] 3 (0,0)):=(hb1.block _ (by omega)).trans k0
 have B1:Below h w w1:=b0.trans (hb1.mono (by omega))
 have z1:h+1+1≤w1.heap.size:=by have:=hb1.size;omega
 have t1:=qh (t0.later hb1)
 clear n0 n1 n2 hb1 CC t0 k0 r0 b0
 gi_wp2
 refine wpAt_seq (wpAt_of_wpIn ?_)
 gi_wp2
 refine wpAt_seq (wpAt_of_wpIn ?_)
 gi_wp2
 obtain ⟨L1,hL1⟩:∃ L1,w1.heap.size=L1:=⟨_,rfl⟩
 obtain ⟨W3,hW3⟩:∃ W3,((w1.alloc (.cells #[.slice none 0 0] 31)).alloc (.map #[] 0)).alloc (.cells #[.map (some (L1+1))] 121)=W3:=⟨_,rfl⟩
 have z3:W3.heap.size=L1+1+1+1:=by rw [←hW3];simp [hL1]
 have o3:∀ b,b < L1→W3.heap[b]?=w1.heap[b]?:=fun b hb=>by
  rw [←hW3]
  exact (Below.heap_alloc _ _ _ (by simp only [World.size_alloc];omega)).trans ((Below.heap_alloc _ _ _ (by simp only [World.size_alloc];omega)).trans (Below.heap_alloc _ _ _ (by omega)))
 have B3:Below L1 w1 W3:=by
  rw [←hW3]
  exact (((Below.refl _ w1).alloc (by omega) _).alloc (by simp only [World.size_alloc];omega) _).alloc (by simp only [World.size_alloc];omega) _
 have l3:W3.heap[L1]?=some (.cells #[.slice none 0 0] 31 (0,0)):=by
  rw [←hW3,←hL1]
  exact (Below.heap_alloc _ _ _ (by simp only [World.size_alloc];omega)).trans ((Below.heap_alloc _ _ _ (by simp only [World.size_alloc];omega)).trans (World.alloc_heap_new _ _))
 have m3:StrMap W3 (L1+1) (mapOf []):=⟨#[],0,by
  rw [←hW3,←hL1]
  exact (Below.heap_alloc _ _ _ (by simp only [World.size_alloc];omega)).trans (alloc_at (by simp)),by simp [mapOf]⟩
 have v3:W3.heap[L1+1+1]?=some (.cells #[.map (some (L1+1))] 121 (0,0)):=by
  rw [←hW3,←hL1];exact alloc_at (by simp)
 rw [hL1] at z1
 have r3:Row3 W3 h (.int .i64 k) (.string s) (.slice a kids.length cap):=(o3 _ (by omega)).trans r1
 have k3:W3.heap[h+1]?=some (.cells #[.int .i64 kind] 3 (0,0)):=(o3 _ (by omega)).trans k1
 have t3:NdR W3 (.mk k s kids) (.int .i64 k) (.string s) (.slice a kids.length cap):=t1.out.later (by rw [hL1];exact B3)
 (try rw [hL1])
 (try rw [hW3])
 clear hW3 r1
 obtain ⟨⟨n0,n1,n2⟩,_⟩:=r3.cells
 refine wpAt_seq (wpAt_seq (wpAt_of_wpIn ?_))
 gi_wp2_with fail
 refine ⟨trivial,((callsIn_wide (n:=5)).2 (walk_any k s a kids.length cap _)).mono ?_⟩
 rintro e w2 ⟨rfl,rfl⟩
 gi_wp2
 obtain ⟨T,hT⟩:∃ T,L1+1+1+1=T:=⟨_,rfl⟩
 rw [hT] at z3
 (try rw [z3])
 (try rw [hT])
 clear n0 n1 n2
 refine wpAt_block (wpAt_rangeFunc_fn (gf:=127) (lb:=#[.pointer (some ⟨T,0,none⟩)]) rfl eg ?_)
 intro r hr
 have hr1:r.state = .ready:=by rw [hr]
 have hr2:r.pending=none:=by rw [hr]
 have hr3:r.params=#[19,20]:=by rw [hr]
 obtain ⟨W4,hW4⟩:∃ W4,W3.alloc (.cells #[.int .i64 k,.string s,.slice a kids.length cap] 24)=W4:=⟨_,rfl⟩
 have z4:W4.heap.size=T+1:=by rw [←hW4,World.size_alloc,z3]
 have b4:Row3 W4 T (.int .i64 k) (.string s) (.slice a kids.length cap):=by rw [←hW4];exact alloc_at (by omega)
 have o4:∀ b,b < T→W4.heap[b]?=W3.heap[b]?:=fun b hb=>by rw [←hW4];exact Below.heap_alloc _ _ _ (by omega)
 have B4:Below L1 w1 W4:=by rw [←hW4];exact B3.alloc (by omega) _
 rw [hW4]
 clear hW4
 obtain ⟨W1,hW1⟩:∃ W1,(W4.alloc (.deferred (some []))).alloc (.loop r)=W1:=⟨_,rfl⟩
 have old:∀ b,b < T+1→W1.heap[b]?=W4.heap[b]?:=fun b hb=>by rw [←hW1];exact (Below.heap_alloc _ _ _ (by simp only [World.size_alloc];omega)).trans (Below.heap_alloc _ _ _ (by omega))
 have zW1:W1.heap.size=T+1+1+1:=by rw [←hW1];simp [z4]
 have hd1:W1.heap[T+1]?=some (.deferred (some [])):=by rw [←hW1];exact (Below.heap_alloc _ _ _ (by simp only [World.size_alloc];omega)).trans (alloc_at (by omega))
 have hl1:W1.heap[T+1+1]?=some (.loop r):=by rw [←hW1];exact alloc_at (by simp only [World.size_alloc];omega)
 have hB1:Below L1 w1 W1:=by rw [←hW1];exact (B4.alloc (by omega) _).alloc (by simp only [World.size_alloc];omega) _
 have j0:JFc L1 T w1 (occs kind []) W1:=⟨hB1,by omega,hd1,m3.keep ((old _ (by omega)).trans (o4 _ (by omega))),((old _ (by omega)).trans (o4 _ (by omega))).trans v3,_,((old _ (by omega)).trans (o4 _ (by omega))).trans l3,World.ownsRow_nil _ _ _ _⟩
 have hsup:Sup w1 W1:=fun b c t z e=>(hB1.block b (by rw [←hL1];exact heap_lt e)).trans e
 have K1:=qh k1
 have hcall:CallsIn Fence.wide 5 Tryz.prog 127 #[.func (.yield (T+1+1)) #[] #[],.pointer (some ⟨T,0,none⟩)] W1
   (fun e w'=>(∃ v,e = .returned v)∧JFc L1 T w1 (occs kind (preN 0 [] false (.mk k s kids))) w'∧w'.heap[T+1+1]?=some (.loop r)):=by
  refine (callsIn_wide (n:=5)).2 ?_
  refine (walkI_any (Oo L1) (T+1+1) T w1 W1 (fun pre W=>pre.length≤4000∧JFc L1 T w1 (occs kind pre) W∧W.heap[T+1+1]?=some (.loop r)) (fun _ _=>False) k s kids a cap
   (fun pre W hj=>by have:=hj.1;omega) (fun pre A B hj hb hk=>⟨hj.1,hj.2.1.keep hT (hj.2.1.b.trans (hb.mono (by omega))) hb.size (fun b _ _ h3=>h3.elim (fun h=>hb.block b (by omega)) (fun h=>hk b h)),(hb.block _ (by omega)).trans hj.2.2⟩)
   (fun A B hb b h=>h.imp id (fun ⟨v,h1,h2⟩=>⟨v,(hb.cell (p:=⟨L1,0,none⟩) (by simp only;omega)).symm.trans h1,h2⟩)) (fun pre A hj b hb=>by have:=hj.2.1.z;rcases hj.2.1.own hb with h | h <;> omega)
   ?_ t1.out ((old T (by omega)).trans b4) hsup (by omega) (fun b hb=>by rcases j0.own hb with h | h <;> omega) ⟨by simp,j0,hl1⟩).mono ?_
  ·intro m pre it A vp vi u0 u1 u2 n₁ ps hn1 hj hall hpd hg
   obtain ⟨hjl,hjm,hjr⟩:=hj
   obtain ⟨hgd,hgp,hgi,hgt⟩:=hg
   have hlen:(pre++[it]).length≤4000:=by have:=hall.length_le;rw [preN_len] at this;omega
   have hsz1:it.t.s'.size≤64:=sm_pre 0 [] false _ hsm it (hall.subset (by simp))
   obtain ⟨ap,cp,rfl⟩:=row_shape hgp
   obtain ⟨ai,ci,hvi⟩:=row_shape hgi
   subst hvi
   rw [List.length_map] at hgi
   obtain ⟨k1,s1,l1,a1,c1,ht1,rfl,rfl,rfl,_,_⟩:=hgt.form
   have hil:it.ins.length≤90000:=by have:=ins_pre 0 [] false _ it (hall.subset (by simp));simp only [List.length_nil] at this;omega
   obtain ⟨V,hV⟩:∃ V,((k1==15 || k1==16) && (!it.wd && !Lib.containsS it.ins s1))=V:=⟨_,rfl⟩
   have hos:=(occs_snoc kind pre it).trans (occ_at ht1 hV kind _)
   rw [ht1] at hsz1
   simp only [Nd.s'] at hsz1
   obtain ⟨out,hout⟩:∃ out,occs kind pre=out:=⟨_,rfl⟩
   have hol:out.length≤4000:=by rw [←hout];have:=occs_len kind pre;omega
   rw [hout] at hjm hos
   obtain ⟨out',hout'⟩:∃ out',occs kind (pre++[it])=out':=⟨_,rfl⟩
   rw [hout'] at hos
   obtain ⟨R,hR⟩:∃ R:Ending→World→Prop,(fun e W'=>(e = .returned (.bool true)∧((pre++[it]).length≤4000∧JFc L1 T w1 (occs kind (pre++[it])) W'∧W'.heap[T+1+1]?=some (.loop r))∧Kc (Oo L1) A W')∨(e = .returned (.bool false)∧False∧Kc (Oo L1) A W'))=R:=⟨_,rfl⟩
   rw [hR]
   have HR:Hid (∀ W',JFc L1 T w1 out' W'→W'.heap[T+1+1]?=some (.loop r)→Kc (Oo L1) A W'→R (.returned (.bool true)) W'):=qh (fun W' j1 j2 j3=>by rw [←hR];exact .inl ⟨rfl,⟨hlen,by rw [hout'];exact j1,j2⟩,j3⟩)
   clear hR hout hout' hlen hall hjl
   refine ⟨_,_,_,_,run_yield (P:=Tryz.prog) hjr (by rw [hr3];rfl),?_⟩
   have hr4:r.fn=70:=by rw [hr]
   rw [hr4]
   refine roundIn_of_wpIn_p trivial Tryz.func70 ?_
   have hrs:=hr1
   have HJ:=qh hjm
   have HJR:=qh hjr
   have HRR:=qh hr
   have HOS:=qh hos
   have HGI:=qh hgi
   have hVH:=qh hV
   have HIL:=qh hil
   simp only [hr]
   clear hgp hgi hgt hjm hjr hr hr1 hr2 hr3 hr4 hos hV hil
   gi_wp2
   refine ⟨_,run_beginRound (r:=r) ((Below.heap_alloc _ _ _ (by have:=heap_lt HJR.out;simp only [World.size_alloc];omega)).trans ((Below.heap_alloc _ _ _ (heap_lt HJR.out)).trans HJR.out)) hrs,?_⟩
   obtain ⟨N,hN⟩:∃ N,A.heap.size=N:=⟨_,rfl⟩
   obtain ⟨W2,hW2⟩:∃ W2,((A.alloc (.cells #[.slice ap ps.length cp,.slice ai it.ins.length ci,.bool it.wd] 88)).alloc (.cells #[.int .i64 k1,.string s1,.slice a1 l1.length c1] 24)).putObj (T+1+1) (.loop { r with state:=.busy })=W2:=⟨_,rfl⟩
   have hTN:T+1+1 < N:=by have:=HJ.out.z;omega
   have ko:∀ b,b < N→b≠T+1+1→W2.heap[b]?=A.heap[b]?:=fun b hb1 hb2=>by
    rw [←hW2];exact (World.putObj_heap_other hb2).trans ((Below.heap_alloc _ _ _ (by simp only [World.size_alloc];omega)).trans (Below.heap_alloc _ _ _ (by omega)))
   have mz:W2.heap.size=N+1+1:=by rw [←hW2,World.putObj_size,World.size_alloc,World.size_alloc,hN]
   have m5:W2.heap[T+1+1]?=some (.loop { r with state:=.busy }):=by rw [←hW2];exact World.putObj_heap_same (by simp only [World.size_alloc];omega)
   have mt:RowP W2 N (.slice ap ps.length cp) (.slice ai it.ins.length ci) (.bool it.wd):=by
    rw [←hW2,←hN];exact (World.putObj_heap_other (by omega)).trans ((Below.heap_alloc _ _ _ (by simp only [World.size_alloc];omega)).trans (World.alloc_heap_new _ _))
   have mx:Row3 W2 (N+1) (.int .i64 k1) (.string s1) (.slice a1 l1.length c1):=by
    rw [←hW2,←hN];exact (World.putObj_heap_other (by omega)).trans (alloc_at (by simp))
   have mb:Below L1 w1 W2:=by rw [←hW2];exact below_put ((HJ.out.b.alloc (by omega) _).alloc (by simp only [World.size_alloc];omega) _) _ _ (by omega)
   have mj:JFc L1 T w1 out W2:=HJ.out.keep hT mb (by omega) (fun b h1 h2 _=>ko b (by omega) h2)
   have mi:RowS n₁ W2 (.slice ai it.ins.length ci) it.ins:=row_keep HGI.out fun g e=>by have:=World.ownsRow.lt HGI.out g e;exact ko g (by omega) (by omega)
   rw [hW2,hN]
   obtain ⟨⟨p0,p1,p2⟩,_⟩:=mt.cells
   obtain ⟨⟨x0,x1,x2⟩,_⟩:=mx.cells
   have hkb:=(mb.block (h+1) (by omega)).trans K1.out
   have kc:W2.cell? ⟨h+1,0,none⟩=some (.int .i64 kind):=cell_of_row _ _ _ _ _ _ hkb
   have HM:=qh mj
   have HKO:=qh ko
   have HMZ:=qh mz
   have HM5:=qh m5
   have HMX:=qh mx
   have HN:=qh hN
   have CF:=qh (frees_any n₁ ap ai ps.length cp it.ins.length ci it.wd k1 s1 a1 l1.length c1 it.ins W2 mi HIL.out)
   rw [hVH.out] at CF
   obtain ⟨wd,hwd⟩:∃ wd,it.wd=wd:=⟨_,rfl⟩
   obtain ⟨NI,hni⟩:∃ NI,it.ins.length=NI:=⟨_,rfl⟩
   obtain ⟨NP,hnp⟩:∃ NP,ps.length=NP:=⟨_,rfl⟩
   rw [hwd,hni,hnp] at CF
   rw [hwd] at p2
   rw [hni] at p1
   rw [hnp] at p0
   have e0:({ ({ r with state:=.busy }:Loop) with state:=.ready,pending:=none }:Loop)=r:=by rw [HRR.out]
   have E0:=qh e0
   have FIN:Hid (∀ W',Below W2.heap.size W2 W'→out'=out→R (.returned (.bool true)) (W'.putObj (T+1+1) (.loop r))):=qh (fun W' hb he=>by
    have kk:∀ b,b < A.heap.size→b≠T+1+1→W'.heap[b]?=A.heap[b]?:=fun b h1 h2=>(hb.block b (by omega)).trans (ko b (by omega) h2)
    have jj:JFc L1 T w1 out W':=HJ.out.keep hT (mb.trans (hb.mono (by omega))) (by have:=hb.size;omega) (fun b h1 h2 _=>kk b h1 h2)
    refine HR.out _ ?_ (World.putObj_heap_same (by have:=hb.size;omega)) ((Kc.same hT (by have:=hb.size;omega) HJR.out kk).putLoop hT HJR.out r)
    rw [he]
    exact jj.putLoop hT r)
   have FINL:Hid (∀ W',Below W2.heap.size W2 W'→W'.heap[T+1+1]?=some (.loop { r with state:=.busy })):=qh (fun W' hb=>(hb.block _ (by omega)).trans m5)
   clear ko mz m5 mt mx mj mb mi hW2 hN hkb hwd hni hnp e0
   cases hkk:(k1==kind) with
   | false =>
    have HE:Hid (out'=out):=qh (by rw [HOS.out,hkk];simp)
    gi_wp2
    refine ⟨trivial,?_⟩
    gi_wp2
    refine ⟨_,_,run_endRound none (FINL.out _ (Below.refl _ _)),?_⟩
    simp only [Option.isNone_none,if_true]
    rw [E0.out]
    exact FIN.out _ (Below.refl _ _) HE.out
   | true =>
    gi_wp2_with fail
    refine ⟨trivial,fun e=>(by cases e),(CallsIn.inRound _ ((callsIn_wide (n:=m - 1)).2 CF.out)).mono ?_⟩
    rintro e w5 ⟨rfl,hb5⟩
    have HB5:=qh hb5
    clear hb5 CF p0 p1 p2
    cases V with
    | false =>
     have HE:Hid (out'=out):=qh (by rw [HOS.out,hkk];simp)
     gi_wp2
     refine ⟨_,_,run_endRound none (FINL.out _ HB5.out),?_⟩
     simp only [Option.isNone_none,if_true]
     rw [E0.out]
     exact FIN.out _ HB5.out HE.out
    | true =>
     have hzN:=HMZ.out
     have mj5:JFc L1 T w1 out w5:=HM.out.keep hT (HM.out.b.trans (HB5.out.mono (by have:=HM.out.z;omega))) HB5.out.size (fun b h1 _ _=>HB5.out.block b h1)
     have mx5:Row3 w5 (N+1) (.int .i64 k1) (.string s1) (.slice a1 l1.length c1):=(HB5.out.block _ HMX.out.lt).trans HMX.out
     have z5:=HB5.out.size
     obtain ⟨vl,cl5,rl5⟩:=mj5.c
     have v5:w5.cell? ⟨L1+1+1,0,none⟩=some (.map (some (L1+1))):=cell_of_row _ _ _ _ _ _ mj5.v
     obtain ⟨⟨y0,y1,y2⟩,_⟩:=mx5.cells
     have hlk:=run_met mj5.m s1
     obtain ⟨X,hX⟩:∃ X,Lib.containsS out s1=X:=⟨_,rfl⟩
     have HE:Hid (out'=if X=true then out else out++[s1]):=qh (by rw [HOS.out,hkk,hX];cases X <;> rfl)
     rw [hX] at hlk
     cases X with
     | true =>
      clear y0 y2 cl5 rl5 mj5 mx5 hX x0 x1 x2 hzN z5
      gi_wp2
      refine ⟨_,_,run_endRound none (FINL.out _ HB5.out),?_⟩
      simp only [Option.isNone_none,if_true]
      rw [E0.out]
      exact FIN.out _ HB5.out (by rw [HE.out];simp)
     | false =>
      obtain ⟨w6,hmu,m6,z6,b6,o6⟩:=run_meet mj5.m s1 hX
      have hne6:∀ b,b≠L1+1→w6.heap[b]?=w5.heap[b]?:=o6
      have cl6:=(o6 L1 (by omega)).trans cl5
      have mx6:Row3 w6 (N+1) (.int .i64 k1) (.string s1) (.slice a1 l1.length c1):=(o6 _ (by omega)).trans mx5
      have rl6:RowS (T+1+1+1) w6 vl out:=row_keep rl5 fun g e=>o6 g (by have:=World.ownsRow.lt rl5 g e;omega)
      have l6:w6.cell? ⟨L1,0,none⟩=some vl:=cell_of_row _ _ _ _ _ _ cl6
      have n6:w6.cell? ⟨N+1,1,none⟩=some (.string s1):=mx6.cells.1.2.1
      have hown6:∀ g,vl.ownBlock=some g→T+1+1+1≤g∧g < w6.heap.size:=World.ownsRow.lt rl6
      have D6:=qh ((o6 (T+1) (by omega)).trans mj5.d)
      have V6:=qh ((o6 (L1+1+1) (by omega)).trans mj5.v)
      have M6:=qh m6
      have CL6:=qh cl6
      have RL6:=qh rl6
      have B6:=qh (mj5.b.trans (b6 L1 (by omega)))
      have O6:=qh hne6
      have Z6:Hid (T+1+1 < w6.heap.size∧N+1+1≤w6.heap.size):=qh (by have:=mj5.z;omega)
      have F6:=qh (show w6.frozen? ⟨L1,0,none⟩=false from frozen_of_row _ _ _ _ _ cl6)
      have CC6:=qh (clone_any s1 w6.drew (by omega))
      obtain ⟨iS,hS,hSz,hSs,hSb⟩:=info_parts infoStr
      clear y0 y2 cl5 rl5 mj5 mx5 hX x0 x1 x2 hzN z5 m6 z6 b6 o6 hne6 cl6 mx6 rl6
      gi_wp2_with fail
      have LEAF:∀ (g8 cap8:Nat) (w8:World),((∀ b,b < w6.heap.size→vl.ownBlock≠some b→w8.heap[b]?=w6.heap[b]?)∧w6.heap.size≤w8.heap.size∧(∀ B,B≤w6.heap.size→(∀ k,vl.ownBlock=some k→B≤k)→Below B w6 w8)) →
        RowS (T+1+1+1) w8 (.slice (some ⟨g8,0,none⟩) (out++[s1]).length cap8) (out++[s1])→(∀ g',(Value.slice (some ⟨g8,0,none⟩) (out++[s1]).length cap8).ownBlock=some g'→vl.ownBlock=some g'∨w6.heap.size≤g') →
        ∃ v w',(Instr.endRound (T+1+1) none).run Tryz.prog (w8.setCell ⟨L1,0,none⟩ (.slice (some ⟨g8,0,none⟩) (out.length+1) cap8)) = .ok v w'∧R (.returned v) w':=by
       intro g8 cap8 w8 ⟨hk8,hz8,hb8⟩ q8 ho8
       have e9:out.length+1=(out++[s1]).length:=by simp
       rw [e9]
       clear e9
       have hz6:=Z6.out
       have hNN:=HN.out
       have hzM:=HMZ.out
       obtain ⟨v',hv'⟩:∃ v',Value.slice (some ⟨g8,0,none⟩) (out++[s1]).length cap8=v':=⟨_,rfl⟩
       rw [hv'] at q8 ho8 ⊢
       have far:∀ b,b≠L1→(w8.setCell ⟨L1,0,none⟩ v').heap[b]?=w8.heap[b]?:=fun b hb=>Below.heap_setCell _ _ _ _ (by simp only;exact hb)
       have c6A:∀ b,b < N→b≠T+1+1→b≠L1+1→w6.heap[b]?=A.heap[b]?:=fun b h1 h2 h3=>(O6.out b h3).trans ((HB5.out.block b (by omega)).trans (HKO.out b h1 h2))
       have hlow:∀ g,vl.ownBlock=some g→T+1+1+1≤g:=fun g e=>(hown6 g e).1
       have hzJ:=HJ.out.z
       have hloop:(w8.setCell ⟨L1,0,none⟩ v').heap[T+1+1]?=some (.loop { r with state:=.busy }) :=
        (far _ (by omega)).trans ((hk8 _ (by omega) (fun e=>by have:=hlow _ e;omega)).trans ((O6.out _ (by omega)).trans (FINL.out _ HB5.out)))
       refine ⟨_,_,run_endRound none hloop,?_⟩
       simp only [Option.isNone_none,if_true]
       rw [E0.out]
       have jadd:JFc L1 T w1 (out++[s1]) (w8.setCell ⟨L1,0,none⟩ v'):=JFc.add hT (B6.out.trans (hb8 L1 (by omega) (fun k e=>by have:=hlow k e;omega))) hz6.1 hz8 D6.out M6.out V6.out CL6.out hlow hk8 q8
       have hcA:A.heap[L1]?=some (.cells #[vl] 31 (0,0)):=(c6A L1 (by omega) (by omega) (by omega)).symm.trans CL6.out
       have hc9:(w8.setCell ⟨L1,0,none⟩ v').heap[L1]?=some (.cells #[v'] 31 (0,0)):=heap_setCell_same _ _ 0 _ _ _ ((hk8 L1 (by omega) (fun e=>by have:=hlow _ e;omega)).trans CL6.out)
       have kc:Kc (Oo L1) A (w8.setCell ⟨L1,0,none⟩ v'):=Kc.added (by rw [setCell_size];omega) HJR.out HJ.out.m hcA hc9 (fun g e=>(ho8 g e).imp id (fun h=>by omega))
        (fun b h1 h2 h3 h4 h5=>(far b h4).trans ((hk8 b (by omega) h5).trans (c6A b (by omega) h2 h3)))
       refine HR.out _ ?_ (World.putObj_heap_same (by rw [setCell_size];omega)) (kc.putLoop hT HJR.out r)
       have e':out'=out++[s1]:=by rw [HE.out];simp
       rw [e']
       exact jadd.putLoop hT r
      refine wpIn_region_any (by kernel_rfl) ?_
      change wpAnyIn _ _ _ _ _ _ _ _ _ (World.drew _)
      refine wpAnyIn_ready (rs:=[0,1]) (by kernel_rfl) (by simp) ?_
      refine AllReadyIn.cons rfl (fun K hK=>?_) ?_
      ·skip
       go_simp
       refine hK _ _ ?_
       clear hK K
       refine wpAnyIn_ready (rs:=[1]) (by kernel_rfl) (by simp) ?_
       refine AllReadyIn.cons rfl (fun K hK=>?_) ?_
       ·skip
        go_simp
        refine hK _ _ ?_
        clear hK K
        refine wpAnyIn_ready (rs:=[2]) (by kernel_rfl) (by simp) ?_
        refine AllReadyIn.cons rfl (fun K hK=>?_) ?_
        ·skip
         go_simp
         refine hK _ _ ?_
         clear hK K
         refine wpAnyIn_ready (rs:=[3]) (by kernel_rfl) (by simp) ?_
         refine AllReadyIn.cons rfl (fun K hK=>?_) ?_
         ·skip
          go_simp
          refine ⟨trivial,fun e=>(by cases e),?_⟩
          refine (CallsIn.inRound _ ((callsIn_wide (n:=m - 1)).2 CC6.out)).mono ?_
          rintro e w7 ⟨rfl,hb7⟩
          have hz7:w6.heap.size≤w7.heap.size:=hb7.size
          have hL7:L1 < w7.heap.size:=(by have:=Z6.out;omega)
          have l7:w7.cell? ⟨L1,0,none⟩=some vl:=(hb7.cell (p:=⟨L1,0,none⟩) (show L1 < w6.heap.size by have:=Z6.out;omega)).trans l6
          have l7a:=(fun o=>(World.cell?_alloc_past (w:=w7) o L1 0 hL7).trans l7)
          have r7:RowS (T+1+1+1) (w7.alloc (.cells #[.string s1] 9)) vl out:=row_keep RL6.out (fun g e=>(Below.heap_alloc _ _ _ (by have:=hown6 g e;omega)).trans (hb7.block g (hown6 g e).2))
          obtain ⟨g8,cap8,w8,hap,q8,p8,gr8,hg8⟩:=run_append_two (P:=Tryz.prog) (w7.alloc (.cells #[.string s1] 9)) 31 31 (T+1+1+1) 9 iS _ 16 Tryz.underlying31 hS hSz hSs hSb rfl vl (out.map Value.string) r7 ⟨w7.heap.size,0,none⟩ 1 (.string s1) (cells1 w7 _ _ _ rfl) rfl (by rw [List.length_map];unfold maxLen;omega) (by rw [List.length_map];omega) (by rw [World.size_alloc];have:=Z6.out;omega)
          have A8:=qh (app_same hb7 gr8)
          have f8:w8.frozen? ⟨L1,0,none⟩=false:=frozen_of_row _ _ _ _ _ ((A8.out.1 L1 (by have:=Z6.out;omega) (fun e=>by have:=hown6 L1 e;omega)).trans CL6.out)
          have c8:w8.cell? ⟨L1,0,none⟩=some vl:=cell_of_row _ _ _ _ _ _ ((A8.out.1 L1 (by have:=Z6.out;omega) (fun e=>by have:=hown6 L1 e;omega)).trans CL6.out)
          have Q8:=qh (rowS_snoc q8)
          have HG8:=qh (own_or (n:=(out++[s1]).length) (cap:=cap8) hg8 (by rw [World.size_alloc];exact Nat.le_succ_of_le hz7))
          rw [List.length_map] at hap
          have HAP:=qh hap
          clear q8 p8 gr8 hg8 r7 hb7 hap
          go_simp
          refine hK _ _ ?_
          clear hK K
          refine wpAnyIn_ready (rs:=[4]) (by kernel_rfl) (by simp) ?_
          refine AllReadyIn.cons rfl (fun K hK=>?_) ?_
          ·skip
           go_simp
           refine hK _ _ ?_
           clear hK K
           refine wpAnyIn_ready (rs:=[5]) (by kernel_rfl) (by simp) ?_
           refine AllReadyIn.cons rfl (fun K hK=>?_) ?_
           ·skip
            refine stepIn_append rfl _ _ 31 rfl rfl rfl HAP.out ?_
            refine hK _ _ ?_
            clear hK K
            refine wpAnyIn_ready (rs:=[6]) (by kernel_rfl) (by simp) ?_
            refine AllReadyIn.cons rfl (fun K hK=>?_) ?_
            ·skip
             go_simp
             refine hK _ _ ?_
             clear hK K
             refine wpAnyIn_done (by kernel_rfl) ?_ _
             go_simp
             simp only [roundPostP]
             exact LEAF g8 cap8 w8 A8.out Q8.out HG8.out
            exact AllReadyIn.nil
           exact AllReadyIn.nil
          exact AllReadyIn.nil
         exact AllReadyIn.nil
        exact AllReadyIn.nil
       exact AllReadyIn.nil
      refine AllReadyIn.cons rfl (fun K hK=>?_) ?_
      ·skip
       go_simp
       refine hK _ _ ?_
       clear hK K
       refine wpAnyIn_ready (rs:=[0,2]) (by kernel_rfl) (by simp) ?_
       refine AllReadyIn.cons rfl (fun K hK=>?_) ?_
       ·skip
        go_simp
        refine hK _ _ ?_
        clear hK K
        refine wpAnyIn_ready (rs:=[2]) (by kernel_rfl) (by simp) ?_
        refine AllReadyIn.cons rfl (fun K hK=>?_) ?_
        ·skip
         go_simp
         refine hK _ _ ?_
         clear hK K
         refine wpAnyIn_ready (rs:=[3]) (by kernel_rfl) (by simp) ?_
         refine AllReadyIn.cons rfl (fun K hK=>?_) ?_
         ·skip
          go_simp
          refine ⟨trivial,fun e=>(by cases e),?_⟩
          refine (CallsIn.inRound _ ((callsIn_wide (n:=m - 1)).2 CC6.out)).mono ?_
          rintro e w7 ⟨rfl,hb7⟩
          have hz7:w6.heap.size≤w7.heap.size:=hb7.size
          have hL7:L1 < w7.heap.size:=(by have:=Z6.out;omega)
          have l7:w7.cell? ⟨L1,0,none⟩=some vl:=(hb7.cell (p:=⟨L1,0,none⟩) (show L1 < w6.heap.size by have:=Z6.out;omega)).trans l6
          have l7a:=(fun o=>(World.cell?_alloc_past (w:=w7) o L1 0 hL7).trans l7)
          have r7:RowS (T+1+1+1) (w7.alloc (.cells #[.string s1] 9)) vl out:=row_keep RL6.out (fun g e=>(Below.heap_alloc _ _ _ (by have:=hown6 g e;omega)).trans (hb7.block g (hown6 g e).2))
          obtain ⟨g8,cap8,w8,hap,q8,p8,gr8,hg8⟩:=run_append_two (P:=Tryz.prog) (w7.alloc (.cells #[.string s1] 9)) 31 31 (T+1+1+1) 9 iS _ 16 Tryz.underlying31 hS hSz hSs hSb rfl vl (out.map Value.string) r7 ⟨w7.heap.size,0,none⟩ 1 (.string s1) (cells1 w7 _ _ _ rfl) rfl (by rw [List.length_map];unfold maxLen;omega) (by rw [List.length_map];omega) (by rw [World.size_alloc];have:=Z6.out;omega)
          have A8:=qh (app_same hb7 gr8)
          have f8:w8.frozen? ⟨L1,0,none⟩=false:=frozen_of_row _ _ _ _ _ ((A8.out.1 L1 (by have:=Z6.out;omega) (fun e=>by have:=hown6 L1 e;omega)).trans CL6.out)
          have c8:w8.cell? ⟨L1,0,none⟩=some vl:=cell_of_row _ _ _ _ _ _ ((A8.out.1 L1 (by have:=Z6.out;omega) (fun e=>by have:=hown6 L1 e;omega)).trans CL6.out)
          have Q8:=qh (rowS_snoc q8)
          have HG8:=qh (own_or (n:=(out++[s1]).length) (cap:=cap8) hg8 (by rw [World.size_alloc];exact Nat.le_succ_of_le hz7))
          rw [List.length_map] at hap
          have HAP:=qh hap
          clear q8 p8 gr8 hg8 r7 hb7 hap
          go_simp
          refine hK _ _ ?_
          clear hK K
          refine wpAnyIn_ready (rs:=[4]) (by kernel_rfl) (by simp) ?_
          refine AllReadyIn.cons rfl (fun K hK=>?_) ?_
          ·skip
           go_simp
           refine hK _ _ ?_
           clear hK K
           refine wpAnyIn_ready (rs:=[5]) (by kernel_rfl) (by simp) ?_
           refine AllReadyIn.cons rfl (fun K hK=>?_) ?_
           ·skip
            refine stepIn_append rfl _ _ 31 rfl rfl rfl HAP.out ?_
            refine hK _ _ ?_
            clear hK K
            refine wpAnyIn_ready (rs:=[6]) (by kernel_rfl) (by simp) ?_
            refine AllReadyIn.cons rfl (fun K hK=>?_) ?_
            ·skip
             go_simp
             refine hK _ _ ?_
             clear hK K
             refine wpAnyIn_done (by kernel_rfl) ?_ _
             go_simp
             simp only [roundPostP]
             exact LEAF g8 cap8 w8 A8.out Q8.out HG8.out
            exact AllReadyIn.nil
           exact AllReadyIn.nil
          exact AllReadyIn.nil
         exact AllReadyIn.nil
        exact AllReadyIn.nil
       refine AllReadyIn.cons rfl (fun K hK=>?_) ?_
       ·skip
        go_simp
        refine hK _ _ ?_
        clear hK K
        refine wpAnyIn_ready (rs:=[0,3]) (by kernel_rfl) (by simp) ?_
        refine AllReadyIn.cons rfl (fun K hK=>?_) ?_
        ·skip
         go_simp
         refine hK _ _ ?_
         clear hK K
         refine wpAnyIn_ready (rs:=[3]) (by kernel_rfl) (by simp) ?_
         refine AllReadyIn.cons rfl (fun K hK=>?_) ?_
         ·skip
          go_simp
          refine ⟨trivial,fun e=>(by cases e),?_⟩
          refine (CallsIn.inRound _ ((callsIn_wide (n:=m - 1)).2 CC6.out)).mono ?_
          rintro e w7 ⟨rfl,hb7⟩
          have hz7:w6.heap.size≤w7.heap.size:=hb7.size
          have hL7:L1 < w7.heap.size:=(by have:=Z6.out;omega)
          have l7:w7.cell? ⟨L1,0,none⟩=some vl:=(hb7.cell (p:=⟨L1,0,none⟩) (show L1 < w6.heap.size by have:=Z6.out;omega)).trans l6
          have l7a:=(fun o=>(World.cell?_alloc_past (w:=w7) o L1 0 hL7).trans l7)
          have r7:RowS (T+1+1+1) (w7.alloc (.cells #[.string s1] 9)) vl out:=row_keep RL6.out (fun g e=>(Below.heap_alloc _ _ _ (by have:=hown6 g e;omega)).trans (hb7.block g (hown6 g e).2))
          obtain ⟨g8,cap8,w8,hap,q8,p8,gr8,hg8⟩:=run_append_two (P:=Tryz.prog) (w7.alloc (.cells #[.string s1] 9)) 31 31 (T+1+1+1) 9 iS _ 16 Tryz.underlying31 hS hSz hSs hSb rfl vl (out.map Value.string) r7 ⟨w7.heap.size,0,none⟩ 1 (.string s1) (cells1 w7 _ _ _ rfl) rfl (by rw [List.length_map];unfold maxLen;omega) (by rw [List.length_map];omega) (by rw [World.size_alloc];have:=Z6.out;omega)
          have A8:=qh (app_same hb7 gr8)
          have f8:w8.frozen? ⟨L1,0,none⟩=false:=frozen_of_row _ _ _ _ _ ((A8.out.1 L1 (by have:=Z6.out;omega) (fun e=>by have:=hown6 L1 e;omega)).trans CL6.out)
          have c8:w8.cell? ⟨L1,0,none⟩=some vl:=cell_of_row _ _ _ _ _ _ ((A8.out.1 L1 (by have:=Z6.out;omega) (fun e=>by have:=hown6 L1 e;omega)).trans CL6.out)
          have Q8:=qh (rowS_snoc q8)
          have HG8:=qh (own_or (n:=(out++[s1]).length) (cap:=cap8) hg8 (by rw [World.size_alloc];exact Nat.le_succ_of_le hz7))
          rw [List.length_map] at hap
          have HAP:=qh hap
          clear q8 p8 gr8 hg8 r7 hb7 hap
          go_simp
          refine hK _ _ ?_
          clear hK K
          refine wpAnyIn_ready (rs:=[4]) (by kernel_rfl) (by simp) ?_
          refine AllReadyIn.cons rfl (fun K hK=>?_) ?_
          ·skip
           go_simp
           refine hK _ _ ?_
           clear hK K
           refine wpAnyIn_ready (rs:=[5]) (by kernel_rfl) (by simp) ?_
           refine AllReadyIn.cons rfl (fun K hK=>?_) ?_
           ·skip
            refine stepIn_append rfl _ _ 31 rfl rfl rfl HAP.out ?_
            refine hK _ _ ?_
            clear hK K
            refine wpAnyIn_ready (rs:=[6]) (by kernel_rfl) (by simp) ?_
            refine AllReadyIn.cons rfl (fun K hK=>?_) ?_
            ·skip
             go_simp
             refine hK _ _ ?_
             clear hK K
             refine wpAnyIn_done (by kernel_rfl) ?_ _
             go_simp
             simp only [roundPostP]
             exact LEAF g8 cap8 w8 A8.out Q8.out HG8.out
            exact AllReadyIn.nil
           exact AllReadyIn.nil
          exact AllReadyIn.nil
         exact AllReadyIn.nil
        refine AllReadyIn.cons rfl (fun K hK=>?_) ?_
        ·skip
         go_simp
         refine ⟨trivial,fun e=>(by cases e),?_⟩
         refine (CallsIn.inRound _ ((callsIn_wide (n:=m - 1)).2 CC6.out)).mono ?_
         rintro e w7 ⟨rfl,hb7⟩
         have hz7:w6.heap.size≤w7.heap.size:=hb7.size
         have hL7:L1 < w7.heap.size:=(by have:=Z6.out;omega)
         have l7:w7.cell? ⟨L1,0,none⟩=some vl:=(hb7.cell (p:=⟨L1,0,none⟩) (show L1 < w6.heap.size by have:=Z6.out;omega)).trans l6
         have l7a:=(fun o=>(World.cell?_alloc_past (w:=w7) o L1 0 hL7).trans l7)
         have r7:RowS (T+1+1+1) (w7.alloc (.cells #[.string s1] 9)) vl out:=row_keep RL6.out (fun g e=>(Below.heap_alloc _ _ _ (by have:=hown6 g e;omega)).trans (hb7.block g (hown6 g e).2))
         obtain ⟨g8,cap8,w8,hap,q8,p8,gr8,hg8⟩:=run_append_two (P:=Tryz.prog) (w7.alloc (.cells #[.string s1] 9)) 31 31 (T+1+1+1) 9 iS _ 16 Tryz.underlying31 hS hSz hSs hSb rfl vl (out.map Value.string) r7 ⟨w7.heap.size,0,none⟩ 1 (.string s1) (cells1 w7 _ _ _ rfl) rfl (by rw [List.length_map];unfold maxLen;omega) (by rw [List.length_map];omega) (by rw [World.size_alloc];have:=Z6.out;omega)
         have A8:=qh (app_same hb7 gr8)
         have f8:w8.frozen? ⟨L1,0,none⟩=false:=frozen_of_row _ _ _ _ _ ((A8.out.1 L1 (by have:=Z6.out;omega) (fun e=>by have:=hown6 L1 e;omega)).trans CL6.out)
         have c8:w8.cell? ⟨L1,0,none⟩=some vl:=cell_of_row _ _ _ _ _ _ ((A8.out.1 L1 (by have:=Z6.out;omega) (fun e=>by have:=hown6 L1 e;omega)).trans CL6.out)
         have Q8:=qh (rowS_snoc q8)
         have HG8:=qh (own_or (n:=(out++[s1]).length) (cap:=cap8) hg8 (by rw [World.size_alloc];exact Nat.le_succ_of_le hz7))
         rw [List.length_map] at hap
         have HAP:=qh hap
         clear q8 p8 gr8 hg8 r7 hb7 hap
         go_simp
         refine hK _ _ ?_
         clear hK K
         refine wpAnyIn_ready (rs:=[0,4]) (by kernel_rfl) (by simp) ?_
         refine AllReadyIn.cons rfl (fun K hK=>?_) ?_
         ·skip
          go_simp
          refine hK _ _ ?_
          clear hK K
          refine wpAnyIn_ready (rs:=[4]) (by kernel_rfl) (by simp) ?_
          refine AllReadyIn.cons rfl (fun K hK=>?_) ?_
          ·skip
           go_simp
           refine hK _ _ ?_
           clear hK K
           refine wpAnyIn_ready (rs:=[5]) (by kernel_rfl) (by simp) ?_
           refine AllReadyIn.cons rfl (fun K hK=>?_) ?_
           ·skip
            refine stepIn_append rfl _ _ 31 rfl rfl rfl HAP.out ?_
            refine hK _ _ ?_
            clear hK K
            refine wpAnyIn_ready (rs:=[6]) (by kernel_rfl) (by simp) ?_
            refine AllReadyIn.cons rfl (fun K hK=>?_) ?_
            ·skip
             go_simp
             refine hK _ _ ?_
             clear hK K
             refine wpAnyIn_done (by kernel_rfl) ?_ _
             go_simp
             simp only [roundPostP]
             exact LEAF g8 cap8 w8 A8.out Q8.out HG8.out
            exact AllReadyIn.nil
           exact AllReadyIn.nil
          exact AllReadyIn.nil
         refine AllReadyIn.cons rfl (fun K hK=>?_) ?_
         ·skip
          go_simp
          refine hK _ _ ?_
          clear hK K
          refine wpAnyIn_ready (rs:=[0]) (by kernel_rfl) (by simp) ?_
          refine AllReadyIn.cons rfl (fun K hK=>?_) ?_
          ·skip
           go_simp
           refine hK _ _ ?_
           clear hK K
           refine wpAnyIn_ready (rs:=[5]) (by kernel_rfl) (by simp) ?_
           refine AllReadyIn.cons rfl (fun K hK=>?_) ?_
           ·skip
            refine stepIn_append rfl _ _ 31 rfl rfl rfl HAP.out ?_
            refine hK _ _ ?_
            clear hK K
            refine wpAnyIn_ready (rs:=[6]) (by kernel_rfl) (by simp) ?_
            refine AllReadyIn.cons rfl (fun K hK=>?_) ?_
            ·skip
             go_simp
             refine hK _ _ ?_
             clear hK K
             refine wpAnyIn_done (by kernel_rfl) ?_ _
             go_simp
             simp only [roundPostP]
             exact LEAF g8 cap8 w8 A8.out Q8.out HG8.out
            exact AllReadyIn.nil
           exact AllReadyIn.nil
          exact AllReadyIn.nil
         exact AllReadyIn.nil
        exact AllReadyIn.nil
       exact AllReadyIn.nil
      exact AllReadyIn.nil
  ·rintro e w' ⟨hv,hj | ⟨q,_,hf⟩⟩
   ·exact ⟨hv,hj.2⟩
   ·exact hf.elim
 rw [z4,hW1]
 refine hcall.mono ?_
 clear hcall j0 hsup hd1 hl1 old o4 B4 b4 hB1 m3 v3 l3 k3 r3 t3 B3 o3
 rintro e w' ⟨⟨v0,rfl⟩,j,jl⟩
 refine ⟨none,w'.putObj (T+1+1) (.loop { r with state:=.exhausted }),?_,?_⟩
 ·refine (run_endLoop (P:=Tryz.prog) jl (by rw [hr1];simp)).trans ?_
  rw [hr2]
 ·have j5:=j.putLoop hT { r with state:=.exhausted }
  obtain ⟨W5,hW5⟩:∃ W5,w'.putObj (T+1+1) (.loop { r with state:=.exhausted })=W5:=⟨_,rfl⟩
  rw [hW5] at j5 ⊢
  dsimp only [Exit.inBlock,Exit.then]
  obtain ⟨vl,cl5,rl5⟩:=j5.c
  have c5:W5.cell? ⟨L1,0,none⟩=some vl:=cell_of_row _ _ _ _ _ _ cl5
  have J5:=qh j5
  have RL5:=qh rl5
  clear j j5 jl hW5 cl5 rl5 hr hr1 hr2 hr3 hW1
  refine wpAt_of_wpIn (n:=6) ?_
  refine wpIn_wide.2 ?_
  go_wp2
  refine ⟨by simp,.inl ⟨_,_,rfl,run_takeDeferred J5.out.d,?_⟩⟩
  refine ⟨.tuple #[vl,.int .i64 0],by simp [results,Tryz.results70,go_sem],vl,rfl,?_,below_put (B1.trans (J5.out.b.mono (by omega))) _ _ (by omega)⟩
  exact row_keep (ownsRow_base RL5.out (by omega)) fun g e=>World.putObj_heap_other (by have:=World.ownsRow.lt RL5.out g e;omega)
end Go.Proofs.YtcimcjmdkjajfaaGreatDoor
namespace Go.Proofs.YtcimcjmdkjajfaaGreatDoor
open Go.RowKit Go.Shelf
set_option maxRecDepth 100000 in
set_option maxHeartbeats 2000000 in
theorem occurring_bad (t:Nd) (kind:Int) (w:World) (v0 v1 v2:Value) (ht:NdR w t v0 v1 v2) (c:Int) (hv:chkN t=c) (hc:c≠0) :
  Calls Tryz.prog 70 #[.agg #[v0,v1,v2],.int .i64 kind] w fun e w'=>e = .returned (.tuple #[.slice none 0 0,.int .i64 c])∧Below w.heap.size w w':=by
 obtain ⟨k,s,kids,a,cap,rfl,rfl,rfl,rfl,hs,hl⟩:=ht.form
 obtain ⟨W0,hW0⟩:∃ W0,(w.alloc (.cells #[.int .i64 k,.string s,.slice a kids.length cap] 24)).alloc (.cells #[.int .i64 kind] 3)=W0:=⟨_,rfl⟩
 have b0:Below w.heap.size w W0:=by rw [←hW0];exact ((Below.refl _ w).alloc (Nat.le_refl _) _).alloc (by simp) _
 have r0:Row3 W0 w.heap.size (.int .i64 k) (.string s) (.slice a kids.length cap):=by rw [←hW0];exact (Below.heap_alloc _ _ _ (by simp only [World.size_alloc];omega)).trans (World.alloc_heap_new _ _)
 have t0:NdR W0 (.mk k s kids) (.int .i64 k) (.string s) (.slice a kids.length cap):=ht.later b0
 have CC:=qh (check_tree _ W0 _ _ _ t0)
 rw [hv] at CC
 have hcb:((c:Int) != 0)=true:=by rw [bne_iff_ne];exact hc
 obtain ⟨⟨n0,n1,n2⟩,_⟩:=r0.cells
 have HB:=qh b0
 clear b0 r0 t0 ht hv hc
 go_enter Tryz.func70,Tryz.ntmps70
 go_upto_region 1 with fail
 (try rw [hW0])
 clear hW0
 go_wp2_with fail
 refine CC.out.mono ?_
 rintro e w1 ⟨rfl,hb⟩
 have HB1:=qh hb
 clear hb CC n0 n1 n2
 go_wp2
 go_ret2
 exact ⟨rfl,HB.out.trans (HB1.out.mono HB.out.size)⟩
def OccR (kind:Int) (t:Nd) (w:World) (e:Ending) (w':World):Prop :=
 ∃ v,e = .returned (.tuple #[v,.int .i64 (chkN t)])∧RowS w.heap.size w' v (if chkN t=0 then occs kind (preN 0 [] false t) else [])∧Below w.heap.size w w'
theorem occurring_any (t:Nd) (kind:Int) (w:World) (v0 v1 v2:Value) (ht:NdR w t v0 v1 v2) :
  Calls Tryz.prog 70 #[.agg #[v0,v1,v2],.int .i64 kind] w (OccR kind t w):=by
 by_cases h:chkN t=0
 ·refine (occurring_ok t kind w v0 v1 v2 ht h (valid_facts h).1 (valid_ok h).2).mono ?_
  rintro e w' ⟨v,rfl,hr,hb⟩
  refine ⟨v,by rw [h],?_,hb⟩
  rw [if_pos h]
  exact hr
 ·refine (occurring_bad t kind w v0 v1 v2 ht _ rfl h).mono ?_
  rintro e w' ⟨rfl,hb⟩
  refine ⟨_,rfl,?_,hb⟩
  rw [if_neg h]
  exact World.ownsRow_nil _ _ _ _
set_option maxRecDepth 100000 in
set_option maxHeartbeats 2000000 in
theorem occur_any (g:Nat) (kind:Int) (hg:(g=21∧kind=15)∨(g=23∧kind=16)) (t:Nd) (w:World) (v0 v1 v2:Value) (ht:NdR w t v0 v1 v2) :
  Calls Tryz.prog g #[.agg #[v0,v1,v2]] w (OccR kind t w):=by
 obtain ⟨k,s,kids,a,cap,rfl,rfl,rfl,rfl,hs,hl⟩:=ht.form
 obtain ⟨W0,hW0⟩:∃ W0,w.alloc (.cells #[.int .i64 k,.string s,.slice a kids.length cap] 24)=W0:=⟨_,rfl⟩
 have b0:Below w.heap.size w W0:=by rw [←hW0];exact (Below.refl _ w).alloc (Nat.le_refl _) _
 have z0:W0.heap.size=w.heap.size+1:=by rw [←hW0];simp
 have r0:Row3 W0 w.heap.size (.int .i64 k) (.string s) (.slice a kids.length cap):=by rw [←hW0];exact World.alloc_heap_new _ _
 have C0:=occurring_any _ kind W0 _ _ _ (ht.later b0)
 unfold OccR at C0 ⊢
 obtain ⟨L,hL⟩:∃ L,(if chkN (.mk k s kids)=0 then occs kind (preN 0 [] false (.mk k s kids)) else [])=L:=⟨_,rfl⟩
 obtain ⟨c,hc⟩:∃ c,chkN (.mk k s kids)=c:=⟨_,rfl⟩
 rw [hL,hc] at C0
 rw [hL,hc]
 have CC:=qh C0
 obtain ⟨⟨n0,n1,n2⟩,_⟩:=r0.cells
 have HB:=qh b0
 have HZ:=qh z0
 clear b0 r0 ht hL hc C0 z0
 rcases hg with ⟨rfl,rfl⟩ | ⟨rfl,rfl⟩
 ·go_enter Tryz.func21,Tryz.ntmps21
  go_upto_region 1 with fail
  (try rw [hW0])
  clear hW0
  go_wp2_with fail
  refine CC.out.mono ?_
  rintro e w1 ⟨v,rfl,hr,hb⟩
  have HB1:=qh hb
  have HR:=qh hr
  clear hb hr CC n0 n1 n2
  go_wp2
  go_ret2
  exact ⟨v,rfl,ownsRow_base HR.out (by have:=HZ.out;omega),HB.out.trans (HB1.out.mono HB.out.size)⟩
 ·go_enter Tryz.func23,Tryz.ntmps23
  go_upto_region 1 with fail
  (try rw [hW0])
  clear hW0
  go_wp2_with fail
  refine CC.out.mono ?_
  rintro e w1 ⟨v,rfl,hr,hb⟩
  have HB1:=qh hb
  have HR:=qh hr
  clear hb hr CC n0 n1 n2
  go_wp2
  go_ret2
  exact ⟨v,rfl,ownsRow_base HR.out (by have:=HZ.out;omega),HB.out.trans (HB1.out.mono HB.out.size)⟩
end Go.Proofs.YtcimcjmdkjajfaaGreatDoor
namespace Go.Proofs.YtcimcjmdkjajfaaGreatDoor
open Go.RowKit Go.Shelf
set_option maxRecDepth 100000 in
set_option maxHeartbeats 2000000 in
theorem equalFunc_any (g:Nat) (eg:∀ args w,(callFunc g args).run Tryz.prog w = .ok (.enter g args) w) (k k':Int) (s s':ByteArray) (l m:List Nd) (w:World) (a a':Option Addr) (cap cap':Nat)
  (ht:NdR w (.mk k s l) (.int .i64 k) (.string s) (.slice a l.length cap)) (hu:NdR w (.mk k' s' m) (.int .i64 k') (.string s') (.slice a' m.length cap')) (hl:l.length≤maxLen) (_hm:m.length≤maxLen)
  (C:∀ i,(h:i < l.length)→(h2:i < m.length)→∀ (w:World) (v0 v1 v2 u0 u1 u2:Value),NdR w l[i] v0 v1 v2→NdR w m[i] u0 u1 u2→Calls Tryz.prog g #[.agg #[v0,v1,v2],.agg #[u0,u1,u2]] w fun e w'=>e = .returned (.bool (sameN l[i] m[i]))∧Below w.heap.size w w') :
  Calls Tryz.prog 69 #[.slice a l.length cap,.slice a' m.length cap',.func (.func g) #[] #[]] w fun e w'=>e = .returned (.bool (sameL l m))∧Below w.heap.size w w':=by
 unfold maxLen at hl
 have CC:=qh C
 clear C
 by_cases hll:l.length=m.length
 ·have hl2:((l.length:Int) != (m.length:Int))=false:=by rw [hll];simp
  have HL:=qh hll
  have HT:=qh ht
  have HU:=qh hu
  clear hll ht hu
  go_enter Tryz.func69,Tryz.ntmps69
  go_wp2
  go_loopw [17] (fun v wr=>∃ i:Nat,i≤l.length∧v = .int .i64 i∧Hid (sameL l m=sameL (l.drop i) (m.drop i))∧Hid (Below w.heap.size w wr)) (fun v _=>l.length - (intOf v).toNat)
  case atStart=>exact ⟨0,Nat.zero_le _,rfl,rfl,Below.refl _ _⟩
  case round =>
   obtain ⟨i,hi,rfl,hrun,hbl⟩:=hrel
   by_cases hlt:i < l.length
   ·have hlt':(i:Int) < (l.length:Int):=by omega
    have hi2:i < m.length:=by have:=HL.out;omega
    have hlt2:(i:Int) < (m.length:Int):=by omega
    have hi0:(0:Int)≤(i:Int):=by omega
    obtain ⟨b,o,k1,s1,l1,a1,c1,rfl,e1,x0,x1,x2,r1⟩:=(HT.out.later hbl.out).kid i hlt
    obtain ⟨b',o',k2,s2,l2,a2,c2,rfl,e2,y0,y1,y2,r2⟩:=(HU.out.later hbl.out).kid i hi2
    have Hst:=qh (sameL_step hlt hi2)
    obtain ⟨V,hV⟩:∃ V,sameN l[i] m[i]=V:=⟨_,rfl⟩
    have C1:=fun w=>CC.out i hlt hi2 w (.int .i64 k1) (.string s1) (.slice a1 l1.length c1) (.int .i64 k2) (.string s2) (.slice a2 l2.length c2)
    rw [hV] at C1 Hst
    rw [e1,e2] at C1
    have C2:=qh C1
    have R1:=qh r1
    have R2:=qh r2
    have L2:=lt_of_cell x0
    have L3:=lt_of_cell y0
    have yy0:=fun o=>(World.cell?_alloc_past (w:=wr) o b' (o'+i*3) L3).trans y0
    have yy1:=fun o=>(World.cell?_alloc_past (w:=wr) o b' (o'+i*3+1) L3).trans y1
    have yy2:=fun o=>(World.cell?_alloc_past (w:=wr) o b' (o'+i*3+2) L3).trans y2
    have Hbl:=hbl
    clear e1 e2 hV r1 r2 C1
    go_wp2_with fail
    refine (C2.out _ (R1.out.later (((Below.refl _ _).alloc (Nat.le_refl _) _).alloc (by simp) _)) (R2.out.later (((Below.refl _ _).alloc (Nat.le_refl _) _).alloc (by simp) _))).mono ?_
    rintro e w5 ⟨rfl,hb5⟩
    have hbx:Hid (Below w.heap.size w w5):=qh (Hbl.out.trans ((((Below.refl wr.heap.size wr).alloc (Nat.le_refl _) _).alloc (by simp) _).trans (hb5.mono (by simp;omega)) |>.mono Hbl.out.size))
    clear C2 R1 R2 x0 x1 x2 y0 y1 y2 yy0 yy1 yy2 hb5
    cases V with
    | false =>
     go_wp2
     go_ret
     exact ⟨by rw [hrun.out,Hst.out];rfl,hbx.out⟩
    | true =>
     go_wp2
     go_roundw
     case rel=>exact ⟨i+1,hlt,by push_cast;rfl,qh (by rw [hrun.out,Hst.out];rfl),hbx⟩
     case measure=>simp [intOf];omega
   ·have hlt':¬ ((i:Int) < (l.length:Int)):=by omega
    go_wp2
    go_ret
    exact ⟨by rw [hrun.out,sameL_end (by omega) (by have:=HL.out;omega)];rfl,hbl.out⟩
 ·have hl2:((l.length:Int) != (m.length:Int))=true:=by rw [bne_iff_ne];omega
  have HS:=qh (sameL_len l m hll)
  clear hll ht hu
  go_enter Tryz.func69,Tryz.ntmps69
  go_wp2
  go_ret
  exact ⟨by rw [HS.out];rfl,Below.refl _ _⟩
set_option maxRecDepth 100000 in
set_option maxHeartbeats 2000000 in
theorem sameN_any (n:Nat):∀ (t u:Nd) (w:World) (v0 v1 v2 u0 u1 u2:Value),t.sz≤n→NdR w t v0 v1 v2→NdR w u u0 u1 u2 →
  Calls Tryz.prog 19 #[.agg #[v0,v1,v2],.agg #[u0,u1,u2]] w fun e w'=>e = .returned (.bool (sameN t u))∧Below w.heap.size w w':=by
 induction n with
 | zero=>intro t u w v0 v1 v2 u0 u1 u2 h;cases t;simp only [Nd.sz] at h;omega
 | succ n ih =>
  intro t u w v0 v1 v2 u0 u1 u2 hsz ht hu
  obtain ⟨k,s,l,a,cap,rfl,rfl,rfl,rfl,hs,hl⟩:=ht.form
  obtain ⟨k',s',l',a',cap',rfl,rfl,rfl,rfl,hs',hl'⟩:=hu.form
  have eg:∀ args w,(callFunc 19 args).run Tryz.prog w = .ok (.enter 19 args) w:=enters_of Tryz.func19 (by kernel_rfl) rfl
  have CE:=qh (fun w h1 h2=>equalFunc_any _ eg k k' s s' l l' w a a' cap cap' h1 h2 hl hl' (fun i hi hi2 w v0 v1 v2 u0 u1 u2=>ih l[i] l'[i] w v0 v1 v2 u0 u1 u2 (by have:=Nd.kid_lt k s l i hi;omega)))
  clear ih eg
  have HB:Hid (Below w.heap.size w ((w.alloc (Obj.cells #[Value.int IntKind.i64 k,Value.string s,Value.slice a l.length cap] 24)).alloc (Obj.cells #[Value.int IntKind.i64 k',Value.string s',Value.slice a' l'.length cap'] 24))):=qh (((Below.refl _ w).alloc (Nat.le_refl _) _).alloc (by simp) _)
  have HT:=qh (ht.later HB.out)
  have HU:=qh (hu.later HB.out)
  have HS:Hid (sameN (.mk k s l) (.mk k' s' l')=((k==k' && s.toList==s'.toList) && sameL l l')):=qh (by simp only [sameN])
  obtain ⟨V,hV⟩:∃ V,sameL l l'=V:=⟨_,rfl⟩
  obtain ⟨V2,hV2⟩:∃ V,(s.toList==s'.toList)=V:=⟨_,rfl⟩
  rw [hV] at CE HS
  rw [hV2] at HS
  clear hV ht hu
  by_cases hk:k=k'
  ·have hk2:(k==k')=true:=by rw [hk];simp
   rw [hk2] at HS
   clear hk
   cases V2 with
   | false =>
    go_enter Tryz.func19,Tryz.ntmps19
    go_wp2
    go_ret
    exact ⟨by rw [HS.out];rfl,HB.out⟩
   | true =>
    go_enter Tryz.func19,Tryz.ntmps19
    go_wp2_with fail
    refine (CE.out _ HT.out HU.out).mono ?_
    rintro e w5 ⟨rfl,hb5⟩
    have HB2:Hid (Below w.heap.size w w5):=qh (HB.out.trans (hb5.mono HB.out.size))
    clear hb5 CE HT HU
    go_wp2
    go_ret
    exact ⟨by rw [HS.out];rfl,HB2.out⟩
  ·have hk2:(k==k')=false:=by rw [beq_eq_false_iff_ne];exact hk
   rw [hk2] at HS
   clear hk
   go_enter Tryz.func19,Tryz.ntmps19
   go_wp2
   go_ret
   exact ⟨by rw [HS.out];rfl,HB.out⟩
end Go.Proofs.YtcimcjmdkjajfaaGreatDoor
namespace Go.Proofs.YtcimcjmdkjajfaaGreatDoor
open Go.RowKit
def St (w wi:World):Prop:=Below w.heap.size w wi∧GLw wi∧2≤wi.heap.size
theorem St.below {w wi wj:World} (h:St w wi) (hb:Below wi.heap.size wi wj):St w wj:=⟨h.1.trans (hb.mono h.1.size),h.2.1.keep fun b _ hl=>hb.block b hl,Nat.le_trans h.2.2 hb.size⟩
theorem St.alloc {w wi:World} (h:St w wi) (o:Obj):St w (wi.alloc o):=h.below ((Below.refl _ wi).alloc (Nat.le_refl _) o)
theorem sn_form_says (s:ByteArray) (what:Int) (g:Nat) (hg:(g=41∧what=18)∨(g=39∧what=1)) (k:Int) (n:ByteArray) (l:List Nd) (hp:parseP (bs s) what=(some (.mk k n l),0,0)) (hs:s.size≤maxLen) (w wi:World) (h:St w wi) :
  Calls Tryz.prog g #[.string s] wi fun e w'=>∃ a c,e = .returned (.tuple #[.agg #[.int .i64 k,.string n,.slice a l.length c],.int .i64 0,.int .i64 0])∧St w w'∧NdR w' (.mk k n l) (.int .i64 k) (.string n) (.slice a l.length c):=by
 have C:Calls Tryz.prog g #[.string s] wi (ParseR (parseP (bs s) what) wi):=by
  rcases hg with ⟨rfl,rfl⟩ | ⟨rfl,rfl⟩
  ·exact ParseForm_any s wi h.2.2 h.2.1 hs
  ·exact Parse_any s wi h.2.2 h.2.1 hs
 rw [hp] at C
 refine C.mono ?_
 rintro e w' ⟨k',s',a,m,c,rfl,hb,hn⟩
 have hr:NdR w' (.mk k n l) (.int .i64 k') (.string s') (.slice a m c):=NdS.toR hn
 obtain ⟨k2,s2,l2,a2,c2,e1,e2,e3,e4,_,_⟩:=hr.form
 cases e1
 cases e2
 cases e3
 cases e4
 exact ⟨a,c,rfl,h.below hb,hr⟩
theorem sn_form_bad (s:ByteArray) (p er:Nat) (hp:parseP (bs s) 18=(none,p,er)) (hs:s.size≤maxLen) (w wi:World) (h:St w wi) :
  Calls Tryz.prog 41 #[.string s] wi fun e w'=>e = .returned (.tuple #[.agg #[.int .i64 0,.string ⟨#[]⟩,.slice none 0 0],.int .i64 p,.int .i64 er])∧St w w':=by
 have C:=ParseForm_any s wi h.2.2 h.2.1 hs
 rw [hp] at C
 refine C.mono ?_
 rintro e w' ⟨k',s',a,m,c,rfl,hb,hn⟩
 obtain ⟨rfl,rfl,rfl,rfl,rfl⟩:=hn
 exact ⟨rfl,h.below hb⟩
theorem sn_print_says (t:Nd) (out:ByteArray) (hp:printP t=(bs out,0)) (w wi:World) (h:St w wi) (v0 v1 v2:Value) (ht:NdR wi t v0 v1 v2) :
  Calls Tryz.prog 47 #[.agg #[v0,v1,v2]] wi fun e w'=>e = .returned (.tuple #[.string out,.int .i64 0])∧St w w'∧Below wi.heap.size wi w':=by
 have C:=Print_any t v0 v1 v2 wi ht h.2.1 h.2.2
 rw [hp] at C
 refine C.mono ?_
 rintro e w' ⟨rfl,hb⟩
 exact ⟨rfl,h.below hb,hb⟩
set_option maxRecDepth 100000 in
set_option maxHeartbeats 400000 in
theorem sn_node_any (k:Int) (s:ByteArray) (a:Option Addr) (n c:Nat) (w wi:World) (h:St w wi) :
  Calls Tryz.prog 54 #[.int .i64 k,.string s,.slice a n c] wi fun e w'=>e = .returned (.agg #[.int .i64 k,.string s,.slice a n c])∧St w w'∧Below wi.heap.size wi w':=by
 have R1:=qh (Row3.new wi (.int .i64 k) (.string s) (.slice a n c))
 have HB:=qh ((Below.refl wi.heap.size wi).alloc (Nat.le_refl _) (.cells #[.int .i64 k,.string s,.slice a n c] 24))
 have HS:=qh (h.alloc (.cells #[.int .i64 k,.string s,.slice a n c] 24))
 clear h
 go_enter Tryz.func54,Tryz.ntmps54
 go_wp2
 exact ret_node R1.out rfl rfl rfl ⟨rfl,HS.out,HB.out⟩
set_option maxRecDepth 100000 in
set_option maxHeartbeats 400000 in
theorem sn_atom_any (s:ByteArray) (a:Option Addr) (n c:Nat) (w wi:World) (h:St w wi) :
  Calls Tryz.prog 55 #[.string s,.slice a n c] wi fun e w'=>e = .returned (.agg #[.int .i64 15,.string s,.slice a n c])∧St w w'∧Below wi.heap.size wi w':=by
 have R1:=qh (Row3.new wi (.int .i64 15) (.string s) (.slice a n c))
 have HB:=qh ((Below.refl wi.heap.size wi).alloc (Nat.le_refl _) (.cells #[.int .i64 15,.string s,.slice a n c] 24))
 have HS:=qh (h.alloc (.cells #[.int .i64 15,.string s,.slice a n c] 24))
 clear h
 go_enter Tryz.func55,Tryz.ntmps55
 go_wp2
 exact ret_node R1.out rfl rfl rfl ⟨rfl,HS.out,HB.out⟩
theorem NdR.lit1 {w:World} {b:Nat} {k k1:Int} {s s1:ByteArray} {l1:List Nd} {a1:Option Addr} {c1:Nat} (hs:s.size≤maxLen) (h:w.heap[b]?=some (.cells #[.int .i64 k1,.string s1,.slice a1 l1.length c1] 24 (0,0)))
  (r:NdR w (.mk k1 s1 l1) (.int .i64 k1) (.string s1) (.slice a1 l1.length c1)):NdR w (.mk k s [.mk k1 s1 l1]) (.int .i64 k) (.string s) (.slice (some ⟨b,0,none⟩) 1 1):=by
 refine .mk k s [.mk k1 s1 l1] (some ⟨b,0,none⟩) 1 b 0 (fun _=>.int .i64 k1) (fun _=>.string s1) (fun _=>.slice a1 l1.length c1) hs (by simp [maxLen]) (by simp) (fun _=>rfl) ?_ ?_ ?_ ?_
 all_goals (intro i hi;obtain rfl:i=0:=by simpa using hi)
 ·exact cell_of_row _ _ _ _ _ _ h
 ·exact cell_of_row _ _ _ _ _ _ h
 ·exact cell_of_row _ _ _ _ _ _ h
 ·exact r
theorem NdR.lit2 {w:World} {b:Nat} {k k1 k2:Int} {s s1 s2:ByteArray} {l1 l2:List Nd} {a1 a2:Option Addr} {c1 c2:Nat} (hs:s.size≤maxLen) (h:w.heap[b]?=some (.cells #[.int .i64 k1,.string s1,.slice a1 l1.length c1,.int .i64 k2,.string s2,.slice a2 l2.length c2] 24 (0,0)))
  (r1:NdR w (.mk k1 s1 l1) (.int .i64 k1) (.string s1) (.slice a1 l1.length c1)) (r2:NdR w (.mk k2 s2 l2) (.int .i64 k2) (.string s2) (.slice a2 l2.length c2)):NdR w (.mk k s [.mk k1 s1 l1,.mk k2 s2 l2]) (.int .i64 k) (.string s) (.slice (some ⟨b,0,none⟩) 2 2):=by
 refine .mk k s [.mk k1 s1 l1,.mk k2 s2 l2] (some ⟨b,0,none⟩) 2 b 0 (fun i=>if i=0 then .int .i64 k1 else .int .i64 k2) (fun i=>if i=0 then .string s1 else .string s2) (fun i=>if i=0 then .slice a1 l1.length c1 else .slice a2 l2.length c2) hs (by simp [maxLen]) (by simp) (fun _=>rfl) ?_ ?_ ?_ ?_
 all_goals (intro i hi;obtain rfl | rfl:i=0∨i=1:=by simp at hi;omega)
 ·exact cell_of_row _ _ _ _ _ _ h
 ·exact cell_of_row _ _ _ _ _ _ h
 ·exact cell_of_row _ _ _ _ _ _ h
 ·exact cell_of_row _ _ _ _ _ _ h
 ·exact cell_of_row _ _ _ _ _ _ h
 ·exact cell_of_row _ _ _ _ _ _ h
 ·exact r1
 ·exact r2
theorem NdR.leaf (w:World) (k:Int) (s:ByteArray) (hs:s.size≤maxLen):NdR w (.mk k s []) (.int .i64 k) (.string s) (.slice none 0 0):=(NdS.leaf (fun _=>True) w k s hs none 0).toR
end Go.Proofs.YtcimcjmdkjajfaaGreatDoor
namespace Go.Proofs.YtcimcjmdkjajfaaGreatDoor
open Go.RowKit
set_option maxRecDepth 100000 in
set_option maxHeartbeats 4000000 in
theorem saneS_any (w:World) (hw:2≤w.heap.size) (gl:GLw w) :
  Calls Tryz.prog 13 #[] w fun e w'=>e = .returned (.bool true)∧Below w.heap.size w w':=by
 have s0:St w w:=⟨Below.refl _ _,gl,hw⟩
 have F1:=qh (fun b wi=>sn_form_says txt1 18 41 (.inl ⟨rfl,rfl⟩) _ _ _ parse1 (by unfold maxLen;decide) b wi)
 have F2:=qh (fun b wi=>sn_form_says txt2 18 41 (.inl ⟨rfl,rfl⟩) _ _ _ parse2 (by unfold maxLen;decide) b wi)
 have F4:=qh (fun b wi=>sn_form_bad txt4 _ _ parse4 (by unfold maxLen;decide) b wi)
 have F5:=qh (fun b wi=>sn_form_bad txt5 _ _ parse5 (by unfold maxLen;decide) b wi)
 have F6:=qh (fun b wi=>sn_form_says txt6 1 39 (.inr ⟨rfl,rfl⟩) _ _ _ parse6 (by unfold maxLen;decide) b wi)
 have P1:=qh (fun b=>sn_print_says tree1 txt1 print1 b)
 have P2:=qh (fun b=>sn_print_says tree2 out2 print2 b)
 have P3:=qh (fun b=>sn_print_says tree3 out3 print3 b)
 have P6:=qh (fun b=>sn_print_says tree6 out6 print6 b)
 have NA:=qh (fun b k s a n c wi h=>sn_node_any k s a n c b wi h)
 have AA:=qh (fun b s a n c wi h=>sn_atom_any s a n c b wi h)
 have HS0:=qh s0
 clear s0 hw gl
 go_enter Tryz.func13,Tryz.ntmps13
 go_wp2_with fail
 refine (F1.out _ _ HS0.out).mono ?_
 rintro e w1 ⟨a1,c1,rfl,s1,n1⟩
 have S1:=qh s1
 have N1:=qh n1
 clear s1 n1 F1
 go_wp2_with fail
 refine (P1.out _ _ (S1.out.alloc _) _ _ _ (N1.out.later ((Below.refl _ w1).alloc (Nat.le_refl _) _))).mono ?_
 rintro e w2 ⟨rfl,s2,_⟩
 have S2:=qh s2
 clear s2 P1 N1
 go_wp2_with fail
 refine (F2.out _ _ S2.out).mono ?_
 rintro e w3 ⟨a3,c3,rfl,s3,n3⟩
 have S3:=qh s3
 have N3:=qh n3
 clear s3 n3 F2
 go_wp2_with fail
 refine (P2.out _ _ (S3.out.alloc _) _ _ _ (N3.out.later ((Below.refl _ w3).alloc (Nat.le_refl _) _))).mono ?_
 rintro e w4 ⟨rfl,s4,_⟩
 have S4:=qh s4
 clear s4 P2 N3
 go_wp2_with fail
 refine (NA.out _ _ _ _ _ _ _ S4.out).mono ?_
 rintro e w5 ⟨rfl,s5,_⟩
 obtain ⟨V5,hV5⟩:∃ V5,w5.alloc (.cells #[.int .i64 16,.string { data:=#[88] },.slice none 0 0] 24)=V5:=⟨_,rfl⟩
 have s5':=s5.alloc (.cells #[.int .i64 16,.string { data:=#[88] },.slice none 0 0] 24)
 have HX':=Row3.new w5 (.int .i64 16) (.string { data:=#[88] }) (.slice none 0 0)
 rw [hV5] at s5' HX'
 obtain ⟨X,hX⟩:∃ X,w5.heap.size=X:=⟨_,rfl⟩
 rw [hX] at HX'
 have HX:=qh HX'
 have T5:=qh s5'
 have S5:Hid (St V5 V5):=qh ⟨Below.refl _ _,s5'.2.1,s5'.2.2⟩
 have HV5:=qh hV5
 have HXe:=qh hX
 clear s5 s5' HX' hV5 hX
 go_upto_region 6 with fail
 rw [HV5.out,HXe.out]
 clear HV5 HXe S1 S2 S3 S4
 go_wp2_with fail
 refine (AA.out _ _ _ _ _ _ S5.out).mono ?_
 rintro e w6 ⟨rfl,s6,_⟩
 have S6:=qh s6
 clear s6
 go_wp2_with fail
 refine (AA.out _ _ _ _ _ _ (S6.out.alloc _)).mono ?_
 rintro e w7 ⟨rfl,s7,b7⟩
 have S7:=qh s7
 have R7:Hid (NdR w7 (.mk 15 ⟨#[112]⟩ [nm_ 120]) (.int .i64 15) (.string ⟨#[112]⟩) (.slice (some ⟨w6.heap.size,0,none⟩) 1 1)) :=
  qh (NdR.lit1 (l1:=[]) (by unfold maxLen;decide) ((b7.block _ (by simp)).trans (World.alloc_heap_new _ _)) (NdR.leaf _ _ _ (by unfold maxLen;decide)))
 clear s7 b7
 go_wp2_with fail
 refine (NA.out _ _ _ _ _ _ _ (S7.out.alloc _)).mono ?_
 rintro e w8 ⟨rfl,s8,b8⟩
 have S8:=qh s8
 have R8:Hid (NdR w8 (.mk 18 ⟨#[120]⟩ [.mk 15 ⟨#[112]⟩ [nm_ 120]]) (.int .i64 18) (.string ⟨#[120]⟩) (.slice (some ⟨w7.heap.size,0,none⟩) 1 1)) :=
  qh (NdR.lit1 (l1:=[nm_ 120]) (by unfold maxLen;decide) ((b8.block _ (by simp)).trans (World.alloc_heap_new _ _)) ((R7.out.later ((Below.refl _ w7).alloc (Nat.le_refl _) _)).later b8))
 clear s8 b8 R7
 go_wp2_with fail
 refine (NA.out _ _ _ _ _ _ _ ((S8.out.alloc _).alloc _)).mono ?_
 rintro e w9 ⟨rfl,s9,b9⟩
 have S9:=qh s9
 have R9:Hid (NdR w9 (.mk 29 ⟨#[]⟩ [.mk 18 ⟨#[120]⟩ [.mk 15 ⟨#[112]⟩ [nm_ 120]]]) (.int .i64 29) (.string ⟨#[]⟩) (.slice (some ⟨w8.heap.size+1,0,none⟩) 1 1)) :=
  qh (NdR.lit1 (l1:=[.mk 15 ⟨#[112]⟩ [nm_ 120]]) (by unfold maxLen;decide) ((b9.block _ (by simp)).trans (alloc_at (by simp))) ((R8.out.later (((Below.refl _ w8).alloc (Nat.le_refl _) _).alloc (by simp) _)).later (b9.mono (by simp))))
 clear s9 b9 R8
 go_wp2_with fail
 refine (AA.out _ _ _ _ _ _ S9.out).mono ?_
 rintro e w10 ⟨rfl,s10,b10⟩
 have S10:=qh s10
 have R10:=qh (R9.out.later b10)
 clear s10 b10 R9
 go_wp2_with fail
 refine (NA.out _ _ _ _ _ _ _ (S10.out.alloc _)).mono ?_
 rintro e w11 ⟨rfl,s11,b11⟩
 have S11:=qh s11
 have R11:Hid (NdR w11 tree3 (.int .i64 22) (.string ⟨#[]⟩) (.slice (some ⟨w10.heap.size,0,none⟩) 2 2)) :=
  qh (NdR.lit2 (l1:=[.mk 18 ⟨#[120]⟩ [.mk 15 ⟨#[112]⟩ [nm_ 120]]]) (l2:=[]) (by unfold maxLen;decide) ((b11.block _ (by simp)).trans (World.alloc_heap_new _ _)) ((R10.out.later ((Below.refl _ w10).alloc (Nat.le_refl _) _)).later b11) (NdR.leaf _ _ _ (by unfold maxLen;decide)))
 clear s11 b11 R10
 go_wp2_with fail
 refine (P3.out _ _ S11.out _ _ _ R11.out).mono ?_
 rintro e w12 ⟨rfl,s12,_⟩
 have S12:=qh s12
 clear s12 R11 P3 AA NA S6 S7 S8 S9 S10 S11
 go_wp2_with fail
 refine (F4.out _ _ S12.out).mono ?_
 rintro e w13 ⟨rfl,s13⟩
 have S13:=qh s13
 clear s13 F4 S12
 go_wp2_with fail
 refine (F5.out _ _ (S13.out.alloc _)).mono ?_
 rintro e w14 ⟨rfl,s14⟩
 have S14:=qh s14
 clear s14 F5 S13
 go_wp2_with fail
 refine (F6.out _ _ (S14.out.alloc _)).mono ?_
 rintro e w15 ⟨an,cn,rfl,s15,n15⟩
 obtain ⟨V15,hV15⟩:∃ V,w15.alloc (.cells #[.int .i64 1,.string { data:=#[] },.slice an 2 cn] 24)=V:=⟨_,rfl⟩
 have s15':=s15.alloc (.cells #[.int .i64 1,.string { data:=#[] },.slice an 2 cn] 24)
 have HY':=Row3.new w15 (.int .i64 1) (.string { data:=#[] }) (.slice an 2 cn)
 have n15':=n15.later ((Below.refl _ w15).alloc (Nat.le_refl _) (.cells #[.int .i64 1,.string { data:=#[] },.slice an 2 cn] 24))
 rw [hV15] at s15' HY' n15'
 obtain ⟨Y,hY⟩:∃ Y,w15.heap.size=Y:=⟨_,rfl⟩
 rw [hY] at HY'
 have HY:=qh HY'
 have T15:=qh (T5.out.below s15'.1)
 have HX15:=qh (HX.out.below s15'.1 HX.out.lt)
 have N15:Hid (NdR V15 tree6 (.int .i64 1) (.string { data:=#[] }) (.slice an 2 cn)):=qh n15'
 have S15:Hid (St V15 V15):=qh ⟨Below.refl _ _,s15'.2.1,s15'.2.2⟩
 have HV15:=qh hV15
 have HYe:=qh hY
 clear s15 s15' HY' n15 n15' hV15 hY F6 S14 HX T5 S5
 go_upto_region 11 with fail
 rw [HV15.out,HYe.out]
 clear HV15 HYe
 obtain ⟨⟨y0,y1,y2⟩,_⟩:=HY.out.cells
 go_wp2_with fail
 refine (P6.out _ _ S15.out _ _ _ N15.out).mono ?_
 rintro e w16 ⟨rfl,s16,_⟩
 have S16:=qh s16
 have HY16:=qh (HY.out.below s16.1 HY.out.lt)
 clear s16 P6 y0 y1 y2
 obtain ⟨⟨y0,y1,y2⟩,_⟩:=HY16.out.cells
 have CV:=qh (occur_any 23 16 (.inr ⟨rfl,rfl⟩) tree6 w16 _ _ _ (N15.out.later S16.out.1))
 unfold OccR at CV
 rw [valid6,if_pos rfl,vars6] at CV
 go_wp2_with fail
 refine CV.out.mono ?_
 rintro e w17 ⟨vl,rfl,r17,b17⟩
 have S17:=qh (S16.out.below b17)
 obtain ⟨av,nv,hvl⟩:=row_shape (show w17.ownsRow _ _ 1 vl _ _ from r17)
 subst hvl
 have R17:=qh r17
 clear b17 r17 CV y0 y1 y2 S16
 have HY17:=qh (HY.out.below S17.out.1 HY.out.lt)
 have HX17:=qh (HX15.out.below S17.out.1 HX15.out.lt)
 have N17:=qh (N15.out.later S17.out.1)
 obtain ⟨⟨y0,y1,y2⟩,_⟩:=HY17.out.cells
 go_wp2_with fail
 obtain ⟨_,hv0 | ⟨g,rfl,hvc⟩⟩:=rowS_cells R17.out
 ·cases hv0
 have v0:w17.cell? ⟨g,0,none⟩=some (.string ⟨#[88]⟩):=hvc 0 (by simp)
 obtain ⟨b1,o1,k1,s1,l1,a1',c1',rfl,e1,p0,p1,p2,r1⟩:=N17.out.kid 1 (by simp)
 cases e1
 obtain ⟨b2,o2,k2,s2,l2,a2',c2',rfl,e2,q0,q1,q2,r2⟩:=r1.kid 0 (by simp)
 cases e2
 obtain ⟨b3,o3,k3,s3,l3,a3',c3',rfl,e3,t0,t1,t2,r3⟩:=r2.kid 1 (by simp)
 cases e3
 obtain ⟨b4,o4,k4,s4,l4,a4',c4',rfl,e4,u0,u1,u2,r4⟩:=r3.kid 0 (by simp)
 cases e4
 have CS:Hid (∀ W,Below w17.heap.size w17 W→Calls Tryz.prog 19 #[.agg #[.int .i64 16,.string { data:=#[88] },.slice a4' 0 c4'],.agg #[.int .i64 16,.string { data:=#[88] },.slice none 0 0]] W fun e w'=>e = .returned (.bool true)∧Below W.heap.size W w') :=
  qh (fun W hb=>by
   have C:=sameN_any 1 varX varX W _ _ _ _ _ _ (by decide) (r4.later hb) (NdR.leaf W 16 { data:=#[88] } (by unfold maxLen;decide))
   rw [show sameN varX varX=true from by kernel_rfl] at C
   exact C)
 obtain ⟨⟨x0,x1,x2⟩,_⟩:=HX17.out.cells
 clear r1 r2 r3 r4 hvc p0 p1 q1 t0 t1
 simp only [Nat.zero_mul,Nat.add_zero,Nat.one_mul] at p2 q0 q2 t2 u0 u1 u2
 go_upto_region 18 with fail
 have S0:Hid (w17.cell? ⟨g,0,none⟩=some (.string ⟨#[88]⟩)∧w17.cell? ⟨Y,2,none⟩=some (.slice (some ⟨b1,o1,none⟩) 2 cn)∧w17.cell? ⟨b1,o1+3+2,none⟩=some (.slice (some ⟨b2,o2,none⟩) 1 c1')∧w17.cell? ⟨b2,o2,none⟩=some (.int .i64 27)∧w17.cell? ⟨b2,o2+2,none⟩=some (.slice (some ⟨b3,o3,none⟩) 2 c2')∧w17.cell? ⟨b3,o3+3+2,none⟩=some (.slice (some ⟨b4,o4,none⟩) 1 c3')∧w17.cell? ⟨b4,o4,none⟩=some (.int .i64 16)∧w17.cell? ⟨b4,o4+1,none⟩=some (.string { data:=#[88] })∧w17.cell? ⟨b4,o4+2,none⟩=some (.slice a4' 0 c4')∧w17.cell? ⟨X,0,none⟩=some (.int .i64 16)∧w17.cell? ⟨X,1,none⟩=some (.string { data:=#[88] })∧w17.cell? ⟨X,2,none⟩=some (.slice none 0 0)):=qh ⟨v0,y2,p2,q0,q2,t2,u0,u1,u2,x0,x1,x2⟩
 have SD:w17.drew.cell? ⟨g,0,none⟩=some (.string ⟨#[88]⟩)∧w17.drew.cell? ⟨Y,2,none⟩=some (.slice (some ⟨b1,o1,none⟩) 2 cn)∧w17.drew.cell? ⟨b1,o1+3+2,none⟩=some (.slice (some ⟨b2,o2,none⟩) 1 c1')∧w17.drew.cell? ⟨b2,o2,none⟩=some (.int .i64 27)∧w17.drew.cell? ⟨b2,o2+2,none⟩=some (.slice (some ⟨b3,o3,none⟩) 2 c2')∧w17.drew.cell? ⟨b3,o3+3+2,none⟩=some (.slice (some ⟨b4,o4,none⟩) 1 c3')∧w17.drew.cell? ⟨b4,o4,none⟩=some (.int .i64 16)∧w17.drew.cell? ⟨b4,o4+1,none⟩=some (.string { data:=#[88] })∧w17.drew.cell? ⟨b4,o4+2,none⟩=some (.slice a4' 0 c4')∧w17.drew.cell? ⟨X,0,none⟩=some (.int .i64 16)∧w17.drew.cell? ⟨X,1,none⟩=some (.string { data:=#[88] })∧w17.drew.cell? ⟨X,2,none⟩=some (.slice none 0 0):=S0.out
 have SB:Hid (∀ W,Below w17.heap.size w17 W→W.cell? ⟨g,0,none⟩=some (.string ⟨#[88]⟩)∧W.cell? ⟨Y,2,none⟩=some (.slice (some ⟨b1,o1,none⟩) 2 cn)∧W.cell? ⟨b1,o1+3+2,none⟩=some (.slice (some ⟨b2,o2,none⟩) 1 c1')∧W.cell? ⟨b2,o2,none⟩=some (.int .i64 27)∧W.cell? ⟨b2,o2+2,none⟩=some (.slice (some ⟨b3,o3,none⟩) 2 c2')∧W.cell? ⟨b3,o3+3+2,none⟩=some (.slice (some ⟨b4,o4,none⟩) 1 c3')∧W.cell? ⟨b4,o4,none⟩=some (.int .i64 16)∧W.cell? ⟨b4,o4+1,none⟩=some (.string { data:=#[88] })∧W.cell? ⟨b4,o4+2,none⟩=some (.slice a4' 0 c4')∧W.cell? ⟨X,0,none⟩=some (.int .i64 16)∧W.cell? ⟨X,1,none⟩=some (.string { data:=#[88] })∧W.cell? ⟨X,2,none⟩=some (.slice none 0 0)):=qh (fun W hb=>⟨(hb.cell (p:=⟨g,0,none⟩) (lt_of_cell v0)).trans v0,(hb.cell (p:=⟨Y,2,none⟩) (lt_of_cell y2)).trans y2,(hb.cell (p:=⟨b1,o1+3+2,none⟩) (lt_of_cell p2)).trans p2,(hb.cell (p:=⟨b2,o2,none⟩) (lt_of_cell q0)).trans q0,(hb.cell (p:=⟨b2,o2+2,none⟩) (lt_of_cell q2)).trans q2,(hb.cell (p:=⟨b3,o3+3+2,none⟩) (lt_of_cell t2)).trans t2,(hb.cell (p:=⟨b4,o4,none⟩) (lt_of_cell u0)).trans u0,(hb.cell (p:=⟨b4,o4+1,none⟩) (lt_of_cell u1)).trans u1,(hb.cell (p:=⟨b4,o4+2,none⟩) (lt_of_cell u2)).trans u2,(hb.cell (p:=⟨X,0,none⟩) (lt_of_cell x0)).trans x0,(hb.cell (p:=⟨X,1,none⟩) (lt_of_cell x1)).trans x1,(hb.cell (p:=⟨X,2,none⟩) (lt_of_cell x2)).trans x2⟩)
 have HLB:Hid (∀ e:Bool,True):=qh (fun _=>trivial)
 clear v0 y2 p2 q0 q2 t2 u0 u1 u2 x0 x1 x2 y0 y1
 go_region_held3 (fun w'=>w'.cell? ⟨g,0,none⟩=some (.string ⟨#[88]⟩)∧w'.cell? ⟨Y,2,none⟩=some (.slice (some ⟨b1,o1,none⟩) 2 cn)∧w'.cell? ⟨b1,o1+3+2,none⟩=some (.slice (some ⟨b2,o2,none⟩) 1 c1')∧w'.cell? ⟨b2,o2,none⟩=some (.int .i64 27)∧w'.cell? ⟨b2,o2+2,none⟩=some (.slice (some ⟨b3,o3,none⟩) 2 c2')∧w'.cell? ⟨b3,o3+3+2,none⟩=some (.slice (some ⟨b4,o4,none⟩) 1 c3')∧w'.cell? ⟨b4,o4,none⟩=some (.int .i64 16)∧w'.cell? ⟨b4,o4+1,none⟩=some (.string { data:=#[88] })∧w'.cell? ⟨b4,o4+2,none⟩=some (.slice a4' 0 c4')∧w'.cell? ⟨X,0,none⟩=some (.int .i64 16)∧w'.cell? ⟨X,1,none⟩=some (.string { data:=#[88] })∧w'.cell? ⟨X,2,none⟩=some (.slice none 0 0))
  (first | with_reducible exact SD | with_reducible exact SE)
  (first | (go_at_call 19;refine (CS.out _ ((Below.refl _ w17).drew)).mono ?_;rintro e w18 ⟨rfl,hb⟩;have B18:Hid (Below w17.heap.size w17 w18):=qh (((Below.refl _ w17).drew).trans hb);have SE:=SB.out _ B18.out;clear hb))
 all_goals go_wp2
 all_goals go_ret
 all_goals exact ⟨rfl,(T15.out.1.trans (S17.out.1.mono T15.out.1.size)).trans (B18.out.mono (Nat.le_trans T15.out.1.size S17.out.1.size))⟩
end Go.Proofs.YtcimcjmdkjajfaaGreatDoor
namespace Go.Proofs.YtcimcjmdkjajfaaGreatDoor
open Go.RowKit
set_option maxRecDepth 100000 in
set_option maxHeartbeats 2000000 in
theorem rSameN (n:Nat):∀ (t u:Nd) (w:World) (v0 v1 v2 u0 u1 u2:Value),t.sz≤n→NdR w t v0 v1 v2→NdR w u u0 u1 u2 →
  Calls Tryz.prog 20 #[.agg #[v0,v1,v2],.agg #[u0,u1,u2]] w fun e w'=>e = .returned (.bool (sameN t u))∧Below w.heap.size w w':=by
 induction n with
 | zero=>intro t u w v0 v1 v2 u0 u1 u2 h;cases t;simp only [Nd.sz] at h;omega
 | succ n ih =>
  intro t u w v0 v1 v2 u0 u1 u2 hsz ht hu
  obtain ⟨k,s,l,a,cap,rfl,rfl,rfl,rfl,hs,hl⟩:=ht.form
  obtain ⟨k',s',l',a',cap',rfl,rfl,rfl,rfl,hs',hl'⟩:=hu.form
  have IH:=qh ih
  clear ih
  unfold maxLen at hl hl'
  by_cases hk:k=k'
  ·subst hk
   have hk2:(k != k)=false:=by simp
   by_cases hse:s.toList=s'.toList
   ·have hs2:(s.toList != s'.toList)=false:=by rw [hse];simp
    have hs3:(!(s.toList==s'.toList))=false:=by rw [hse];simp
    by_cases hll:l.length=l'.length
    ·have hl2:((l.length:Int) != (l'.length:Int))=false:=by rw [hll];simp
     have HS:Hid (sameN (.mk k s l) (.mk k s' l')=sameL l l'):=qh (by simp only [sameN];rw [hse];simp)
     have HL:=qh hll
     have HT:=qh ht
     have HU:=qh hu
     have Hsz:Hid (∀ i,(h:i < l.length)→(l[i]).sz≤n):=qh fun i h=>by have:=Nd.kid_lt k s l i h;omega
     have hss:=qh hse
     clear hse hll ht hu hsz
     go_enter Tryz.func20,Tryz.ntmps20
     go_wp2
     obtain ⟨h,hh⟩:∃ h,w.heap.size=h:=⟨_,rfl⟩
     obtain ⟨wz,hwz⟩:∃ wz,(w.alloc (Obj.cells #[Value.int IntKind.i64 k,Value.string s,Value.slice a l.length cap] 24)).alloc (Obj.cells #[Value.int IntKind.i64 k,Value.string s',Value.slice a' l'.length cap'] 24)=wz:=⟨_,rfl⟩
     have hB:Hid (Below w.heap.size w wz):=qh (by rw [←hwz];exact ((Below.refl _ w).alloc (Nat.le_refl _) _).alloc (by simp) _)
     have hz:wz.heap.size=h+1+1:=by rw [←hwz];simp [hh]
     have g0:wz.cell? ⟨h,2,none⟩=some (.slice a l.length cap):=by
      rw [←hwz,←hh];exact (World.cell?_alloc_past _ _ _ (by simp)).trans ((World.cell?_alloc_at _ _ _ _ rfl).trans rfl)
     have g1:wz.cell? ⟨h+1,2,none⟩=some (.slice a' l'.length cap'):=by
      rw [←hwz,←hh];exact (World.cell?_alloc_at _ _ _ _ (by simp)).trans rfl
     have HG0:=qh g0
     have HG1:=qh g1
     have Hz:=qh hz
     have HTz:=qh (HT.out.later hB.out)
     have HUz:=qh (HU.out.later hB.out)
     rw [hwz,hh]
     clear hwz hh hz g0 g1 HT HU
     go_loopw [5] (fun v5 wr=>∃ i:Nat,i≤l.length∧v5 = .int .i64 i∧Hid (sameL l l'=sameL (l.drop i) (l'.drop i))∧Hid (Below wz.heap.size wz wr)) (fun v5 _=>l.length - (intOf v5).toNat)
     case atStart=>exact ⟨0,Nat.zero_le _,rfl,rfl,Below.refl _ _⟩
     case round =>
      obtain ⟨i,hi,rfl,hrun,hbl⟩:=hrel
      have g0:=(hbl.out.cell (p:=⟨h,2,none⟩) (by have:=Hz.out;simp only;omega)).trans HG0.out
      have g1:=(hbl.out.cell (p:=⟨h+1,2,none⟩) (by have:=Hz.out;simp only;omega)).trans HG1.out
      by_cases hlt:i < l.length
      ·have hlt':(i:Int) < (l.length:Int):=by omega
       have hi2:i < l'.length:=by have:=HL.out;omega
       have hlt2:(i:Int) < (l'.length:Int):=by omega
       have hi0:(0:Int)≤(i:Int):=by omega
       obtain ⟨b,o,k1,s1,l1,a1,c1,rfl,e1,x0,x1,x2,r1⟩:=(HTz.out.later hbl.out).kid i hlt
       obtain ⟨b',o',k2,s2,l2,a2,c2,rfl,e2,y0,y1,y2,r2⟩:=(HUz.out.later hbl.out).kid i hi2
       have Hst:=qh (sameL_step hlt hi2)
       have hsz1:=Hsz.out i hlt
       rw [e1] at hsz1
       rw [e1,e2] at Hst
       obtain ⟨V,hV⟩:∃ V,sameN (.mk k1 s1 l1) (.mk k2 s2 l2)=V:=⟨_,rfl⟩
       have C:=qh (fun w (h1:NdR w (.mk k1 s1 l1) _ _ _) (h2:NdR w (.mk k2 s2 l2) _ _ _)=>IH.out _ _ w (.int .i64 k1) (.string s1) (.slice a1 l1.length c1) (.int .i64 k2) (.string s2) (.slice a2 l2.length c2) hsz1 h1 h2)
       rw [hV] at C Hst
       have R1:=qh r1
       have R2:=qh r2
       have L0:=lt_of_cell g0
       have L1:=lt_of_cell g1
       have L2:=lt_of_cell x0
       have L3:=lt_of_cell y0
       clear e1 e2 hV r1 r2
       go_upto_region 6 with fail
       go_cut [45] (fun v wx=>v = .bool (!V)∧Hid (Below wz.heap.size wz wx))
       case first =>
        go_region_held3 (fun w'=>w'.cell? ⟨h,2,none⟩=some (.slice (some ⟨b,o,none⟩) l.length cap)∧w'.cell? ⟨h+1,2,none⟩=some (.slice (some ⟨b',o',none⟩) l'.length cap')∧w'.cell? ⟨b,o+i*3,none⟩=some (.int .i64 k1)∧w'.cell? ⟨b,o+i*3+1,none⟩=some (.string s1)∧w'.cell? ⟨b,o+i*3+2,none⟩=some (.slice a1 l1.length c1)∧w'.cell? ⟨b',o'+i*3,none⟩=some (.int .i64 k2)∧w'.cell? ⟨b',o'+i*3+1,none⟩=some (.string s2)∧w'.cell? ⟨b',o'+i*3+2,none⟩=some (.slice a2 l2.length c2))
         (first | exact ⟨g0,g1,x0,x1,x2,y0,y1,y2⟩ | exact ⟨(hb5.cell (p:=⟨h,2,none⟩) L0).trans g0,(hb5.cell (p:=⟨h+1,2,none⟩) L1).trans g1,(hb5.cell (p:=⟨b,o+i*3,none⟩) L2).trans x0,(hb5.cell (p:=⟨b,o+i*3+1,none⟩) L2).trans x1,(hb5.cell (p:=⟨b,o+i*3+2,none⟩) L2).trans x2,(hb5.cell (p:=⟨b',o'+i*3,none⟩) L3).trans y0,(hb5.cell (p:=⟨b',o'+i*3+1,none⟩) L3).trans y1,(hb5.cell (p:=⟨b',o'+i*3+2,none⟩) L3).trans y2⟩)
         ((go_at_call 20;refine (C.out _ (R1.out.later (Below.refl _ _).drew) (R2.out.later (Below.refl _ _).drew)).mono ?_;rintro e w5 ⟨rfl,hb5⟩))
        all_goals go_wp2
        all_goals go_meet
        all_goals exact ⟨rfl,qh (hbl.out.drew.trans (hb5.mono hbl.out.size))⟩
       case rest =>
        obtain ⟨rfl,hbx⟩:=hcut
        clear C R1 R2 g0 g1 x0 x1 x2 y0 y1 y2
        cases V with
        | false =>
         go_wp2
         go_ret
         exact ⟨by rw [HS.out,hrun.out,Hst.out];rfl,hB.out.trans (hbx.out.mono hB.out.size)⟩
        | true =>
         go_wp2
         go_roundw
         case rel=>exact ⟨i+1,hlt,by push_cast;rfl,qh (by rw [hrun.out,Hst.out];rfl),hbx⟩
         case measure=>simp [intOf];omega
      ·have hlt':¬ ((i:Int) < (l.length:Int)):=by omega
       go_wp2
       go_ret
       exact ⟨by rw [HS.out,hrun.out,sameL_end (by omega) (by have:=HL.out;omega)];rfl,hB.out.trans (hbl.out.mono hB.out.size)⟩
    ·have hl2:((l.length:Int) != (l'.length:Int))=true:=by rw [bne_iff_ne];omega
     have HS:Hid (sameN (.mk k s l) (.mk k s' l')=false):=qh (by simp only [sameN];rw [sameL_len l l' hll,Bool.and_false])
     have hss:=qh hse
     clear hse hll ht hu
     go_enter Tryz.func20,Tryz.ntmps20
     go_wp2
     go_ret
     exact ⟨by rw [HS.out];rfl,((Below.refl _ w).alloc (Nat.le_refl _) _).alloc (by simp) _⟩
   ·have hs2:(s.toList==s'.toList)=false:=by rw [beq_eq_false_iff_ne];exact hse
    have HS:Hid (sameN (.mk k s l) (.mk k s' l')=false):=qh (by simp only [sameN];rw [hs2,Bool.and_false];rfl)
    have hs3:(s=s')=False:=eq_false (by rintro rfl;exact hse rfl)
    clear hse ht hu
    go_enter Tryz.func20,Tryz.ntmps20
    go_wp2
    go_ret
    exact ⟨by rw [HS.out];rfl,((Below.refl _ w).alloc (Nat.le_refl _) _).alloc (by simp) _⟩
  ·have hk2:(k != k')=true:=by rw [bne_iff_ne];exact hk
   have HS:Hid (sameN (.mk k s l) (.mk k' s' l')=false):=qh (by simp only [sameN];rw [show (k==k')=false from by rw [beq_eq_false_iff_ne];exact hk];rfl)
   clear hk ht hu
   go_enter Tryz.func20,Tryz.ntmps20
   go_wp2
   go_ret
   exact ⟨by rw [HS.out];rfl,((Below.refl _ w).alloc (Nat.le_refl _) _).alloc (by simp) _⟩
end Go.Proofs.YtcimcjmdkjajfaaGreatDoor
namespace Go.Proofs.YtcimcjmdkjajfaaGreatDoor
open Go.RowKit
mutual
theorem sameN_self:∀ t:Nd,sameN t t=true
 | .mk k s l=>by simp only [sameN,sameL_self l,beq_self_eq_true,Bool.and_self]
theorem sameL_self:∀ l:List Nd,sameL l l=true
 | []=>by simp only [sameL]
 | a :: l=>by simp only [sameL,sameN_self a,sameL_self l,Bool.and_self]
end
end Go.Proofs.YtcimcjmdkjajfaaGreatDoor
namespace Go.Proofs.YtcimcjmdkjajfaaGreatDoor
theorem atS_ex (c:Int) (r:Option Nd):∃ er tr,AtS c r er tr:=by
 by_cases h:c=0
 ·cases r with
  | none=>exact ⟨3,zeroN,.inr (.inl ⟨h,rfl,rfl,rfl⟩)⟩
  | some t=>exact ⟨0,t,.inr (.inr ⟨h,rfl,rfl⟩)⟩
 ·exact ⟨c,zeroN,.inl ⟨h,rfl,rfl⟩⟩
theorem putS_ex (cn cx:Int) (r:Option Nd) (cp:Int) (pt:Nd):∃ er tr,PutS cn cx r cp pt er tr:=by
 by_cases h:cn=0
 ·by_cases h2:cx=0
  ·cases r with
   | none=>exact ⟨3,zeroN,.inr (.inr (.inl ⟨h,h2,rfl,rfl,rfl⟩))⟩
   | some t =>
    by_cases h3:cp=0
    ·exact ⟨0,pt,.inr (.inr (.inr ⟨h,h2,by simp,h3,.inr ⟨rfl,rfl⟩⟩))⟩
    ·exact ⟨cp,zeroN,.inr (.inr (.inr ⟨h,h2,by simp,rfl,.inl ⟨h3,rfl⟩⟩))⟩
  ·exact ⟨cx,zeroN,.inr (.inl ⟨h,h2,rfl,rfl⟩)⟩
 ·exact ⟨cn,zeroN,.inl ⟨h,rfl,rfl⟩⟩
end Go.Proofs.YtcimcjmdkjajfaaGreatDoor
namespace Go.Proofs.YtcimcjmdkjajfaaGreatDoor
open Go.ChangeShapes Go.WideShapes Go.ChangeAt Go.RowKit Go.ChangeMaps
section
variable {H:Type} {enc:TypeId×Value→H} {P:Program} {w w':World} {base:Nat} {sp:Nat→Bool} {held:Bool}
theorem trod_carry1 {t:TypeId} {v:Value} {d:DataW H} {ps:List MemPlace} (h:DataW.Trod enc P w base sp held t v d ps) (hs:∀ p∈ps,w.sameAt w' p):DataW.Trod enc P w' base sp held t v d ps:=by
 obtain ⟨n,hn⟩:=h
 exact ⟨n,DataW.trod_carry n _ _ _ hn hs⟩
theorem trodAll_carry:∀ {ts:List TypeId} {vs:List Value} {ds:List (DataW H)} {ps:List MemPlace},DataW.TrodAll enc P w base sp held ts vs ds ps→(∀ p∈ps,w.sameAt w' p)→DataW.TrodAll enc P w' base sp held ts vs ds ps
 | [],[],[],_,h,_=>h
 | _ :: _,_ :: _,_ :: _,_,⟨p,q,h1,h2,e⟩,hs=>⟨p,q,trod_carry1 h1 (fun x hx=>hs x (by rw [e];exact List.mem_append_left _ hx)),trodAll_carry h2 (fun x hx=>hs x (by rw [e];exact List.mem_append_right _ hx)),e⟩
theorem below_same {n:Nat} (hb:Below n w w') (p:MemPlace) (h:p.block < n):w.sameAt w' p:=by
 cases p with
 | cell b off=>exact hb.cell (p:=⟨b,off,none⟩) h
 | map b=>exact hb.block b h
theorem args_stay (hl:laidOutB P=true) (hm:mapsRowed P=true) (hz:((List.range P.types.size).all fun t=>match P.underlying t with | some (.slice e)=>decide (0 < P.cellsOf e) | _=>true)=true)
  {ts:List TypeId} {vs:List Value} {ds:List (DataW H)} {ps:List MemPlace} (ht:(ts.all fun t=>decide (t < P.types.size))=true) (hA:DataW.TrodAll enc P w 0 (fun _=>true) true ts vs ds ps) (hlt:∀ p∈ps,p.block < w.heap.size)
  (hb:Below w.heap.size w w') {sp:Nat→Bool} (hs:∀ p∈ps,sp p.block=true):DataW.TrodAll enc P w' 0 sp true ts vs ds ps:=by
 refine DataW.TrodAll.respare (T:=(· < P.types.size)) (kids_rows hl hm) (fun t e h1 h2=>slices_full_of P hz t e h1 h2) (fun t h=>?_) (trodAll_carry hA fun p hp=>below_same hb p (hlt p hp)) hs
 simpa using List.all_eq_true.1 ht t h
end
theorem laidAll:laidOutB Tryz.prog=true:=by kernel_rfl
theorem mapsAll:mapsRowed Tryz.prog=true:=by kernel_rfl
theorem fullAll:((List.range Tryz.prog.types.size).all fun t=>match Tryz.prog.underlying t with | some (.slice e)=>decide (0 < Tryz.prog.cellsOf e) | _=>true)=true:=by kernel_rfl
end Go.Proofs.YtcimcjmdkjajfaaGreatDoor
namespace Go.Proofs.YtcimcjmdkjajfaaGreatDoor
open Go.ChangeShapes Go.WideShapes Go.Deep Go.ChangeMaps Go.RowKit
section
variable {H:Type} {enc:TypeId×Value→H} {w:World} {base:Nat} {sp:Nat→Bool} {hd:Bool}
theorem sy_list_of {α:Type} {Q:Nat→α→Prop}:∀ n:Nat,(∀ i,i < n→∃ a,Q i a)→∃ l:List α,l.length=n∧∀ i,(h:i < l.length)→Q i l[i]
 | 0,_=>⟨[],rfl,fun i h=>absurd h (Nat.not_lt_zero _)⟩
 | n+1,h=>by
  obtain ⟨l,hl,hq⟩:=sy_list_of n fun i hi=>h i (by omega)
  obtain ⟨a,ha⟩:=h n (by omega)
  refine ⟨l++[a],by rw [List.length_append,hl];rfl,fun i hi=>?_⟩
  rw [List.getElem_append]
  split
  ·exact hq i _
  ·have:i=n:=by rw [List.length_append,List.length_singleton] at hi;omega
   subst this
   simpa using ha
theorem sy_addr_add (b o j:Nat):(⟨b,o,none⟩:Addr).add j=⟨b,o+j,none⟩:=by unfold Addr.add;split <;> simp_all
theorem NdS_leaf' (w:World) (k:Int) (s:ByteArray) (hs:s.size≤maxLen) (a:Option Addr) (cap:Nat):NdR w (.mk k s []) (.int .i64 k) (.string s) (.slice a 0 cap) :=
 .mk k s [] a cap 0 0 (fun _=>undef) (fun _=>undef) (fun _=>undef) hs (Nat.zero_le _) (Nat.zero_le _) (fun e=>absurd rfl e) (fun i hi=>absurd hi (Nat.not_lt_zero i)) (fun i hi=>absurd hi (Nat.not_lt_zero i)) (fun i hi=>absurd hi (Nat.not_lt_zero i)) (fun i hi=>absurd hi (Nat.not_lt_zero i))
theorem NdR.of_list {w:World} (k:Int) (s:ByteArray) (hs:s.size≤maxLen) (a:Addr) (len cap:Nat) (hl:len≤cap) (hm:cap≤maxLen)
  (h:∀ i,i < len→∃ (t:Nd) (v0 v1 v2:Value),(w.cell? (a.add (i*3))=some v0∧w.cell? (a.add (i*3+1))=some v1∧w.cell? (a.add (i*3+2))=some v2)∧NdR w t v0 v1 v2) :
  ∃ t,NdR w t (.int .i64 k) (.string s) (.slice (some a) len cap):=by
 obtain ⟨l,hll,hq⟩:=sy_list_of (Q:=fun i (q:Nd×Value×Value×Value)=>(w.cell? (a.add (i*3))=some q.2.1∧w.cell? (a.add (i*3+1))=some q.2.2.1∧w.cell? (a.add (i*3+2))=some q.2.2.2)∧NdR w q.1 q.2.1 q.2.2.1 q.2.2.2) len
  (fun i hi=>by obtain ⟨t,v0,v1,v2,h1,h2⟩:=h i hi;exact ⟨(t,v0,v1,v2),h1,h2⟩)
 have hlm:(l.map (·.1)).length=len:=by simp [hll]
 obtain ⟨b,o,g⟩:=a
 refine ⟨.mk k s (l.map (·.1)),?_⟩
 rw [←hlm]
 by_cases hne:l=[]
 ·subst hne
  simp only [List.map_nil,List.length_nil]
  exact (NdS_leaf' w k s hs (some ⟨b,o,g⟩) cap)
 ·have h0:0 < l.length:=List.length_pos_iff.2 hne
  have hg:g=none:=by
   have:=World.cell?_spot (hq 0 h0).1.1
   simpa [Addr.add] using this
  subst hg
  have fi:∀ i,(hi:i < (l.map (·.1)).length)→∃ q,l[i]?=some q∧(l.map (·.1))[i]=q.1∧(w.cell? ⟨b,o+i*3,none⟩=some q.2.1∧w.cell? ⟨b,o+i*3+1,none⟩=some q.2.2.1∧w.cell? ⟨b,o+i*3+2,none⟩=some q.2.2.2)∧NdR w q.1 q.2.1 q.2.2.1 q.2.2.2:=fun i hi=>by
   have hi':i < l.length:=by simpa using hi
   obtain ⟨⟨q0,q1,q2⟩,hr⟩:=hq i hi'
   rw [sy_addr_add] at q0 q1 q2
   refine ⟨l[i],List.getElem?_eq_getElem hi',by simp,⟨q0,?_,?_⟩,hr⟩
   ·rw [Nat.add_assoc];exact q1
   ·rw [Nat.add_assoc];exact q2
  refine .mk k s (l.map (·.1)) (some ⟨b,o,none⟩) cap b o (fun i=>((l[i]?).map (·.2.1)).getD undef) (fun i=>((l[i]?).map (·.2.2.1)).getD undef) (fun i=>((l[i]?).map (·.2.2.2)).getD undef) hs (by omega) (by omega) (fun _=>rfl) ?_ ?_ ?_ ?_
  all_goals intro i hi
  all_goals obtain ⟨q,e,e1,⟨c0,c1,c2⟩,hr⟩:=fi i hi
  ·simp only [e,Option.map_some,Option.getD_some];exact c0
  ·simp only [e,Option.map_some,Option.getD_some];exact c1
  ·simp only [e,Option.map_some,Option.getD_some];exact c2
  ·simp only [e,Option.map_some,Option.getD_some];rw [e1];exact hr
set_option maxRecDepth 100000 in
theorem open_node:∀ (fuel:Nat) (cs:List Value) (x:DataW H×List MemPlace),DataW.trod enc Tryz.prog w base sp hd fuel 24 cs=some x→∃ t v0 v1 v2,cs=[v0,v1,v2]∧NdR w t v0 v1 v2:=by
 intro fuel
 induction fuel using Nat.strongRecOn with
 | ind fuel ih =>
  intro cs x h
  obtain ⟨xs,n,rfl,rfl,hl,hxs,hf⟩:=DataW.trod_struct Tryz.underlying24 h
  have c:Tryz.prog.cellsOf 24=3:=by kernel_rfl
  have c9:Tryz.prog.cellsOf 9=1:=by kernel_rfl
  have c3:Tryz.prog.cellsOf 3=1:=by kernel_rfl
  have c22:Tryz.prog.cellsOf 22=1:=by kernel_rfl
  rw [c] at hl
  have f0:DataW.trod enc Tryz.prog w base sp hd n 3 ((cs.drop 0).take (Tryz.prog.cellsOf 3))=xs[0]?:=hf 0 _ rfl
  have f1:DataW.trod enc Tryz.prog w base sp hd n 9 ((cs.drop 1).take (Tryz.prog.cellsOf 9))=xs[1]?:=hf 1 _ rfl
  have f2:DataW.trod enc Tryz.prog w base sp hd n 22 ((cs.drop 2).take (Tryz.prog.cellsOf 22))=xs[2]?:=hf 2 _ rfl
  rw [c3] at f0
  rw [c9] at f1
  rw [c22] at f2
  match xs,hxs,f0,f1,f2 with
  | [x0,x1,x2],_,f0,f1,f2 =>
   obtain ⟨k,e0,_,_⟩:=DataW.trod_int Tryz.underlying3 f0
   obtain ⟨s,e1,_,hs⟩:=DataW.trod_string Tryz.underlying9 f1
   rcases DataW.trod_slice Tryz.underlying22 f2 with ⟨e2,_⟩ | ⟨a,len,cap,elems,rest,m,hfu,e2,_,hb,hlc,hm,hlen,hel,_,_⟩
   ·match cs,hl,e0,e1,e2 with
    | [u0,u1,u2],_,e0,e1,e2 =>
     simp at e0 e1 e2
     subst e0 e1 e2
     exact ⟨.mk k s [],_,_,_,rfl,NdS_leaf' w k s hs none 0⟩
   ·match cs,hl,e0,e1,e2 with
    | [u0,u1,u2],_,e0,e1,e2 =>
     simp at e0 e1 e2
     subst e0 e1 e2
     obtain ⟨t,ht⟩:=NdR.of_list k s hs a len cap hlc hm (fun i hi=>by
      have hE:=hel i hi
      rw [c] at hE
      have hxi:elems[i]?=some (elems[i]'(by omega)):=List.getElem?_eq_getElem (by omega)
      rw [hxi] at hE
      simp only [Option.bind_eq_some_iff] at hE
      obtain ⟨c1,hc1,hy1⟩:=hE
      obtain ⟨t,w0,w1,w2,rfl,hr⟩:=ih m (by omega) _ _ hy1
      obtain ⟨_,_,hat⟩:=World.cells?_some hc1
      refine ⟨t,w0,w1,w2,⟨?_,?_,?_⟩,hr⟩
      ·have:=hat 0 (by omega);rw [Go.Deep.add_add] at this;simpa using this
      ·have:=hat 1 (by omega);rw [Go.Deep.add_add] at this;simpa using this
      ·have:=hat 2 (by omega);rw [Go.Deep.add_add] at this;simpa using this)
     exact ⟨t,_,_,_,rfl,ht⟩
set_option maxRecDepth 100000 in
theorem open_tree {v:Value} {d:DataW H} {p:List MemPlace} {r:Reach} {b0:Nat} (hv:Value.okWide Tryz.prog w r b0 24 v) (h:DataW.Trod enc Tryz.prog w base sp hd 24 v d p):∃ t v0 v1 v2,v = .agg #[v0,v1,v2]∧NdR w t v0 v1 v2:=by
 obtain ⟨cs,rfl,_⟩:=okWide_struct Tryz.underlying24 hv
 obtain ⟨fuel,hf⟩:=h
 obtain ⟨t,v0,v1,v2,e,hr⟩:=open_node fuel _ _ hf
 have e':cs=#[v0,v1,v2]:=Array.toList_inj.1 e
 rw [e']
 exact ⟨t,v0,v1,v2,rfl,hr⟩
end
end Go.Proofs.YtcimcjmdkjajfaaGreatDoor
namespace Go.Proofs.YtcimcjmdkjajfaaGreatDoor
open Go.ChangeShapes Go.WideShapes Go.Deep Go.ChangeMaps Go.RowKit
set_option maxRecDepth 100000 in
theorem open_path {H:Type} {enc:TypeId×Value→H} {w:World} {base b0:Nat} {sp:Nat→Bool} {hd:Bool} {v:Value} {d:DataW H} {p:List MemPlace} {r:Reach} (hv:Value.okWide Tryz.prog w r b0 46 v) (h:DataW.Trod enc Tryz.prog w base sp hd 46 v d p):∃ q:List Int,PathR w v q:=by
 obtain ⟨a,len,cap,rfl⟩:=okWide_slice Tryz.underlying46 hv
 obtain ⟨fuel,hf⟩:=h
 have c3:Tryz.prog.cellsOf 3=1:=by kernel_rfl
 rcases DataW.trod_slice Tryz.underlying46 hf with ⟨e2,_⟩ | ⟨a',len',cap',elems,rest,m,hfu,e2,_,hb,hlc,hm,hlen,hel,_,_⟩
 ·have hc':Value.slice a len cap = .slice none 0 0:=List.cons.inj e2 |>.1
  simp only [Value.slice.injEq] at hc'
  obtain ⟨rfl,rfl,rfl⟩:=hc'
  exact ⟨[],Nat.zero_le _,0,0,0,none,rfl,Nat.le_refl _,fun h=>absurd rfl h,fun i hi=>absurd hi (Nat.not_lt_zero _)⟩
 ·have hc':Value.slice a len cap = .slice (some a') len' cap':=List.cons.inj e2 |>.1
  simp only [Value.slice.injEq] at hc'
  obtain ⟨rfl,rfl,rfl⟩:=hc'
  obtain ⟨l,hl,hq⟩:=sy_list_of (Q:=fun i (k:Int)=>w.cell? (a'.add i)=some (.int .i64 k)) len (fun i hi=>by
   have hE:=hel i hi
   rw [c3] at hE
   have hxi:elems[i]?=some (elems[i]'(by omega)):=List.getElem?_eq_getElem (by omega)
   rw [hxi] at hE
   simp only [Option.bind_eq_some_iff] at hE
   obtain ⟨c1,hc1,hy1⟩:=hE
   obtain ⟨k,rfl,_,_⟩:=DataW.trod_int Tryz.underlying3 hy1
   obtain ⟨_,_,hat⟩:=World.cells?_some hc1
   refine ⟨k,?_⟩
   have:=hat 0 (by omega)
   rw [Go.Deep.add_add] at this
   simpa using this)
  obtain ⟨b,o,g⟩:=a'
  subst hl
  by_cases hne:l=[]
  ·subst hne
   exact ⟨[],Nat.zero_le _,b,o,cap,_,rfl,Nat.zero_le _,fun h=>absurd rfl h,fun i hi=>absurd hi (Nat.not_lt_zero _)⟩
  ·have h0:0 < l.length:=List.length_pos_iff.2 hne
   have hg:g=none:=by
    have:=World.cell?_spot (hq 0 h0)
    simpa [Addr.add] using this
   subst hg
   refine ⟨l,by omega,b,o,cap,_,rfl,hlc,fun _=>rfl,fun j hj=>?_⟩
   have:=hq j hj
   rw [sy_addr_add] at this
   exact this
end Go.Proofs.YtcimcjmdkjajfaaGreatDoor
