/- Layer 2: SyntaxTokens, the given statement proved: for every text and every number, where the program's two tables are laid as its text lays them: the card's tie says that they are. -/
import Derived.Test.YtgjijidlaghlmaaGreatDoorPkTa
import Derived.Test.YtgjijidlaghlmaaGreatDoorPkTb
import Derived.Test.YtgjijidlaghlmaaGreatDoorPkTc
import Derived.Test.YtgjijidlaghlmaaGreatDoorPkTd
import Derived.Test.YtgjijidlaghlmaaGreatDoorPkTe
import Derived.Lib.SlicesS
import Derived.OwnWalkIn
import Derived.Stop.RegionWithIn
import Derived.BigGuardIn
import Derived.Shelf.Abstract
import Derived.Deep.RegionHeld3
import Derived.Test.YtgjijidlaghlmaaGreatDoorRows
import Derived.Test.YtgjijidlaghlmaaGreatDoorChecked
import Derived.ProofKit
import Derived.LaidMore
import Derived.OpenShut
import Derived.Stop.Joined
import Derived.Test.YtgjijidlaghlmaaGreatDoorTie
import Derived.Test.YtgjijidlaghlmaaGreatDoorCards
import Derived.SizedLaws
import Derived.SevenTiedAt
namespace Go.Proofs.YtgjijidlaghlmaaGreatDoor
open Lx (KT IsTok Runs)
open Sx (txt knd)
def notP (a:KT):Bool:=decide (a.x≠[40]) && decide (a.x≠[41])
def bareK (l:List KT):List KT:=l.filter notP
theorem bareK_app (l m:List KT):bareK (l++m)=bareK l++bareK m:=List.filter_append ..
theorem bareK_cons (a:KT) (l:List KT):bareK (a :: l)=bareK [a]++bareK l:=bareK_app [a] l
theorem bareK_one {a:KT} (h:notP a=true):bareK [a]=[a]:=by unfold bareK;rw [List.filter_cons_of_pos h];rfl
theorem bareK_par (l:Pc):bareK (pcT (par l))=bareK (pcT l):=by
 have:=par_toks l []
 rw [List.append_nil] at this
 rw [this,bareK_cons,bareK_app,show bareK [⟨3,[40]⟩]=[] from rfl,show bareK [⟨3,[41]⟩]=[] from rfl,List.nil_append,List.append_nil]
def bT (t:Nd):List KT:=bareK (pcT (t.pbare false))
theorem notP_tok {a:KT} (h:IsTok a) (h3:a.k≠3):notP a=true:=by
 unfold notP
 rw [Bool.and_eq_true,decide_eq_true_eq,decide_eq_true_eq]
 exact ⟨tok_ne h (sign_tok (c:=40) (by decide)) h3,tok_ne h (sign_tok (c:=41) (by decide)) h3⟩
theorem notP_nmK {k:Int} {s:ByteArray} (h:nmV k s):notP (nmK k s)=true:=notP_tok (ok_nmK h) (by rcases h with ⟨rfl,_⟩ | ⟨rfl,_⟩ <;> simp [nmK])
theorem notP_nmB {s:ByteArray} (h:anyV s):notP (nmB s)=true:=notP_tok (ok_nmB h) (by unfold nmB;split <;> simp)
theorem bare_txt {t:Nd} (h:∀ m,bareK (pcT (t.pbare m))=bT t) (b:Nat) (m:Bool):bareK (pcT (t.ptxt b m))=bT t:=by
 rw [ptxt_eq]
 split
 ·rw [bareK_par];rfl
 ·exact h m
theorem bare_arrow {a b:Nd} (ha:∀ m,bareK (pcT (a.pbare m))=bT a) (hb:∀ m,bareK (pcT (b.pbare m))=bT b) (s:ByteArray) (m:Bool):bareK (pcT ((Nd.mk 31 s [a,b]).pbare m))=bT a++⟨3,[45,62]⟩ :: bT b:=by
 rw [pb_arrow,pcT_app,pcT_none,pcT_some,pcT_none,bareK_app,bareK_cons,bare_txt ha,bare_txt hb]
 rfl
theorem typ_bare {t:Nd} (h:TyV t):∀ m,bareK (pcT (t.pbare m))=bT t:=by
 induction h with
 | name s h=>intro m;rfl
 | arrow a b _ _ ha hb=>intro m;unfold bT;rw [bare_arrow ha hb,bare_arrow ha hb]
def bB1 (s:ByteArray) (b:Nd):List KT:=nmB s :: ⟨3,[46]⟩ :: bT b
def bB2 (s:ByteArray) (y b:Nd):List KT:=nmB s :: ⟨3,[58]⟩ :: (bT y++⟨3,[46]⟩ :: bT b)
theorem bare_bind1 {s:ByteArray} {b:Nd} (hs:anyV s) (hb:∀ m,bareK (pcT (b.pbare m))=bT b):bareK (pcT (bind1 s b))=bB1 s b:=by
 unfold bind1 bB1
 rw [pcT_some,pcT_some,pcT_none,bareK_cons,bareK_cons ⟨3,[46]⟩,bareK_one (notP_nmB hs),bare_txt hb]
 rfl
theorem bare_bind2 {s:ByteArray} {y b:Nd} (hs:anyV s) (hy:TyV y) (hb:∀ m,bareK (pcT (b.pbare m))=bT b):bareK (pcT (bind2 s y b))=bB2 s y b:=by
 unfold bind2 bB2
 rw [pcT_some,pcT_some,pcT_none,pcT_app,pcT_some,pcT_none,bareK_cons,bareK_cons ⟨3,[58]⟩,bareK_app,bareK_cons ⟨3,[46]⟩,bareK_one (notP_nmB hs),bare_txt hb,bare_txt (typ_bare hy)]
 rfl
theorem bare_args {l:List Nd} (hl:∀ x∈l,TmV x) (h:∀ x∈l,∀ m,bareK (pcT (x.pbare m))=bT x):bareK (pcT (argsP l))=l.flatMap bT:=by
 induction l with
 | nil=>rfl
 | cons x l ih =>
  have h1:bareK (pcT x.parg)=bT x:=by
   have hx:=hl x (by simp)
   rw [parg_eq]
   cases hx with
   | app k s l' hn hl' =>
    simp only
    split
    ·rw [bareK_par];rfl
    ·rename_i h0
     obtain rfl:l'=[]:=List.eq_nil_of_length_eq_zero (by omega)
     unfold bT
     rw [pb_app (hn.imp (·.1) (·.1))]
     rfl
   | lam1 s b hs hb=>simp only;rw [if_pos (.inl trivial),bareK_par];rfl
   | lam2 s y b hs hy hb=>simp only;rw [if_pos (.inl trivial),bareK_par];rfl
  have e:pcT (argsP (x :: l))=pcT x.parg++pcT (argsP l):=by unfold argsP;rw [List.flatMap_cons,List.cons_append,pcT_none,pcT_app]
  rw [e,bareK_app,h1,ih (fun y hy=>hl y (by simp [hy])) (fun y hy=>h y (by simp [hy])),List.flatMap_cons]
theorem bare_app {k:Int} {s:ByteArray} {l:List Nd} (hn:nmV k s) (hl:∀ x∈l,TmV x) (h:∀ x∈l,∀ m,bareK (pcT (x.pbare m))=bT x) (m:Bool):bareK (pcT ((Nd.mk k s l).pbare m))=nmK k s :: l.flatMap bT:=by
 rw [pb_app (hn.imp (·.1) (·.1)),pcT_some,bareK_cons,bareK_one (notP_nmK hn),bare_args hl h]
 rfl
theorem term_bare {t:Nd} (h:TmV t):∀ m,bareK (pcT (t.pbare m))=bT t:=by
 induction h with
 | app k s l hn hl ih=>intro m;unfold bT;rw [bare_app hn hl ih,bare_app hn hl ih]
 | lam1 s b hs _ hb=>intro m;unfold bT;rw [pb_lam1,pb_lam1]
 | lam2 s y b hs hy _ hb=>intro m;unfold bT;rw [pb_lam2,pb_lam2]
theorem bT_app {k:Int} {s:ByteArray} {l:List Nd} (hn:nmV k s) (hl:∀ x∈l,TmV x):bT (.mk k s l)=nmK k s :: l.flatMap bT:=bare_app hn hl (fun x hx=>term_bare (hl x hx)) false
theorem bare_bin {k:Int} (hk:k=22∨k=23∨k=24∨k=25∨k=26∨k=27∨k=28) {a b:Nd} (ha:∀ m,bareK (pcT (a.pbare m))=bT a) (hb:∀ m,bareK (pcT (b.pbare m))=bT b) (s:ByteArray) (m:Bool) :
  bareK (pcT ((Nd.mk k s [a,b]).pbare m))=bT a++⟨3,opSign k⟩ :: bT b:=by
 rw [pb_bin hk,pcT_app,pcT_none,pcT_some,pcT_none,bareK_app,bareK_cons,bare_txt ha,bare_txt hb,bareK_one (by rcases hk with rfl | rfl | rfl | rfl | rfl | rfl | rfl <;> decide)]
 rfl
theorem form_bare {t:Nd} (h:FmV t):∀ m,bareK (pcT (t.pbare m))=bT t:=by
 induction h with
 | atom s l h hl=>exact term_bare (.app 15 s l (.inl ⟨rfl,h⟩) hl)
 | q1 k s b hk hs _ hb=>intro m;unfold bT;rw [pb_q1 hk,pb_q1 hk]
 | q2 k s y b hk hs hy _ hb=>intro m;unfold bT;rw [pb_q2 hk,pb_q2 hk]
 | lone k hk=>intro m;unfold bT;rw [pb_lone hk,pb_lone hk]
 | bang a _ ha=>intro m;unfold bT;rw [pb_bang,pb_bang,pcT_some,pcT_some,bareK_cons,bareK_cons _ (pcT (a.ptxt 5 false)),bare_txt ha,bare_txt ha]
 | monad a _ ha=>intro m;unfold bT;rw [pb_monad,pb_monad]
 | bin k a b hk _ _ ha hb=>intro m;unfold bT;rw [bare_bin hk ha hb,bare_bin hk ha hb]
theorem bT_name {s:ByteArray} (h:nameB s=true):bT (.mk 15 s [])=[nmK 15 s]:=bT_app (.inl ⟨rfl,h⟩) (fun x hx=>by cases hx)
theorem bT_arrow {a b:Nd} (ha:TyV a) (hb:TyV b):bT (.mk 31 Sx.noS [a,b])=bT a++⟨3,[45,62]⟩ :: bT b:=bare_arrow (typ_bare ha) (typ_bare hb) _ _
theorem bT_lam1 {s:ByteArray} {b:Nd} (hs:anyV s) (hb:TmV b):bT (.mk 17 s [b])=⟨3,[92]⟩ :: bB1 s b:=by
 unfold bT;rw [pb_lam1,pcT_some,bareK_cons,bare_bind1 hs (term_bare hb)];rfl
theorem bT_lam2 {s:ByteArray} {y b:Nd} (hs:anyV s) (hy:TyV y) (hb:TmV b):bT (.mk 17 s [y,b])=⟨3,[92]⟩ :: bB2 s y b:=by
 unfold bT;rw [pb_lam2,pcT_some,bareK_cons,bare_bind2 hs hy (term_bare hb)];rfl
theorem bT_q1 {k:Int} (hk:k=18∨k=19) {s:ByteArray} {b:Nd} (hs:anyV s) (hb:FmV b):bT (.mk k s [b])=⟨4,opensW k⟩ :: bB1 s b:=by
 unfold bT;rw [pb_q1 hk,pcT_some,pcT_none,bareK_cons,bare_bind1 hs (form_bare hb),bareK_one (by rcases hk with rfl | rfl <;> decide)];rfl
theorem bT_q2 {k:Int} (hk:k=18∨k=19) {s:ByteArray} {y b:Nd} (hs:anyV s) (hy:TyV y) (hb:FmV b):bT (.mk k s [y,b])=⟨4,opensW k⟩ :: bB2 s y b:=by
 unfold bT;rw [pb_q2 hk,pcT_some,pcT_none,bareK_cons,bare_bind2 hs hy (form_bare hb),bareK_one (by rcases hk with rfl | rfl <;> decide)];rfl
theorem bT_lone {k:Int} (hk:k=20∨k=21):bT (.mk k Sx.noS [])=[⟨4,opensW k⟩]:=by
 unfold bT;rw [pb_lone hk];rcases hk with rfl | rfl <;> decide
theorem bT_bang {a:Nd} (ha:FmV a):bT (.mk 29 Sx.noS [a])=⟨3,[33]⟩ :: bT a:=by
 unfold bT;rw [pb_bang,pcT_some,bareK_cons,bare_txt (form_bare ha)];rfl
theorem bT_monad {a:Nd} (ha:FmV a):bT (.mk 30 Sx.noS [a])=⟨3,[123]⟩ :: (bT a++[⟨3,[125]⟩]):=by
 unfold bT;rw [pb_monad,pcT_some,pcT_app,pcT_some,pcT_nil,bareK_cons,bareK_app,bare_txt (form_bare ha)];rfl
theorem bT_bin {k:Int} (hk:k=22∨k=23∨k=24∨k=25∨k=26∨k=27∨k=28) {a b:Nd} (ha:FmV a) (hb:FmV b):bT (.mk k Sx.noS [a,b])=bT a++⟨3,opSign k⟩ :: bT b:=bare_bin hk (form_bare ha) (form_bare hb) _ _
def Seg (ts:List Lx.Tok) (p q:Nat) (K:List KT):Prop:=∃ S,(ts.map Lx.Tok.kt).drop p=S++(ts.map Lx.Tok.kt).drop q∧bareK S=K
theorem Seg.refl (ts:List Lx.Tok) (p:Nat):Seg ts p p []:=⟨[],rfl,rfl⟩
theorem Seg.trans {ts:List Lx.Tok} {p q r:Nat} {K L:List KT} (h:Seg ts p q K) (h2:Seg ts q r L):Seg ts p r (K++L):=by
 obtain ⟨S,e,rfl⟩:=h
 obtain ⟨S2,e2,rfl⟩:=h2
 exact ⟨S++S2,by rw [e,e2,List.append_assoc],bareK_app _ _⟩
theorem seg_tok {ts:List Lx.Tok} {p:Nat} (h:p < ts.length):Seg ts p (p+1) (bareK [⟨knd ts p,txt ts p⟩]):=by
 refine ⟨[⟨knd ts p,txt ts p⟩],?_,rfl⟩
 rw [List.drop_eq_getElem_cons (by rw [List.length_map];exact h)]
 congr 1
 rw [List.getElem_map]
 unfold txt knd
 rw [List.getElem?_eq_getElem h]
 rfl
def AllT (ts:List Lx.Tok):Prop:=∀ t∈ts,IsTok t.kt
theorem AllT.at {ts:List Lx.Tok} (hT:AllT ts) {p:Nat} (h:p < ts.length):IsTok ⟨knd ts p,txt ts p⟩:=by
 have:=hT ts[p] (List.getElem_mem h)
 unfold txt knd
 rw [List.getElem?_eq_getElem h]
 exact this
theorem tok_kindP {a b:KT} (ha:IsTok a) (hb:IsTok b) (h:a.x=b.x):a.k=b.k:=Decidable.byContradiction fun e=>tok_ne ha hb e h
theorem seg_one {ts:List Lx.Tok} (hT:AllT ts) {p:Nat} {k:Nat} {x:Tx} (hx:IsTok ⟨k,x⟩) (h:txt ts p=x) (hn:notP ⟨k,x⟩=true):Seg ts p (p+1) [⟨k,x⟩]:=by
 have hp:p < ts.length:=Sx.txt_lt (by
  rw [h]
  rintro rfl
  have:=hx.1
  simp [Lx.tokR] at this)
 have e:=tok_kindP (hT.at hp) hx h
 have:=seg_tok hp
 rw [h,show knd ts p=k from e,bareK_one hn] at this
 exact this
theorem seg_par {ts:List Lx.Tok} {p:Nat} (h:txt ts p=[40]∨txt ts p=[41]):Seg ts p (p+1) []:=by
 have hp:p < ts.length:=Sx.txt_lt (by rcases h with h | h <;> rw [h] <;> decide)
 have:=seg_tok hp
 rcases h with h | h <;> (rw [h] at this;exact this)
theorem seg_name {ts:List Lx.Tok} (hT:AllT ts) {p q:Nat} {a:Nd} (h:Sx.nameA ts p = .ok a q):∃ k s,a = .mk k s []∧nmV k s∧Seg ts p q [nmK k s]:=by
 unfold Sx.nameA at h
 split at h
 ·rename_i hk
  cases h
  have hp:=Sx.knd_lt (ts:=ts) (p:=p) (by omega)
  have h1:=hT.at hp
  have h2:=seg_tok hp
  rw [hk] at h1 h2
  rw [bareK_one (notP_tok h1 (show (1:Nat)≠3 by decide))] at h2
  exact ⟨15,_,rfl,.inl ⟨rfl,(checkB_iff ⟨1,Sx.str (txt ts p),0⟩).2 ⟨show (0:Int)≤1 by decide,h1⟩⟩,h2⟩
 ·split at h
  ·rename_i hk
   cases h
   have hp:=Sx.knd_lt (ts:=ts) (p:=p) (by omega)
   have h1:=hT.at hp
   have h2:=seg_tok hp
   rw [hk] at h1 h2
   rw [bareK_one (notP_tok h1 (show (2:Nat)≠3 by decide))] at h2
   exact ⟨16,_,rfl,.inr ⟨rfl,(checkB_iff ⟨2,Sx.str (txt ts p),0⟩).2 ⟨show (0:Int)≤2 by decide,h1⟩⟩,h2⟩
  ·cases h
theorem nmB_of {k:Int} {s:ByteArray} (h:nmV k s):nmB s=nmK k s∧anyV s:=by
 rcases h with ⟨rfl,h⟩ | ⟨rfl,h⟩
 ·exact ⟨by unfold nmB;rw [if_pos h];rfl,.inl h⟩
 ·refine ⟨?_,.inr h⟩
  unfold nmB
  rw [if_neg fun e=>absurd (tok_kindP (ok_name e) (ok_var h) rfl) (show ¬ (1:Nat)=2 by decide)]
  rfl
theorem seg_small {ts:List Lx.Tok} (hT:AllT ts) {p q:Nat} {a:Nd} (h:Sx.small ts p = .ok a q):∃ s,a = .mk 15 s []∧nameB s=true∧Seg ts p q [⟨1,bs s⟩]:=by
 unfold Sx.small at h
 split at h
 ·rename_i hk
  cases h
  have hp:=Sx.knd_lt (ts:=ts) (p:=p) (by omega)
  have h1:=hT.at hp
  have h2:=seg_tok hp
  rw [hk] at h1 h2
  rw [bareK_one (notP_tok h1 (show (1:Nat)≠3 by decide))] at h2
  exact ⟨_,rfl,(checkB_iff ⟨1,Sx.str (txt ts p),0⟩).2 ⟨show (0:Int)≤1 by decide,h1⟩,h2⟩
 ·cases h
theorem sig (c:UInt8) (h:Lx.signB c=true:=by decide):IsTok ⟨3,[c]⟩:=sign_tok h
theorem typed_seg {ts:List Lx.Tok} (hT:AllT ts):∀ f,(∀ p t q,Sx.typed ts f p = .ok t q→TyV t∧Seg ts p q (bT t))∧(∀ p t q,Sx.simple ts f p = .ok t q→TyV t∧Seg ts p q (bT t))
 | 0=>⟨fun p t q h=>(by simp only [Sx.typed] at h;cases h),fun p t q h=>(by simp only [Sx.simple] at h;cases h)⟩
 | f+1=>by
  obtain ⟨i1,i2⟩:=typed_seg hT f
  refine ⟨fun p t q h=>?_,fun p t q h=>?_⟩
  ·rw [Sx.typed_succ] at h
   split at h
   ·cases h
   ·rename_i a q1 e1
    obtain ⟨va,sa⟩:=i2 _ _ _ e1
    split at h
    ·rename_i hx
     split at h
     ·cases h
     ·rename_i b r e2
      cases h
      obtain ⟨vb,sb⟩:=i1 _ _ _ e2
      exact ⟨.arrow a b va vb,by rw [bT_arrow va vb];exact sa.trans ((seg_one hT (ok_op (k:=31) (by simp)) hx (by decide)).trans sb)⟩
    ·cases h
     exact ⟨va,sa⟩
  ·rw [Sx.simple_succ] at h
   split at h
   ·rename_i hx
    split at h
    ·cases h
    ·rename_i a q1 e1
     split at h
     ·rename_i hy
      cases h
      obtain ⟨va,sa⟩:=i1 _ _ _ e1
      have:=(seg_par (.inl hx)).trans (sa.trans (seg_par (.inr hy)))
      rw [List.nil_append,List.append_nil] at this
      exact ⟨va,this⟩
     ·cases h
   ·obtain ⟨s,rfl,hs,sg⟩:=seg_small hT h
    exact ⟨.name s hs,by rw [bT_name hs];exact sg⟩
theorem binder_seg {ts:List Lx.Tok} (hT:AllT ts) {f:Nat} {body:Nat→Sx.PR Nd} {V:Nd→Prop} {k:Int} (hb:∀ p t q,body p = .ok t q→V t∧Seg ts p q (bT t)) {p q:Nat} {t:Nd} (h:Sx.binder (Sx.typed ts f) body ts k p = .ok t q) :
  ∃ s b,anyV s∧V b∧((t = .mk k s [b]∧Seg ts p q (bB1 s b))∨∃ y,TyV y∧t = .mk k s [y,b]∧Seg ts p q (bB2 s y b)):=by
 unfold Sx.binder at h
 split at h
 ·cases h
 ·rename_i k' s l' q1 e1
  obtain ⟨k2,s2,e2,hn,sg⟩:=seg_name hT e1
  cases e2
  obtain ⟨en,ha⟩:=nmB_of hn
  rw [←en] at sg
  split at h
  ·rename_i hx
   split at h
   ·cases h
   ·rename_i y r e3
    obtain ⟨vy,sy⟩:=(typed_seg hT f).1 _ _ _ e3
    split at h
    ·rename_i hd
     split at h
     ·cases h
     ·rename_i b u e4
      cases h
      obtain ⟨vb,sb⟩:=hb _ _ _ e4
      exact ⟨s,b,ha,vb,.inr ⟨y,vy,rfl,sg.trans ((seg_one hT (sig 58) hx (by decide)).trans (sy.trans ((seg_one hT (sig 46) hd (by decide)).trans sb)))⟩⟩
    ·cases h
  ·split at h
   ·rename_i hd
    split at h
    ·cases h
    ·rename_i b u e4
     cases h
     obtain ⟨vb,sb⟩:=hb _ _ _ e4
     exact ⟨s,b,ha,vb,.inl ⟨rfl,sg.trans ((seg_one hT (sig 46) hd (by decide)).trans sb)⟩⟩
   ·cases h
theorem term_seg {ts:List Lx.Tok} (hT:AllT ts):∀ f,(∀ p t q,Sx.term ts f p = .ok t q→TmV t∧Seg ts p q (bT t))∧(∀ acc p l q,Sx.args ts f acc p = .ok l q→∃ l2,l=acc++l2∧(∀ x∈l2,TmV x)∧Seg ts p q (l2.flatMap bT))
 | 0=>⟨fun p t q h=>(by simp only [Sx.term] at h;cases h),fun acc p t q h=>(by simp only [Sx.args] at h;cases h)⟩
 | f+1=>by
  obtain ⟨i1,i2⟩:=term_seg hT f
  refine ⟨fun p t q h=>?_,fun acc p l q h=>?_⟩
  ·rw [Sx.term_succ] at h
   split at h
   ·rename_i hx
    obtain ⟨s,b,hs,vb,h1 | ⟨y,vy,h1⟩⟩:=binder_seg hT i1 h
    ·obtain ⟨rfl,sg⟩:=h1
     exact ⟨.lam1 s b hs vb,by rw [bT_lam1 hs vb];exact (seg_one hT (sig 92) hx (by decide)).trans sg⟩
    ·obtain ⟨rfl,sg⟩:=h1
     exact ⟨.lam2 s y b hs vy vb,by rw [bT_lam2 hs vy vb];exact (seg_one hT (sig 92) hx (by decide)).trans sg⟩
   ·split at h
    ·rename_i hx
     split at h
     ·cases h
     ·rename_i a q1 e1
      split at h
      ·rename_i hy
       cases h
       obtain ⟨va,sa⟩:=i1 _ _ _ e1
       have:=(seg_par (.inl hx)).trans (sa.trans (seg_par (.inr hy)))
       rw [List.nil_append,List.append_nil] at this
       exact ⟨va,this⟩
      ·cases h
    ·split at h
     ·cases h
     ·rename_i k s l' q1 e1
      obtain ⟨k2,s2,e2,hn,sg⟩:=seg_name hT e1
      cases e2
      split at h
      ·cases h
      ·rename_i l r e3
       cases h
       obtain ⟨l2,el,vl,sl⟩:=i2 _ _ _ _ e3
       rw [List.nil_append] at el
       subst el
       exact ⟨.app k s l hn vl,by rw [bT_app hn vl];exact sg.trans sl⟩
  ·rw [Sx.args_succ] at h
   split at h
   ·rename_i hx
    split at h
    ·cases h
    ·rename_i a q1 e1
     split at h
     ·rename_i hy
      obtain ⟨va,sa⟩:=i1 _ _ _ e1
      obtain ⟨l2,rfl,vl,sl⟩:=i2 _ _ _ _ h
      have:=(seg_par (.inl hx)).trans (sa.trans ((seg_par (.inr hy)).trans sl))
      rw [List.nil_append,List.nil_append] at this
      refine ⟨a :: l2,by rw [List.append_assoc];rfl,fun x hx=>?_,by rw [List.flatMap_cons];exact this⟩
      rcases List.mem_cons.1 hx with rfl | hx
      ·exact va
      ·exact vl x hx
     ·cases h
   ·split at h
    ·cases h
     exact ⟨[],by rw [List.append_nil],fun x hx=>(by cases hx),Seg.refl _ _⟩
    ·rename_i a q1 e1
     obtain ⟨k2,s2,rfl,hn,sg⟩:=seg_name hT e1
     obtain ⟨l2,rfl,vl,sl⟩:=i2 _ _ _ _ h
     have h0:∀ x∈([]:List Nd),TmV x:=fun x hx=>by cases hx
     refine ⟨.mk k2 s2 [] :: l2,by rw [List.append_assoc];rfl,fun x hx=>?_,by rw [List.flatMap_cons,bT_app hn h0];exact sg.trans sl⟩
     rcases List.mem_cons.1 hx with rfl | hx
     ·exact .app k2 s2 [] hn h0
     ·exact vl x hx
theorem applied_seg {ts:List Lx.Tok} (hT:AllT ts) {f p q:Nat} {t:Nd} (hk:knd ts p=1) (h:Sx.applied ts f p = .ok t q):FmV t∧Seg ts p q (bT t):=by
 unfold Sx.applied at h
 split at h
 ·cases h
 ·rename_i k s l' q1 e1
  have ek:k=15:=by
   unfold Sx.nameA at e1
   rw [if_pos hk] at e1
   cases e1
   rfl
  obtain ⟨k2,s2,e2,hn,sg⟩:=seg_name hT e1
  cases e2
  subst ek
  split at h
  ·cases h
  ·rename_i l r e3
   cases h
   obtain ⟨l2,el,vl,sl⟩:=(term_seg hT f).2 _ _ _ _ e3
   rw [List.nil_append] at el
   subst el
   exact ⟨.atom s l (hn.elim (fun h=>h.2) fun h=>absurd h.1 (by decide)) vl,by rw [bT_app hn vl];exact sg.trans sl⟩
theorem sgn_some {ts:List Lx.Tok} {b p:Nat} {k:Int} (h:Sx.sgn ts b p=some k):(k=22∨k=23∨k=24∨k=25∨k=26∨k=27∨k=28)∧txt ts p=opSign k:=by
 unfold Sx.sgn at h
 repeat' (split at h)
 all_goals first
  | (cases h;done)
  | (rename_i hx;cases h;exact ⟨by simp,by rw [hx];rfl⟩)
theorem form_seg {ts:List Lx.Tok} (hT:AllT ts):∀ f,(∀ p t q,Sx.part ts f p = .ok t q→FmV t∧Seg ts p q (bT t))∧(∀ b p t q,Sx.right ts f b p = .ok t q→FmV t∧Seg ts p q (bT t)) ∧
  (∀ p t q,Sx.form ts f p = .ok t q→FmV t∧Seg ts p q (bT t))∧(∀ a p t q,FmV a→Sx.formR ts f a p = .ok t q→FmV t∧∃ K,bT t=bT a++K∧Seg ts p q K)
 | 0=>⟨fun p t q h=>(by simp only [Sx.part] at h;cases h),fun b p t q h=>(by simp only [Sx.right] at h;cases h),fun p t q h=>(by simp only [Sx.form] at h;cases h),fun a p t q _ h=>(by simp only [Sx.formR] at h;cases h)⟩
 | f+1=>by
  obtain ⟨i1,i2,i3,i4⟩:=form_seg hT f
  have hop:∀ {b p:Nat} {k:Int},Sx.sgn ts b p=some k→(k=22∨k=23∨k=24∨k=25∨k=26∨k=27∨k=28)∧Seg ts p (p+1) [⟨3,opSign k⟩]:=fun h=>by
   obtain ⟨hk,hx⟩:=sgn_some h
   exact ⟨hk,seg_one hT (ok_op (by omega)) hx (by rcases hk with rfl | rfl | rfl | rfl | rfl | rfl | rfl <;> decide)⟩
  refine ⟨fun p t q h=>?_,fun b p t q h=>?_,fun p t q h=>?_,fun a p t q va h=>?_⟩
  ·rw [Sx.part_succ] at h
   split at h
   ·rename_i hk
    exact applied_seg hT hk h
   ·split at h
    ·rename_i hx
     split at h
     ·cases h
     ·rename_i a r e1
      cases h
      obtain ⟨va,sa⟩:=i1 _ _ _ e1
      exact ⟨.bang a va,by rw [bT_bang va];exact (seg_one hT (sig 33) hx (by decide)).trans sa⟩
    ·split at h
     ·rename_i hx
      obtain ⟨s,b,hs,vb,h1 | ⟨y,vy,h1⟩⟩:=binder_seg hT i3 h
      ·obtain ⟨rfl,sg⟩:=h1
       exact ⟨.q1 18 s b (.inl rfl) hs vb,by rw [bT_q1 (.inl rfl) hs vb];exact (seg_one hT (ok_w (k:=18) (by simp)) hx (by decide)).trans sg⟩
      ·obtain ⟨rfl,sg⟩:=h1
       exact ⟨.q2 18 s y b (.inl rfl) hs vy vb,by rw [bT_q2 (.inl rfl) hs vy vb];exact (seg_one hT (ok_w (k:=18) (by simp)) hx (by decide)).trans sg⟩
     ·split at h
      ·rename_i hx
       obtain ⟨s,b,hs,vb,h1 | ⟨y,vy,h1⟩⟩:=binder_seg hT i3 h
       ·obtain ⟨rfl,sg⟩:=h1
        exact ⟨.q1 19 s b (.inr rfl) hs vb,by rw [bT_q1 (.inr rfl) hs vb];exact (seg_one hT (ok_w (k:=19) (by simp)) hx (by decide)).trans sg⟩
       ·obtain ⟨rfl,sg⟩:=h1
        exact ⟨.q2 19 s y b (.inr rfl) hs vy vb,by rw [bT_q2 (.inr rfl) hs vy vb];exact (seg_one hT (ok_w (k:=19) (by simp)) hx (by decide)).trans sg⟩
      ·split at h
       ·rename_i hx
        cases h
        exact ⟨.lone 20 (.inl rfl),by rw [bT_lone (.inl rfl)];exact seg_one hT (ok_w (k:=20) (by simp)) hx (by decide)⟩
       ·split at h
        ·rename_i hx
         cases h
         exact ⟨.lone 21 (.inr rfl),by rw [bT_lone (.inr rfl)];exact seg_one hT (ok_w (k:=21) (by simp)) hx (by decide)⟩
        ·split at h
         ·rename_i hx
          split at h
          ·cases h
          ·rename_i a r e1
           split at h
           ·rename_i hy
            cases h
            obtain ⟨va,sa⟩:=i3 _ _ _ e1
            exact ⟨.monad a va,by rw [bT_monad va];exact (seg_one hT (sig 123) hx (by decide)).trans (sa.trans (seg_one hT (sig 125) hy (by decide)))⟩
           ·cases h
         ·split at h
          ·rename_i hx
           split at h
           ·cases h
           ·rename_i a r e1
            split at h
            ·rename_i hy
             cases h
             obtain ⟨va,sa⟩:=i3 _ _ _ e1
             have:=(seg_par (.inl hx)).trans (sa.trans (seg_par (.inr hy)))
             rw [List.nil_append,List.append_nil] at this
             exact ⟨va,this⟩
            ·cases h
          ·cases h
  ·rw [Sx.right_succ] at h
   split at h
   ·exact i1 _ _ _ h
   ·split at h
    ·cases h
    ·rename_i a r e1
     obtain ⟨va,sa⟩:=i2 _ _ _ _ e1
     split at h
     ·cases h
      exact ⟨va,sa⟩
     ·rename_i k e2
      split at h
      ·cases h
      ·rename_i c u e3
       cases h
       obtain ⟨vc,sc⟩:=i2 _ _ _ _ e3
       obtain ⟨hk,so⟩:=hop e2
       exact ⟨.bin k a c hk va vc,by rw [bT_bin hk va vc];exact sa.trans (so.trans sc)⟩
  ·rw [Sx.form_succ] at h
   split at h
   ·cases h
   ·rename_i a r e1
    obtain ⟨va,sa⟩:=i2 _ _ _ _ e1
    obtain ⟨vt,K,eK,sK⟩:=i4 _ _ _ _ va h
    exact ⟨vt,by rw [eK];exact sa.trans sK⟩
  ·rw [Sx.formR_succ] at h
   split at h
   ·cases h
    exact ⟨va,[],by rw [List.append_nil],Seg.refl _ _⟩
   ·rename_i k e2
    split at h
    ·cases h
    ·rename_i c u e3
     obtain ⟨vc,sc⟩:=i2 _ _ _ _ e3
     obtain ⟨hk,so⟩:=hop e2
     obtain ⟨vt,K,eK,sK⟩:=i4 _ _ _ _ (.bin k a c hk va vc) h
     refine ⟨vt,⟨3,opSign k⟩ :: (bT c++K),by rw [eK,bT_bin hk va vc];simp,?_⟩
     exact so.trans (sc.trans sK)
end Go.Proofs.YtgjijidlaghlmaaGreatDoor
namespace Go.Proofs.YtgjijidlaghlmaaGreatDoor
open Lx (KT IsTok Runs)
open Sx (txt knd)
theorem namesR_seg {ts:List Lx.Tok} (hT:AllT ts):∀ f acc p l q,Sx.namesR ts f acc p = .ok l q→∃ l2,l=acc++l2∧(∀ x∈l2,nmN x)∧Seg ts p q (bareK (pcT (comP l2 false)))
 | 0,_,_,_,_,h=>by simp only [Sx.namesR] at h;cases h
 | f+1,acc,p,l,q,h=>by
  simp only [Sx.namesR] at h
  split at h
  ·rename_i hx
   split at h
   ·cases h
   ·rename_i a q1 e1
    obtain ⟨s,rfl,hs,sg⟩:=seg_small hT e1
    obtain ⟨l2,rfl,vl,sl⟩:=namesR_seg hT f _ _ _ _ h
    refine ⟨.mk 15 s [] :: l2,by rw [List.append_assoc];rfl,fun x hx=>?_,?_⟩
    ·rcases List.mem_cons.1 hx with rfl | hx
     ·exact ⟨s,rfl,hs⟩
     ·exact vl x hx
    ·have e:bareK (pcT (comP (.mk 15 s [] :: l2) false))=[⟨3,[44]⟩]++([⟨1,bs s⟩]++bareK (pcT (comP l2 false))):=by
      rw [show pcT (comP (.mk 15 s [] :: l2) false)=⟨3,[44]⟩ :: ⟨1,bs s⟩ :: pcT (comP l2 false) from rfl,bareK_cons,bareK_cons ⟨1,bs s⟩,bareK_one (a:=⟨1,bs s⟩) (notP_tok (ok_name hs) (show (1:Nat)≠3 by decide))]
      rfl
     rw [e]
     exact (seg_one hT (sig 44) hx (by decide)).trans (sg.trans sl)
  ·cases h
   exact ⟨[],by rw [List.append_nil],fun x hx=>(by cases hx),Seg.refl _ _⟩
theorem names_seg {ts:List Lx.Tok} (hT:AllT ts) {f p q:Nat} {l:List Nd} (h:Sx.names ts f p = .ok l q):l≠[]∧(∀ x∈l,nmN x)∧Seg ts p q (bareK (pcT (comP l true))):=by
 unfold Sx.names at h
 split at h
 ·cases h
 ·rename_i a q1 e1
  obtain ⟨s,rfl,hs,sg⟩:=seg_small hT e1
  obtain ⟨l2,rfl,vl,sl⟩:=namesR_seg hT f _ _ _ _ h
  refine ⟨by simp,fun x hx=>?_,?_⟩
  ·rcases List.mem_cons.1 hx with rfl | hx
   ·exact ⟨s,rfl,hs⟩
   ·exact vl x hx
  ·rw [show pcT (comP ([.mk 15 s []]++l2) true)=⟨1,bs s⟩ :: pcT (comP l2 false) from rfl,bareK_cons,bareK_one (a:=⟨1,bs s⟩) (notP_tok (ok_name hs) (show (1:Nat)≠3 by decide))]
   exact sg.trans sl
theorem bare_typs {l:List Nd} (h:∀ x∈l,TyV x):bareK (pcT (typsP l))=l.flatMap bT:=by
 induction l with
 | nil=>rfl
 | cons x l ih =>
  have:=typsP_cons x l []
  rw [List.append_nil,List.append_nil] at this
  rw [this,bareK_app,bare_txt (typ_bare (h x (by simp))),ih fun y hy=>h y (by simp [hy]),List.flatMap_cons]
theorem simples_seg {ts:List Lx.Tok} (hT:AllT ts):∀ f acc p l q,Sx.simples ts f acc p = .ok l q→∃ l2,l=acc++l2∧(∀ x∈l2,TyV x)∧Seg ts p q (l2.flatMap bT)
 | 0,_,_,_,_,h=>by simp only [Sx.simples] at h;cases h
 | f+1,acc,p,l,q,h=>by
  simp only [Sx.simples] at h
  split at h
  ·split at h
   ·cases h
   ·rename_i a q1 e1
    obtain ⟨va,sa⟩:=(typed_seg hT f).2 _ _ _ e1
    obtain ⟨l2,rfl,vl,sl⟩:=simples_seg hT f _ _ _ _ h
    refine ⟨a :: l2,by rw [List.append_assoc];rfl,fun x hx=>?_,by rw [List.flatMap_cons];exact sa.trans sl⟩
    rcases List.mem_cons.1 hx with rfl | hx
    ·exact va
    ·exact vl x hx
  ·cases h
   exact ⟨[],by rw [List.append_nil],fun x hx=>(by cases hx),Seg.refl _ _⟩
theorem nmN_typ {x:Nd} (h:nmN x):TyV x:=by
 obtain ⟨s,rfl,hs⟩:=h
 exact .name s hs
theorem smalls_seg {ts:List Lx.Tok} (hT:AllT ts):∀ f acc p l q,Sx.smalls ts f acc p = .ok l q→∃ l2,l=acc++l2∧(∀ x∈l2,nmN x)∧Seg ts p q (l2.flatMap bT)
 | 0,_,_,_,_,h=>by simp only [Sx.smalls] at h;cases h
 | f+1,acc,p,l,q,h=>by
  simp only [Sx.smalls] at h
  split at h
  ·rename_i hk
   have e1:Sx.small ts p = .ok (Sx.leaf 15 (txt ts p)) (p+1):=by unfold Sx.small;rw [if_pos hk]
   obtain ⟨s,es,hs,sg⟩:=seg_small hT e1
   rw [es] at h
   obtain ⟨l2,rfl,vl,sl⟩:=smalls_seg hT f _ _ _ _ h
   refine ⟨.mk 15 s [] :: l2,by rw [List.append_assoc];rfl,fun x hx=>?_,by rw [List.flatMap_cons,bT_name hs];exact sg.trans sl⟩
   rcases List.mem_cons.1 hx with rfl | hx
   ·exact ⟨s,rfl,hs⟩
   ·exact vl x hx
  ·cases h
   exact ⟨[],by rw [List.append_nil],fun x hx=>(by cases hx),Seg.refl _ _⟩
def itR:Nd→List KT | .mk k s l=>(if k=2∨k=14∨k=3 then [] else [⟨1,bs s⟩])++itKb k l
theorem itK_eq (k:Int) (s:ByteArray) (l:List Nd):itK (.mk k s l)=⟨4,opensW k⟩ :: (itR (.mk k s l)++[⟨3,[46]⟩]):=by
 simp only [itK,itR]
 rw [List.append_assoc]
theorem behind_seg {ts:List Lx.Tok} (hT:AllT ts) {f p q:Nat} {k:Int} {s:ByteArray} {t:Nd} (hs:nameB s=true) (hk:4≤k∧k≤13) (h:Sx.behind ts f k s p = .ok t q) :
  ∃ l,t = .mk k s l∧ItV t∧Seg ts p q (bareK (itKb k l)):=by
 unfold Sx.behind at h
 split at h
 ·rename_i h1
  split at h
  ·cases h
  ·rename_i l r e
   cases h
   obtain ⟨l2,el,vl,sl⟩:=simples_seg hT _ _ _ _ _ e
   rw [List.nil_append] at el
   subst el
   refine ⟨_,rfl,.pred k s _ h1 hs vl,?_⟩
   unfold itKb
   rw [if_neg (by omega),if_neg (by omega),if_pos (by omega),bare_typs vl]
   exact sl
 ·split at h
  ·rename_i h1
   split at h
   ·cases h
   ·rename_i l r e
    cases h
    obtain ⟨l2,el,vl,sl⟩:=smalls_seg hT _ _ _ _ _ e
    rw [List.nil_append] at el
    subst el
    subst h1
    refine ⟨_,rfl,.mode s _ hs vl,?_⟩
    unfold itKb
    rw [if_neg (by decide),if_neg (by decide),if_pos (by decide),bare_typs fun x hx=>nmN_typ (vl x hx)]
    exact sl
  ·split at h
   ·rename_i h1
    split at h
    ·rename_i hx
     split at h
     ·cases h
     ·rename_i a r e
      cases h
      obtain ⟨va,sa⟩:=(form_seg hT f).2.2.1 _ _ _ e
      refine ⟨_,rfl,.rule k s a h1 hs va,?_⟩
      unfold itKb
      rw [if_neg (by omega),if_neg (by omega),if_neg (by omega),if_pos h1,bareK_cons]
      exact (seg_one hT (sig 58) hx (by decide)).trans sa
    ·cases h
   ·cases h
    refine ⟨_,rfl,.lone k s (by omega) hs,?_⟩
    unfold itKb
    rw [if_neg (by omega),if_neg (by omega),if_neg (by omega),if_neg (by omega)]
    exact Seg.refl _ _
theorem itemB_seg {ts:List Lx.Tok} (hT:AllT ts) {f p q:Nat} {k:Int} {t:Nd} (hk:2≤k∧k≤14) (h:Sx.itemB ts f k p = .ok t q):t.kd=k∧ItV t∧Seg ts p q (bareK (itR t)):=by
 unfold Sx.itemB at h
 split at h
 ·rename_i h1
  split at h
  ·cases h
  ·rename_i l r e
   cases h
   obtain ⟨h0,vl,sl⟩:=names_seg hT e
   refine ⟨rfl,.names k l h1 h0 vl,?_⟩
   simp only [itR]
   unfold itKb
   rw [if_pos (by omega),if_pos h1]
   exact sl
 ·split at h
  ·rename_i h1
   subst h1
   split at h
   ·cases h
   ·rename_i l r e
    obtain ⟨h0,vl,sl⟩:=names_seg hT e
    split at h
    ·rename_i hx
     split at h
     ·cases h
     ·rename_i y u e2
      cases h
      obtain ⟨vy,sy⟩:=(typed_seg hT f).1 _ _ _ e2
      refine ⟨rfl,.const l y h0 vl vy,?_⟩
      simp only [itR]
      unfold itKb
      rw [if_pos (by decide),if_neg (by decide),if_pos rfl,List.dropLast_concat,List.getLast?_concat,List.nil_append,bareK_app,bareK_cons]
      simp only
      rw [bare_txt (typ_bare vy)]
      exact sl.trans ((seg_one hT (sig 58) hx (by decide)).trans sy)
    ·cases h
  ·split at h
   ·cases h
   ·rename_i k' s l' r e
    obtain ⟨s2,es,hs,sg⟩:=seg_small hT e
    cases es
    obtain ⟨l,rfl,vt,st⟩:=behind_seg hT hs (by omega) h
    refine ⟨rfl,vt,?_⟩
    simp only [itR]
    rw [if_neg (by omega),bareK_app,bareK_one (a:=⟨1,bs s⟩) (notP_tok (ok_name hs) (show (1:Nat)≠3 by decide))]
    exact sg.trans st
theorem kindOf_word {x:Tx} {k:Int} (h:Sx.kindOf x=k) (h0:k≠0):(2≤k∧k≤14)∧x=opensW k:=by
 unfold Sx.kindOf at h
 by_cases e:x=[116,121,112,101]
 ·rw [if_pos e] at h
  subst h
  subst e
  exact ⟨by decide,by decide⟩
 rw [if_neg e] at h
 clear e
 by_cases e:x=[99,111,110,115,116]
 ·rw [if_pos e] at h
  subst h
  subst e
  exact ⟨by decide,by decide⟩
 rw [if_neg e] at h
 clear e
 by_cases e:x=[112,114,101,100]
 ·rw [if_pos e] at h
  subst h
  subst e
  exact ⟨by decide,by decide⟩
 rw [if_neg e] at h
 clear e
 by_cases e:x=[102,97,99,116]
 ·rw [if_pos e] at h
  subst h
  subst e
  exact ⟨by decide,by decide⟩
 rw [if_neg e] at h
 clear e
 by_cases e:x=[108,97,115,116,105,110,103]
 ·rw [if_pos e] at h
  subst h
  subst e
  exact ⟨by decide,by decide⟩
 rw [if_neg e] at h
 clear e
 by_cases e:x=[109,111,100,101]
 ·rw [if_pos e] at h
  subst h
  subst e
  exact ⟨by decide,by decide⟩
 rw [if_neg e] at h
 clear e
 by_cases e:x=[114,117,108,101]
 ·rw [if_pos e] at h
  subst h
  subst e
  exact ⟨by decide,by decide⟩
 rw [if_neg e] at h
 clear e
 by_cases e:x=[111,110,99,101]
 ·rw [if_pos e] at h
  subst h
  subst e
  exact ⟨by decide,by decide⟩
 rw [if_neg e] at h
 clear e
 by_cases e:x=[109,111,115,116]
 ·rw [if_pos e] at h
  subst h
  subst e
  exact ⟨by decide,by decide⟩
 rw [if_neg e] at h
 clear e
 by_cases e:x=[113,117,101,114,121]
 ·rw [if_pos e] at h
  subst h
  subst e
  exact ⟨by decide,by decide⟩
 rw [if_neg e] at h
 clear e
 by_cases e:x=[109,111,100,117,108,101]
 ·rw [if_pos e] at h
  subst h
  subst e
  exact ⟨by decide,by decide⟩
 rw [if_neg e] at h
 clear e
 by_cases e:x=[117,115,101]
 ·rw [if_pos e] at h
  subst h
  subst e
  exact ⟨by decide,by decide⟩
 rw [if_neg e] at h
 clear e
 by_cases e:x=[101,120,112,111,114,116]
 ·rw [if_pos e] at h
  subst h
  subst e
  exact ⟨by decide,by decide⟩
 rw [if_neg e] at h
 clear e
 exact absurd h.symm h0
theorem item_seg {ts:List Lx.Tok} (hT:AllT ts) {f p q:Nat} {t:Nd} (h:Sx.item ts f p = .ok t q):ItV t∧Seg ts p q (bareK (itK t)):=by
 unfold Sx.item at h
 split at h
 ·cases h
 ·rename_i hk
  obtain ⟨hk2,hx⟩:=kindOf_word rfl hk
  generalize Sx.kindOf (txt ts p)=k at h hk2 hx
  split at h
  ·cases h
  ·rename_i a r e
   split at h
   ·rename_i hd
    cases h
    obtain ⟨ek,vt,st⟩:=itemB_seg hT hk2 e
    refine ⟨vt,?_⟩
    obtain ⟨k',s,l⟩:=t
    obtain rfl:k'=k:=ek
    rw [itK_eq,bareK_cons,bareK_app,bareK_one (a:=⟨4,opensW k'⟩) (notP_tok (ok_iw hk2).1 (show (4:Nat)≠3 by decide))]
    exact (seg_one hT (ok_iw hk2).1 hx (notP_tok (ok_iw hk2).1 (show (4:Nat)≠3 by decide))).trans (st.trans (seg_one hT (sig 46) hd (by decide)))
   ·cases h
def itF (t:Nd):List KT:=bareK (itK t)
theorem items_seg {ts:List Lx.Tok} (hT:AllT ts):∀ f acc p l q,Sx.items ts f acc p = .ok l q→∃ l2,l=acc++l2∧(∀ x∈l2,ItV x)∧Seg ts p q (l2.flatMap itF)
 | 0,_,_,_,_,h=>by simp only [Sx.items] at h;cases h
 | f+1,acc,p,l,q,h=>by
  simp only [Sx.items] at h
  split at h
  ·split at h
   ·cases h
   ·rename_i a q1 e1
    obtain ⟨va,sa⟩:=item_seg hT e1
    obtain ⟨l2,rfl,vl,sl⟩:=items_seg hT f _ _ _ _ h
    refine ⟨a :: l2,by rw [List.append_assoc];rfl,fun x hx=>?_,by rw [List.flatMap_cons];exact sa.trans sl⟩
    rcases List.mem_cons.1 hx with rfl | hx
    ·exact va
    ·exact vl x hx
  ·cases h
   exact ⟨[],by rw [List.append_nil],fun x hx=>(by cases hx),Seg.refl _ _⟩
theorem bare_flat (l:List Nd):bareK (l.flatMap itK)=l.flatMap itF:=by
 induction l with
 | nil=>rfl
 | cons x l ih=>rw [List.flatMap_cons,List.flatMap_cons,bareK_app,ih];rfl
theorem seg_all {us:List Lx.Tok} {q:Nat} {K:List KT} (h:Seg us 0 q K) (hq:us.length≤q):bareK (us.map Lx.Tok.kt)=K:=by
 obtain ⟨S,e,rfl⟩:=h
 rw [List.drop_zero,List.drop_of_length_le (by rw [List.length_map];exact hq),List.append_nil] at e
 rw [e]
theorem chk_any {t:Nd} (h:chkN t=0):typB t=true∨termB t=true∨formB t=true∨itemB t=true∨textB t=true:=by
 unfold chkN at h
 split at h
 ·cases h
 ·split at h
  ·cases h
  ·split at h
   ·rename_i h1
    simpa only [Bool.or_eq_true] using h1
   ·cases h
theorem item_kd {k:Int} {s:ByteArray} {l:List Nd} (h:itemB (.mk k s l)=true):2≤k∧k≤14:=by
 by_cases hk:2≤k∧k≤14
 ·exact hk
 ·simp only [itemB] at h
  rw [if_neg (by omega),if_neg (by omega),if_neg (by omega),if_neg (by omega),if_neg (by omega),if_neg (by omega),Bool.and_false] at h
  cases h
theorem text_kd {k:Int} {s:ByteArray} {l:List Nd} (h:textB (.mk k s l)=true):k=1:=by
 simp only [textB,Bool.and_eq_true,decide_eq_true_eq] at h
 exact h.1
theorem typ_kd {k:Int} {s:ByteArray} {l:List Nd} (h:typB (.mk k s l)=true):k=31∨(k=15∧l=[]∧nameB s=true):=by
 simp only [typB] at h
 split at h
 ·exact .inl ‹_›
 ·simp only [Bool.and_eq_true,decide_eq_true_eq] at h
  exact .inr ⟨h.1,List.eq_nil_of_length_eq_zero h.2.1,h.2.2⟩
theorem term_kd {k:Int} {s:ByteArray} {l:List Nd} (h:termB (.mk k s l)=true):15≤k∧k≤17:=by
 simp only [termB] at h
 split at h
 ·omega
 ·split at h
  ·omega
  ·simp only [Bool.and_eq_true,decide_eq_true_eq] at h
   omega
theorem form_kd {k:Int} {s:ByteArray} {l:List Nd} (h:formB (.mk k s l)=true):(k=15∧termB (.mk k s l)=true)∨(18≤k∧k≤30):=by
 simp only [formB] at h
 split at h
 ·exact .inl ⟨‹_›,h⟩
 ·split at h
  ·omega
  ·split at h
   ·omega
   ·split at h
    ·omega
    ·simp only [Bool.and_eq_true,decide_eq_true_eq,isBinary] at h
     omega
theorem leaf_term {s:ByteArray} (h:nameB s=true):termB (.mk 15 s [])=true:=by
 simp only [termB,if_true,termL,h]
 rfl
theorem noneB_no:noneB Sx.noS=true:=by
 unfold noneB Sx.noS ByteArray.toList
 rw [ByteArray.toList.loop]
 rfl
theorem typ_fit {t:Nd} (h:TyV t):typB t=true:=by
 induction h with
 | name s h=>simp only [typB];rw [if_neg (by decide),h];rfl
 | arrow a b _ _ ha hb=>simp only [typB,if_true,typL,ha,hb,Bool.and_true,noneB_no];rfl
theorem term_fit {t:Nd} (h:TmV t) (hc:chkN t=0):termB t=true:=by
 have hk:∃ k s l,t = .mk k s l∧15≤k∧k≤17:=by
  cases h with
  | app k s l h hl=>exact ⟨_,_,_,rfl,by rcases h with h | h <;> omega⟩
  | lam1 s b h hb=>exact ⟨_,_,_,rfl,by omega⟩
  | lam2 s y b h hy hb=>exact ⟨_,_,_,rfl,by omega⟩
 obtain ⟨k,s,l,rfl,hk⟩:=hk
 rcases chk_any hc with h1 | h1 | h1 | h1 | h1
 ·rcases typ_kd h1 with h2 | ⟨rfl,rfl,h2⟩
  ·omega
  ·exact leaf_term h2
 ·exact h1
 ·rcases form_kd h1 with h2 | h2
  ·exact h2.2
  ·omega
 ·have:=item_kd h1;omega
 ·have:=text_kd h1;omega
theorem form_fit {t:Nd} (h:FmV t) (hc:chkN t=0):formB t=true:=by
 have hk:∃ k s l,t = .mk k s l∧(k=15∨(18≤k∧k≤30)):=by cases h <;> exact ⟨_,_,_,rfl,by omega⟩
 obtain ⟨k,s,l,rfl,hk⟩:=hk
 rcases chk_any hc with h1 | h1 | h1 | h1 | h1
 ·rcases typ_kd h1 with h2 | ⟨rfl,rfl,h2⟩
  ·omega
  ·simp only [formB,if_true];exact leaf_term h2
 ·have:=term_kd h1
  obtain rfl:k=15:=by omega
  simp only [formB,if_true];exact h1
 ·exact h1
 ·have:=item_kd h1;omega
 ·have:=text_kd h1;omega
theorem text_fit {s:ByteArray} {l:List Nd} (hc:chkN (.mk 1 s l)=0):textB (.mk 1 s l)=true:=by
 rcases chk_any hc with h1 | h1 | h1 | h1 | h1
 ·rcases typ_kd h1 with h2 | ⟨h2,_,_⟩ <;> omega
 ·have:=term_kd h1;omega
 ·rcases form_kd h1 with h2 | h2 <;> omega
 ·have:=item_kd h1;omega
 ·exact h1
theorem parse_bare {r:Lx.Bs} {us:List Lx.Tok} {what:Int} {t:Nd} (hw:what=1∨what=18∨what=17∨what=31) (hs:Lx.scan r = .toks us) (hp:parseP r what=(some t,0,0)) :
  chkN t=0∧fitB what t=true∧∀ K,Runs t.whl K→bareK K=bareK (us.map Lx.Tok.kt):=by
 have hT:AllT us:=fun x hx=>Lx.runs_tok _ _ (Lx.scan_runs hs).1 _ (List.mem_map_of_mem hx)
 unfold parseP at hp
 rw [hs] at hp
 simp only at hp
 split at hp
 ·cases hp
 ·rename_i nd q e
  split at hp
  ·cases hp
  ·rename_i hq
   split at hp
   ·rename_i hc
    cases hp
    have hc:chkN t=0:=by rw [←chkT_cast,hc];rfl
    refine ⟨hc,?_⟩
    rcases hw with rfl | rfl | rfl | rfl
    ·rw [whole_text] at e
     split at e
     ·cases e
     ·rename_i l q' e2
      cases e
      obtain ⟨l2,el,vl,sl⟩:=items_seg hT _ _ _ _ _ e2
      rw [List.nil_append] at el
      subst el
      refine ⟨text_fit hc,fun K hK=>?_⟩
      rw [runs_unique _ _ _ hK (show Runs (Nd.mk 1 Sx.noS l).whl (l.flatMap itK) from by simp only [Nd.whl,if_true];exact (items_back vl).1),bare_flat,seg_all sl (by omega)]
    ·obtain ⟨vt,st⟩:=(form_seg hT _).2.2.1 _ _ _ e
     refine ⟨form_fit vt hc,fun K hK=>?_⟩
     have hk:∃ k s l,t = .mk k s l∧15≤k:=by cases vt <;> exact ⟨_,_,_,rfl,by omega⟩
     obtain ⟨k,s,l,rfl,hk⟩:=hk
     rw [runs_unique _ _ _ hK (whl_runs (form_good vt) (whl_txt hk)),seg_all st (by omega)]
     rfl
    ·obtain ⟨vt,st⟩:=(term_seg hT _).1 _ _ _ e
     refine ⟨term_fit vt hc,fun K hK=>?_⟩
     have hk:∃ k s l,t = .mk k s l∧15≤k:=by
      cases vt with
      | app k s l h hl=>exact ⟨_,_,_,rfl,by rcases h with h | h <;> omega⟩
      | lam1 s b h hb=>exact ⟨_,_,_,rfl,by omega⟩
      | lam2 s y b h hy hb=>exact ⟨_,_,_,rfl,by omega⟩
     obtain ⟨k,s,l,rfl,hk⟩:=hk
     rw [runs_unique _ _ _ hK (whl_runs (term_good vt) (whl_txt hk)),seg_all st (by omega)]
     rfl
    ·obtain ⟨vt,st⟩:=(typed_seg hT _).1 _ _ _ e
     refine ⟨typ_fit vt,fun K hK=>?_⟩
     have hk:∃ k s l,t = .mk k s l∧15≤k:=by cases vt <;> exact ⟨_,_,_,rfl,by omega⟩
     obtain ⟨k,s,l,rfl,hk⟩:=hk
     rw [runs_unique _ _ _ hK (whl_runs (typ_good vt) (whl_txt hk)),seg_all st (by omega)]
     rfl
   ·cases hp
end Go.Proofs.YtgjijidlaghlmaaGreatDoor
namespace Go.Proofs.YtgjijidlaghlmaaGreatDoor
open Go.RowKit
def NodeAny (e:Ending) (p er:Int):Prop:=∃ k sx a n c,e = .returned (.tuple #[.agg #[.int .i64 k,.string sx,.slice a n c],.int .i64 p,.int .i64 er])
theorem ParseR.any {o:Option Nd} {p er:Nat} {w:World} {e:Ending} {w':World} (h:ParseR (o,p,er) w e w'):NodeAny e (p:Nat) (er:Nat)∧Below w.heap.size w w':=by
 obtain ⟨k,sx,a,n,c,he,hb,_⟩:=h
 exact ⟨⟨k,sx,a,n,c,he⟩,hb⟩
set_option maxRecDepth 100000 in
set_option maxHeartbeats 1000000 in
theorem parsed_0 (s:ByteArray) {o:Option Nd} {p er:Nat} (hp:parseP (bs s) 1=(o,p,er)) (w:World) (hw:2≤w.heap.size) (gl:GLw w) (hs:s.size≤maxLen) :
  Calls Tryz.prog 51 #[.string s,.int .i64 0] w fun e w'=>NodeAny e (p:Nat) (er:Nat)∧Below w.heap.size w w':=by
 have hb0:=(Below.refl w.heap.size w).alloc (Nat.le_refl _) (.cells #[.int .i64 0,.string ⟨#[]⟩,.slice none 0 0] 25)
 have C:=qh (Parse_any s (w.alloc (.cells #[.int .i64 0,.string ⟨#[]⟩,.slice none 0 0] 25)) (by simp;omega) (gl.keep fun b hb1 hb2=>hb0.block b hb2) hs)
 rw [hp] at C
 have HB:=qh hb0
 have R1:=qh (Row3.new w (.int .i64 0) (.string ⟨#[]⟩) (.slice none 0 0))
 clear hp hb0 gl hw
 go_enter Tryz.func51,Tryz.ntmps51
 go_wp2_with fail
 refine C.out.mono ?_
 intro e w1 hq
 obtain ⟨⟨k,sx,a,n,c,rfl⟩,hb⟩:=ParseR.any hq
 have R2:=qh (R1.out.below hb R1.out.lt)
 have HB1:=qh hb
 clear hq hb C
 obtain ⟨⟨n0,n1,n2⟩,m0,m1,m2⟩:=R2.out.cells
 go_wp2
 refine ret_node3 (Row3.put R2.out _ _ _) rfl rfl rfl rfl rfl ⟨⟨k,sx,a,n,c,rfl⟩,?_⟩
 exact (((HB.out.trans (HB1.out.mono (by simp))).setCell (p:=⟨w.heap.size,0,none⟩) (Nat.le_refl _) _).setCell (p:=⟨w.heap.size,1,none⟩) (Nat.le_refl _) _).setCell (p:=⟨w.heap.size,2,none⟩) (Nat.le_refl _) _
set_option maxRecDepth 100000 in
set_option maxHeartbeats 1000000 in
theorem parsed_1 (s:ByteArray) {o:Option Nd} {p er:Nat} (hp:parseP (bs s) 18=(o,p,er)) (w:World) (hw:2≤w.heap.size) (gl:GLw w) (hs:s.size≤maxLen) :
  Calls Tryz.prog 51 #[.string s,.int .i64 1] w fun e w'=>NodeAny e (p:Nat) (er:Nat)∧Below w.heap.size w w':=by
 have hb0:=(Below.refl w.heap.size w).alloc (Nat.le_refl _) (.cells #[.int .i64 0,.string ⟨#[]⟩,.slice none 0 0] 25)
 have C:=qh (ParseForm_any s (w.alloc (.cells #[.int .i64 0,.string ⟨#[]⟩,.slice none 0 0] 25)) (by simp;omega) (gl.keep fun b hb1 hb2=>hb0.block b hb2) hs)
 rw [hp] at C
 have HB:=qh hb0
 have R1:=qh (Row3.new w (.int .i64 0) (.string ⟨#[]⟩) (.slice none 0 0))
 clear hp hb0 gl hw
 go_enter Tryz.func51,Tryz.ntmps51
 go_wp2_with fail
 refine C.out.mono ?_
 intro e w1 hq
 obtain ⟨⟨k,sx,a,n,c,rfl⟩,hb⟩:=ParseR.any hq
 have R2:=qh (R1.out.below hb R1.out.lt)
 have HB1:=qh hb
 clear hq hb C
 obtain ⟨⟨n0,n1,n2⟩,m0,m1,m2⟩:=R2.out.cells
 go_wp2
 refine ret_node3 (Row3.put R2.out _ _ _) rfl rfl rfl rfl rfl ⟨⟨k,sx,a,n,c,rfl⟩,?_⟩
 exact (((HB.out.trans (HB1.out.mono (by simp))).setCell (p:=⟨w.heap.size,0,none⟩) (Nat.le_refl _) _).setCell (p:=⟨w.heap.size,1,none⟩) (Nat.le_refl _) _).setCell (p:=⟨w.heap.size,2,none⟩) (Nat.le_refl _) _
set_option maxRecDepth 100000 in
set_option maxHeartbeats 1000000 in
theorem parsed_2 (s:ByteArray) {o:Option Nd} {p er:Nat} (hp:parseP (bs s) 17=(o,p,er)) (w:World) (hw:2≤w.heap.size) (gl:GLw w) (hs:s.size≤maxLen) :
  Calls Tryz.prog 51 #[.string s,.int .i64 2] w fun e w'=>NodeAny e (p:Nat) (er:Nat)∧Below w.heap.size w w':=by
 have hb0:=(Below.refl w.heap.size w).alloc (Nat.le_refl _) (.cells #[.int .i64 0,.string ⟨#[]⟩,.slice none 0 0] 25)
 have C:=qh (ParseTerm_any s (w.alloc (.cells #[.int .i64 0,.string ⟨#[]⟩,.slice none 0 0] 25)) (by simp;omega) (gl.keep fun b hb1 hb2=>hb0.block b hb2) hs)
 rw [hp] at C
 have HB:=qh hb0
 have R1:=qh (Row3.new w (.int .i64 0) (.string ⟨#[]⟩) (.slice none 0 0))
 clear hp hb0 gl hw
 go_enter Tryz.func51,Tryz.ntmps51
 go_wp2_with fail
 refine C.out.mono ?_
 intro e w1 hq
 obtain ⟨⟨k,sx,a,n,c,rfl⟩,hb⟩:=ParseR.any hq
 have R2:=qh (R1.out.below hb R1.out.lt)
 have HB1:=qh hb
 clear hq hb C
 obtain ⟨⟨n0,n1,n2⟩,m0,m1,m2⟩:=R2.out.cells
 go_wp2
 refine ret_node3 (Row3.put R2.out _ _ _) rfl rfl rfl rfl rfl ⟨⟨k,sx,a,n,c,rfl⟩,?_⟩
 exact (((HB.out.trans (HB1.out.mono (by simp))).setCell (p:=⟨w.heap.size,0,none⟩) (Nat.le_refl _) _).setCell (p:=⟨w.heap.size,1,none⟩) (Nat.le_refl _) _).setCell (p:=⟨w.heap.size,2,none⟩) (Nat.le_refl _) _
set_option maxRecDepth 100000 in
set_option maxHeartbeats 1000000 in
theorem parsed_3 (s:ByteArray) {o:Option Nd} {p er:Nat} (hp:parseP (bs s) 31=(o,p,er)) (w:World) (hw:2≤w.heap.size) (gl:GLw w) (hs:s.size≤maxLen) :
  Calls Tryz.prog 51 #[.string s,.int .i64 3] w fun e w'=>NodeAny e (p:Nat) (er:Nat)∧Below w.heap.size w w':=by
 have hb0:=(Below.refl w.heap.size w).alloc (Nat.le_refl _) (.cells #[.int .i64 0,.string ⟨#[]⟩,.slice none 0 0] 25)
 have C:=qh (ParseType_any s (w.alloc (.cells #[.int .i64 0,.string ⟨#[]⟩,.slice none 0 0] 25)) (by simp;omega) (gl.keep fun b hb1 hb2=>hb0.block b hb2) hs)
 rw [hp] at C
 have HB:=qh hb0
 have R1:=qh (Row3.new w (.int .i64 0) (.string ⟨#[]⟩) (.slice none 0 0))
 clear hp hb0 gl hw
 go_enter Tryz.func51,Tryz.ntmps51
 go_wp2_with fail
 refine C.out.mono ?_
 intro e w1 hq
 obtain ⟨⟨k,sx,a,n,c,rfl⟩,hb⟩:=ParseR.any hq
 have R2:=qh (R1.out.below hb R1.out.lt)
 have HB1:=qh hb
 clear hq hb C
 obtain ⟨⟨n0,n1,n2⟩,m0,m1,m2⟩:=R2.out.cells
 go_wp2
 refine ret_node3 (Row3.put R2.out _ _ _) rfl rfl rfl rfl rfl ⟨⟨k,sx,a,n,c,rfl⟩,?_⟩
 exact (((HB.out.trans (HB1.out.mono (by simp))).setCell (p:=⟨w.heap.size,0,none⟩) (Nat.le_refl _) _).setCell (p:=⟨w.heap.size,1,none⟩) (Nat.le_refl _) _).setCell (p:=⟨w.heap.size,2,none⟩) (Nat.le_refl _) _
def askW (i:Int):Int:=if i=0 then 1 else if i=1 then 18 else if i=2 then 17 else 31
theorem askW_in (i:Int):askW i=1∨askW i=18∨askW i=17∨askW i=31:=by
 unfold askW
 repeat' split
 all_goals simp
theorem parsed_any (s:ByteArray) (i:Int) (hi:i=0∨i=1∨i=2∨i=3) {o:Option Nd} {p er:Nat} (hp:parseP (bs s) (askW i)=(o,p,er)) (w:World) (hw:2≤w.heap.size) (gl:GLw w) (hs:s.size≤maxLen) :
  Calls Tryz.prog 51 #[.string s,.int .i64 i] w fun e w'=>NodeAny e (p:Nat) (er:Nat)∧Below w.heap.size w w':=by
 rcases hi with rfl | rfl | rfl | rfl
 ·exact parsed_0 s hp w hw gl hs
 ·exact parsed_1 s hp w hw gl hs
 ·exact parsed_2 s hp w hw gl hs
 ·exact parsed_3 s hp w hw gl hs
end Go.Proofs.YtgjijidlaghlmaaGreatDoor
namespace Go.Proofs.YtgjijidlaghlmaaGreatDoor
open Go.RowKit
theorem NodeIs.box {H B:Nat} {W1:World} {k:Int} {s:ByteArray} {a:Option Addr} {n c:Nat} {o:Option Nd} (h:NodeIs B W1 k s a n c o) (hB:B=H+1) (u0 u1 u2:Value):NodeIs H (((W1.setCell ⟨H,0,none⟩ u0).setCell ⟨H,1,none⟩ u1).setCell ⟨H,2,none⟩ u2) k s a n c o:=by
 subst hB
 cases o with
 | none=>exact h
 | some t =>
  show NdS (fun b=>H≤b) _ t (.int .i64 k) (.string s) (.slice a n c)
  exact (show NdS (fun b=>H+1≤b) W1 t (.int .i64 k) (.string s) (.slice a n c) from h).keep fun b (h1:H+1≤b) _=>⟨(Below.heap_setCell _ _ _ _ (show b≠H by omega)).trans ((Below.heap_setCell _ _ _ _ (show b≠H by omega)).trans (Below.heap_setCell _ _ _ _ (show b≠H by omega))),show H≤b by omega⟩
set_option maxRecDepth 100000 in
set_option maxHeartbeats 1000000 in
theorem parsedT_0 (s:ByteArray) {o:Option Nd} {p er:Nat} (hp:parseP (bs s) 1=(o,p,er)) (w:World) (hw:2≤w.heap.size) (gl:GLw w) (hs:s.size≤maxLen) :
  Calls Tryz.prog 51 #[.string s,.int .i64 0] w (ParseR (o,p,er) w):=by
 have hb0:=(Below.refl w.heap.size w).alloc (Nat.le_refl _) (.cells #[.int .i64 0,.string ⟨#[]⟩,.slice none 0 0] 25)
 have C:=qh (Parse_any s (w.alloc (.cells #[.int .i64 0,.string ⟨#[]⟩,.slice none 0 0] 25)) (by simp;omega) (gl.keep fun b hb1 hb2=>hb0.block b hb2) hs)
 rw [hp] at C
 have HB:=qh hb0
 have R1:=qh (Row3.new w (.int .i64 0) (.string ⟨#[]⟩) (.slice none 0 0))
 clear hp hb0 gl hw
 go_enter Tryz.func51,Tryz.ntmps51
 go_wp2_with fail
 refine C.out.mono ?_
 intro e w1 hq
 obtain ⟨k,sx,a,n,c,rfl,hb,hn⟩:=hq
 have R2:=qh (R1.out.below hb R1.out.lt)
 have HB1:=qh hb
 have HN:=qh hn
 clear hb hn C
 obtain ⟨⟨n0,n1,n2⟩,m0,m1,m2⟩:=R2.out.cells
 go_wp2
 refine ret_node3 (Row3.put R2.out _ _ _) rfl rfl rfl rfl rfl ⟨k,sx,a,n,c,rfl,?_,HN.out.box (World.size_alloc _ _) _ _ _⟩
 exact (((HB.out.trans (HB1.out.mono (by simp))).setCell (p:=⟨w.heap.size,0,none⟩) (Nat.le_refl _) _).setCell (p:=⟨w.heap.size,1,none⟩) (Nat.le_refl _) _).setCell (p:=⟨w.heap.size,2,none⟩) (Nat.le_refl _) _
set_option maxRecDepth 100000 in
set_option maxHeartbeats 1000000 in
theorem parsedT_1 (s:ByteArray) {o:Option Nd} {p er:Nat} (hp:parseP (bs s) 18=(o,p,er)) (w:World) (hw:2≤w.heap.size) (gl:GLw w) (hs:s.size≤maxLen) :
  Calls Tryz.prog 51 #[.string s,.int .i64 1] w (ParseR (o,p,er) w):=by
 have hb0:=(Below.refl w.heap.size w).alloc (Nat.le_refl _) (.cells #[.int .i64 0,.string ⟨#[]⟩,.slice none 0 0] 25)
 have C:=qh (ParseForm_any s (w.alloc (.cells #[.int .i64 0,.string ⟨#[]⟩,.slice none 0 0] 25)) (by simp;omega) (gl.keep fun b hb1 hb2=>hb0.block b hb2) hs)
 rw [hp] at C
 have HB:=qh hb0
 have R1:=qh (Row3.new w (.int .i64 0) (.string ⟨#[]⟩) (.slice none 0 0))
 clear hp hb0 gl hw
 go_enter Tryz.func51,Tryz.ntmps51
 go_wp2_with fail
 refine C.out.mono ?_
 intro e w1 hq
 obtain ⟨k,sx,a,n,c,rfl,hb,hn⟩:=hq
 have R2:=qh (R1.out.below hb R1.out.lt)
 have HB1:=qh hb
 have HN:=qh hn
 clear hb hn C
 obtain ⟨⟨n0,n1,n2⟩,m0,m1,m2⟩:=R2.out.cells
 go_wp2
 refine ret_node3 (Row3.put R2.out _ _ _) rfl rfl rfl rfl rfl ⟨k,sx,a,n,c,rfl,?_,HN.out.box (World.size_alloc _ _) _ _ _⟩
 exact (((HB.out.trans (HB1.out.mono (by simp))).setCell (p:=⟨w.heap.size,0,none⟩) (Nat.le_refl _) _).setCell (p:=⟨w.heap.size,1,none⟩) (Nat.le_refl _) _).setCell (p:=⟨w.heap.size,2,none⟩) (Nat.le_refl _) _
set_option maxRecDepth 100000 in
set_option maxHeartbeats 1000000 in
theorem parsedT_2 (s:ByteArray) {o:Option Nd} {p er:Nat} (hp:parseP (bs s) 17=(o,p,er)) (w:World) (hw:2≤w.heap.size) (gl:GLw w) (hs:s.size≤maxLen) :
  Calls Tryz.prog 51 #[.string s,.int .i64 2] w (ParseR (o,p,er) w):=by
 have hb0:=(Below.refl w.heap.size w).alloc (Nat.le_refl _) (.cells #[.int .i64 0,.string ⟨#[]⟩,.slice none 0 0] 25)
 have C:=qh (ParseTerm_any s (w.alloc (.cells #[.int .i64 0,.string ⟨#[]⟩,.slice none 0 0] 25)) (by simp;omega) (gl.keep fun b hb1 hb2=>hb0.block b hb2) hs)
 rw [hp] at C
 have HB:=qh hb0
 have R1:=qh (Row3.new w (.int .i64 0) (.string ⟨#[]⟩) (.slice none 0 0))
 clear hp hb0 gl hw
 go_enter Tryz.func51,Tryz.ntmps51
 go_wp2_with fail
 refine C.out.mono ?_
 intro e w1 hq
 obtain ⟨k,sx,a,n,c,rfl,hb,hn⟩:=hq
 have R2:=qh (R1.out.below hb R1.out.lt)
 have HB1:=qh hb
 have HN:=qh hn
 clear hb hn C
 obtain ⟨⟨n0,n1,n2⟩,m0,m1,m2⟩:=R2.out.cells
 go_wp2
 refine ret_node3 (Row3.put R2.out _ _ _) rfl rfl rfl rfl rfl ⟨k,sx,a,n,c,rfl,?_,HN.out.box (World.size_alloc _ _) _ _ _⟩
 exact (((HB.out.trans (HB1.out.mono (by simp))).setCell (p:=⟨w.heap.size,0,none⟩) (Nat.le_refl _) _).setCell (p:=⟨w.heap.size,1,none⟩) (Nat.le_refl _) _).setCell (p:=⟨w.heap.size,2,none⟩) (Nat.le_refl _) _
set_option maxRecDepth 100000 in
set_option maxHeartbeats 1000000 in
theorem parsedT_3 (s:ByteArray) {o:Option Nd} {p er:Nat} (hp:parseP (bs s) 31=(o,p,er)) (w:World) (hw:2≤w.heap.size) (gl:GLw w) (hs:s.size≤maxLen) :
  Calls Tryz.prog 51 #[.string s,.int .i64 3] w (ParseR (o,p,er) w):=by
 have hb0:=(Below.refl w.heap.size w).alloc (Nat.le_refl _) (.cells #[.int .i64 0,.string ⟨#[]⟩,.slice none 0 0] 25)
 have C:=qh (ParseType_any s (w.alloc (.cells #[.int .i64 0,.string ⟨#[]⟩,.slice none 0 0] 25)) (by simp;omega) (gl.keep fun b hb1 hb2=>hb0.block b hb2) hs)
 rw [hp] at C
 have HB:=qh hb0
 have R1:=qh (Row3.new w (.int .i64 0) (.string ⟨#[]⟩) (.slice none 0 0))
 clear hp hb0 gl hw
 go_enter Tryz.func51,Tryz.ntmps51
 go_wp2_with fail
 refine C.out.mono ?_
 intro e w1 hq
 obtain ⟨k,sx,a,n,c,rfl,hb,hn⟩:=hq
 have R2:=qh (R1.out.below hb R1.out.lt)
 have HB1:=qh hb
 have HN:=qh hn
 clear hb hn C
 obtain ⟨⟨n0,n1,n2⟩,m0,m1,m2⟩:=R2.out.cells
 go_wp2
 refine ret_node3 (Row3.put R2.out _ _ _) rfl rfl rfl rfl rfl ⟨k,sx,a,n,c,rfl,?_,HN.out.box (World.size_alloc _ _) _ _ _⟩
 exact (((HB.out.trans (HB1.out.mono (by simp))).setCell (p:=⟨w.heap.size,0,none⟩) (Nat.le_refl _) _).setCell (p:=⟨w.heap.size,1,none⟩) (Nat.le_refl _) _).setCell (p:=⟨w.heap.size,2,none⟩) (Nat.le_refl _) _
theorem parsedT_any (s:ByteArray) (i:Int) (hi:i=0∨i=1∨i=2∨i=3) {o:Option Nd} {p er:Nat} (hp:parseP (bs s) (askW i)=(o,p,er)) (w:World) (hw:2≤w.heap.size) (gl:GLw w) (hs:s.size≤maxLen) :
  Calls Tryz.prog 51 #[.string s,.int .i64 i] w (ParseR (o,p,er) w):=by
 rcases hi with rfl | rfl | rfl | rfl
 ·exact parsedT_0 s hp w hw gl hs
 ·exact parsedT_1 s hp w hw gl hs
 ·exact parsedT_2 s hp w hw gl hs
 ·exact parsedT_3 s hp w hw gl hs
end Go.Proofs.YtgjijidlaghlmaaGreatDoor
namespace Go.Proofs.YtgjijidlaghlmaaGreatDoor
open Go.RowKit
def RScanOut (s:ByteArray) (w:World) (e:Ending) (w':World):Prop :=
 Below w.heap.size w w'∧match Lx.scan (bs s) with
  | .toks l=>∃ v,e = .returned (.agg #[v,.int .i64 0,.int .i64 0])∧Toks w.heap.size v l w'
  | .bad i er=>e = .returned (.agg #[.slice none 0 0,.int .i64 i,.int .i64 er])
theorem tokAt_kind {l:Lx.Bs} {i k j:Nat} (h:Lx.tokAt l i=some (k,j)):k=1∨k=2∨k=3∨k=4:=by
 unfold Lx.tokAt at h
 split at h
 ·cases h
 ·split at h
  ·simp only at h
   split at h
   ·cases h;simp
   ·split at h <;> (cases h;simp)
  ·split at h
   ·cases h;simp
   ·split at h
    ·cases h;simp
    ·split at h
     ·cases h;simp
     ·cases h
set_option maxRecDepth 100000 in
set_option maxHeartbeats 400000 in
theorem rScan_big (s:ByteArray) (w:World) (hs:s.size≤maxLen) (hb:20000 < s.size):Calls Tryz.prog 53 #[.string s] w (RScanOut s w):=by
 have Hsc:Lx.scan (bs s) = .bad 0 2:=by unfold Lx.scan;rw [if_pos (by rw [bs_len];exact hb)]
 have HS:=qh Hsc;clear Hsc
 unfold maxLen at hs
 have hb':(20000:Int) < (s.size:Int):=by omega
 go_enter Tryz.func53,Tryz.ntmps53
 go_wp2
 refine bodyPost_ret (v:=.agg #[.slice none 0 0,.int .i64 0,.int .i64 2]) (by simp [results,Tryz.results53,go_sem]) rfl ⟨?_,?_⟩
 ·exact (Below.refl _ w).alloc (Nat.le_refl _) _
 ·rw [HS.out];rfl
theorem below_set3 {h:Nat} {w w':World} (hb:Below h w w') (a b c:Value):Below h w (((w'.setCell ⟨h,0,none⟩ a).setCell ⟨h,1,none⟩ b).setCell ⟨h,2,none⟩ c) :=
 ((hb.setCell (p:=⟨h,0,none⟩) (Nat.le_refl _) a).setCell (p:=⟨h,1,none⟩) (Nat.le_refl _) b).setCell (p:=⟨h,2,none⟩) (Nat.le_refl _) c
theorem set3_heap {h k:Nat} {w:World} (hk:k≠h) (a b c:Value):(((w.setCell ⟨h,0,none⟩ a).setCell ⟨h,1,none⟩ b).setCell ⟨h,2,none⟩ c).heap[k]?=w.heap[k]? :=
 (Below.heap_setCell _ _ _ _ hk).trans ((Below.heap_setCell _ _ _ _ hk).trans (Below.heap_setCell _ _ _ _ hk))
set_option maxRecDepth 100000 in
set_option maxHeartbeats 4000000 in
theorem rScan_small (s:ByteArray) (w:World) (hs:s.size≤20000):Calls Tryz.prog 53 #[.string s] w (RScanOut s w):=by
 have hb':¬ ((20000:Int) < (s.size:Int)):=by omega
 have Hsc:Hid (Lx.scan (bs s)=Lx.scanT (bs s) (s.size+1) [] (Lx.skipTo (bs s) 0)):=qh (by
  unfold Lx.scan;rw [if_neg (by rw [bs_len];omega),bs_len])
 obtain ⟨i0,hi0,hz0,hz1,hz2⟩:=info_parts infoTok
 obtain ⟨Rs,hRs⟩:∃ Rs,Lx.scan (bs s)=Rs:=⟨_,rfl⟩
 have HPost:∀ e w',(Below w.heap.size w w'∧match Rs with
  | .toks l=>∃ v,e = .returned (.agg #[v,.int .i64 0,.int .i64 0])∧Toks w.heap.size v l w'
  | .bad i er=>e = .returned (.agg #[.slice none 0 0,.int .i64 i,.int .i64 er]))→RScanOut s w e w':=by
  intro e w' h;unfold RScanOut;rw [hRs];exact h
 rw [hRs] at Hsc
 have HP:=qh HPost
 clear HPost hRs
 obtain ⟨h,hh⟩:∃ h,w.heap.size=h:=⟨_,rfl⟩
 rw [hh] at HP
 have Hh:=qh hh
 go_enter Tryz.func53,Tryz.ntmps53
 go_wp2
 go_loopw [3,4] (fun v3 v4 wr=>∃ (f:Nat) (pre:List Lx.Tok) (i:Nat),v4 = .int .i64 i∧i≤s.size∧s.size+1≤i+f∧pre.length≤6000∧Hid (Rs=Lx.scanT (bs s) f pre (Lx.skipTo (bs s) i))∧Hid (Below h w wr)∧Hid (wr.heap[h]?=some (.cells #[.slice none 0 0,.int .i64 0,.int .i64 0] 70 (0,0)))∧Hid (Toks (h+1) v3 pre wr)) (fun _ v4 _=>s.size - (intOf v4).toNat)
 case atStart =>
  refine ⟨s.size+1,[],0,rfl,Nat.zero_le _,by omega,by simp,Hsc,?_,?_,qh (World.ownsRow_nil _ _ _ _)⟩
  ·rw [←Hh.out];exact qh ((Below.refl _ w).alloc (Nat.le_refl _) _)
  ·rw [←Hh.out];exact qh (World.alloc_heap_new _ _)
 case round =>
  obtain ⟨f,pre,i,rfl,hi,hf,hpl,hsc,hbl,hrow,hown⟩:=hrel
  have hhr:h < wr.heap.size:=heap_lt hrow.out
  have r0:wr.cell? ⟨h,0,none⟩=some (.slice none 0 0):=cell_of_row _ _ _ _ _ _ hrow.out
  have r1:wr.cell? ⟨h,1,none⟩=some (.int .i64 0):=cell_of_row _ _ _ _ _ _ hrow.out
  have r2:wr.cell? ⟨h,2,none⟩=some (.int .i64 0):=cell_of_row _ _ _ _ _ _ hrow.out
  have f0:wr.frozen? ⟨h,0,none⟩=false:=frozen_of_row _ _ _ _ _ hrow.out
  have f1:wr.frozen? ⟨h,1,none⟩=false:=frozen_of_row _ _ _ _ _ hrow.out
  have f2:wr.frozen? ⟨h,2,none⟩=false:=frozen_of_row _ _ _ _ _ hrow.out
  by_cases hlt:i < s.size
  ·have hlt':(i:Int) < (s.size:Int):=by omega
   have hil:i < (bs s).length:=by rw [bs_len];exact hlt
   have hby:=byte_lt s[i]
   have hg:=bs_get hlt
   have CB:=qh (rBlank s[i] wr)
   cases hbk:Lx.blank s[i] with
   | true =>
    have hst:=Lx.skipTo_blank hil (by rw [hg];exact hbk)
    have HS:Hid (Rs=Lx.scanT (bs s) f pre (Lx.skipTo (bs s) (i+1))):=qh (by rw [hsc.out,hst])
    rw [hbk] at CB
    clear hst hbk hg hsc r0 r1 r2 f0 f1 f2
    go_wp2_with fail
    refine (CB.out).mono ?_
    clear CB
    rintro e w' ⟨rfl,rfl⟩
    go_wp2
    go_roundw
    case rel=>exact ⟨f,pre,i+1,by push_cast;rfl,by omega,by omega,hpl,HS,hbl,hrow,hown⟩
    case measure=>simp [intOf];omega
   | false =>
    rw [hbk] at CB
    by_cases h37:s[i]=37
    ·have h37':((s[i].toNat:Int)==37)=true:=by rw [h37];rfl
     have hst:=Lx.skipTo_comment hil (by rw [hg];exact congrArg UInt8.toNat h37)
     have hle:=(Lx.lineTo_le (l:=bs s) (i:=i) (by omega)).2
     rw [bs_len] at hle
     have hlo:=hst.2
     have CL:=qh (rLineEnd s i wr (by unfold maxLen;omega) (by omega))
     have HS:Hid (Rs=Lx.scanT (bs s) f pre (Lx.skipTo (bs s) (Lx.lineTo (bs s) i))):=qh (by rw [hsc.out,hst.1])
     obtain ⟨E,hE⟩:∃ E,Lx.lineTo (bs s) i=E:=⟨_,rfl⟩
     rw [hE] at hle hlo HS CL
     clear hst hE hbk hg h37 hsc r0 r1 r2 f0 f1 f2
     go_wp2_with fail
     refine (CB.out).mono ?_
     clear CB
     rintro e w' ⟨rfl,rfl⟩
     go_wp2_with fail
     refine (CL.out).mono ?_
     clear CL
     rintro e w' ⟨rfl,rfl⟩
     go_wp2
     go_roundw
     case rel=>exact ⟨f,pre,E,rfl,by omega,by omega,hpl,HS,hbl,hrow,hown⟩
     case measure=>simp [intOf];omega
    ·have h37':((s[i].toNat:Int)==37)=false:=by
      rw [beq_eq_false_iff_ne];intro e;exact h37 (by rw [←UInt8.toNat_inj];exact Int.ofNat_inj.1 e)
     have hst:Lx.skipTo (bs s) i=i:=Lx.skipTo_stop hil (by rw [hg];exact hbk) (by rw [hg];intro e;exact h37 (by rw [←UInt8.toNat_inj];exact e))
     obtain ⟨f,rfl⟩:∃ f',f=f'+1:=⟨f - 1,by omega⟩
     have CT:=qh (rToken s i wr (by omega) hlt)
     have hsc2:=hsc.out
     rw [hst] at hsc2
     simp only [Lx.scanT] at hsc2
     rw [if_neg (by omega)] at hsc2
     clear hst hbk hg h37 hsc
     cases htok:Lx.tokAt (bs s) i with
     | none =>
      rw [htok] at CT hsc2
      have HS:=qh hsc2
      unfold kindJ at CT
      clear htok hsc2
      go_wp2_with fail
      refine (CB.out).mono ?_
      clear CB
      rintro e w' ⟨rfl,rfl⟩
      go_wp2_with fail
      refine (CT.out).mono ?_
      clear CT
      rintro e w1 ⟨rfl,hb1⟩
      have HB1:=qh hb1
      have s0:=(hb1.cell (p:=⟨h,0,none⟩) hhr).trans r0
      have s1:=(hb1.cell (p:=⟨h,1,none⟩) hhr).trans r1
      have s2:=(hb1.cell (p:=⟨h,2,none⟩) hhr).trans r2
      have g0:=(hb1.frozen (p:=⟨h,0,none⟩) hhr).trans f0
      have g1:=(hb1.frozen (p:=⟨h,1,none⟩) hhr).trans f1
      have g2:=(hb1.frozen (p:=⟨h,2,none⟩) hhr).trans f2
      clear hb1 r0 r1 r2 f0 f1 f2
      go_wp2
      refine bodyPost_ret (v:=.agg #[.slice none 0 0,.int .i64 i,.int .i64 10]) (by simp [results,Tryz.results53,go_sem,s0,s1,s2]) rfl (HP.out _ _ ⟨?_,?_⟩)
      ·exact below_set3 (hbl.out.trans (HB1.out.mono (by omega:h≤wr.heap.size))) _ _ _
      ·rw [HS.out];rfl
     | some p =>
      obtain ⟨k,j⟩:=p
      rw [htok] at CT hsc2
      unfold kindJ at CT
      obtain ⟨hij,hjl⟩:=Lx.tokAt_lt htok
      rw [bs_len] at hjl
      have hk0:((k:Int)==0)=false:=by have:=tokAt_kind htok;rw [beq_eq_false_iff_ne];omega
      obtain ⟨a,cap,rfl⟩:=ownsRow_shape hown.out
      simp only at hsc2
      clear htok
      by_cases h6:pre.length=6000
      ·have h6':((pre.length:Int)==6000)=true:=by rw [h6];rfl
       rw [if_pos h6] at hsc2
       have HS:=qh hsc2
       clear hsc2 h6
       go_wp2_with fail
       refine (CB.out).mono ?_
       clear CB
       rintro e w' ⟨rfl,rfl⟩
       go_wp2_with fail
       refine (CT.out).mono ?_
       clear CT
       rintro e w1 ⟨rfl,hb1⟩
       have HB1:=qh hb1
       have s0:=(hb1.cell (p:=⟨h,0,none⟩) hhr).trans r0
       have s1:=(hb1.cell (p:=⟨h,1,none⟩) hhr).trans r1
       have s2:=(hb1.cell (p:=⟨h,2,none⟩) hhr).trans r2
       have g0:=(hb1.frozen (p:=⟨h,0,none⟩) hhr).trans f0
       have g1:=(hb1.frozen (p:=⟨h,1,none⟩) hhr).trans f1
       have g2:=(hb1.frozen (p:=⟨h,2,none⟩) hhr).trans f2
       clear hb1 r0 r1 r2 f0 f1 f2
       go_wp2
       refine bodyPost_ret (v:=.agg #[.slice none 0 0,.int .i64 i,.int .i64 2]) (by simp [results,Tryz.results53,go_sem,s0,s1,s2]) rfl (HP.out _ _ ⟨?_,?_⟩)
       ·exact below_set3 (hbl.out.trans (HB1.out.mono (by omega:h≤wr.heap.size))) _ _ _
       ·rw [HS.out];rfl
      ·have h6':((pre.length:Int)==6000)=false:=by rw [beq_eq_false_iff_ne];omega
       rw [if_neg h6] at hsc2
       by_cases h40:40 < j - i
       ·have h40':(40:Int) < (j:Int) - (i:Int):=by omega
        rw [if_pos h40] at hsc2
        have HS:=qh hsc2
        clear hsc2 h6 h40
        go_wp2_with fail
        refine (CB.out).mono ?_
        clear CB
        rintro e w' ⟨rfl,rfl⟩
        go_wp2_with fail
        refine (CT.out).mono ?_
        clear CT
        rintro e w1 ⟨rfl,hb1⟩
        have HB1:=qh hb1
        have s0:=(hb1.cell (p:=⟨h,0,none⟩) hhr).trans r0
        have s1:=(hb1.cell (p:=⟨h,1,none⟩) hhr).trans r1
        have s2:=(hb1.cell (p:=⟨h,2,none⟩) hhr).trans r2
        have g0:=(hb1.frozen (p:=⟨h,0,none⟩) hhr).trans f0
        have g1:=(hb1.frozen (p:=⟨h,1,none⟩) hhr).trans f1
        have g2:=(hb1.frozen (p:=⟨h,2,none⟩) hhr).trans f2
        clear hb1 r0 r1 r2 f0 f1 f2
        go_wp2
        refine bodyPost_ret (v:=.agg #[.slice none 0 0,.int .i64 i,.int .i64 11]) (by simp [results,Tryz.results53,go_sem,s0,s1,s2]) rfl (HP.out _ _ ⟨?_,?_⟩)
        ·exact below_set3 (hbl.out.trans (HB1.out.mono (by omega:h≤wr.heap.size))) _ _ _
        ·rw [HS.out];rfl
       ·have h40':¬ ((40:Int) < (j:Int) - (i:Int)):=by omega
        rw [if_neg h40] at hsc2
        have HS:=qh hsc2
        have hi1:(0:Int)≤(i:Int):=by omega
        have hi2:(i:Int)≤(j:Int):=by omega
        have hi3:(j:Int)≤(s.size:Int):=by omega
        have hrow0:=ownBlock_lt hown.out
        have Hrow0:=qh hrow0
        clear hsc2 r0 r1 r2 f0 f1 f2 hrow0
        go_wp2_with fail
        refine (CB.out).mono ?_
        clear CB
        rintro e w' ⟨rfl,rfl⟩
        go_wp2_with fail
        refine (CT.out).mono ?_
        clear CT
        rintro e w1 ⟨rfl,hb1⟩
        have HB1:Hid (Below h w w1):=hbl.out.trans (hb1.mono (by omega:h≤wr.heap.size))
        have Hrow1:Hid (w1.heap[h]?=some (.cells #[.slice none 0 0,.int .i64 0,.int .i64 0] 70 (0,0))):=qh ((hb1.block h hhr).trans hrow.out)
        have Hown1:Hid (w1.ownsRow (h+1) 76 3 (.slice a pre.length cap) pre.length (flat pre)):=qh (ownsRow_below' hown.out hb1)
        have hw1:h < w1.heap.size:=Nat.lt_of_lt_of_le hhr hb1.size
        clear hb1 hown hrow hbl
        go_wp2_with (at_builtin;refine wpList_append_own _ rfl _ _ 68 rfl (h+1) 76 i0 _ 3 32 Tryz.underlying68 hi0 hz0 hz1 hz2 rfl (by decide) _ _ _ rfl (Hown1.out.alloc _) ⟨w1.heap.size,0,none⟩ 1 1 [.int .i64 k,.string (s.extract i j),.int .i64 i] rfl rfl (cells3 w1 _ _ _ _ _ rfl) (by simp [Value.oneCell']) (by unfold maxLen;omega) (by omega) (by simp only [World.size_alloc];omega) ?_;intro v' w3 hown' hgrow _)
        have H1:=qh hown'
        have H2:=qh hgrow
        clear hown' hgrow
        go_wp2
        go_roundw
        case rel =>
         refine ⟨f,pre++[⟨k,Lx.slice (bs s) i j,i⟩],j,rfl,by omega,by omega,by rw [List.length_append,List.length_singleton];omega,HS,?_,?_,?_⟩
         ·exact (HB1.out.alloc (by omega) _).grown H2.out (by simp only [World.size_alloc];omega) (fun b hb=>by have:=(Hrow0.out b hb).1;omega)
         ·refine qh ((H2.out.block h (by simp only [World.size_alloc];omega) ?_).trans ((Below.heap_alloc _ _ _ hw1).trans Hrow1.out))
          intro e
          have:=(Hrow0.out h e.symm).1
          omega
         ·have ht:flat (pre++[⟨k,Lx.slice (bs s) i j,i⟩])=flat pre++[.int .i64 k,.string (s.extract i j),.int .i64 i]:=flat_snoc s pre k i j
          unfold Toks
          rw [ht,List.length_append]
          exact H1
        case measure=>simp [intOf];omega
  ·have hlt':¬ ((i:Int) < (s.size:Int)):=by omega
   have HS:Hid (Rs = .toks pre):=qh (by
    rw [hsc.out,Lx.skipTo_end (by rw [bs_len];omega)]
    cases f with
    | zero=>rfl
    | succ f=>simp only [Lx.scanT];rw [if_pos (by rw [bs_len];omega)])
   obtain ⟨a,cap,rfl⟩:=ownsRow_shape hown.out
   clear hsc
   go_wp2
   refine bodyPost_ret (v:=.agg #[.slice a pre.length cap,.int .i64 0,.int .i64 0]) (by simp [results,Tryz.results53,go_sem,r0,r1,r2]) rfl (HP.out _ _ ⟨?_,?_⟩)
   ·exact below_set3 hbl.out _ _ _
   ·rw [HS.out]
    refine ⟨_,rfl,?_⟩
    refine ownsRow_base (ownsRow_blocks hown.out fun k hk _ _=>set3_heap (by omega) _ _ _) (by omega)
theorem rScan_any (s:ByteArray) (w:World) (hs:s.size≤maxLen):Calls Tryz.prog 53 #[.string s] w (RScanOut s w):=by
 by_cases h:20000 < s.size
 ·exact rScan_big s w hs h
 ·exact rScan_small s w (by omega)
end Go.Proofs.YtgjijidlaghlmaaGreatDoor
namespace Go.Proofs.YtgjijidlaghlmaaGreatDoor
open Go.RowKit
def bareT (t:Lx.Tok):Bool:=decide (t.text≠[40]) && decide (t.text≠[41])
theorem filter_take {l:List Lx.Tok} {p:Lx.Tok→Bool} {i:Nat} (h:i < l.length):(l.take (i+1)).filter p=(l.take i).filter p++(if p l[i]=true then [l[i]] else []):=by
 rw [List.take_succ_eq_append_getElem h,List.filter_append]
 congr 1
 by_cases hp:p l[i]=true
 ·rw [if_pos hp,List.filter_cons_of_pos hp];rfl
 ·rw [if_neg hp,List.filter_cons_of_neg hp];rfl
theorem flat_one (l:List Lx.Tok) (t:Lx.Tok):flat (l++[t])=flat l++[.int .i64 t.kind,.string ⟨t.text.toArray⟩,.int .i64 t.pos]:=by
 rw [flat,List.flatMap_append]
 rfl
set_option maxRecDepth 100000 in
set_option maxHeartbeats 1000000 in
theorem lawBare (ts:List Lx.Tok) (v:Value) (w:World) (hv:TokSl w v (ts.map ofTok)) (hl:ts.length≤6000) :
  Calls Tryz.prog 55 #[v] w fun e w'=>∃ v',e = .returned v'∧Toks w.heap.size v' (ts.filter bareT) w'∧Below w.heap.size w w':=by
 obtain ⟨a,cap,rfl,hc⟩:=hv
 rw [List.length_map]
 obtain ⟨i0,hi0,hz0,hz1,hz2⟩:=info_parts infoTok
 have HC:Hid (∀ i,(h:i < ts.length)→∃ b o,a=some ⟨b,o,none⟩∧TokAt w b (o+i*3) (ofTok ts[i])):=qh (fun i h=>by
  obtain ⟨b,o,e,hh⟩:=hc (by intro e;have:=congrArg List.length e;simp at this;rw [this] at h;exact absurd h (Nat.not_lt_zero _))
  have:=hh i (by rw [List.length_map];exact h)
  rw [List.getElem_map] at this
  exact ⟨b,o,e,this⟩)
 obtain ⟨H,hH⟩:∃ H,w.heap.size=H:=⟨_,rfl⟩
 rw [hH]
 have HH:=qh hH
 clear hc hH
 go_enter Tryz.func55,Tryz.ntmps55
 go_wp2
 go_loopw [3,4] (fun v3 v4 wr=>∃ (i:Nat) (r:List Lx.Tok),v4 = .int .i64 i∧i≤ts.length∧r.length≤i∧Hid (r=(ts.take i).filter bareT)∧Hid (Toks H v3 r wr)∧Hid (Below H w wr)) (fun _ v4 _=>ts.length - (intOf v4).toNat)
 case atStart =>
  exact ⟨0,[],rfl,Nat.zero_le _,Nat.le_refl _,qh rfl,qh (World.ownsRow_nil _ _ _ _),qh (by rw [←HH.out];exact Below.refl _ _)⟩
 case round =>
  obtain ⟨i,r,rfl,hi,hri,hr,ho,hbl⟩:=hrel
  obtain ⟨a3,c3,rfl⟩:=ownsRow_shape ho.out
  by_cases hlt:i < ts.length
  ·have hlt':(i:Int) < (ts.length:Int):=by omega
   have hi0':(0:Int)≤(i:Int):=by omega
   obtain ⟨b,o,rfl,hA⟩:=HC.out i hlt
   have hb:b < H:=by rw [←HH.out];exact block_lt_of_cell hA.1
   have g0:=(hbl.out.cell (p:=⟨b,o+i*3,none⟩) hb).trans hA.1
   have g1:=(hbl.out.cell (p:=⟨b,o+i*3+1,none⟩) hb).trans hA.2.1
   have g2:=(hbl.out.cell (p:=⟨b,o+i*3+2,none⟩) hb).trans hA.2.2
   obtain ⟨X,hX⟩:∃ X,(ofTok ts[i]).t=X:=⟨_,rfl⟩
   obtain ⟨K,hK⟩:∃ K,(ofTok ts[i]).k=K:=⟨_,rfl⟩
   obtain ⟨P,hP⟩:∃ P,(ofTok ts[i]).p=P:=⟨_,rfl⟩
   have hst:=filter_take (p:=bareT) hlt
   have hX1:X.toList=ts[i].text:=by rw [←hX,ByteArray.toList_eq];rfl
   rw [hX] at g1
   rw [hK] at g0
   rw [hP] at g2
   by_cases h40:ts[i].text=[40]
   ·have e40:(X.toList==[40])=true:=by rw [hX1,h40];rfl
    have HS:Hid (r=(ts.take (i+1)).filter bareT):=qh (by
     rw [hst,if_neg,List.append_nil]
     ·exact hr.out
     ·unfold bareT;rw [h40];decide)
    clear hst hX hK hP hX1 hA hr h40
    go_wp2
    go_roundw
    case rel=>exact ⟨i+1,r,by push_cast;rfl,by omega,by omega,HS,ho,hbl⟩
    case measure=>simp [intOf];omega
   ·have e40:(X.toList==[40])=false:=by rw [hX1,beq_eq_false_iff_ne];exact h40
    by_cases h41:ts[i].text=[41]
    ·have e41:(X.toList==[41])=true:=by rw [hX1,h41];rfl
     have HS:Hid (r=(ts.take (i+1)).filter bareT):=qh (by
      rw [hst,if_neg,List.append_nil]
      ·exact hr.out
      ·unfold bareT;rw [h41];decide)
     clear hst hX hK hP hX1 hA hr h40 h41
     go_wp2
     go_roundw
     case rel=>exact ⟨i+1,r,by push_cast;rfl,by omega,by omega,HS,ho,hbl⟩
     case measure=>simp [intOf];omega
    ·have e41:(X.toList==[41])=false:=by rw [hX1,beq_eq_false_iff_ne];exact h41
     have HS:Hid (r++[ts[i]]=(ts.take (i+1)).filter bareT):=qh (by
      rw [hst,if_pos,←hr.out]
      unfold bareT
      rw [Bool.and_eq_true,decide_eq_true_eq,decide_eq_true_eq]
      exact ⟨h40,h41⟩)
     have HF:Hid (flat (r++[ts[i]])=flat r++[.int .i64 K,.string X,.int .i64 P]):=qh (by rw [flat_one,←hX,←hK,←hP];rfl)
     have hHw:H≤wr.heap.size:=by have:=hbl.out.size;rw [HH.out] at this;omega
     have Hown:Hid (wr.ownsRow H 76 3 (.slice a3 r.length c3) r.length (flat r)):=qh ho.out
     have Hrow:=qh (ownBlock_lt ho.out)
     clear hst hX hK hP hX1 hA hr ho h40 h41
     go_wp2_with (at_builtin;refine wpList_append_own _ rfl _ _ 68 rfl H 76 i0 _ 3 32 Tryz.underlying68 hi0 hz0 hz1 hz2 rfl (by decide) _ _ _ rfl (Hown.out.alloc _) ⟨wr.heap.size,0,none⟩ 1 1 [.int .i64 K,.string X,.int .i64 P] rfl rfl (cells3 wr _ _ _ _ _ rfl) (by simp [Value.oneCell']) (by unfold maxLen;omega) (by omega) (by simp only [World.size_alloc];omega) ?_;intro v' w3 hown' hgrow _)
     have H1:=qh hown'
     have H2:=qh hgrow
     clear hown' hgrow
     go_wp2
     go_roundw
     case rel =>
      refine ⟨i+1,r++[ts[i]],by push_cast;rfl,by omega,by rw [List.length_append,List.length_singleton];omega,HS,?_,?_⟩
      ·refine qh ?_
       unfold Toks
       rw [HF.out,List.length_append]
       exact H1.out
      ·exact qh ((hbl.out.alloc hHw _).grown H2.out (by simp only [World.size_alloc];omega) (fun b hb=>(Hrow.out b hb).1))
     case measure=>simp [intOf];omega
  ·have hlt':¬ ((i:Int) < (ts.length:Int)):=by omega
   have HS:Hid (r=ts.filter bareT):=qh (by rw [hr.out,List.take_of_length_le (by omega)])
   clear hr
   go_wp2
   all_goals (try go_ret)
   all_goals exact ⟨_,rfl,by rw [←HS.out];exact ho.out,hbl.out⟩
theorem rscanT (s:ByteArray) (ts:List Lx.Tok) (hl:Lx.scan (bs s) = .toks ts) (w:World) (hs:s.size≤maxLen) :
  Calls Tryz.prog 53 #[.string s] w fun e w'=>∃ a c,e = .returned (.agg #[.slice a ts.length c,.int .i64 0,.int .i64 0])∧TokSl w' (.slice a ts.length c) (ts.map ofTok)∧Below w.heap.size w w':=by
 refine (rScan_any s w hs).mono ?_
 rintro e w' ⟨hb,h⟩
 rw [hl] at h
 obtain ⟨v,rfl,ht⟩:=h
 obtain ⟨a,c,rfl⟩:=ownsRow_shape ht
 exact ⟨a,c,rfl,ht.sl,hb⟩
mutual
theorem sameN_me:∀ t:Nd,sameN t t=true
 | .mk k s l=>by simp only [sameN,sameL_me l,beq_self_eq_true,Bool.and_self]
theorem sameL_me:∀ l:List Nd,sameL l l=true
 | []=>by simp only [sameL]
 | a :: l=>by simp only [sameL,sameN_me a,sameL_me l,Bool.and_self]
end
end Go.Proofs.YtgjijidlaghlmaaGreatDoor
namespace Go.Proofs.YtgjijidlaghlmaaGreatDoor
def Nd.k':Nd→Int | .mk k _ _=>k
def Nd.s':Nd→ByteArray | .mk _ s _=>s
def It.fr (x:It):Bool:=(x.t.k'==15 || x.t.k'==16) && (!x.wd && !Lib.containsS x.ins x.t.s')
def occ (kind:Int) (out:List ByteArray) (x:It):List ByteArray :=
 if (x.t.k'==kind && (x.fr && !Lib.containsS out x.t.s'))=true then out++[x.t.s'] else out
theorem occ_at {x:It} {k:Int} {s:ByteArray} {l:List Nd} (h:x.t = .mk k s l) {V:Bool} (hV:((k==15 || k==16) && (!x.wd && !Lib.containsS x.ins s))=V) (kind:Int) (out:List ByteArray) :
  occ kind out x=if (k==kind && (V && !Lib.containsS out s))=true then out++[s] else out:=by
 subst hV
 obtain ⟨d,ins,wd,t⟩:=x
 subst h
 rfl
def occs (kind:Int) (its:List It):List ByteArray:=its.foldl (occ kind) []
theorem occs_snoc (kind:Int) (its:List It) (x:It):occs kind (its++[x])=occ kind (occs kind its) x:=by
 unfold occs
 rw [List.foldl_append]
 rfl
theorem occ_len (kind:Int) (out:List ByteArray) (x:It):(occ kind out x).length≤out.length+1:=by
 unfold occ
 split
 ·simp
 ·omega
theorem occs_len' (kind:Int):∀ (its:List It) (out:List ByteArray),(its.foldl (occ kind) out).length≤out.length+its.length
 | [],out=>by simp
 | x :: l,out=>by
  have h1:=occs_len' kind l (occ kind out x)
  have h2:=occ_len kind out x
  simp only [List.foldl_cons,List.length_cons]
  omega
theorem occs_len (kind:Int) (its:List It):(occs kind its).length≤its.length:=by
 have:=occs_len' kind its []
 unfold occs
 simpa using this
mutual
theorem ins_pre (d:Nat) (ins:List ByteArray) (wd:Bool):∀ t:Nd,∀ x∈preN d ins wd t,x.ins.length≤ins.length+t.sz
 | .mk k s l,x,hx=>by
  simp only [preN,List.mem_cons] at hx
  simp only [Nd.sz]
  rcases hx with rfl | hx
  ·simp only;omega
  ·have:=insL_pre (d+1) ins (if bindK k then ins++[s] else ins) (k==7) l (by split <;> simp) x hx
   omega
theorem insL_pre (d:Nat) (ins il:List ByteArray) (wd:Bool):∀ l:List Nd,il.length≤ins.length+1→∀ x∈preL d ins il wd l,x.ins.length≤ins.length+1+Nd.szL l
 | [],_,x,hx=>by simp [preL] at hx
 | a :: l,h,x,hx=>by
  simp only [preL,List.mem_append] at hx
  simp only [Nd.szL]
  rcases hx with hx | hx
  ·have h1:=ins_pre d _ wd a x hx
   split at h1 <;> omega
  ·have:=insL_pre d ins il wd l h x hx
   omega
end
mutual
def freeN (kind:Int) (bound out:List ByteArray):Nd→List ByteArray
 | .mk k s l=>if k=7 then out else freeL kind bound (if bindK k then bound++[s] else bound) (if (k==kind && !Lib.containsS bound s) && !Lib.containsS out s then out++[s] else out) l
def freeL (kind:Int) (ins il out:List ByteArray):List Nd→List ByteArray
 | []=>out
 | a :: l=>freeL kind ins il (freeN kind (if l.isEmpty then il else ins) out a) l
end
mutual
def mdOk:Nd→Prop
 | .mk k _ l=>if k=7 then ∀ x∈l,∃ k s,x = .mk k s [] else mdL l
def mdL:List Nd→Prop
 | []=>True
 | a :: l=>mdOk a∧mdL l
end
mutual
def smN:Nd→Prop
 | .mk _ s l=>s.size≤64∧smL l
def smL:List Nd→Prop
 | []=>True
 | a :: l=>smN a∧smL l
end
theorem smL_iff:∀ l:List Nd,smL l↔∀ x∈l,smN x
 | []=>by simp [smL]
 | a :: l=>by simp only [smL,List.forall_mem_cons];rw [smL_iff l]
theorem mdL_iff:∀ l:List Nd,mdL l↔∀ x∈l,mdOk x
 | []=>by simp [mdL]
 | a :: l=>by simp only [mdL,List.forall_mem_cons];rw [mdL_iff l]
mutual
theorem sm_pre (d:Nat) (ins:List ByteArray) (wd:Bool):∀ t:Nd,smN t→∀ x∈preN d ins wd t,x.t.s'.size≤64
 | .mk k s l,h,x,hx=>by
  simp only [preN,List.mem_cons] at hx
  simp only [smN] at h
  rcases hx with rfl | hx
  ·exact h.1
  ·exact smL_pre (d+1) ins _ _ l h.2 x hx
theorem smL_pre (d:Nat) (ins il:List ByteArray) (wd:Bool):∀ l:List Nd,smL l→∀ x∈preL d ins il wd l,x.t.s'.size≤64
 | [],_,x,hx=>by simp [preL] at hx
 | a :: l,h,x,hx=>by
  simp only [preL,List.mem_append] at hx
  simp only [smL] at h
  rcases hx with hx | hx
  ·exact sm_pre d _ wd a h.1 x hx
  ·exact smL_pre d ins il wd l h.2 x hx
end
end Go.Proofs.YtgjijidlaghlmaaGreatDoor
namespace Go.Proofs.YtgjijidlaghlmaaGreatDoor
def nm_ (c:UInt8):Nd:=.mk 15 ⟨#[c]⟩ []
def tree1:Nd:=.mk 25 ⟨#[]⟩ [nm_ 97,.mk 23 ⟨#[]⟩ [.mk 22 ⟨#[]⟩ [nm_ 98,nm_ 99],nm_ 100]]
def tree2:Nd:=.mk 27 ⟨#[]⟩ [.mk 27 ⟨#[]⟩ [nm_ 97,.mk 28 ⟨#[]⟩ [nm_ 98,nm_ 99]],nm_ 100]
def tree3:Nd:=.mk 22 ⟨#[]⟩ [.mk 29 ⟨#[]⟩ [.mk 18 ⟨#[120]⟩ [.mk 15 ⟨#[112]⟩ [nm_ 120]]],nm_ 113]
def varX:Nd:=.mk 16 ⟨#[88]⟩ []
def tree6:Nd:=.mk 1 ⟨#[]⟩ [.mk 4 ⟨#[112]⟩ [nm_ 105,.mk 31 ⟨#[]⟩ [nm_ 105,nm_ 105]],.mk 8 ⟨#[114]⟩ [.mk 27 ⟨#[]⟩ [.mk 15 ⟨#[112]⟩ [varX],.mk 15 ⟨#[113]⟩ [varX]]]]
abbrev txt1:ByteArray:={ data:=#[97,32,45,111,32,98,32,42,32,99,32,38,32,100] }
abbrev txt2:ByteArray:={ data:=#[97,32,111,45,32,40,98,32,60,61,32,99,41,32,111,45,32,40,40,100,41,41] }
abbrev txt4:ByteArray:={ data:=#[97,32,45,111] }
abbrev txt5:ByteArray:={ data:=#[97,32,41,32,98] }
abbrev txt6:ByteArray:={ data:=#[112,114,101,100,32,112,32,105,32,40,105,32,45,62,32,105,41,46,32,114,117,108,101,32,114,58,32,112,32,88,32,111,45,32,113,32,88,46] }
theorem parse1:parseP (bs txt1) 18=(some tree1,0,0):=by kernel_rfl
theorem parse2:parseP (bs txt2) 18=(some tree2,0,0):=by kernel_rfl
theorem parse4:parseP (bs txt4) 18=(none,4,20):=by kernel_rfl
theorem parse5:parseP (bs txt5) 18=(none,2,20):=by kernel_rfl
theorem parse6:parseP (bs txt6) 1=(some tree6,0,0):=by kernel_rfl
abbrev out2:ByteArray:={ data:=#[97,32,111,45,32,40,98,32,60,61,32,99,41,32,111,45,32,100] }
abbrev out3:ByteArray:={ data:=#[33,40,97,108,108,32,120,46,32,112,32,120,41,32,42,32,113] }
abbrev out6:ByteArray:={ data:=#[112,114,101,100,32,112,32,105,32,40,105,32,45,62,32,105,41,46,10,114,117,108,101,32,114,58,32,112,32,88,32,111,45,32,113,32,88,46,10] }
theorem print1:printP tree1=(bs txt1,0):=by kernel_rfl
theorem print2:printP tree2=(bs out2,0):=by kernel_rfl
theorem print3:printP tree3=(bs out3,0):=by kernel_rfl
theorem print6:printP tree6=(bs out6,0):=by kernel_rfl
theorem vars6:occs 16 (preN 0 [] false tree6)=[⟨#[88]⟩]:=by kernel_rfl
theorem valid6:chkN tree6=0:=by kernel_rfl
end Go.Proofs.YtgjijidlaghlmaaGreatDoor
namespace Go.Proofs.YtgjijidlaghlmaaGreatDoor
open Go.RowKit Go.Shelf
theorem rowS_cells {n₁:Nat} {w:World} {a:Option Addr} {n c:Nat} {ss:List ByteArray} (h:RowS n₁ w (.slice a n c) ss) :
  n=ss.length∧(ss=[]∨∃ g,a=some ⟨g,0,none⟩∧∀ j,j < ss.length→w.cell? ⟨g,0+j,none⟩=some (.string (ss.getD j ByteArray.empty))):=by
 have h':w.ownsRow n₁ 9 1 (.slice a n c) (ss.map Value.string).length (ss.map Value.string):=h
 obtain ⟨a',c',e⟩:=row_shape h'
 cases e
 refine ⟨by simp,?_⟩
 rcases h'.2 with ⟨_,h0⟩ | ⟨g,cap,cur,hv,_⟩
 ·left
  simpa using h0
 ·right
  cases hv
  refine ⟨g,rfl,fun j hj=>?_⟩
  have hc:=h'.cells (g:=g) rfl j (.string (ss.getD j ByteArray.empty)) (by
   rw [List.getElem?_map,List.getD_eq_getElem?_getD,List.getElem?_eq_getElem hj]
   rfl)
  have hadd:(⟨g,0,none⟩:Addr).add j=⟨g,0+j,none⟩:=by unfold Addr.add;split <;> simp_all
  rwa [hadd] at hc
theorem containsS_nil (x:ByteArray):Lib.containsS [] x=false:=by
 rw [←Bool.not_eq_true,Lib.containsS_iff]
 simp
theorem contains_row {n₁:Nat} (w:World) (a:Option Addr) (n c:Nat) (ss:List ByteArray) (x:ByteArray) (h:RowS n₁ w (.slice a n c) ss) (hl:ss.length≤9000000000000000000) :
  Calls Tryz.prog 101 #[.slice a n c,.string x] w fun e w'=>e = .returned (.bool (Lib.containsS ss x))∧w'=w:=by
 obtain ⟨rfl,h0 | ⟨g,rfl,hc⟩⟩:=rowS_cells h
 ·subst h0
  rw [containsS_nil]
  exact Tryz.slices_Contains_string_empty a c x w
 ·refine (Tryz.slices_Contains_string g 0 ss.length c ss x w (Nat.le_refl _) (by omega) hc).mono ?_
  rintro e w' ⟨rfl,rfl⟩
  rw [List.take_of_length_le (Nat.le_refl _)]
  exact ⟨rfl,rfl⟩
set_option maxRecDepth 100000 in
set_option maxHeartbeats 1000000 in
theorem frees_any (n₁:Nat) (ap ai:Option Addr) (np cp ni ci:Nat) (wd:Bool) (k:Int) (s:ByteArray) (a:Option Addr) (n cap:Nat) (ss:List ByteArray) (w:World) (hi:RowS n₁ w (.slice ai ni ci) ss) (hl:ss.length≤90000) :
  Calls Tryz.prog 100 #[.agg #[.slice ap np cp,.slice ai ni ci,.bool wd],.agg #[.int .i64 k,.string s,.slice a n cap]] w fun e w'=>e = .returned (.bool ((k==15 || k==16) && (!wd && !Lib.containsS ss s)))∧Below w.heap.size w w':=by
 obtain ⟨W,hW⟩:∃ W,(w.alloc (.cells #[.slice ap np cp,.slice ai ni ci,.bool wd] 108)).alloc (.cells #[.int .i64 k,.string s,.slice a n cap] 25)=W:=⟨_,rfl⟩
 have hb:Below w.heap.size w W:=by rw [←hW];exact ((Below.refl _ w).alloc (Nat.le_refl _) _).alloc (by simp) _
 have hi2:RowS n₁ W (.slice ai ni ci) ss:=row_keep hi fun g e=>hb.block g (World.ownsRow.lt hi g e).2
 have CC:=qh (contains_row W ai ni ci ss s hi2 (by omega))
 obtain ⟨V,hV⟩:∃ V,Lib.containsS ss s=V:=⟨_,rfl⟩
 rw [hV] at CC ⊢
 have HB:=qh hb
 have HW:=qh hW
 have hA:RowP W w.heap.size (.slice ap np cp) (.slice ai ni ci) (.bool wd):=by rw [←hW];exact (Below.heap_alloc _ _ _ (by simp only [World.size_alloc];omega)).trans (World.alloc_heap_new _ _)
 have hN:Row3 W (w.heap.size+1) (.int .i64 k) (.string s) (.slice a n cap):=by rw [←hW];exact alloc_at (by simp)
 obtain ⟨⟨p0,p1,p2⟩,_⟩:=hA.cells
 obtain ⟨⟨n0,n1,n2⟩,_⟩:=hN.cells
 obtain ⟨X,hX⟩:∃ X,(k==15 || k==16)=X:=⟨_,rfl⟩
 rw [hX]
 have HX:=qh hX
 clear hV hb hW hi hi2 hA hN hX hl
 cases h15:(k==15) with
 | true =>
  have HE:Hid (X=true):=qh (by rw [←HX.out,h15];rfl)
  clear HX
  cases wd with
  | true =>
   go_enter Tryz.func100,Tryz.ntmps100
   go_upto_region 1 with fail
   rw [HW.out]
   go_wp2
   go_ret
   exact ⟨by rw [HE.out];rfl,HB.out⟩
  | false =>
   go_enter Tryz.func100,Tryz.ntmps100
   go_upto_region 1 with fail
   rw [HW.out]
   go_wp2_with fail
   refine CC.out.mono ?_
   rintro e w1 ⟨rfl,rfl⟩
   go_wp2
   go_ret
   exact ⟨by rw [HE.out];rfl,HB.out⟩
 | false =>
  cases h16:(k==16) with
  | true =>
   have HE:Hid (X=true):=qh (by rw [←HX.out,h15,h16];rfl)
   clear HX
   cases wd with
   | true =>
    go_enter Tryz.func100,Tryz.ntmps100
    go_upto_region 1 with fail
    rw [HW.out]
    go_wp2
    go_ret
    exact ⟨by rw [HE.out];rfl,HB.out⟩
   | false =>
    go_enter Tryz.func100,Tryz.ntmps100
    go_upto_region 1 with fail
    rw [HW.out]
    go_wp2_with fail
    refine CC.out.mono ?_
    rintro e w1 ⟨rfl,rfl⟩
    go_wp2
    go_ret
    exact ⟨by rw [HE.out];rfl,HB.out⟩
  | false =>
   have HE:Hid (X=false):=qh (by rw [←HX.out,h15,h16];rfl)
   clear HX
   go_enter Tryz.func100,Tryz.ntmps100
   go_upto_region 1 with fail
   rw [HW.out]
   go_wp2
   go_ret
   exact ⟨by rw [HE.out];rfl,HB.out⟩
end Go.Proofs.YtgjijidlaghlmaaGreatDoor
namespace Go.Proofs.YtgjijidlaghlmaaGreatDoor
open Go.RowKit Go.Shelf
def mapOf (out:List ByteArray):List (List UInt8×Value):=out.map fun s=>(bs s,.bool true)
theorem S_bs (s:ByteArray):S_ (bs s) = .string s:=rfl
theorem found_map (out:List ByteArray) (s:ByteArray):found (mapOf out) (bs s)=if Lib.containsS out s=true then some (.bool true) else none:=by
 unfold found mapOf
 rw [List.find?_map]
 by_cases h:s∈out
 ·rw [if_pos ((Lib.containsS_iff _ _).2 h)]
  cases hf:out.find? ((fun p:List UInt8×Value=>p.1==bs s)∘fun s=>(bs s,Value.bool true)) with
  | none =>
   rw [List.find?_eq_none] at hf
   have:=hf s h
   simp at this
  | some x=>rfl
 ·rw [if_neg (fun e=>h ((Lib.containsS_iff _ _).1 e))]
  cases hf:out.find? ((fun p:List UInt8×Value=>p.1==bs s)∘fun s=>(bs s,Value.bool true)) with
  | none=>rfl
  | some x =>
   have h1:=List.mem_of_find?_eq_some hf
   have h2:=List.find?_some hf
   simp only [Function.comp_apply,beq_iff_eq] at h2
   rw [bs_inj h2] at h1
   exact absurd h1 h
theorem run_lookup_one {P:Program} {w:World} {t k e:TypeId} (ht:P.underlying t=some (.map k e)) (hk:P.underlying k=some .string) {z:Value} (hz:(zeroValue e).run P w = .ok z w) {b:Nat} {L:List (List UInt8×Value)} (hm:StrMap w b L) (s:List UInt8) :
  (Instr.lookup t (.map (some b)) (S_ s) false).run P w = .ok ((found L s).getD z) w:=by
 obtain ⟨es,c,h1,h2⟩:=hm
 obtain ⟨r,h3,h4⟩:=findNow_str s es.toList L 0 h2
 unfold S_ at h3 ⊢
 cases r with
 | none =>
  have h5:found L s=none:=by rw [←h4];rfl
  simp [Instr.lookup,run_underlying ht,MapKept.run_getObj_map h1,checkStr,hk,run_underlying hk,Instr.findKey,h3,hz,Result.andThen,h5]
 | some p =>
  have h5:found L s=some p.2:=by rw [←h4];rfl
  simp [Instr.lookup,run_underlying ht,MapKept.run_getObj_map h1,checkStr,hk,run_underlying hk,Instr.findKey,h3,Result.andThen,h5]
theorem run_met {w:World} {b:Nat} {out:List ByteArray} (hm:StrMap w b (mapOf out)) (s:ByteArray) :
  (Instr.lookup 164 (.map (some b)) (.string s) false).run Tryz.prog w = .ok (.bool (Lib.containsS out s)) w:=by
 have:=run_lookup_one (P:=Tryz.prog) (z:=.bool false) Tryz.underlying164 Tryz.underlying9 (by kernel_rfl) hm (bs s)
 rw [S_bs,found_map] at this
 rw [this]
 cases Lib.containsS out s <;> rfl
theorem run_meet {w:World} {b:Nat} {out:List ByteArray} (hm:StrMap w b (mapOf out)) (s:ByteArray) (hs:Lib.containsS out s=false) :
  ∃ w',(Instr.mapUpdate 164 (.map (some b)) (.string s) (.bool true)).run Tryz.prog w = .ok () w'∧StrMap w' b (mapOf (out++[s]))∧w'.heap.size=w.heap.size∧(∀ B,B≤b→Below B w w')∧∀ j,j≠b→w'.heap[j]?=w.heap[j]?:=by
 obtain ⟨w',h1,h2,h3,h4,h5,h6,h7⟩:=run_insert_str (P:=Tryz.prog) Tryz.underlying164 Tryz.underlying9 hm (bs s) (.bool true) (by rw [found_map,if_neg (by rw [hs];decide)])
 refine ⟨w',h1,?_,h3,fun B hB=>⟨h4,h5,h6,Nat.le_of_eq h3.symm,fun j hj=>h7 j (by omega)⟩,h7⟩
 unfold mapOf at h2 ⊢
 rw [List.map_append]
 exact h2
structure JFc (L1 T:Nat) (w1:World) (out:List ByteArray) (W:World):Prop where
 b:Below L1 w1 W
 z:T+1+1 < W.heap.size
 d:W.heap[T+1]?=some (.deferred (some []))
 m:StrMap W (L1+1) (mapOf out)
 v:W.heap[L1+1+1]?=some (.cells #[.map (some (L1+1))] 164 (0,0))
 c:∃ vl,W.heap[L1]?=some (.cells #[vl] 45 (0,0))∧RowS (T+1+1+1) W vl out
def Oo (L1:Nat) (W:World) (b:Nat):Prop:=b=L1∨∃ v,W.cell? ⟨L1,0,none⟩=some v∧v.ownBlock=some b
theorem JFc.keep {L1 T:Nat} {w1 W W':World} {out:List ByteArray} (j:JFc L1 T w1 out W) (hT:L1+1+1+1=T) (hb:Below L1 w1 W') (hz:W.heap.size≤W'.heap.size)
  (hk:∀ b,b < W.heap.size→b≠T+1+1→(b < T+1+1∨Oo L1 W b)→W'.heap[b]?=W.heap[b]?):JFc L1 T w1 out W':=by
 have z:=j.z
 obtain ⟨vl,c1,c2⟩:=j.c
 refine ⟨hb,by omega,(hk _ (by omega) (by omega) (.inl (by omega))).trans j.d,j.m.keep (hk _ (by omega) (by omega) (.inl (by omega))),(hk _ (by omega) (by omega) (.inl (by omega))).trans j.v,vl,(hk _ (by omega) (by omega) (.inl (by omega))).trans c1,row_keep c2 fun g e=>?_⟩
 have:=World.ownsRow.lt c2 g e
 exact hk g this.2 (by omega) (.inr (.inr ⟨vl,cell_of_row _ _ _ _ _ _ c1,e⟩))
theorem JFc.own {L1 T:Nat} {w1 W:World} {out:List ByteArray} (j:JFc L1 T w1 out W) {b:Nat} (h:Oo L1 W b):b=L1∨(T+1+1+1≤b∧b < W.heap.size):=by
 rcases h with h | ⟨v,h1,h2⟩
 ·exact .inl h
 ·obtain ⟨vl,c1,c2⟩:=j.c
  rw [cell_of_row _ _ _ _ _ _ c1] at h1
  cases h1
  exact .inr (World.ownsRow.lt c2 b h2)
theorem JFc.add {L1 T:Nat} {w1 w6 w8:World} {out:List ByteArray} {s:ByteArray} {vl v':Value} (hT:L1+1+1+1=T) (hb:Below L1 w1 w8) (z:T+1+1 < w6.heap.size) (hz:w6.heap.size≤w8.heap.size) (d:w6.heap[T+1]?=some (.deferred (some [])))
  (m:StrMap w6 (L1+1) (mapOf (out++[s]))) (v:w6.heap[L1+1+1]?=some (.cells #[.map (some (L1+1))] 164 (0,0)))
  (c:w6.heap[L1]?=some (.cells #[vl] 45 (0,0))) (ho:∀ g,vl.ownBlock=some g→T+1+1+1≤g) (hk:∀ b,b < w6.heap.size→vl.ownBlock≠some b→w8.heap[b]?=w6.heap[b]?) (r:RowS (T+1+1+1) w8 v' (out++[s])) :
  JFc L1 T w1 (out++[s]) (w8.setCell ⟨L1,0,none⟩ v'):=by
 have far:∀ b,b≠L1→(w8.setCell ⟨L1,0,none⟩ v').heap[b]?=w8.heap[b]?:=fun b hb=>Below.heap_setCell _ _ _ _ (by simp only;exact hb)
 have lo:∀ b,b < T+1+1+1→w8.heap[b]?=w6.heap[b]?:=fun b hb=>hk b (by omega) (fun e=>by have:=ho b e;omega)
 refine ⟨hb.setCell (p:=⟨L1,0,none⟩) (Nat.le_refl _) _,by rw [setCell_size];omega,(far _ (by omega)).trans ((lo _ (by omega)).trans d),m.keep ((far _ (by omega)).trans (lo _ (by omega))),(far _ (by omega)).trans ((lo _ (by omega)).trans v),v',heap_setCell_same _ _ 0 _ _ _ ((lo _ (by omega)).trans c),row_keep r fun g e=>far g (by have:=World.ownsRow.lt r g e;omega)⟩
theorem JFc.putLoop {L1 T:Nat} {w1 W:World} {out:List ByteArray} (j:JFc L1 T w1 out W) (hT:L1+1+1+1=T) (rl:Loop):JFc L1 T w1 out (W.putObj (T+1+1) (.loop rl)) :=
 j.keep hT (below_put j.b _ _ (by omega)) (by rw [World.putObj_size];exact Nat.le_refl _) (fun b _ h2 _=>World.putObj_heap_other h2)
theorem Kc.putLoop {L1 T:Nat} {A W:World} {r:Loop} (k:Kc (Oo L1) A W) (hT:L1+1+1+1=T) (hl:A.heap[T+1+1]?=some (.loop r)) (rl:Loop):Kc (Oo L1) A (W.putObj (T+1+1) (.loop rl)):=by
 refine ⟨by rw [World.putObj_size];exact k.1,fun b c t z h1 e=>(World.putObj_heap_other (by rintro rfl;rw [hl] at e;cases e)).trans (k.2.1 b c t z h1 e),fun b hb=>k.2.2 b ?_⟩
 rcases hb with h | ⟨v,h1,h2⟩
 ·exact .inl h
 ·exact .inr ⟨v,(World.cell?_of_block (w:=W) (World.putObj_heap_other (by simp only;omega))).symm.trans h1,h2⟩
theorem Kc.same {L1 T:Nat} {A W:World} {r:Loop} (hT:L1+1+1+1=T) (hz:A.heap.size≤W.heap.size) (hl:A.heap[T+1+1]?=some (.loop r)) (hk:∀ b,b < A.heap.size→b≠T+1+1→W.heap[b]?=A.heap[b]?):Kc (Oo L1) A W:=by
 have:=heap_lt hl
 refine ⟨hz,fun b c t z h1 e=>(hk b (heap_lt e) (by rintro rfl;rw [hl] at e;cases e)).trans e,fun b hb=>.inl ?_⟩
 rcases hb with h | ⟨v,h1,h2⟩
 ·exact .inl h
 ·exact .inr ⟨v,(World.cell?_of_block (w:=A) (hk L1 (by omega) (by omega))).symm.trans h1,h2⟩
theorem Kc.added {L1 T:Nat} {A W:World} {r:Loop} {vl v':Value} {L:List (List UInt8×Value)} (hz:A.heap.size≤W.heap.size) (hl:A.heap[T+1+1]?=some (.loop r)) (hm:StrMap A (L1+1) L)
  (hc:A.heap[L1]?=some (.cells #[vl] 45 (0,0))) (hc':W.heap[L1]?=some (.cells #[v'] 45 (0,0))) (hv:∀ g,v'.ownBlock=some g→vl.ownBlock=some g∨A.heap.size≤g)
  (hk:∀ b,b < A.heap.size→b≠T+1+1→b≠L1+1→b≠L1→vl.ownBlock≠some b→W.heap[b]?=A.heap[b]?):Kc (Oo L1) A W:=by
 have hcl:A.cell? ⟨L1,0,none⟩=some vl:=cell_of_row _ _ _ _ _ _ hc
 refine ⟨hz,fun b c t z h1 e=>(hk b (heap_lt e) (by rintro rfl;rw [hl] at e;cases e) (by rintro rfl;obtain ⟨es,cl,h2,_⟩:=hm;rw [h2] at e;cases e) (fun e2=>h1 (.inl e2)) (fun e2=>h1 (.inr ⟨vl,hcl,e2⟩))).trans e,fun b hb=>?_⟩
 rcases hb with h | ⟨v,h1,h2⟩
 ·exact .inl (.inl h)
 ·rw [cell_of_row _ _ _ _ _ _ hc'] at h1
  cases h1
  exact (hv b h2).imp (fun e=>.inr ⟨vl,hcl,e⟩) id
theorem app_same {w6 w7 w8:World} {vl:Value} {o:Obj} (hb7:Below w6.drew.heap.size w6.drew w7) (g:(w7.alloc o).grownBy w8 vl.ownBlock) :
  (∀ b,b < w6.heap.size→vl.ownBlock≠some b→w8.heap[b]?=w6.heap[b]?)∧w6.heap.size≤w8.heap.size∧(∀ B,B≤w6.heap.size→(∀ k,vl.ownBlock=some k→B≤k)→Below B w6 w8):=by
 have hz:w6.heap.size≤w7.heap.size:=hb7.size
 have hz2:(w7.alloc o).heap.size≤w8.heap.size:=g.size
 rw [World.size_alloc] at hz2
 refine ⟨fun b hb hne=>?_,by omega,fun B hB hk=>?_⟩
 ·exact (g.block b (by rw [World.size_alloc];omega) (fun e=>hne e.symm)).trans ((Below.heap_alloc _ _ _ (by omega)).trans (hb7.block b hb))
 ·exact (((Below.refl B w6).drew.trans (hb7.mono (show B≤w6.drew.heap.size from hB))).alloc (by omega) _).grown g (by rw [World.size_alloc];omega) hk
theorem stepIn_append {F:Fence} {n:Nat} {P:Program} {ops:Array Oper} {o:Oper} {a:Act} {w w':World} {K:Act→World→Prop} {Q:Exit→Act→World→Prop} {E:Prop} {r v u:Value} (hgd:o.guard=none) (s x:Operand) (t:TypeId)
  (ho:o.op = .call { callee:=.builtin .append,args:=#[s,x],argTypes:=#[t,t] }) (hs:a.eval s=v) (hx:a.eval x=u) (hrun:(Builtin.append_ #[t,t] o.type #[v,u]).run P w = .ok r w') (h:K (a.put o.dst r) w') :
  if Region.wanted o (yielded ops a.tmps)=true then Oper.wpIn F n P o a w K Q else E:=by
 have hw:Region.wanted o (yielded ops a.tmps)=true:=by simp [Region.wanted,hgd]
 rw [if_pos hw]
 unfold Oper.wpIn
 refine ⟨?_,?_⟩
 ·simp [Oper.about,ho,resolve,Target.leads,Sem.run_pure]
 ·rw [Oper.semAt_plain F _ _ (by rw [ho];intro c hc';cases hc')]
  simp [execOp,ho,resolve,invoke,builtin,hs,hx,hrun,Result.andThen]
  exact h
end Go.Proofs.YtgjijidlaghlmaaGreatDoor
namespace Go.Proofs.YtgjijidlaghlmaaGreatDoor
open Go.RowKit Go.Shelf
attribute [local go_sem] Oper.semAt_some
set_option maxRecDepth 100000 in
set_option maxHeartbeats 2000000 in
theorem occurring_ok (t:Nd) (kind:Int) (w:World) (v0 v1 v2:Value) (ht:NdR w t v0 v1 v2) (hv:chkN t=0) (hsm:smN t) (hsz:t.sz≤4000) :
  Calls Tryz.prog 95 #[.agg #[v0,v1,v2],.int .i64 kind] w fun e w'=>∃ v,e = .returned (.tuple #[v,.int .i64 0])∧RowS w.heap.size w' v (occs kind (preN 0 [] false t))∧Below w.heap.size w w':=by
 obtain ⟨k,s,kids,a,cap,rfl,rfl,rfl,rfl,hs,hl⟩:=ht.form
 have eg:∀ args w,(callFunc 162 args).run Tryz.prog w = .ok (.enter 162 args) w:=enters_of Tryz.func162 (by kernel_rfl) rfl
 have hmm:=@run_makeMap Tryz.prog
 obtain ⟨W0,hW0⟩:∃ W0,(w.alloc (.cells #[.int .i64 k,.string s,.slice a kids.length cap] 25)).alloc (.cells #[.int .i64 kind] 3)=W0:=⟨_,rfl⟩
 obtain ⟨h,hh⟩:∃ h,w.heap.size=h:=⟨_,rfl⟩
 have b0:Below h w W0:=by rw [←hW0,←hh];exact ((Below.refl _ w).alloc (Nat.le_refl _) _).alloc (by simp) _
 have r0:Row3 W0 h (.int .i64 k) (.string s) (.slice a kids.length cap):=by rw [←hW0,←hh];exact (Below.heap_alloc _ _ _ (by simp only [World.size_alloc];omega)).trans (World.alloc_heap_new _ _)
 have k0:W0.heap[h+1]?=some (.cells #[.int .i64 kind] 3 (0,0)):=by rw [←hW0,←hh];exact alloc_at (by simp)
 have z0:W0.heap.size=h+1+1:=by rw [←hW0];simp [hh]
 have t0:NdR W0 (.mk k s kids) (.int .i64 k) (.string s) (.slice a kids.length cap):=ht.later (by rw [hh];exact b0)
 have CC:=qh (check_tree _ W0 _ _ _ t0)
 rw [hv] at CC
 refine (callsIn_wide (n:=6)).1 ?_
 refine callsIn_of_wpAt Tryz.func95 rfl ?_
 simp only [Tryz.ntmps95,List.size_toArray,List.length_cons,List.length_nil,Nat.reduceAdd,Nat.reduceSub,Array.replicate_succ,Array.replicate_zero,List.push_toArray,List.append_toArray,List.nil_append,List.cons_append]
 refine wpAt_seq (wpAt_of_wpIn ?_)
 gi_wp2
 (try rw [hW0])
 (try rw [hh])
 clear hW0
 obtain ⟨⟨n0,n1,n2⟩,_⟩:=r0.cells
 refine wpAt_seq (wpAt_of_wpIn ?_)
 gi_wp2_with fail
 refine ⟨trivial,((callsIn_wide (n:=5)).2 CC.out).mono ?_⟩
 rintro e w1 ⟨rfl,hb1⟩
 have r1:Row3 w1 h (.int .i64 k) (.string s) (.slice a kids.length cap):=(hb1.block _ r0.lt).trans r0
 have k1:w1.heap[h+1]?=some (.cells #[.int .i64 kind] 3 (0,0)):=(hb1.block _ (by omega)).trans k0
 have B1:Below h w w1:=b0.trans (hb1.mono (by omega))
 have z1:h+1+1≤w1.heap.size:=by have:=hb1.size;omega
 have t1:=qh (t0.later hb1)
 clear n0 n1 n2 hb1 CC t0 k0 r0 b0
 gi_wp2
 refine wpAt_seq (wpAt_of_wpIn ?_)
 gi_wp2
 refine wpAt_seq (wpAt_of_wpIn ?_)
 gi_wp2
 obtain ⟨L1,hL1⟩:∃ L1,w1.heap.size=L1:=⟨_,rfl⟩
 obtain ⟨W3,hW3⟩:∃ W3,((w1.alloc (.cells #[.slice none 0 0] 45)).alloc (.map #[] 0)).alloc (.cells #[.map (some (L1+1))] 164)=W3:=⟨_,rfl⟩
 have z3:W3.heap.size=L1+1+1+1:=by rw [←hW3];simp [hL1]
 have o3:∀ b,b < L1→W3.heap[b]?=w1.heap[b]?:=fun b hb=>by
  rw [←hW3]
  exact (Below.heap_alloc _ _ _ (by simp only [World.size_alloc];omega)).trans ((Below.heap_alloc _ _ _ (by simp only [World.size_alloc];omega)).trans (Below.heap_alloc _ _ _ (by omega)))
 have B3:Below L1 w1 W3:=by
  rw [←hW3]
  exact (((Below.refl _ w1).alloc (by omega) _).alloc (by simp only [World.size_alloc];omega) _).alloc (by simp only [World.size_alloc];omega) _
 have l3:W3.heap[L1]?=some (.cells #[.slice none 0 0] 45 (0,0)):=by
  rw [←hW3,←hL1]
  exact (Below.heap_alloc _ _ _ (by simp only [World.size_alloc];omega)).trans ((Below.heap_alloc _ _ _ (by simp only [World.size_alloc];omega)).trans (World.alloc_heap_new _ _))
 have m3:StrMap W3 (L1+1) (mapOf []):=⟨#[],0,by
  rw [←hW3,←hL1]
  exact (Below.heap_alloc _ _ _ (by simp only [World.size_alloc];omega)).trans (alloc_at (by simp)),by simp [mapOf]⟩
 have v3:W3.heap[L1+1+1]?=some (.cells #[.map (some (L1+1))] 164 (0,0)):=by
  rw [←hW3,←hL1];exact alloc_at (by simp)
 rw [hL1] at z1
 have r3:Row3 W3 h (.int .i64 k) (.string s) (.slice a kids.length cap):=(o3 _ (by omega)).trans r1
 have k3:W3.heap[h+1]?=some (.cells #[.int .i64 kind] 3 (0,0)):=(o3 _ (by omega)).trans k1
 have t3:NdR W3 (.mk k s kids) (.int .i64 k) (.string s) (.slice a kids.length cap):=t1.out.later (by rw [hL1];exact B3)
 (try rw [hL1])
 (try rw [hW3])
 clear hW3 r1
 obtain ⟨⟨n0,n1,n2⟩,_⟩:=r3.cells
 refine wpAt_seq (wpAt_seq (wpAt_of_wpIn ?_))
 gi_wp2_with fail
 refine ⟨trivial,((callsIn_wide (n:=5)).2 (walk_any k s a kids.length cap _)).mono ?_⟩
 rintro e w2 ⟨rfl,rfl⟩
 gi_wp2
 obtain ⟨T,hT⟩:∃ T,L1+1+1+1=T:=⟨_,rfl⟩
 rw [hT] at z3
 (try rw [z3])
 (try rw [hT])
 clear n0 n1 n2
 refine wpAt_block (wpAt_rangeFunc_fn (gf:=162) (lb:=#[.pointer (some ⟨T,0,none⟩)]) rfl eg ?_)
 intro r hr
 have hr1:r.state = .ready:=by rw [hr]
 have hr2:r.pending=none:=by rw [hr]
 have hr3:r.params=#[19,20]:=by rw [hr]
 obtain ⟨W4,hW4⟩:∃ W4,W3.alloc (.cells #[.int .i64 k,.string s,.slice a kids.length cap] 25)=W4:=⟨_,rfl⟩
 have z4:W4.heap.size=T+1:=by rw [←hW4,World.size_alloc,z3]
 have b4:Row3 W4 T (.int .i64 k) (.string s) (.slice a kids.length cap):=by rw [←hW4];exact alloc_at (by omega)
 have o4:∀ b,b < T→W4.heap[b]?=W3.heap[b]?:=fun b hb=>by rw [←hW4];exact Below.heap_alloc _ _ _ (by omega)
 have B4:Below L1 w1 W4:=by rw [←hW4];exact B3.alloc (by omega) _
 rw [hW4]
 clear hW4
 obtain ⟨W1,hW1⟩:∃ W1,(W4.alloc (.deferred (some []))).alloc (.loop r)=W1:=⟨_,rfl⟩
 have old:∀ b,b < T+1→W1.heap[b]?=W4.heap[b]?:=fun b hb=>by rw [←hW1];exact (Below.heap_alloc _ _ _ (by simp only [World.size_alloc];omega)).trans (Below.heap_alloc _ _ _ (by omega))
 have zW1:W1.heap.size=T+1+1+1:=by rw [←hW1];simp [z4]
 have hd1:W1.heap[T+1]?=some (.deferred (some [])):=by rw [←hW1];exact (Below.heap_alloc _ _ _ (by simp only [World.size_alloc];omega)).trans (alloc_at (by omega))
 have hl1:W1.heap[T+1+1]?=some (.loop r):=by rw [←hW1];exact alloc_at (by simp only [World.size_alloc];omega)
 have hB1:Below L1 w1 W1:=by rw [←hW1];exact (B4.alloc (by omega) _).alloc (by simp only [World.size_alloc];omega) _
 have j0:JFc L1 T w1 (occs kind []) W1:=⟨hB1,by omega,hd1,m3.keep ((old _ (by omega)).trans (o4 _ (by omega))),((old _ (by omega)).trans (o4 _ (by omega))).trans v3,_,((old _ (by omega)).trans (o4 _ (by omega))).trans l3,World.ownsRow_nil _ _ _ _⟩
 have hsup:Sup w1 W1:=fun b c t z e=>(hB1.block b (by rw [←hL1];exact heap_lt e)).trans e
 have K1:=qh k1
 have hcall:CallsIn Fence.wide 5 Tryz.prog 162 #[.func (.yield (T+1+1)) #[] #[],.pointer (some ⟨T,0,none⟩)] W1
   (fun e w'=>(∃ v,e = .returned v)∧JFc L1 T w1 (occs kind (preN 0 [] false (.mk k s kids))) w'∧w'.heap[T+1+1]?=some (.loop r)):=by
  refine (callsIn_wide (n:=5)).2 ?_
  refine (walkI_any (Oo L1) (T+1+1) T w1 W1 (fun pre W=>pre.length≤4000∧JFc L1 T w1 (occs kind pre) W∧W.heap[T+1+1]?=some (.loop r)) (fun _ _=>False) k s kids a cap
   (fun pre W hj=>by have:=hj.1;omega) (fun pre A B hj hb hk=>⟨hj.1,hj.2.1.keep hT (hj.2.1.b.trans (hb.mono (by omega))) hb.size (fun b _ _ h3=>h3.elim (fun h=>hb.block b (by omega)) (fun h=>hk b h)),(hb.block _ (by omega)).trans hj.2.2⟩)
   (fun A B hb b h=>h.imp id (fun ⟨v,h1,h2⟩=>⟨v,(hb.cell (p:=⟨L1,0,none⟩) (by simp only;omega)).symm.trans h1,h2⟩)) (fun pre A hj b hb=>by have:=hj.2.1.z;rcases hj.2.1.own hb with h | h <;> omega)
   ?_ t1.out ((old T (by omega)).trans b4) hsup (by omega) (fun b hb=>by rcases j0.own hb with h | h <;> omega) ⟨by simp,j0,hl1⟩).mono ?_
  ·intro m pre it A vp vi u0 u1 u2 n₁ ps hn1 hj hall hpd hg
   obtain ⟨hjl,hjm,hjr⟩:=hj
   obtain ⟨hgd,hgp,hgi,hgt⟩:=hg
   have hlen:(pre++[it]).length≤4000:=by have:=hall.length_le;rw [preN_len] at this;omega
   have hsz1:it.t.s'.size≤64:=sm_pre 0 [] false _ hsm it (hall.subset (by simp))
   obtain ⟨ap,cp,rfl⟩:=row_shape hgp
   obtain ⟨ai,ci,hvi⟩:=row_shape hgi
   subst hvi
   rw [List.length_map] at hgi
   obtain ⟨k1,s1,l1,a1,c1,ht1,rfl,rfl,rfl,_,_⟩:=hgt.form
   have hil:it.ins.length≤90000:=by have:=ins_pre 0 [] false _ it (hall.subset (by simp));simp only [List.length_nil] at this;omega
   obtain ⟨V,hV⟩:∃ V,((k1==15 || k1==16) && (!it.wd && !Lib.containsS it.ins s1))=V:=⟨_,rfl⟩
   have hos:=(occs_snoc kind pre it).trans (occ_at ht1 hV kind _)
   rw [ht1] at hsz1
   simp only [Nd.s'] at hsz1
   obtain ⟨out,hout⟩:∃ out,occs kind pre=out:=⟨_,rfl⟩
   have hol:out.length≤4000:=by rw [←hout];have:=occs_len kind pre;omega
   rw [hout] at hjm hos
   obtain ⟨out',hout'⟩:∃ out',occs kind (pre++[it])=out':=⟨_,rfl⟩
   rw [hout'] at hos
   obtain ⟨R,hR⟩:∃ R:Ending→World→Prop,(fun e W'=>(e = .returned (.bool true)∧((pre++[it]).length≤4000∧JFc L1 T w1 (occs kind (pre++[it])) W'∧W'.heap[T+1+1]?=some (.loop r))∧Kc (Oo L1) A W')∨(e = .returned (.bool false)∧False∧Kc (Oo L1) A W'))=R:=⟨_,rfl⟩
   rw [hR]
   have HR:Hid (∀ W',JFc L1 T w1 out' W'→W'.heap[T+1+1]?=some (.loop r)→Kc (Oo L1) A W'→R (.returned (.bool true)) W'):=qh (fun W' j1 j2 j3=>by rw [←hR];exact .inl ⟨rfl,⟨hlen,by rw [hout'];exact j1,j2⟩,j3⟩)
   clear hR hout hout' hlen hall hjl
   refine ⟨_,_,_,_,run_yield (P:=Tryz.prog) hjr (by rw [hr3];rfl),?_⟩
   have hr4:r.fn=95:=by rw [hr]
   rw [hr4]
   refine roundIn_of_wpIn_p trivial Tryz.func95 ?_
   have hrs:=hr1
   have HJ:=qh hjm
   have HJR:=qh hjr
   have HRR:=qh hr
   have HOS:=qh hos
   have HGI:=qh hgi
   have hVH:=qh hV
   have HIL:=qh hil
   simp only [hr]
   clear hgp hgi hgt hjm hjr hr hr1 hr2 hr3 hr4 hos hV hil
   gi_wp2
   refine ⟨_,run_beginRound (r:=r) ((Below.heap_alloc _ _ _ (by have:=heap_lt HJR.out;simp only [World.size_alloc];omega)).trans ((Below.heap_alloc _ _ _ (heap_lt HJR.out)).trans HJR.out)) hrs,?_⟩
   obtain ⟨N,hN⟩:∃ N,A.heap.size=N:=⟨_,rfl⟩
   obtain ⟨W2,hW2⟩:∃ W2,((A.alloc (.cells #[.slice ap ps.length cp,.slice ai it.ins.length ci,.bool it.wd] 108)).alloc (.cells #[.int .i64 k1,.string s1,.slice a1 l1.length c1] 25)).putObj (T+1+1) (.loop { r with state:=.busy })=W2:=⟨_,rfl⟩
   have hTN:T+1+1 < N:=by have:=HJ.out.z;omega
   have ko:∀ b,b < N→b≠T+1+1→W2.heap[b]?=A.heap[b]?:=fun b hb1 hb2=>by
    rw [←hW2];exact (World.putObj_heap_other hb2).trans ((Below.heap_alloc _ _ _ (by simp only [World.size_alloc];omega)).trans (Below.heap_alloc _ _ _ (by omega)))
   have mz:W2.heap.size=N+1+1:=by rw [←hW2,World.putObj_size,World.size_alloc,World.size_alloc,hN]
   have m5:W2.heap[T+1+1]?=some (.loop { r with state:=.busy }):=by rw [←hW2];exact World.putObj_heap_same (by simp only [World.size_alloc];omega)
   have mt:RowP W2 N (.slice ap ps.length cp) (.slice ai it.ins.length ci) (.bool it.wd):=by
    rw [←hW2,←hN];exact (World.putObj_heap_other (by omega)).trans ((Below.heap_alloc _ _ _ (by simp only [World.size_alloc];omega)).trans (World.alloc_heap_new _ _))
   have mx:Row3 W2 (N+1) (.int .i64 k1) (.string s1) (.slice a1 l1.length c1):=by
    rw [←hW2,←hN];exact (World.putObj_heap_other (by omega)).trans (alloc_at (by simp))
   have mb:Below L1 w1 W2:=by rw [←hW2];exact below_put ((HJ.out.b.alloc (by omega) _).alloc (by simp only [World.size_alloc];omega) _) _ _ (by omega)
   have mj:JFc L1 T w1 out W2:=HJ.out.keep hT mb (by omega) (fun b h1 h2 _=>ko b (by omega) h2)
   have mi:RowS n₁ W2 (.slice ai it.ins.length ci) it.ins:=row_keep HGI.out fun g e=>by have:=World.ownsRow.lt HGI.out g e;exact ko g (by omega) (by omega)
   rw [hW2,hN]
   obtain ⟨⟨p0,p1,p2⟩,_⟩:=mt.cells
   obtain ⟨⟨x0,x1,x2⟩,_⟩:=mx.cells
   have hkb:=(mb.block (h+1) (by omega)).trans K1.out
   have kc:W2.cell? ⟨h+1,0,none⟩=some (.int .i64 kind):=cell_of_row _ _ _ _ _ _ hkb
   have HM:=qh mj
   have HKO:=qh ko
   have HMZ:=qh mz
   have HM5:=qh m5
   have HMX:=qh mx
   have HN:=qh hN
   have CF:=qh (frees_any n₁ ap ai ps.length cp it.ins.length ci it.wd k1 s1 a1 l1.length c1 it.ins W2 mi HIL.out)
   rw [hVH.out] at CF
   obtain ⟨wd,hwd⟩:∃ wd,it.wd=wd:=⟨_,rfl⟩
   obtain ⟨NI,hni⟩:∃ NI,it.ins.length=NI:=⟨_,rfl⟩
   obtain ⟨NP,hnp⟩:∃ NP,ps.length=NP:=⟨_,rfl⟩
   rw [hwd,hni,hnp] at CF
   rw [hwd] at p2
   rw [hni] at p1
   rw [hnp] at p0
   have e0:({ ({ r with state:=.busy }:Loop) with state:=.ready,pending:=none }:Loop)=r:=by rw [HRR.out]
   have E0:=qh e0
   have FIN:Hid (∀ W',Below W2.heap.size W2 W'→out'=out→R (.returned (.bool true)) (W'.putObj (T+1+1) (.loop r))):=qh (fun W' hb he=>by
    have kk:∀ b,b < A.heap.size→b≠T+1+1→W'.heap[b]?=A.heap[b]?:=fun b h1 h2=>(hb.block b (by omega)).trans (ko b (by omega) h2)
    have jj:JFc L1 T w1 out W':=HJ.out.keep hT (mb.trans (hb.mono (by omega))) (by have:=hb.size;omega) (fun b h1 h2 _=>kk b h1 h2)
    refine HR.out _ ?_ (World.putObj_heap_same (by have:=hb.size;omega)) ((Kc.same hT (by have:=hb.size;omega) HJR.out kk).putLoop hT HJR.out r)
    rw [he]
    exact jj.putLoop hT r)
   have FINL:Hid (∀ W',Below W2.heap.size W2 W'→W'.heap[T+1+1]?=some (.loop { r with state:=.busy })):=qh (fun W' hb=>(hb.block _ (by omega)).trans m5)
   clear ko mz m5 mt mx mj mb mi hW2 hN hkb hwd hni hnp e0
   cases hkk:(k1==kind) with
   | false =>
    have HE:Hid (out'=out):=qh (by rw [HOS.out,hkk];simp)
    gi_wp2
    refine ⟨trivial,?_⟩
    gi_wp2
    refine ⟨_,_,run_endRound none (FINL.out _ (Below.refl _ _)),?_⟩
    simp only [Option.isNone_none,if_true]
    rw [E0.out]
    exact FIN.out _ (Below.refl _ _) HE.out
   | true =>
    gi_wp2_with fail
    refine ⟨trivial,fun e=>(by cases e),(CallsIn.inRound _ ((callsIn_wide (n:=m - 1)).2 CF.out)).mono ?_⟩
    rintro e w5 ⟨rfl,hb5⟩
    have HB5:=qh hb5
    clear hb5 CF p0 p1 p2
    cases V with
    | false =>
     have HE:Hid (out'=out):=qh (by rw [HOS.out,hkk];simp)
     gi_wp2
     refine ⟨_,_,run_endRound none (FINL.out _ HB5.out),?_⟩
     simp only [Option.isNone_none,if_true]
     rw [E0.out]
     exact FIN.out _ HB5.out HE.out
    | true =>
     have hzN:=HMZ.out
     have mj5:JFc L1 T w1 out w5:=HM.out.keep hT (HM.out.b.trans (HB5.out.mono (by have:=HM.out.z;omega))) HB5.out.size (fun b h1 _ _=>HB5.out.block b h1)
     have mx5:Row3 w5 (N+1) (.int .i64 k1) (.string s1) (.slice a1 l1.length c1):=(HB5.out.block _ HMX.out.lt).trans HMX.out
     have z5:=HB5.out.size
     obtain ⟨vl,cl5,rl5⟩:=mj5.c
     have v5:w5.cell? ⟨L1+1+1,0,none⟩=some (.map (some (L1+1))):=cell_of_row _ _ _ _ _ _ mj5.v
     obtain ⟨⟨y0,y1,y2⟩,_⟩:=mx5.cells
     have hlk:=run_met mj5.m s1
     obtain ⟨X,hX⟩:∃ X,Lib.containsS out s1=X:=⟨_,rfl⟩
     have HE:Hid (out'=if X=true then out else out++[s1]):=qh (by rw [HOS.out,hkk,hX];cases X <;> rfl)
     rw [hX] at hlk
     cases X with
     | true =>
      clear y0 y2 cl5 rl5 mj5 mx5 hX x0 x1 x2 hzN z5
      gi_wp2
      refine ⟨_,_,run_endRound none (FINL.out _ HB5.out),?_⟩
      simp only [Option.isNone_none,if_true]
      rw [E0.out]
      exact FIN.out _ HB5.out (by rw [HE.out];simp)
     | false =>
      obtain ⟨w6,hmu,m6,z6,b6,o6⟩:=run_meet mj5.m s1 hX
      have hne6:∀ b,b≠L1+1→w6.heap[b]?=w5.heap[b]?:=o6
      have cl6:=(o6 L1 (by omega)).trans cl5
      have mx6:Row3 w6 (N+1) (.int .i64 k1) (.string s1) (.slice a1 l1.length c1):=(o6 _ (by omega)).trans mx5
      have rl6:RowS (T+1+1+1) w6 vl out:=row_keep rl5 fun g e=>o6 g (by have:=World.ownsRow.lt rl5 g e;omega)
      have l6:w6.cell? ⟨L1,0,none⟩=some vl:=cell_of_row _ _ _ _ _ _ cl6
      have n6:w6.cell? ⟨N+1,1,none⟩=some (.string s1):=mx6.cells.1.2.1
      have hown6:∀ g,vl.ownBlock=some g→T+1+1+1≤g∧g < w6.heap.size:=World.ownsRow.lt rl6
      have D6:=qh ((o6 (T+1) (by omega)).trans mj5.d)
      have V6:=qh ((o6 (L1+1+1) (by omega)).trans mj5.v)
      have M6:=qh m6
      have CL6:=qh cl6
      have RL6:=qh rl6
      have B6:=qh (mj5.b.trans (b6 L1 (by omega)))
      have O6:=qh hne6
      have Z6:Hid (T+1+1 < w6.heap.size∧N+1+1≤w6.heap.size):=qh (by have:=mj5.z;omega)
      have F6:=qh (show w6.frozen? ⟨L1,0,none⟩=false from frozen_of_row _ _ _ _ _ cl6)
      have CC6:=qh (clone_any s1 w6.drew (by omega))
      obtain ⟨iS,hS,hSz,hSs,hSb⟩:=info_parts infoStr
      clear y0 y2 cl5 rl5 mj5 mx5 hX x0 x1 x2 hzN z5 m6 z6 b6 o6 hne6 cl6 mx6 rl6
      gi_wp2_with fail
      have LEAF:∀ (g8 cap8:Nat) (w8:World),((∀ b,b < w6.heap.size→vl.ownBlock≠some b→w8.heap[b]?=w6.heap[b]?)∧w6.heap.size≤w8.heap.size∧(∀ B,B≤w6.heap.size→(∀ k,vl.ownBlock=some k→B≤k)→Below B w6 w8)) →
        RowS (T+1+1+1) w8 (.slice (some ⟨g8,0,none⟩) (out++[s1]).length cap8) (out++[s1])→(∀ g',(Value.slice (some ⟨g8,0,none⟩) (out++[s1]).length cap8).ownBlock=some g'→vl.ownBlock=some g'∨w6.heap.size≤g') →
        ∃ v w',(Instr.endRound (T+1+1) none).run Tryz.prog (w8.setCell ⟨L1,0,none⟩ (.slice (some ⟨g8,0,none⟩) (out.length+1) cap8)) = .ok v w'∧R (.returned v) w':=by
       intro g8 cap8 w8 ⟨hk8,hz8,hb8⟩ q8 ho8
       have e9:out.length+1=(out++[s1]).length:=by simp
       rw [e9]
       clear e9
       have hz6:=Z6.out
       have hNN:=HN.out
       have hzM:=HMZ.out
       obtain ⟨v',hv'⟩:∃ v',Value.slice (some ⟨g8,0,none⟩) (out++[s1]).length cap8=v':=⟨_,rfl⟩
       rw [hv'] at q8 ho8 ⊢
       have far:∀ b,b≠L1→(w8.setCell ⟨L1,0,none⟩ v').heap[b]?=w8.heap[b]?:=fun b hb=>Below.heap_setCell _ _ _ _ (by simp only;exact hb)
       have c6A:∀ b,b < N→b≠T+1+1→b≠L1+1→w6.heap[b]?=A.heap[b]?:=fun b h1 h2 h3=>(O6.out b h3).trans ((HB5.out.block b (by omega)).trans (HKO.out b h1 h2))
       have hlow:∀ g,vl.ownBlock=some g→T+1+1+1≤g:=fun g e=>(hown6 g e).1
       have hzJ:=HJ.out.z
       have hloop:(w8.setCell ⟨L1,0,none⟩ v').heap[T+1+1]?=some (.loop { r with state:=.busy }) :=
        (far _ (by omega)).trans ((hk8 _ (by omega) (fun e=>by have:=hlow _ e;omega)).trans ((O6.out _ (by omega)).trans (FINL.out _ HB5.out)))
       refine ⟨_,_,run_endRound none hloop,?_⟩
       simp only [Option.isNone_none,if_true]
       rw [E0.out]
       have jadd:JFc L1 T w1 (out++[s1]) (w8.setCell ⟨L1,0,none⟩ v'):=JFc.add hT (B6.out.trans (hb8 L1 (by omega) (fun k e=>by have:=hlow k e;omega))) hz6.1 hz8 D6.out M6.out V6.out CL6.out hlow hk8 q8
       have hcA:A.heap[L1]?=some (.cells #[vl] 45 (0,0)):=(c6A L1 (by omega) (by omega) (by omega)).symm.trans CL6.out
       have hc9:(w8.setCell ⟨L1,0,none⟩ v').heap[L1]?=some (.cells #[v'] 45 (0,0)):=heap_setCell_same _ _ 0 _ _ _ ((hk8 L1 (by omega) (fun e=>by have:=hlow _ e;omega)).trans CL6.out)
       have kc:Kc (Oo L1) A (w8.setCell ⟨L1,0,none⟩ v'):=Kc.added (by rw [setCell_size];omega) HJR.out HJ.out.m hcA hc9 (fun g e=>(ho8 g e).imp id (fun h=>by omega))
        (fun b h1 h2 h3 h4 h5=>(far b h4).trans ((hk8 b (by omega) h5).trans (c6A b (by omega) h2 h3)))
       refine HR.out _ ?_ (World.putObj_heap_same (by rw [setCell_size];omega)) (kc.putLoop hT HJR.out r)
       have e':out'=out++[s1]:=by rw [HE.out];simp
       rw [e']
       exact jadd.putLoop hT r
      refine wpIn_region_any (by kernel_rfl) ?_
      change wpAnyIn _ _ _ _ _ _ _ _ _ (World.drew _)
      refine wpAnyIn_ready (rs:=[0,1]) (by kernel_rfl) (by simp) ?_
      refine AllReadyIn.cons rfl (fun K hK=>?_) ?_
      ·skip
       go_simp
       refine hK _ _ ?_
       clear hK K
       refine wpAnyIn_ready (rs:=[1]) (by kernel_rfl) (by simp) ?_
       refine AllReadyIn.cons rfl (fun K hK=>?_) ?_
       ·skip
        go_simp
        refine hK _ _ ?_
        clear hK K
        refine wpAnyIn_ready (rs:=[2]) (by kernel_rfl) (by simp) ?_
        refine AllReadyIn.cons rfl (fun K hK=>?_) ?_
        ·skip
         go_simp
         refine hK _ _ ?_
         clear hK K
         refine wpAnyIn_ready (rs:=[3]) (by kernel_rfl) (by simp) ?_
         refine AllReadyIn.cons rfl (fun K hK=>?_) ?_
         ·skip
          go_simp
          refine ⟨trivial,fun e=>(by cases e),?_⟩
          refine (CallsIn.inRound _ ((callsIn_wide (n:=m - 1)).2 CC6.out)).mono ?_
          rintro e w7 ⟨rfl,hb7⟩
          have hz7:w6.heap.size≤w7.heap.size:=hb7.size
          have hL7:L1 < w7.heap.size:=(by have:=Z6.out;omega)
          have l7:w7.cell? ⟨L1,0,none⟩=some vl:=(hb7.cell (p:=⟨L1,0,none⟩) (show L1 < w6.heap.size by have:=Z6.out;omega)).trans l6
          have l7a:=(fun o=>(World.cell?_alloc_past (w:=w7) o L1 0 hL7).trans l7)
          have r7:RowS (T+1+1+1) (w7.alloc (.cells #[.string s1] 9)) vl out:=row_keep RL6.out (fun g e=>(Below.heap_alloc _ _ _ (by have:=hown6 g e;omega)).trans (hb7.block g (hown6 g e).2))
          obtain ⟨g8,cap8,w8,hap,q8,p8,gr8,hg8⟩:=run_append_two (P:=Tryz.prog) (w7.alloc (.cells #[.string s1] 9)) 45 45 (T+1+1+1) 9 iS _ 16 Tryz.underlying45 hS hSz hSs hSb rfl vl (out.map Value.string) r7 ⟨w7.heap.size,0,none⟩ 1 (.string s1) (cells1 w7 _ _ _ rfl) rfl (by rw [List.length_map];unfold maxLen;omega) (by rw [List.length_map];omega) (by rw [World.size_alloc];have:=Z6.out;omega)
          have A8:=qh (app_same hb7 gr8)
          have f8:w8.frozen? ⟨L1,0,none⟩=false:=frozen_of_row _ _ _ _ _ ((A8.out.1 L1 (by have:=Z6.out;omega) (fun e=>by have:=hown6 L1 e;omega)).trans CL6.out)
          have c8:w8.cell? ⟨L1,0,none⟩=some vl:=cell_of_row _ _ _ _ _ _ ((A8.out.1 L1 (by have:=Z6.out;omega) (fun e=>by have:=hown6 L1 e;omega)).trans CL6.out)
          have Q8:=qh (rowS_snoc q8)
          have HG8:=qh (own_or (n:=(out++[s1]).length) (cap:=cap8) hg8 (by rw [World.size_alloc];exact Nat.le_succ_of_le hz7))
          rw [List.length_map] at hap
          have HAP:=qh hap
          clear q8 p8 gr8 hg8 r7 hb7 hap
          go_simp
          refine hK _ _ ?_
          clear hK K
          refine wpAnyIn_ready (rs:=[4]) (by kernel_rfl) (by simp) ?_
          refine AllReadyIn.cons rfl (fun K hK=>?_) ?_
          ·skip
           go_simp
           refine hK _ _ ?_
           clear hK K
           refine wpAnyIn_ready (rs:=[5]) (by kernel_rfl) (by simp) ?_
           refine AllReadyIn.cons rfl (fun K hK=>?_) ?_
           ·skip
            refine stepIn_append rfl _ _ 45 rfl rfl rfl HAP.out ?_
            refine hK _ _ ?_
            clear hK K
            refine wpAnyIn_ready (rs:=[6]) (by kernel_rfl) (by simp) ?_
            refine AllReadyIn.cons rfl (fun K hK=>?_) ?_
            ·skip
             go_simp
             refine hK _ _ ?_
             clear hK K
             refine wpAnyIn_done (by kernel_rfl) ?_ _
             go_simp
             simp only [roundPostP]
             exact LEAF g8 cap8 w8 A8.out Q8.out HG8.out
            exact AllReadyIn.nil
           exact AllReadyIn.nil
          exact AllReadyIn.nil
         exact AllReadyIn.nil
        exact AllReadyIn.nil
       exact AllReadyIn.nil
      refine AllReadyIn.cons rfl (fun K hK=>?_) ?_
      ·skip
       go_simp
       refine hK _ _ ?_
       clear hK K
       refine wpAnyIn_ready (rs:=[0,2]) (by kernel_rfl) (by simp) ?_
       refine AllReadyIn.cons rfl (fun K hK=>?_) ?_
       ·skip
        go_simp
        refine hK _ _ ?_
        clear hK K
        refine wpAnyIn_ready (rs:=[2]) (by kernel_rfl) (by simp) ?_
        refine AllReadyIn.cons rfl (fun K hK=>?_) ?_
        ·skip
         go_simp
         refine hK _ _ ?_
         clear hK K
         refine wpAnyIn_ready (rs:=[3]) (by kernel_rfl) (by simp) ?_
         refine AllReadyIn.cons rfl (fun K hK=>?_) ?_
         ·skip
          go_simp
          refine ⟨trivial,fun e=>(by cases e),?_⟩
          refine (CallsIn.inRound _ ((callsIn_wide (n:=m - 1)).2 CC6.out)).mono ?_
          rintro e w7 ⟨rfl,hb7⟩
          have hz7:w6.heap.size≤w7.heap.size:=hb7.size
          have hL7:L1 < w7.heap.size:=(by have:=Z6.out;omega)
          have l7:w7.cell? ⟨L1,0,none⟩=some vl:=(hb7.cell (p:=⟨L1,0,none⟩) (show L1 < w6.heap.size by have:=Z6.out;omega)).trans l6
          have l7a:=(fun o=>(World.cell?_alloc_past (w:=w7) o L1 0 hL7).trans l7)
          have r7:RowS (T+1+1+1) (w7.alloc (.cells #[.string s1] 9)) vl out:=row_keep RL6.out (fun g e=>(Below.heap_alloc _ _ _ (by have:=hown6 g e;omega)).trans (hb7.block g (hown6 g e).2))
          obtain ⟨g8,cap8,w8,hap,q8,p8,gr8,hg8⟩:=run_append_two (P:=Tryz.prog) (w7.alloc (.cells #[.string s1] 9)) 45 45 (T+1+1+1) 9 iS _ 16 Tryz.underlying45 hS hSz hSs hSb rfl vl (out.map Value.string) r7 ⟨w7.heap.size,0,none⟩ 1 (.string s1) (cells1 w7 _ _ _ rfl) rfl (by rw [List.length_map];unfold maxLen;omega) (by rw [List.length_map];omega) (by rw [World.size_alloc];have:=Z6.out;omega)
          have A8:=qh (app_same hb7 gr8)
          have f8:w8.frozen? ⟨L1,0,none⟩=false:=frozen_of_row _ _ _ _ _ ((A8.out.1 L1 (by have:=Z6.out;omega) (fun e=>by have:=hown6 L1 e;omega)).trans CL6.out)
          have c8:w8.cell? ⟨L1,0,none⟩=some vl:=cell_of_row _ _ _ _ _ _ ((A8.out.1 L1 (by have:=Z6.out;omega) (fun e=>by have:=hown6 L1 e;omega)).trans CL6.out)
          have Q8:=qh (rowS_snoc q8)
          have HG8:=qh (own_or (n:=(out++[s1]).length) (cap:=cap8) hg8 (by rw [World.size_alloc];exact Nat.le_succ_of_le hz7))
          rw [List.length_map] at hap
          have HAP:=qh hap
          clear q8 p8 gr8 hg8 r7 hb7 hap
          go_simp
          refine hK _ _ ?_
          clear hK K
          refine wpAnyIn_ready (rs:=[4]) (by kernel_rfl) (by simp) ?_
          refine AllReadyIn.cons rfl (fun K hK=>?_) ?_
          ·skip
           go_simp
           refine hK _ _ ?_
           clear hK K
           refine wpAnyIn_ready (rs:=[5]) (by kernel_rfl) (by simp) ?_
           refine AllReadyIn.cons rfl (fun K hK=>?_) ?_
           ·skip
            refine stepIn_append rfl _ _ 45 rfl rfl rfl HAP.out ?_
            refine hK _ _ ?_
            clear hK K
            refine wpAnyIn_ready (rs:=[6]) (by kernel_rfl) (by simp) ?_
            refine AllReadyIn.cons rfl (fun K hK=>?_) ?_
            ·skip
             go_simp
             refine hK _ _ ?_
             clear hK K
             refine wpAnyIn_done (by kernel_rfl) ?_ _
             go_simp
             simp only [roundPostP]
             exact LEAF g8 cap8 w8 A8.out Q8.out HG8.out
            exact AllReadyIn.nil
           exact AllReadyIn.nil
          exact AllReadyIn.nil
         exact AllReadyIn.nil
        exact AllReadyIn.nil
       refine AllReadyIn.cons rfl (fun K hK=>?_) ?_
       ·skip
        go_simp
        refine hK _ _ ?_
        clear hK K
        refine wpAnyIn_ready (rs:=[0,3]) (by kernel_rfl) (by simp) ?_
        refine AllReadyIn.cons rfl (fun K hK=>?_) ?_
        ·skip
         go_simp
         refine hK _ _ ?_
         clear hK K
         refine wpAnyIn_ready (rs:=[3]) (by kernel_rfl) (by simp) ?_
         refine AllReadyIn.cons rfl (fun K hK=>?_) ?_
         ·skip
          go_simp
          refine ⟨trivial,fun e=>(by cases e),?_⟩
          refine (CallsIn.inRound _ ((callsIn_wide (n:=m - 1)).2 CC6.out)).mono ?_
          rintro e w7 ⟨rfl,hb7⟩
          have hz7:w6.heap.size≤w7.heap.size:=hb7.size
          have hL7:L1 < w7.heap.size:=(by have:=Z6.out;omega)
          have l7:w7.cell? ⟨L1,0,none⟩=some vl:=(hb7.cell (p:=⟨L1,0,none⟩) (show L1 < w6.heap.size by have:=Z6.out;omega)).trans l6
          have l7a:=(fun o=>(World.cell?_alloc_past (w:=w7) o L1 0 hL7).trans l7)
          have r7:RowS (T+1+1+1) (w7.alloc (.cells #[.string s1] 9)) vl out:=row_keep RL6.out (fun g e=>(Below.heap_alloc _ _ _ (by have:=hown6 g e;omega)).trans (hb7.block g (hown6 g e).2))
          obtain ⟨g8,cap8,w8,hap,q8,p8,gr8,hg8⟩:=run_append_two (P:=Tryz.prog) (w7.alloc (.cells #[.string s1] 9)) 45 45 (T+1+1+1) 9 iS _ 16 Tryz.underlying45 hS hSz hSs hSb rfl vl (out.map Value.string) r7 ⟨w7.heap.size,0,none⟩ 1 (.string s1) (cells1 w7 _ _ _ rfl) rfl (by rw [List.length_map];unfold maxLen;omega) (by rw [List.length_map];omega) (by rw [World.size_alloc];have:=Z6.out;omega)
          have A8:=qh (app_same hb7 gr8)
          have f8:w8.frozen? ⟨L1,0,none⟩=false:=frozen_of_row _ _ _ _ _ ((A8.out.1 L1 (by have:=Z6.out;omega) (fun e=>by have:=hown6 L1 e;omega)).trans CL6.out)
          have c8:w8.cell? ⟨L1,0,none⟩=some vl:=cell_of_row _ _ _ _ _ _ ((A8.out.1 L1 (by have:=Z6.out;omega) (fun e=>by have:=hown6 L1 e;omega)).trans CL6.out)
          have Q8:=qh (rowS_snoc q8)
          have HG8:=qh (own_or (n:=(out++[s1]).length) (cap:=cap8) hg8 (by rw [World.size_alloc];exact Nat.le_succ_of_le hz7))
          rw [List.length_map] at hap
          have HAP:=qh hap
          clear q8 p8 gr8 hg8 r7 hb7 hap
          go_simp
          refine hK _ _ ?_
          clear hK K
          refine wpAnyIn_ready (rs:=[4]) (by kernel_rfl) (by simp) ?_
          refine AllReadyIn.cons rfl (fun K hK=>?_) ?_
          ·skip
           go_simp
           refine hK _ _ ?_
           clear hK K
           refine wpAnyIn_ready (rs:=[5]) (by kernel_rfl) (by simp) ?_
           refine AllReadyIn.cons rfl (fun K hK=>?_) ?_
           ·skip
            refine stepIn_append rfl _ _ 45 rfl rfl rfl HAP.out ?_
            refine hK _ _ ?_
            clear hK K
            refine wpAnyIn_ready (rs:=[6]) (by kernel_rfl) (by simp) ?_
            refine AllReadyIn.cons rfl (fun K hK=>?_) ?_
            ·skip
             go_simp
             refine hK _ _ ?_
             clear hK K
             refine wpAnyIn_done (by kernel_rfl) ?_ _
             go_simp
             simp only [roundPostP]
             exact LEAF g8 cap8 w8 A8.out Q8.out HG8.out
            exact AllReadyIn.nil
           exact AllReadyIn.nil
          exact AllReadyIn.nil
         exact AllReadyIn.nil
        refine AllReadyIn.cons rfl (fun K hK=>?_) ?_
        ·skip
         go_simp
         refine ⟨trivial,fun e=>(by cases e),?_⟩
         refine (CallsIn.inRound _ ((callsIn_wide (n:=m - 1)).2 CC6.out)).mono ?_
         rintro e w7 ⟨rfl,hb7⟩
         have hz7:w6.heap.size≤w7.heap.size:=hb7.size
         have hL7:L1 < w7.heap.size:=(by have:=Z6.out;omega)
         have l7:w7.cell? ⟨L1,0,none⟩=some vl:=(hb7.cell (p:=⟨L1,0,none⟩) (show L1 < w6.heap.size by have:=Z6.out;omega)).trans l6
         have l7a:=(fun o=>(World.cell?_alloc_past (w:=w7) o L1 0 hL7).trans l7)
         have r7:RowS (T+1+1+1) (w7.alloc (.cells #[.string s1] 9)) vl out:=row_keep RL6.out (fun g e=>(Below.heap_alloc _ _ _ (by have:=hown6 g e;omega)).trans (hb7.block g (hown6 g e).2))
         obtain ⟨g8,cap8,w8,hap,q8,p8,gr8,hg8⟩:=run_append_two (P:=Tryz.prog) (w7.alloc (.cells #[.string s1] 9)) 45 45 (T+1+1+1) 9 iS _ 16 Tryz.underlying45 hS hSz hSs hSb rfl vl (out.map Value.string) r7 ⟨w7.heap.size,0,none⟩ 1 (.string s1) (cells1 w7 _ _ _ rfl) rfl (by rw [List.length_map];unfold maxLen;omega) (by rw [List.length_map];omega) (by rw [World.size_alloc];have:=Z6.out;omega)
         have A8:=qh (app_same hb7 gr8)
         have f8:w8.frozen? ⟨L1,0,none⟩=false:=frozen_of_row _ _ _ _ _ ((A8.out.1 L1 (by have:=Z6.out;omega) (fun e=>by have:=hown6 L1 e;omega)).trans CL6.out)
         have c8:w8.cell? ⟨L1,0,none⟩=some vl:=cell_of_row _ _ _ _ _ _ ((A8.out.1 L1 (by have:=Z6.out;omega) (fun e=>by have:=hown6 L1 e;omega)).trans CL6.out)
         have Q8:=qh (rowS_snoc q8)
         have HG8:=qh (own_or (n:=(out++[s1]).length) (cap:=cap8) hg8 (by rw [World.size_alloc];exact Nat.le_succ_of_le hz7))
         rw [List.length_map] at hap
         have HAP:=qh hap
         clear q8 p8 gr8 hg8 r7 hb7 hap
         go_simp
         refine hK _ _ ?_
         clear hK K
         refine wpAnyIn_ready (rs:=[0,4]) (by kernel_rfl) (by simp) ?_
         refine AllReadyIn.cons rfl (fun K hK=>?_) ?_
         ·skip
          go_simp
          refine hK _ _ ?_
          clear hK K
          refine wpAnyIn_ready (rs:=[4]) (by kernel_rfl) (by simp) ?_
          refine AllReadyIn.cons rfl (fun K hK=>?_) ?_
          ·skip
           go_simp
           refine hK _ _ ?_
           clear hK K
           refine wpAnyIn_ready (rs:=[5]) (by kernel_rfl) (by simp) ?_
           refine AllReadyIn.cons rfl (fun K hK=>?_) ?_
           ·skip
            refine stepIn_append rfl _ _ 45 rfl rfl rfl HAP.out ?_
            refine hK _ _ ?_
            clear hK K
            refine wpAnyIn_ready (rs:=[6]) (by kernel_rfl) (by simp) ?_
            refine AllReadyIn.cons rfl (fun K hK=>?_) ?_
            ·skip
             go_simp
             refine hK _ _ ?_
             clear hK K
             refine wpAnyIn_done (by kernel_rfl) ?_ _
             go_simp
             simp only [roundPostP]
             exact LEAF g8 cap8 w8 A8.out Q8.out HG8.out
            exact AllReadyIn.nil
           exact AllReadyIn.nil
          exact AllReadyIn.nil
         refine AllReadyIn.cons rfl (fun K hK=>?_) ?_
         ·skip
          go_simp
          refine hK _ _ ?_
          clear hK K
          refine wpAnyIn_ready (rs:=[0]) (by kernel_rfl) (by simp) ?_
          refine AllReadyIn.cons rfl (fun K hK=>?_) ?_
          ·skip
           go_simp
           refine hK _ _ ?_
           clear hK K
           refine wpAnyIn_ready (rs:=[5]) (by kernel_rfl) (by simp) ?_
           refine AllReadyIn.cons rfl (fun K hK=>?_) ?_
           ·skip
            refine stepIn_append rfl _ _ 45 rfl rfl rfl HAP.out ?_
            refine hK _ _ ?_
            clear hK K
            refine wpAnyIn_ready (rs:=[6]) (by kernel_rfl) (by simp) ?_
            refine AllReadyIn.cons rfl (fun K hK=>?_) ?_
            ·skip
             go_simp
             refine hK _ _ ?_
             clear hK K
             refine wpAnyIn_done (by kernel_rfl) ?_ _
             go_simp
             simp only [roundPostP]
             exact LEAF g8 cap8 w8 A8.out Q8.out HG8.out
            exact AllReadyIn.nil
           exact AllReadyIn.nil
          exact AllReadyIn.nil
         exact AllReadyIn.nil
        exact AllReadyIn.nil
       exact AllReadyIn.nil
      exact AllReadyIn.nil
  ·rintro e w' ⟨hv,hj | ⟨q,_,hf⟩⟩
   ·exact ⟨hv,hj.2⟩
   ·exact hf.elim
 rw [z4,hW1]
 refine hcall.mono ?_
 clear hcall j0 hsup hd1 hl1 old o4 B4 b4 hB1 m3 v3 l3 k3 r3 t3 B3 o3
 rintro e w' ⟨⟨v0,rfl⟩,j,jl⟩
 refine ⟨none,w'.putObj (T+1+1) (.loop { r with state:=.exhausted }),?_,?_⟩
 ·refine (run_endLoop (P:=Tryz.prog) jl (by rw [hr1];simp)).trans ?_
  rw [hr2]
 ·have j5:=j.putLoop hT { r with state:=.exhausted }
  obtain ⟨W5,hW5⟩:∃ W5,w'.putObj (T+1+1) (.loop { r with state:=.exhausted })=W5:=⟨_,rfl⟩
  rw [hW5] at j5 ⊢
  dsimp only [Exit.inBlock,Exit.then]
  obtain ⟨vl,cl5,rl5⟩:=j5.c
  have c5:W5.cell? ⟨L1,0,none⟩=some vl:=cell_of_row _ _ _ _ _ _ cl5
  have J5:=qh j5
  have RL5:=qh rl5
  clear j j5 jl hW5 cl5 rl5 hr hr1 hr2 hr3 hW1
  refine wpAt_of_wpIn (n:=6) ?_
  refine wpIn_wide.2 ?_
  go_wp2
  refine ⟨by simp,.inl ⟨_,_,rfl,run_takeDeferred J5.out.d,?_⟩⟩
  refine ⟨.tuple #[vl,.int .i64 0],by simp [results,Tryz.results95,go_sem],vl,rfl,?_,below_put (B1.trans (J5.out.b.mono (by omega))) _ _ (by omega)⟩
  exact row_keep (ownsRow_base RL5.out (by omega)) fun g e=>World.putObj_heap_other (by have:=World.ownsRow.lt RL5.out g e;omega)
end Go.Proofs.YtgjijidlaghlmaaGreatDoor
namespace Go.Proofs.YtgjijidlaghlmaaGreatDoor
theorem shape_not7 {n:Nat}:shapeB 7 n=false:=by
 unfold shapeB
 simp
mutual
theorem okP_facts:∀ t:Nd,t.okP=true→smN t∧mdOk t
 | .mk k s l,h=>by
  simp only [Nd.okP,Bool.and_eq_true,decide_eq_true_eq] at h
  obtain ⟨h1,h2,h3⟩:=h
  have:=okL_facts l h3
  simp only [smN,mdOk]
  refine ⟨⟨h2,this.1⟩,?_⟩
  split
  ·rename_i hk
   subst hk
   rw [shape_not7] at h1
   cases h1
  ·exact this.2
theorem okL_facts:∀ l:List Nd,Nd.okL l=true→smL l∧mdL l
 | [],_=>by simp only [smL,mdL];exact ⟨trivial,trivial⟩
 | a :: l,h=>by
  simp only [Nd.okL,Bool.and_eq_true] at h
  have h1:=okP_facts a h.1
  have h2:=okL_facts l h.2
  simp only [smL,mdL]
  exact ⟨⟨h1.1,h2.1⟩,h1.2,h2.2⟩
end
theorem modeB_leaf {t:Nd} (h:modeB t=true):∃ k s,t = .mk k s []:=by
 obtain ⟨k,s,l⟩:=t
 simp only [modeB,Bool.and_eq_true,decide_eq_true_eq] at h
 have:l=[]:=List.eq_nil_of_length_eq_zero h.2.1
 subst this
 exact ⟨k,s,rfl⟩
theorem item_facts {t:Nd} (h:itemB t=true):smN t∧mdOk t:=by
 have ho:=item_ok h
 obtain ⟨k,s,l⟩:=t
 obtain ⟨h1,_,h3⟩:=ho
 have hf:=okL_facts l h3
 simp only [smN,mdOk]
 refine ⟨⟨h1,hf.1⟩,?_⟩
 split
 ·rename_i hk
  subst hk
  simp only [itemB,Int.reduceEq,or_self,if_false,if_true,Bool.and_eq_true] at h
  intro x hx
  obtain ⟨i,hi,rfl⟩:=List.getElem_of_mem hx
  exact modeB_leaf ((modeL_iff l).1 h.2.1 i hi)
 ·exact hf.2
theorem valid_facts {t:Nd} (h:chkN t=0):smN t∧mdOk t:=by
 unfold chkN at h
 split at h
 ·cases h
 ·split at h
  ·cases h
  ·split at h
   ·rename_i hv
    simp only [Bool.or_eq_true] at hv
    rcases hv with h | h | h | h | h
    ·exact okP_facts t (typ_ok _ _ (Nat.le_refl _) h)
    ·exact okP_facts t (term_ok _ _ (Nat.le_refl _) h)
    ·exact okP_facts t (form_ok _ _ (Nat.le_refl _) h)
    ·exact item_facts h
    ·obtain ⟨k,s,l⟩:=t
     simp only [textB,Bool.and_eq_true,decide_eq_true_eq] at h
     obtain ⟨rfl,hs,hl⟩:=h
     have hi:∀ x∈l,smN x∧mdOk x:=fun x hx=>by
      obtain ⟨i,hi,rfl⟩:=List.getElem_of_mem hx
      exact item_facts ((itemL_iff l).1 hl i hi)
     simp only [smN,mdOk]
     refine ⟨⟨noneB_small hs,(smL_iff l).2 fun x hx=>(hi x hx).1⟩,?_⟩
     rw [if_neg (by decide)]
     exact (mdL_iff l).2 fun x hx=>(hi x hx).2
   ·cases h
end Go.Proofs.YtgjijidlaghlmaaGreatDoor
namespace Go.Proofs.YtgjijidlaghlmaaGreatDoor
open Go.RowKit Go.Shelf
set_option maxRecDepth 100000 in
set_option maxHeartbeats 2000000 in
theorem occurring_bad (t:Nd) (kind:Int) (w:World) (v0 v1 v2:Value) (ht:NdR w t v0 v1 v2) (c:Int) (hv:chkN t=c) (hc:c≠0) :
  Calls Tryz.prog 95 #[.agg #[v0,v1,v2],.int .i64 kind] w fun e w'=>e = .returned (.tuple #[.slice none 0 0,.int .i64 c])∧Below w.heap.size w w':=by
 obtain ⟨k,s,kids,a,cap,rfl,rfl,rfl,rfl,hs,hl⟩:=ht.form
 obtain ⟨W0,hW0⟩:∃ W0,(w.alloc (.cells #[.int .i64 k,.string s,.slice a kids.length cap] 25)).alloc (.cells #[.int .i64 kind] 3)=W0:=⟨_,rfl⟩
 have b0:Below w.heap.size w W0:=by rw [←hW0];exact ((Below.refl _ w).alloc (Nat.le_refl _) _).alloc (by simp) _
 have r0:Row3 W0 w.heap.size (.int .i64 k) (.string s) (.slice a kids.length cap):=by rw [←hW0];exact (Below.heap_alloc _ _ _ (by simp only [World.size_alloc];omega)).trans (World.alloc_heap_new _ _)
 have t0:NdR W0 (.mk k s kids) (.int .i64 k) (.string s) (.slice a kids.length cap):=ht.later b0
 have CC:=qh (check_tree _ W0 _ _ _ t0)
 rw [hv] at CC
 have hcb:((c:Int) != 0)=true:=by rw [bne_iff_ne];exact hc
 obtain ⟨⟨n0,n1,n2⟩,_⟩:=r0.cells
 have HB:=qh b0
 clear b0 r0 t0 ht hv hc
 go_enter Tryz.func95,Tryz.ntmps95
 go_upto_region 1 with fail
 (try rw [hW0])
 clear hW0
 go_wp2_with fail
 refine CC.out.mono ?_
 rintro e w1 ⟨rfl,hb⟩
 have HB1:=qh hb
 clear hb CC n0 n1 n2
 go_wp2
 go_ret2
 exact ⟨rfl,HB.out.trans (HB1.out.mono HB.out.size)⟩
def OccR (kind:Int) (t:Nd) (w:World) (e:Ending) (w':World):Prop :=
 ∃ v,e = .returned (.tuple #[v,.int .i64 (chkN t)])∧RowS w.heap.size w' v (if chkN t=0 then occs kind (preN 0 [] false t) else [])∧Below w.heap.size w w'
theorem occurring_any (t:Nd) (kind:Int) (w:World) (v0 v1 v2:Value) (ht:NdR w t v0 v1 v2) :
  Calls Tryz.prog 95 #[.agg #[v0,v1,v2],.int .i64 kind] w (OccR kind t w):=by
 by_cases h:chkN t=0
 ·refine (occurring_ok t kind w v0 v1 v2 ht h (valid_facts h).1 (valid_ok h).2).mono ?_
  rintro e w' ⟨v,rfl,hr,hb⟩
  refine ⟨v,by rw [h],?_,hb⟩
  rw [if_pos h]
  exact hr
 ·refine (occurring_bad t kind w v0 v1 v2 ht _ rfl h).mono ?_
  rintro e w' ⟨rfl,hb⟩
  refine ⟨_,rfl,?_,hb⟩
  rw [if_neg h]
  exact World.ownsRow_nil _ _ _ _
set_option maxRecDepth 100000 in
set_option maxHeartbeats 2000000 in
theorem occur_any (g:Nat) (kind:Int) (hg:(g=37∧kind=15)∨(g=39∧kind=16)) (t:Nd) (w:World) (v0 v1 v2:Value) (ht:NdR w t v0 v1 v2) :
  Calls Tryz.prog g #[.agg #[v0,v1,v2]] w (OccR kind t w):=by
 obtain ⟨k,s,kids,a,cap,rfl,rfl,rfl,rfl,hs,hl⟩:=ht.form
 obtain ⟨W0,hW0⟩:∃ W0,w.alloc (.cells #[.int .i64 k,.string s,.slice a kids.length cap] 25)=W0:=⟨_,rfl⟩
 have b0:Below w.heap.size w W0:=by rw [←hW0];exact (Below.refl _ w).alloc (Nat.le_refl _) _
 have z0:W0.heap.size=w.heap.size+1:=by rw [←hW0];simp
 have r0:Row3 W0 w.heap.size (.int .i64 k) (.string s) (.slice a kids.length cap):=by rw [←hW0];exact World.alloc_heap_new _ _
 have C0:=occurring_any _ kind W0 _ _ _ (ht.later b0)
 unfold OccR at C0 ⊢
 obtain ⟨L,hL⟩:∃ L,(if chkN (.mk k s kids)=0 then occs kind (preN 0 [] false (.mk k s kids)) else [])=L:=⟨_,rfl⟩
 obtain ⟨c,hc⟩:∃ c,chkN (.mk k s kids)=c:=⟨_,rfl⟩
 rw [hL,hc] at C0
 rw [hL,hc]
 have CC:=qh C0
 obtain ⟨⟨n0,n1,n2⟩,_⟩:=r0.cells
 have HB:=qh b0
 have HZ:=qh z0
 clear b0 r0 ht hL hc C0 z0
 rcases hg with ⟨rfl,rfl⟩ | ⟨rfl,rfl⟩
 ·go_enter Tryz.func37,Tryz.ntmps37
  go_upto_region 1 with fail
  (try rw [hW0])
  clear hW0
  go_wp2_with fail
  refine CC.out.mono ?_
  rintro e w1 ⟨v,rfl,hr,hb⟩
  have HB1:=qh hb
  have HR:=qh hr
  clear hb hr CC n0 n1 n2
  go_wp2
  go_ret2
  exact ⟨v,rfl,ownsRow_base HR.out (by have:=HZ.out;omega),HB.out.trans (HB1.out.mono HB.out.size)⟩
 ·go_enter Tryz.func39,Tryz.ntmps39
  go_upto_region 1 with fail
  (try rw [hW0])
  clear hW0
  go_wp2_with fail
  refine CC.out.mono ?_
  rintro e w1 ⟨v,rfl,hr,hb⟩
  have HB1:=qh hb
  have HR:=qh hr
  clear hb hr CC n0 n1 n2
  go_wp2
  go_ret2
  exact ⟨v,rfl,ownsRow_base HR.out (by have:=HZ.out;omega),HB.out.trans (HB1.out.mono HB.out.size)⟩
end Go.Proofs.YtgjijidlaghlmaaGreatDoor
namespace Go.Proofs.YtgjijidlaghlmaaGreatDoor
open Go.RowKit Go.Shelf
set_option maxRecDepth 100000 in
set_option maxHeartbeats 2000000 in
theorem equalFunc_any (g:Nat) (eg:∀ args w,(callFunc g args).run Tryz.prog w = .ok (.enter g args) w) (k k':Int) (s s':ByteArray) (l m:List Nd) (w:World) (a a':Option Addr) (cap cap':Nat)
  (ht:NdR w (.mk k s l) (.int .i64 k) (.string s) (.slice a l.length cap)) (hu:NdR w (.mk k' s' m) (.int .i64 k') (.string s') (.slice a' m.length cap')) (hl:l.length≤maxLen) (_hm:m.length≤maxLen)
  (C:∀ i,(h:i < l.length)→(h2:i < m.length)→∀ (w:World) (v0 v1 v2 u0 u1 u2:Value),NdR w l[i] v0 v1 v2→NdR w m[i] u0 u1 u2→Calls Tryz.prog g #[.agg #[v0,v1,v2],.agg #[u0,u1,u2]] w fun e w'=>e = .returned (.bool (sameN l[i] m[i]))∧Below w.heap.size w w') :
  Calls Tryz.prog 87 #[.slice a l.length cap,.slice a' m.length cap',.func (.func g) #[] #[]] w fun e w'=>e = .returned (.bool (sameL l m))∧Below w.heap.size w w':=by
 unfold maxLen at hl
 have CC:=qh C
 clear C
 by_cases hll:l.length=m.length
 ·have hl2:((l.length:Int) != (m.length:Int))=false:=by rw [hll];simp
  have HL:=qh hll
  have HT:=qh ht
  have HU:=qh hu
  clear hll ht hu
  go_enter Tryz.func87,Tryz.ntmps87
  go_wp2
  go_loopw [17] (fun v wr=>∃ i:Nat,i≤l.length∧v = .int .i64 i∧Hid (sameL l m=sameL (l.drop i) (m.drop i))∧Hid (Below w.heap.size w wr)) (fun v _=>l.length - (intOf v).toNat)
  case atStart=>exact ⟨0,Nat.zero_le _,rfl,rfl,Below.refl _ _⟩
  case round =>
   obtain ⟨i,hi,rfl,hrun,hbl⟩:=hrel
   by_cases hlt:i < l.length
   ·have hlt':(i:Int) < (l.length:Int):=by omega
    have hi2:i < m.length:=by have:=HL.out;omega
    have hlt2:(i:Int) < (m.length:Int):=by omega
    have hi0:(0:Int)≤(i:Int):=by omega
    obtain ⟨b,o,k1,s1,l1,a1,c1,rfl,e1,x0,x1,x2,r1⟩:=(HT.out.later hbl.out).kid i hlt
    obtain ⟨b',o',k2,s2,l2,a2,c2,rfl,e2,y0,y1,y2,r2⟩:=(HU.out.later hbl.out).kid i hi2
    have Hst:=qh (sameL_step hlt hi2)
    obtain ⟨V,hV⟩:∃ V,sameN l[i] m[i]=V:=⟨_,rfl⟩
    have C1:=fun w=>CC.out i hlt hi2 w (.int .i64 k1) (.string s1) (.slice a1 l1.length c1) (.int .i64 k2) (.string s2) (.slice a2 l2.length c2)
    rw [hV] at C1 Hst
    rw [e1,e2] at C1
    have C2:=qh C1
    have R1:=qh r1
    have R2:=qh r2
    have L2:=lt_of_cell x0
    have L3:=lt_of_cell y0
    have yy0:=fun o=>(World.cell?_alloc_past (w:=wr) o b' (o'+i*3) L3).trans y0
    have yy1:=fun o=>(World.cell?_alloc_past (w:=wr) o b' (o'+i*3+1) L3).trans y1
    have yy2:=fun o=>(World.cell?_alloc_past (w:=wr) o b' (o'+i*3+2) L3).trans y2
    have Hbl:=hbl
    clear e1 e2 hV r1 r2 C1
    go_wp2_with fail
    refine (C2.out _ (R1.out.later (((Below.refl _ _).alloc (Nat.le_refl _) _).alloc (by simp) _)) (R2.out.later (((Below.refl _ _).alloc (Nat.le_refl _) _).alloc (by simp) _))).mono ?_
    rintro e w5 ⟨rfl,hb5⟩
    have hbx:Hid (Below w.heap.size w w5):=qh (Hbl.out.trans ((((Below.refl wr.heap.size wr).alloc (Nat.le_refl _) _).alloc (by simp) _).trans (hb5.mono (by simp;omega)) |>.mono Hbl.out.size))
    clear C2 R1 R2 x0 x1 x2 y0 y1 y2 yy0 yy1 yy2 hb5
    cases V with
    | false =>
     go_wp2
     go_ret
     exact ⟨by rw [hrun.out,Hst.out];rfl,hbx.out⟩
    | true =>
     go_wp2
     go_roundw
     case rel=>exact ⟨i+1,hlt,by push_cast;rfl,qh (by rw [hrun.out,Hst.out];rfl),hbx⟩
     case measure=>simp [intOf];omega
   ·have hlt':¬ ((i:Int) < (l.length:Int)):=by omega
    go_wp2
    go_ret
    exact ⟨by rw [hrun.out,sameL_end (by omega) (by have:=HL.out;omega)];rfl,hbl.out⟩
 ·have hl2:((l.length:Int) != (m.length:Int))=true:=by rw [bne_iff_ne];omega
  have HS:=qh (sameL_len l m hll)
  clear hll ht hu
  go_enter Tryz.func87,Tryz.ntmps87
  go_wp2
  go_ret
  exact ⟨by rw [HS.out];rfl,Below.refl _ _⟩
set_option maxRecDepth 100000 in
set_option maxHeartbeats 2000000 in
theorem sameN_any (n:Nat):∀ (t u:Nd) (w:World) (v0 v1 v2 u0 u1 u2:Value),t.sz≤n→NdR w t v0 v1 v2→NdR w u u0 u1 u2 →
  Calls Tryz.prog 32 #[.agg #[v0,v1,v2],.agg #[u0,u1,u2]] w fun e w'=>e = .returned (.bool (sameN t u))∧Below w.heap.size w w':=by
 induction n with
 | zero=>intro t u w v0 v1 v2 u0 u1 u2 h;cases t;simp only [Nd.sz] at h;omega
 | succ n ih =>
  intro t u w v0 v1 v2 u0 u1 u2 hsz ht hu
  obtain ⟨k,s,l,a,cap,rfl,rfl,rfl,rfl,hs,hl⟩:=ht.form
  obtain ⟨k',s',l',a',cap',rfl,rfl,rfl,rfl,hs',hl'⟩:=hu.form
  have eg:∀ args w,(callFunc 32 args).run Tryz.prog w = .ok (.enter 32 args) w:=enters_of Tryz.func32 (by kernel_rfl) rfl
  have CE:=qh (fun w h1 h2=>equalFunc_any _ eg k k' s s' l l' w a a' cap cap' h1 h2 hl hl' (fun i hi hi2 w v0 v1 v2 u0 u1 u2=>ih l[i] l'[i] w v0 v1 v2 u0 u1 u2 (by have:=Nd.kid_lt k s l i hi;omega)))
  clear ih eg
  have HB:Hid (Below w.heap.size w ((w.alloc (Obj.cells #[Value.int IntKind.i64 k,Value.string s,Value.slice a l.length cap] 25)).alloc (Obj.cells #[Value.int IntKind.i64 k',Value.string s',Value.slice a' l'.length cap'] 25))):=qh (((Below.refl _ w).alloc (Nat.le_refl _) _).alloc (by simp) _)
  have HT:=qh (ht.later HB.out)
  have HU:=qh (hu.later HB.out)
  have HS:Hid (sameN (.mk k s l) (.mk k' s' l')=((k==k' && s.toList==s'.toList) && sameL l l')):=qh (by simp only [sameN])
  obtain ⟨V,hV⟩:∃ V,sameL l l'=V:=⟨_,rfl⟩
  obtain ⟨V2,hV2⟩:∃ V,(s.toList==s'.toList)=V:=⟨_,rfl⟩
  rw [hV] at CE HS
  rw [hV2] at HS
  clear hV ht hu
  by_cases hk:k=k'
  ·have hk2:(k==k')=true:=by rw [hk];simp
   rw [hk2] at HS
   clear hk
   cases V2 with
   | false =>
    go_enter Tryz.func32,Tryz.ntmps32
    go_wp2
    go_ret
    exact ⟨by rw [HS.out];rfl,HB.out⟩
   | true =>
    go_enter Tryz.func32,Tryz.ntmps32
    go_wp2_with fail
    refine (CE.out _ HT.out HU.out).mono ?_
    rintro e w5 ⟨rfl,hb5⟩
    have HB2:Hid (Below w.heap.size w w5):=qh (HB.out.trans (hb5.mono HB.out.size))
    clear hb5 CE HT HU
    go_wp2
    go_ret
    exact ⟨by rw [HS.out];rfl,HB2.out⟩
  ·have hk2:(k==k')=false:=by rw [beq_eq_false_iff_ne];exact hk
   rw [hk2] at HS
   clear hk
   go_enter Tryz.func32,Tryz.ntmps32
   go_wp2
   go_ret
   exact ⟨by rw [HS.out];rfl,HB.out⟩
end Go.Proofs.YtgjijidlaghlmaaGreatDoor
namespace Go.Proofs.YtgjijidlaghlmaaGreatDoor
open Go.RowKit
def St (w wi:World):Prop:=Below w.heap.size w wi∧GLw wi∧2≤wi.heap.size
theorem St.below {w wi wj:World} (h:St w wi) (hb:Below wi.heap.size wi wj):St w wj:=⟨h.1.trans (hb.mono h.1.size),h.2.1.keep fun b _ hl=>hb.block b hl,Nat.le_trans h.2.2 hb.size⟩
theorem St.alloc {w wi:World} (h:St w wi) (o:Obj):St w (wi.alloc o):=h.below ((Below.refl _ wi).alloc (Nat.le_refl _) o)
theorem sn_form_says (s:ByteArray) (what:Int) (g:Nat) (hg:(g=20∧what=18)∨(g=18∧what=1)) (k:Int) (n:ByteArray) (l:List Nd) (hp:parseP (bs s) what=(some (.mk k n l),0,0)) (hs:s.size≤maxLen) (w wi:World) (h:St w wi) :
  Calls Tryz.prog g #[.string s] wi fun e w'=>∃ a c,e = .returned (.tuple #[.agg #[.int .i64 k,.string n,.slice a l.length c],.int .i64 0,.int .i64 0])∧St w w'∧NdR w' (.mk k n l) (.int .i64 k) (.string n) (.slice a l.length c):=by
 have C:Calls Tryz.prog g #[.string s] wi (ParseR (parseP (bs s) what) wi):=by
  rcases hg with ⟨rfl,rfl⟩ | ⟨rfl,rfl⟩
  ·exact ParseForm_any s wi h.2.2 h.2.1 hs
  ·exact Parse_any s wi h.2.2 h.2.1 hs
 rw [hp] at C
 refine C.mono ?_
 rintro e w' ⟨k',s',a,m,c,rfl,hb,hn⟩
 have hr:NdR w' (.mk k n l) (.int .i64 k') (.string s') (.slice a m c):=NdS.toR hn
 obtain ⟨k2,s2,l2,a2,c2,e1,e2,e3,e4,_,_⟩:=hr.form
 cases e1
 cases e2
 cases e3
 cases e4
 exact ⟨a,c,rfl,h.below hb,hr⟩
theorem sn_form_bad (s:ByteArray) (p er:Nat) (hp:parseP (bs s) 18=(none,p,er)) (hs:s.size≤maxLen) (w wi:World) (h:St w wi) :
  Calls Tryz.prog 20 #[.string s] wi fun e w'=>e = .returned (.tuple #[.agg #[.int .i64 0,.string ⟨#[]⟩,.slice none 0 0],.int .i64 p,.int .i64 er])∧St w w':=by
 have C:=ParseForm_any s wi h.2.2 h.2.1 hs
 rw [hp] at C
 refine C.mono ?_
 rintro e w' ⟨k',s',a,m,c,rfl,hb,hn⟩
 obtain ⟨rfl,rfl,rfl,rfl,rfl⟩:=hn
 exact ⟨rfl,h.below hb⟩
theorem sn_print_says (t:Nd) (out:ByteArray) (hp:printP t=(bs out,0)) (w wi:World) (h:St w wi) (v0 v1 v2:Value) (ht:NdR wi t v0 v1 v2) :
  Calls Tryz.prog 33 #[.agg #[v0,v1,v2]] wi fun e w'=>e = .returned (.tuple #[.string out,.int .i64 0])∧St w w'∧Below wi.heap.size wi w':=by
 have C:=Print_any t v0 v1 v2 wi ht h.2.1 h.2.2
 rw [hp] at C
 refine C.mono ?_
 rintro e w' ⟨rfl,hb⟩
 exact ⟨rfl,h.below hb,hb⟩
set_option maxRecDepth 100000 in
set_option maxHeartbeats 400000 in
theorem sn_node_any (k:Int) (s:ByteArray) (a:Option Addr) (n c:Nat) (w wi:World) (h:St w wi) :
  Calls Tryz.prog 66 #[.int .i64 k,.string s,.slice a n c] wi fun e w'=>e = .returned (.agg #[.int .i64 k,.string s,.slice a n c])∧St w w'∧Below wi.heap.size wi w':=by
 have R1:=qh (Row3.new wi (.int .i64 k) (.string s) (.slice a n c))
 have HB:=qh ((Below.refl wi.heap.size wi).alloc (Nat.le_refl _) (.cells #[.int .i64 k,.string s,.slice a n c] 25))
 have HS:=qh (h.alloc (.cells #[.int .i64 k,.string s,.slice a n c] 25))
 clear h
 go_enter Tryz.func66,Tryz.ntmps66
 go_wp2
 exact ret_node R1.out rfl rfl rfl ⟨rfl,HS.out,HB.out⟩
set_option maxRecDepth 100000 in
set_option maxHeartbeats 400000 in
theorem sn_atom_any (s:ByteArray) (a:Option Addr) (n c:Nat) (w wi:World) (h:St w wi) :
  Calls Tryz.prog 67 #[.string s,.slice a n c] wi fun e w'=>e = .returned (.agg #[.int .i64 15,.string s,.slice a n c])∧St w w'∧Below wi.heap.size wi w':=by
 have R1:=qh (Row3.new wi (.int .i64 15) (.string s) (.slice a n c))
 have HB:=qh ((Below.refl wi.heap.size wi).alloc (Nat.le_refl _) (.cells #[.int .i64 15,.string s,.slice a n c] 25))
 have HS:=qh (h.alloc (.cells #[.int .i64 15,.string s,.slice a n c] 25))
 clear h
 go_enter Tryz.func67,Tryz.ntmps67
 go_wp2
 exact ret_node R1.out rfl rfl rfl ⟨rfl,HS.out,HB.out⟩
theorem NdR.lit1 {w:World} {b:Nat} {k k1:Int} {s s1:ByteArray} {l1:List Nd} {a1:Option Addr} {c1:Nat} (hs:s.size≤maxLen) (h:w.heap[b]?=some (.cells #[.int .i64 k1,.string s1,.slice a1 l1.length c1] 25 (0,0)))
  (r:NdR w (.mk k1 s1 l1) (.int .i64 k1) (.string s1) (.slice a1 l1.length c1)):NdR w (.mk k s [.mk k1 s1 l1]) (.int .i64 k) (.string s) (.slice (some ⟨b,0,none⟩) 1 1):=by
 refine .mk k s [.mk k1 s1 l1] (some ⟨b,0,none⟩) 1 b 0 (fun _=>.int .i64 k1) (fun _=>.string s1) (fun _=>.slice a1 l1.length c1) hs (by simp [maxLen]) (by simp) (fun _=>rfl) ?_ ?_ ?_ ?_
 all_goals (intro i hi;obtain rfl:i=0:=by simpa using hi)
 ·exact cell_of_row _ _ _ _ _ _ h
 ·exact cell_of_row _ _ _ _ _ _ h
 ·exact cell_of_row _ _ _ _ _ _ h
 ·exact r
theorem NdR.lit2 {w:World} {b:Nat} {k k1 k2:Int} {s s1 s2:ByteArray} {l1 l2:List Nd} {a1 a2:Option Addr} {c1 c2:Nat} (hs:s.size≤maxLen) (h:w.heap[b]?=some (.cells #[.int .i64 k1,.string s1,.slice a1 l1.length c1,.int .i64 k2,.string s2,.slice a2 l2.length c2] 25 (0,0)))
  (r1:NdR w (.mk k1 s1 l1) (.int .i64 k1) (.string s1) (.slice a1 l1.length c1)) (r2:NdR w (.mk k2 s2 l2) (.int .i64 k2) (.string s2) (.slice a2 l2.length c2)):NdR w (.mk k s [.mk k1 s1 l1,.mk k2 s2 l2]) (.int .i64 k) (.string s) (.slice (some ⟨b,0,none⟩) 2 2):=by
 refine .mk k s [.mk k1 s1 l1,.mk k2 s2 l2] (some ⟨b,0,none⟩) 2 b 0 (fun i=>if i=0 then .int .i64 k1 else .int .i64 k2) (fun i=>if i=0 then .string s1 else .string s2) (fun i=>if i=0 then .slice a1 l1.length c1 else .slice a2 l2.length c2) hs (by simp [maxLen]) (by simp) (fun _=>rfl) ?_ ?_ ?_ ?_
 all_goals (intro i hi;obtain rfl | rfl:i=0∨i=1:=by simp at hi;omega)
 ·exact cell_of_row _ _ _ _ _ _ h
 ·exact cell_of_row _ _ _ _ _ _ h
 ·exact cell_of_row _ _ _ _ _ _ h
 ·exact cell_of_row _ _ _ _ _ _ h
 ·exact cell_of_row _ _ _ _ _ _ h
 ·exact cell_of_row _ _ _ _ _ _ h
 ·exact r1
 ·exact r2
theorem NdR.leaf (w:World) (k:Int) (s:ByteArray) (hs:s.size≤maxLen):NdR w (.mk k s []) (.int .i64 k) (.string s) (.slice none 0 0):=(NdS.leaf (fun _=>True) w k s hs none 0).toR
end Go.Proofs.YtgjijidlaghlmaaGreatDoor
namespace Go.Proofs.YtgjijidlaghlmaaGreatDoor
open Go.RowKit
set_option maxRecDepth 100000 in
set_option maxHeartbeats 4000000 in
theorem saneS_any (w:World) (hw:2≤w.heap.size) (gl:GLw w) :
  Calls Tryz.prog 17 #[] w fun e w'=>e = .returned (.bool true)∧Below w.heap.size w w':=by
 have s0:St w w:=⟨Below.refl _ _,gl,hw⟩
 have F1:=qh (fun b wi=>sn_form_says txt1 18 20 (.inl ⟨rfl,rfl⟩) _ _ _ parse1 (by unfold maxLen;decide) b wi)
 have F2:=qh (fun b wi=>sn_form_says txt2 18 20 (.inl ⟨rfl,rfl⟩) _ _ _ parse2 (by unfold maxLen;decide) b wi)
 have F4:=qh (fun b wi=>sn_form_bad txt4 _ _ parse4 (by unfold maxLen;decide) b wi)
 have F5:=qh (fun b wi=>sn_form_bad txt5 _ _ parse5 (by unfold maxLen;decide) b wi)
 have F6:=qh (fun b wi=>sn_form_says txt6 1 18 (.inr ⟨rfl,rfl⟩) _ _ _ parse6 (by unfold maxLen;decide) b wi)
 have P1:=qh (fun b=>sn_print_says tree1 txt1 print1 b)
 have P2:=qh (fun b=>sn_print_says tree2 out2 print2 b)
 have P3:=qh (fun b=>sn_print_says tree3 out3 print3 b)
 have P6:=qh (fun b=>sn_print_says tree6 out6 print6 b)
 have NA:=qh (fun b k s a n c wi h=>sn_node_any k s a n c b wi h)
 have AA:=qh (fun b s a n c wi h=>sn_atom_any s a n c b wi h)
 have HS0:=qh s0
 clear s0 hw gl
 go_enter Tryz.func17,Tryz.ntmps17
 go_wp2_with fail
 refine (F1.out _ _ HS0.out).mono ?_
 rintro e w1 ⟨a1,c1,rfl,s1,n1⟩
 have S1:=qh s1
 have N1:=qh n1
 clear s1 n1 F1
 go_wp2_with fail
 refine (P1.out _ _ (S1.out.alloc _) _ _ _ (N1.out.later ((Below.refl _ w1).alloc (Nat.le_refl _) _))).mono ?_
 rintro e w2 ⟨rfl,s2,_⟩
 have S2:=qh s2
 clear s2 P1 N1
 go_wp2_with fail
 refine (F2.out _ _ S2.out).mono ?_
 rintro e w3 ⟨a3,c3,rfl,s3,n3⟩
 have S3:=qh s3
 have N3:=qh n3
 clear s3 n3 F2
 go_wp2_with fail
 refine (P2.out _ _ (S3.out.alloc _) _ _ _ (N3.out.later ((Below.refl _ w3).alloc (Nat.le_refl _) _))).mono ?_
 rintro e w4 ⟨rfl,s4,_⟩
 have S4:=qh s4
 clear s4 P2 N3
 go_wp2_with fail
 refine (NA.out _ _ _ _ _ _ _ S4.out).mono ?_
 rintro e w5 ⟨rfl,s5,_⟩
 obtain ⟨V5,hV5⟩:∃ V5,w5.alloc (.cells #[.int .i64 16,.string { data:=#[88] },.slice none 0 0] 25)=V5:=⟨_,rfl⟩
 have s5':=s5.alloc (.cells #[.int .i64 16,.string { data:=#[88] },.slice none 0 0] 25)
 have HX':=Row3.new w5 (.int .i64 16) (.string { data:=#[88] }) (.slice none 0 0)
 rw [hV5] at s5' HX'
 obtain ⟨X,hX⟩:∃ X,w5.heap.size=X:=⟨_,rfl⟩
 rw [hX] at HX'
 have HX:=qh HX'
 have T5:=qh s5'
 have S5:Hid (St V5 V5):=qh ⟨Below.refl _ _,s5'.2.1,s5'.2.2⟩
 have HV5:=qh hV5
 have HXe:=qh hX
 clear s5 s5' HX' hV5 hX
 go_upto_region 6 with fail
 rw [HV5.out,HXe.out]
 clear HV5 HXe S1 S2 S3 S4
 go_wp2_with fail
 refine (AA.out _ _ _ _ _ _ S5.out).mono ?_
 rintro e w6 ⟨rfl,s6,_⟩
 have S6:=qh s6
 clear s6
 go_wp2_with fail
 refine (AA.out _ _ _ _ _ _ (S6.out.alloc _)).mono ?_
 rintro e w7 ⟨rfl,s7,b7⟩
 have S7:=qh s7
 have R7:Hid (NdR w7 (.mk 15 ⟨#[112]⟩ [nm_ 120]) (.int .i64 15) (.string ⟨#[112]⟩) (.slice (some ⟨w6.heap.size,0,none⟩) 1 1)) :=
  qh (NdR.lit1 (l1:=[]) (by unfold maxLen;decide) ((b7.block _ (by simp)).trans (World.alloc_heap_new _ _)) (NdR.leaf _ _ _ (by unfold maxLen;decide)))
 clear s7 b7
 go_wp2_with fail
 refine (NA.out _ _ _ _ _ _ _ (S7.out.alloc _)).mono ?_
 rintro e w8 ⟨rfl,s8,b8⟩
 have S8:=qh s8
 have R8:Hid (NdR w8 (.mk 18 ⟨#[120]⟩ [.mk 15 ⟨#[112]⟩ [nm_ 120]]) (.int .i64 18) (.string ⟨#[120]⟩) (.slice (some ⟨w7.heap.size,0,none⟩) 1 1)) :=
  qh (NdR.lit1 (l1:=[nm_ 120]) (by unfold maxLen;decide) ((b8.block _ (by simp)).trans (World.alloc_heap_new _ _)) ((R7.out.later ((Below.refl _ w7).alloc (Nat.le_refl _) _)).later b8))
 clear s8 b8 R7
 go_wp2_with fail
 refine (NA.out _ _ _ _ _ _ _ ((S8.out.alloc _).alloc _)).mono ?_
 rintro e w9 ⟨rfl,s9,b9⟩
 have S9:=qh s9
 have R9:Hid (NdR w9 (.mk 29 ⟨#[]⟩ [.mk 18 ⟨#[120]⟩ [.mk 15 ⟨#[112]⟩ [nm_ 120]]]) (.int .i64 29) (.string ⟨#[]⟩) (.slice (some ⟨w8.heap.size+1,0,none⟩) 1 1)) :=
  qh (NdR.lit1 (l1:=[.mk 15 ⟨#[112]⟩ [nm_ 120]]) (by unfold maxLen;decide) ((b9.block _ (by simp)).trans (alloc_at (by simp))) ((R8.out.later (((Below.refl _ w8).alloc (Nat.le_refl _) _).alloc (by simp) _)).later (b9.mono (by simp))))
 clear s9 b9 R8
 go_wp2_with fail
 refine (AA.out _ _ _ _ _ _ S9.out).mono ?_
 rintro e w10 ⟨rfl,s10,b10⟩
 have S10:=qh s10
 have R10:=qh (R9.out.later b10)
 clear s10 b10 R9
 go_wp2_with fail
 refine (NA.out _ _ _ _ _ _ _ (S10.out.alloc _)).mono ?_
 rintro e w11 ⟨rfl,s11,b11⟩
 have S11:=qh s11
 have R11:Hid (NdR w11 tree3 (.int .i64 22) (.string ⟨#[]⟩) (.slice (some ⟨w10.heap.size,0,none⟩) 2 2)) :=
  qh (NdR.lit2 (l1:=[.mk 18 ⟨#[120]⟩ [.mk 15 ⟨#[112]⟩ [nm_ 120]]]) (l2:=[]) (by unfold maxLen;decide) ((b11.block _ (by simp)).trans (World.alloc_heap_new _ _)) ((R10.out.later ((Below.refl _ w10).alloc (Nat.le_refl _) _)).later b11) (NdR.leaf _ _ _ (by unfold maxLen;decide)))
 clear s11 b11 R10
 go_wp2_with fail
 refine (P3.out _ _ S11.out _ _ _ R11.out).mono ?_
 rintro e w12 ⟨rfl,s12,_⟩
 have S12:=qh s12
 clear s12 R11 P3 AA NA S6 S7 S8 S9 S10 S11
 go_wp2_with fail
 refine (F4.out _ _ S12.out).mono ?_
 rintro e w13 ⟨rfl,s13⟩
 have S13:=qh s13
 clear s13 F4 S12
 go_wp2_with fail
 refine (F5.out _ _ (S13.out.alloc _)).mono ?_
 rintro e w14 ⟨rfl,s14⟩
 have S14:=qh s14
 clear s14 F5 S13
 go_wp2_with fail
 refine (F6.out _ _ (S14.out.alloc _)).mono ?_
 rintro e w15 ⟨an,cn,rfl,s15,n15⟩
 obtain ⟨V15,hV15⟩:∃ V,w15.alloc (.cells #[.int .i64 1,.string { data:=#[] },.slice an 2 cn] 25)=V:=⟨_,rfl⟩
 have s15':=s15.alloc (.cells #[.int .i64 1,.string { data:=#[] },.slice an 2 cn] 25)
 have HY':=Row3.new w15 (.int .i64 1) (.string { data:=#[] }) (.slice an 2 cn)
 have n15':=n15.later ((Below.refl _ w15).alloc (Nat.le_refl _) (.cells #[.int .i64 1,.string { data:=#[] },.slice an 2 cn] 25))
 rw [hV15] at s15' HY' n15'
 obtain ⟨Y,hY⟩:∃ Y,w15.heap.size=Y:=⟨_,rfl⟩
 rw [hY] at HY'
 have HY:=qh HY'
 have T15:=qh (T5.out.below s15'.1)
 have HX15:=qh (HX.out.below s15'.1 HX.out.lt)
 have N15:Hid (NdR V15 tree6 (.int .i64 1) (.string { data:=#[] }) (.slice an 2 cn)):=qh n15'
 have S15:Hid (St V15 V15):=qh ⟨Below.refl _ _,s15'.2.1,s15'.2.2⟩
 have HV15:=qh hV15
 have HYe:=qh hY
 clear s15 s15' HY' n15 n15' hV15 hY F6 S14 HX T5 S5
 go_upto_region 11 with fail
 rw [HV15.out,HYe.out]
 clear HV15 HYe
 obtain ⟨⟨y0,y1,y2⟩,_⟩:=HY.out.cells
 go_wp2_with fail
 refine (P6.out _ _ S15.out _ _ _ N15.out).mono ?_
 rintro e w16 ⟨rfl,s16,_⟩
 have S16:=qh s16
 have HY16:=qh (HY.out.below s16.1 HY.out.lt)
 clear s16 P6 y0 y1 y2
 obtain ⟨⟨y0,y1,y2⟩,_⟩:=HY16.out.cells
 have CV:=qh (occur_any 39 16 (.inr ⟨rfl,rfl⟩) tree6 w16 _ _ _ (N15.out.later S16.out.1))
 unfold OccR at CV
 rw [valid6,if_pos rfl,vars6] at CV
 go_wp2_with fail
 refine CV.out.mono ?_
 rintro e w17 ⟨vl,rfl,r17,b17⟩
 have S17:=qh (S16.out.below b17)
 obtain ⟨av,nv,hvl⟩:=row_shape (show w17.ownsRow _ _ 1 vl _ _ from r17)
 subst hvl
 have R17:=qh r17
 clear b17 r17 CV y0 y1 y2 S16
 have HY17:=qh (HY.out.below S17.out.1 HY.out.lt)
 have HX17:=qh (HX15.out.below S17.out.1 HX15.out.lt)
 have N17:=qh (N15.out.later S17.out.1)
 obtain ⟨⟨y0,y1,y2⟩,_⟩:=HY17.out.cells
 go_wp2_with fail
 obtain ⟨_,hv0 | ⟨g,rfl,hvc⟩⟩:=rowS_cells R17.out
 ·cases hv0
 have v0:w17.cell? ⟨g,0,none⟩=some (.string ⟨#[88]⟩):=hvc 0 (by simp)
 obtain ⟨b1,o1,k1,s1,l1,a1',c1',rfl,e1,p0,p1,p2,r1⟩:=N17.out.kid 1 (by simp)
 cases e1
 obtain ⟨b2,o2,k2,s2,l2,a2',c2',rfl,e2,q0,q1,q2,r2⟩:=r1.kid 0 (by simp)
 cases e2
 obtain ⟨b3,o3,k3,s3,l3,a3',c3',rfl,e3,t0,t1,t2,r3⟩:=r2.kid 1 (by simp)
 cases e3
 obtain ⟨b4,o4,k4,s4,l4,a4',c4',rfl,e4,u0,u1,u2,r4⟩:=r3.kid 0 (by simp)
 cases e4
 have CS:Hid (∀ W,Below w17.heap.size w17 W→Calls Tryz.prog 32 #[.agg #[.int .i64 16,.string { data:=#[88] },.slice a4' 0 c4'],.agg #[.int .i64 16,.string { data:=#[88] },.slice none 0 0]] W fun e w'=>e = .returned (.bool true)∧Below W.heap.size W w') :=
  qh (fun W hb=>by
   have C:=sameN_any 1 varX varX W _ _ _ _ _ _ (by decide) (r4.later hb) (NdR.leaf W 16 { data:=#[88] } (by unfold maxLen;decide))
   rw [show sameN varX varX=true from by kernel_rfl] at C
   exact C)
 obtain ⟨⟨x0,x1,x2⟩,_⟩:=HX17.out.cells
 clear r1 r2 r3 r4 hvc p0 p1 q1 t0 t1
 simp only [Nat.zero_mul,Nat.add_zero,Nat.one_mul] at p2 q0 q2 t2 u0 u1 u2
 go_upto_region 18 with fail
 have S0:Hid (w17.cell? ⟨g,0,none⟩=some (.string ⟨#[88]⟩)∧w17.cell? ⟨Y,2,none⟩=some (.slice (some ⟨b1,o1,none⟩) 2 cn)∧w17.cell? ⟨b1,o1+3+2,none⟩=some (.slice (some ⟨b2,o2,none⟩) 1 c1')∧w17.cell? ⟨b2,o2,none⟩=some (.int .i64 27)∧w17.cell? ⟨b2,o2+2,none⟩=some (.slice (some ⟨b3,o3,none⟩) 2 c2')∧w17.cell? ⟨b3,o3+3+2,none⟩=some (.slice (some ⟨b4,o4,none⟩) 1 c3')∧w17.cell? ⟨b4,o4,none⟩=some (.int .i64 16)∧w17.cell? ⟨b4,o4+1,none⟩=some (.string { data:=#[88] })∧w17.cell? ⟨b4,o4+2,none⟩=some (.slice a4' 0 c4')∧w17.cell? ⟨X,0,none⟩=some (.int .i64 16)∧w17.cell? ⟨X,1,none⟩=some (.string { data:=#[88] })∧w17.cell? ⟨X,2,none⟩=some (.slice none 0 0)):=qh ⟨v0,y2,p2,q0,q2,t2,u0,u1,u2,x0,x1,x2⟩
 have SD:w17.drew.cell? ⟨g,0,none⟩=some (.string ⟨#[88]⟩)∧w17.drew.cell? ⟨Y,2,none⟩=some (.slice (some ⟨b1,o1,none⟩) 2 cn)∧w17.drew.cell? ⟨b1,o1+3+2,none⟩=some (.slice (some ⟨b2,o2,none⟩) 1 c1')∧w17.drew.cell? ⟨b2,o2,none⟩=some (.int .i64 27)∧w17.drew.cell? ⟨b2,o2+2,none⟩=some (.slice (some ⟨b3,o3,none⟩) 2 c2')∧w17.drew.cell? ⟨b3,o3+3+2,none⟩=some (.slice (some ⟨b4,o4,none⟩) 1 c3')∧w17.drew.cell? ⟨b4,o4,none⟩=some (.int .i64 16)∧w17.drew.cell? ⟨b4,o4+1,none⟩=some (.string { data:=#[88] })∧w17.drew.cell? ⟨b4,o4+2,none⟩=some (.slice a4' 0 c4')∧w17.drew.cell? ⟨X,0,none⟩=some (.int .i64 16)∧w17.drew.cell? ⟨X,1,none⟩=some (.string { data:=#[88] })∧w17.drew.cell? ⟨X,2,none⟩=some (.slice none 0 0):=S0.out
 have SB:Hid (∀ W,Below w17.heap.size w17 W→W.cell? ⟨g,0,none⟩=some (.string ⟨#[88]⟩)∧W.cell? ⟨Y,2,none⟩=some (.slice (some ⟨b1,o1,none⟩) 2 cn)∧W.cell? ⟨b1,o1+3+2,none⟩=some (.slice (some ⟨b2,o2,none⟩) 1 c1')∧W.cell? ⟨b2,o2,none⟩=some (.int .i64 27)∧W.cell? ⟨b2,o2+2,none⟩=some (.slice (some ⟨b3,o3,none⟩) 2 c2')∧W.cell? ⟨b3,o3+3+2,none⟩=some (.slice (some ⟨b4,o4,none⟩) 1 c3')∧W.cell? ⟨b4,o4,none⟩=some (.int .i64 16)∧W.cell? ⟨b4,o4+1,none⟩=some (.string { data:=#[88] })∧W.cell? ⟨b4,o4+2,none⟩=some (.slice a4' 0 c4')∧W.cell? ⟨X,0,none⟩=some (.int .i64 16)∧W.cell? ⟨X,1,none⟩=some (.string { data:=#[88] })∧W.cell? ⟨X,2,none⟩=some (.slice none 0 0)):=qh (fun W hb=>⟨(hb.cell (p:=⟨g,0,none⟩) (lt_of_cell v0)).trans v0,(hb.cell (p:=⟨Y,2,none⟩) (lt_of_cell y2)).trans y2,(hb.cell (p:=⟨b1,o1+3+2,none⟩) (lt_of_cell p2)).trans p2,(hb.cell (p:=⟨b2,o2,none⟩) (lt_of_cell q0)).trans q0,(hb.cell (p:=⟨b2,o2+2,none⟩) (lt_of_cell q2)).trans q2,(hb.cell (p:=⟨b3,o3+3+2,none⟩) (lt_of_cell t2)).trans t2,(hb.cell (p:=⟨b4,o4,none⟩) (lt_of_cell u0)).trans u0,(hb.cell (p:=⟨b4,o4+1,none⟩) (lt_of_cell u1)).trans u1,(hb.cell (p:=⟨b4,o4+2,none⟩) (lt_of_cell u2)).trans u2,(hb.cell (p:=⟨X,0,none⟩) (lt_of_cell x0)).trans x0,(hb.cell (p:=⟨X,1,none⟩) (lt_of_cell x1)).trans x1,(hb.cell (p:=⟨X,2,none⟩) (lt_of_cell x2)).trans x2⟩)
 have HLB:Hid (∀ e:Bool,True):=qh (fun _=>trivial)
 clear v0 y2 p2 q0 q2 t2 u0 u1 u2 x0 x1 x2 y0 y1
 go_region_held3 (fun w'=>w'.cell? ⟨g,0,none⟩=some (.string ⟨#[88]⟩)∧w'.cell? ⟨Y,2,none⟩=some (.slice (some ⟨b1,o1,none⟩) 2 cn)∧w'.cell? ⟨b1,o1+3+2,none⟩=some (.slice (some ⟨b2,o2,none⟩) 1 c1')∧w'.cell? ⟨b2,o2,none⟩=some (.int .i64 27)∧w'.cell? ⟨b2,o2+2,none⟩=some (.slice (some ⟨b3,o3,none⟩) 2 c2')∧w'.cell? ⟨b3,o3+3+2,none⟩=some (.slice (some ⟨b4,o4,none⟩) 1 c3')∧w'.cell? ⟨b4,o4,none⟩=some (.int .i64 16)∧w'.cell? ⟨b4,o4+1,none⟩=some (.string { data:=#[88] })∧w'.cell? ⟨b4,o4+2,none⟩=some (.slice a4' 0 c4')∧w'.cell? ⟨X,0,none⟩=some (.int .i64 16)∧w'.cell? ⟨X,1,none⟩=some (.string { data:=#[88] })∧w'.cell? ⟨X,2,none⟩=some (.slice none 0 0))
  (first | with_reducible exact SD | with_reducible exact SE)
  (first | (go_at_call 32;refine (CS.out _ ((Below.refl _ w17).drew)).mono ?_;rintro e w18 ⟨rfl,hb⟩;have B18:Hid (Below w17.heap.size w17 w18):=qh (((Below.refl _ w17).drew).trans hb);have SE:=SB.out _ B18.out;clear hb))
 all_goals go_wp2
 all_goals go_ret
 all_goals exact ⟨rfl,(T15.out.1.trans (S17.out.1.mono T15.out.1.size)).trans (B18.out.mono (Nat.le_trans T15.out.1.size S17.out.1.size))⟩
end Go.Proofs.YtgjijidlaghlmaaGreatDoor
namespace Go.Proofs.YtgjijidlaghlmaaGreatDoor
open Go.RowKit
set_option maxRecDepth 100000 in
set_option maxHeartbeats 2000000 in
theorem rSameN (n:Nat):∀ (t u:Nd) (w:World) (v0 v1 v2 u0 u1 u2:Value),t.sz≤n→NdR w t v0 v1 v2→NdR w u u0 u1 u2 →
  Calls Tryz.prog 26 #[.agg #[v0,v1,v2],.agg #[u0,u1,u2]] w fun e w'=>e = .returned (.bool (sameN t u))∧Below w.heap.size w w':=by
 induction n with
 | zero=>intro t u w v0 v1 v2 u0 u1 u2 h;cases t;simp only [Nd.sz] at h;omega
 | succ n ih =>
  intro t u w v0 v1 v2 u0 u1 u2 hsz ht hu
  obtain ⟨k,s,l,a,cap,rfl,rfl,rfl,rfl,hs,hl⟩:=ht.form
  obtain ⟨k',s',l',a',cap',rfl,rfl,rfl,rfl,hs',hl'⟩:=hu.form
  have IH:=qh ih
  clear ih
  unfold maxLen at hl hl'
  by_cases hk:k=k'
  ·subst hk
   have hk2:(k != k)=false:=by simp
   by_cases hse:s.toList=s'.toList
   ·have hs2:(s.toList != s'.toList)=false:=by rw [hse];simp
    have hs3:(!(s.toList==s'.toList))=false:=by rw [hse];simp
    by_cases hll:l.length=l'.length
    ·have hl2:((l.length:Int) != (l'.length:Int))=false:=by rw [hll];simp
     have HS:Hid (sameN (.mk k s l) (.mk k s' l')=sameL l l'):=qh (by simp only [sameN];rw [hse];simp)
     have HL:=qh hll
     have HT:=qh ht
     have HU:=qh hu
     have Hsz:Hid (∀ i,(h:i < l.length)→(l[i]).sz≤n):=qh fun i h=>by have:=Nd.kid_lt k s l i h;omega
     have hss:=qh hse
     clear hse hll ht hu hsz
     go_enter Tryz.func26,Tryz.ntmps26
     go_wp2
     obtain ⟨h,hh⟩:∃ h,w.heap.size=h:=⟨_,rfl⟩
     obtain ⟨wz,hwz⟩:∃ wz,(w.alloc (Obj.cells #[Value.int IntKind.i64 k,Value.string s,Value.slice a l.length cap] 25)).alloc (Obj.cells #[Value.int IntKind.i64 k,Value.string s',Value.slice a' l'.length cap'] 25)=wz:=⟨_,rfl⟩
     have hB:Hid (Below w.heap.size w wz):=qh (by rw [←hwz];exact ((Below.refl _ w).alloc (Nat.le_refl _) _).alloc (by simp) _)
     have hz:wz.heap.size=h+1+1:=by rw [←hwz];simp [hh]
     have g0:wz.cell? ⟨h,2,none⟩=some (.slice a l.length cap):=by
      rw [←hwz,←hh];exact (World.cell?_alloc_past _ _ _ (by simp)).trans ((World.cell?_alloc_at _ _ _ _ rfl).trans rfl)
     have g1:wz.cell? ⟨h+1,2,none⟩=some (.slice a' l'.length cap'):=by
      rw [←hwz,←hh];exact (World.cell?_alloc_at _ _ _ _ (by simp)).trans rfl
     have HG0:=qh g0
     have HG1:=qh g1
     have Hz:=qh hz
     have HTz:=qh (HT.out.later hB.out)
     have HUz:=qh (HU.out.later hB.out)
     rw [hwz,hh]
     clear hwz hh hz g0 g1 HT HU
     go_loopw [5] (fun v5 wr=>∃ i:Nat,i≤l.length∧v5 = .int .i64 i∧Hid (sameL l l'=sameL (l.drop i) (l'.drop i))∧Hid (Below wz.heap.size wz wr)) (fun v5 _=>l.length - (intOf v5).toNat)
     case atStart=>exact ⟨0,Nat.zero_le _,rfl,rfl,Below.refl _ _⟩
     case round =>
      obtain ⟨i,hi,rfl,hrun,hbl⟩:=hrel
      have g0:=(hbl.out.cell (p:=⟨h,2,none⟩) (by have:=Hz.out;simp only;omega)).trans HG0.out
      have g1:=(hbl.out.cell (p:=⟨h+1,2,none⟩) (by have:=Hz.out;simp only;omega)).trans HG1.out
      by_cases hlt:i < l.length
      ·have hlt':(i:Int) < (l.length:Int):=by omega
       have hi2:i < l'.length:=by have:=HL.out;omega
       have hlt2:(i:Int) < (l'.length:Int):=by omega
       have hi0:(0:Int)≤(i:Int):=by omega
       obtain ⟨b,o,k1,s1,l1,a1,c1,rfl,e1,x0,x1,x2,r1⟩:=(HTz.out.later hbl.out).kid i hlt
       obtain ⟨b',o',k2,s2,l2,a2,c2,rfl,e2,y0,y1,y2,r2⟩:=(HUz.out.later hbl.out).kid i hi2
       have Hst:=qh (sameL_step hlt hi2)
       have hsz1:=Hsz.out i hlt
       rw [e1] at hsz1
       rw [e1,e2] at Hst
       obtain ⟨V,hV⟩:∃ V,sameN (.mk k1 s1 l1) (.mk k2 s2 l2)=V:=⟨_,rfl⟩
       have C:=qh (fun w (h1:NdR w (.mk k1 s1 l1) _ _ _) (h2:NdR w (.mk k2 s2 l2) _ _ _)=>IH.out _ _ w (.int .i64 k1) (.string s1) (.slice a1 l1.length c1) (.int .i64 k2) (.string s2) (.slice a2 l2.length c2) hsz1 h1 h2)
       rw [hV] at C Hst
       have R1:=qh r1
       have R2:=qh r2
       have L0:=lt_of_cell g0
       have L1:=lt_of_cell g1
       have L2:=lt_of_cell x0
       have L3:=lt_of_cell y0
       clear e1 e2 hV r1 r2
       go_upto_region 6 with fail
       go_cut [45] (fun v wx=>v = .bool (!V)∧Hid (Below wz.heap.size wz wx))
       case first =>
        go_region_held3 (fun w'=>w'.cell? ⟨h,2,none⟩=some (.slice (some ⟨b,o,none⟩) l.length cap)∧w'.cell? ⟨h+1,2,none⟩=some (.slice (some ⟨b',o',none⟩) l'.length cap')∧w'.cell? ⟨b,o+i*3,none⟩=some (.int .i64 k1)∧w'.cell? ⟨b,o+i*3+1,none⟩=some (.string s1)∧w'.cell? ⟨b,o+i*3+2,none⟩=some (.slice a1 l1.length c1)∧w'.cell? ⟨b',o'+i*3,none⟩=some (.int .i64 k2)∧w'.cell? ⟨b',o'+i*3+1,none⟩=some (.string s2)∧w'.cell? ⟨b',o'+i*3+2,none⟩=some (.slice a2 l2.length c2))
         (first | exact ⟨g0,g1,x0,x1,x2,y0,y1,y2⟩ | exact ⟨(hb5.cell (p:=⟨h,2,none⟩) L0).trans g0,(hb5.cell (p:=⟨h+1,2,none⟩) L1).trans g1,(hb5.cell (p:=⟨b,o+i*3,none⟩) L2).trans x0,(hb5.cell (p:=⟨b,o+i*3+1,none⟩) L2).trans x1,(hb5.cell (p:=⟨b,o+i*3+2,none⟩) L2).trans x2,(hb5.cell (p:=⟨b',o'+i*3,none⟩) L3).trans y0,(hb5.cell (p:=⟨b',o'+i*3+1,none⟩) L3).trans y1,(hb5.cell (p:=⟨b',o'+i*3+2,none⟩) L3).trans y2⟩)
         ((go_at_call 26;refine (C.out _ (R1.out.later (Below.refl _ _).drew) (R2.out.later (Below.refl _ _).drew)).mono ?_;rintro e w5 ⟨rfl,hb5⟩))
        all_goals go_wp2
        all_goals go_meet
        all_goals exact ⟨rfl,qh (hbl.out.drew.trans (hb5.mono hbl.out.size))⟩
       case rest =>
        obtain ⟨rfl,hbx⟩:=hcut
        clear C R1 R2 g0 g1 x0 x1 x2 y0 y1 y2
        cases V with
        | false =>
         go_wp2
         go_ret
         exact ⟨by rw [HS.out,hrun.out,Hst.out];rfl,hB.out.trans (hbx.out.mono hB.out.size)⟩
        | true =>
         go_wp2
         go_roundw
         case rel=>exact ⟨i+1,hlt,by push_cast;rfl,qh (by rw [hrun.out,Hst.out];rfl),hbx⟩
         case measure=>simp [intOf];omega
      ·have hlt':¬ ((i:Int) < (l.length:Int)):=by omega
       go_wp2
       go_ret
       exact ⟨by rw [HS.out,hrun.out,sameL_end (by omega) (by have:=HL.out;omega)];rfl,hB.out.trans (hbl.out.mono hB.out.size)⟩
    ·have hl2:((l.length:Int) != (l'.length:Int))=true:=by rw [bne_iff_ne];omega
     have HS:Hid (sameN (.mk k s l) (.mk k s' l')=false):=qh (by simp only [sameN];rw [sameL_len l l' hll,Bool.and_false])
     have hss:=qh hse
     clear hse hll ht hu
     go_enter Tryz.func26,Tryz.ntmps26
     go_wp2
     go_ret
     exact ⟨by rw [HS.out];rfl,((Below.refl _ w).alloc (Nat.le_refl _) _).alloc (by simp) _⟩
   ·have hs2:(s.toList==s'.toList)=false:=by rw [beq_eq_false_iff_ne];exact hse
    have HS:Hid (sameN (.mk k s l) (.mk k s' l')=false):=qh (by simp only [sameN];rw [hs2,Bool.and_false];rfl)
    have hs3:(s=s')=False:=eq_false (by rintro rfl;exact hse rfl)
    clear hse ht hu
    go_enter Tryz.func26,Tryz.ntmps26
    go_wp2
    go_ret
    exact ⟨by rw [HS.out];rfl,((Below.refl _ w).alloc (Nat.le_refl _) _).alloc (by simp) _⟩
  ·have hk2:(k != k')=true:=by rw [bne_iff_ne];exact hk
   have HS:Hid (sameN (.mk k s l) (.mk k' s' l')=false):=qh (by simp only [sameN];rw [show (k==k')=false from by rw [beq_eq_false_iff_ne];exact hk];rfl)
   clear hk ht hu
   go_enter Tryz.func26,Tryz.ntmps26
   go_wp2
   go_ret
   exact ⟨by rw [HS.out];rfl,((Below.refl _ w).alloc (Nat.le_refl _) _).alloc (by simp) _⟩
end Go.Proofs.YtgjijidlaghlmaaGreatDoor
namespace Go.Proofs.YtgjijidlaghlmaaGreatDoor
open Go.RowKit
theorem sameB_step {l m:List AT} {k:Nat} (h:k < l.length) (hl:l.length=m.length) :
  sameB (l.drop k) (m.drop k)=((l[k].k==(m[k]'(by omega)).k && (l[k].t.toList==(m[k]'(by omega)).t.toList)) && sameB (l.drop (k+1)) (m.drop (k+1))):=by
 rw [List.drop_eq_getElem_cons h,List.drop_eq_getElem_cons (show k < m.length by omega)];rfl
theorem sameB_end {l m:List AT} {k:Nat} (h:l.length≤k) (hl:l.length=m.length):sameB (l.drop k) (m.drop k)=true:=by
 rw [List.drop_of_length_le h,List.drop_of_length_le (by omega)];rfl
end Go.Proofs.YtgjijidlaghlmaaGreatDoor
namespace Go.Proofs.YtgjijidlaghlmaaGreatDoor
open Go.RowKit
set_option maxRecDepth 100000 in
set_option maxHeartbeats 1000000 in
theorem rSame_any (va vb:Value) (la lb:List AT) (w:World) (ha:TokSl w va la) (hb:TokSl w vb lb) (hm:la.length≤maxLen) (hm2:lb.length≤maxLen) :
  Calls Tryz.prog 54 #[va,vb] w fun e w'=>e = .returned (.bool (sameB la lb))∧Below w.heap.size w w':=by
 obtain ⟨a,ca,rfl,hca⟩:=ha
 obtain ⟨b,cb,rfl,hcb⟩:=hb
 unfold maxLen at hm hm2
 by_cases hl:la.length=lb.length
 ·have hl':((la.length:Int) != (lb.length:Int))=false:=by rw [hl];simp
  have HL:=qh hl
  clear hl
  go_enter Tryz.func54,Tryz.ntmps54
  go_wp2
  go_loopw [5] (fun v wr=>∃ k:Nat,k≤la.length∧v = .int .i64 k∧Hid (sameB la lb=sameB (la.drop k) (lb.drop k))∧Hid (Below w.heap.size w wr)) (fun v _=>la.length - (intOf v).toNat)
  case atStart=>exact ⟨0,Nat.zero_le _,rfl,rfl,Below.refl _ _⟩
  case round =>
   obtain ⟨k,hk,rfl,hrun,hbl⟩:=hrel
   by_cases hlt:k < la.length
   ·have hlt2:k < lb.length:=by have:=HL.out;omega
    have hlt':(k:Int) < (la.length:Int):=by omega
    obtain ⟨ba,oa,rfl,hA⟩:=hca (by rintro rfl;simp at hlt)
    obtain ⟨bb,ob,rfl,hB⟩:=hcb (by rintro rfl;simp at hlt2)
    obtain ⟨x0,x1,x2⟩:=(hA k hlt).below hbl.out
    obtain ⟨y0,y1,y2⟩:=(hB k hlt2).below hbl.out
    have n0:=block_lt_of_cell x0
    have n1:=block_lt_of_cell y0
    simp only at n0 n1
    have Hst:=qh (sameB_step hlt HL.out)
    clear hca hcb hA hB
    generalize la[k]=A at x0 x1 x2 Hst
    generalize lb[k]=B at y0 y1 y2 Hst
    go_upto_region 6 with fail
    go_cut [40] (fun v wx=>v = .bool (!(A.k==B.k && A.t.toList==B.t.toList))∧Hid (Below w.heap.size w wx))
    case first =>
     by_cases hk2:A.k=B.k
     ·have hk3:(A.k != B.k)=false:=by rw [hk2];simp
      have hk4:(A.k==B.k)=true:=by rw [hk2];simp
      clear hk2
      go_region
      all_goals go_wp2
      all_goals go_meet
      all_goals exact ⟨by rw [hk4,Bool.true_and],hbl.out.drew⟩
     ·have hk3:(A.k != B.k)=true:=by rw [bne_iff_ne];exact hk2
      have hk4:(A.k==B.k)=false:=by rw [beq_eq_false_iff_ne];exact hk2
      clear hk2
      go_region
      all_goals go_wp2
      all_goals go_meet
      all_goals exact ⟨by rw [hk4,Bool.false_and];rfl,hbl.out.drew⟩
    case rest =>
     obtain ⟨rfl,hbx⟩:=hcut
     cases hb2:(A.k==B.k && A.t.toList==B.t.toList)
     ·rw [hb2] at Hst
      go_wp2
      go_ret
      exact ⟨by rw [hrun.out,Hst.out];rfl,hbx.out⟩
     ·rw [hb2] at Hst
      go_wp2
      go_roundw
      case rel=>exact ⟨k+1,hlt,by push_cast;rfl,qh (by rw [hrun.out,Hst.out];rfl),hbx⟩
      case measure=>simp [intOf];omega
   ·have hlt':¬ ((k:Int) < (la.length:Int)):=by omega
    clear hca hcb
    go_wp2
    go_ret
    exact ⟨by rw [hrun.out,sameB_end (by omega) HL.out];rfl,hbl.out⟩
 ·have hl':((la.length:Int) != (lb.length:Int))=true:=by rw [bne_iff_ne];omega
  have HS:=qh (sameB_len hl)
  clear hca hcb hl
  go_enter Tryz.func54,Tryz.ntmps54
  go_wp2
  go_ret
  exact ⟨by rw [HS.out];rfl,Below.refl _ _⟩
end Go.Proofs.YtgjijidlaghlmaaGreatDoor
namespace Go.Proofs.YtgjijidlaghlmaaGreatDoor
open Go.ChangeShapes Go.WideShapes Go.ChangeAt Go.RowKit
theorem cells_flat (k:Nat):∀ (L:List (List Value)) (cs:List Value),(∀ x∈L,x.length=k)→cs.length=L.length*k→(∀ i,(h:i < L.length)→(cs.drop (i*k)).take k=L[i])→cs=L.flatten
 | [],cs,_,hl,_=>by
  have:cs=[]:=List.eq_nil_of_length_eq_zero (by simpa using hl)
  rw [this]
  rfl
 | x :: L,cs,hk,hl,h=>by
  have h0:=h 0 (by simp)
  simp only [Nat.zero_mul,List.drop_zero,List.getElem_cons_zero] at h0
  have ih:=cells_flat k L (cs.drop k) (fun y hy=>hk y (by simp [hy])) (by
   rw [List.length_drop,hl,List.length_cons,Nat.succ_mul]
   omega) (fun i hi=>by
   have:=h (i+1) (by simpa using hi)
   rw [List.getElem_cons_succ] at this
   rw [List.drop_drop,←this,Nat.succ_mul,Nat.add_comm])
  rw [List.flatten_cons,←ih,←h0,List.take_append_drop]
section
variable {H:Type} {enc:TypeId×Value→H} {w:World} {base fuel:Nat} {sp:Nat→Bool} {hd:Bool} {cs:List Value} {x:DataW H×List MemPlace}
theorem lit_string {s:List UInt8} (h:DataW.trod enc Tryz.prog w base sp hd fuel 9 cs=some x) (hx:x.1 = .lit (.string s)):cs=[S_ s]:=by
 obtain ⟨s',rfl,rfl,_⟩:=DataW.trod_string Tryz.underlying9 h
 simp only [DataW.lit.injEq,Lit.string.injEq] at hx
 subst hx
 rfl
theorem lit_int {n:Int} (h:DataW.trod enc Tryz.prog w base sp hd fuel 3 cs=some x) (hx:x.1 = .lit (.int .i64 n)):cs=[.int .i64 n]:=by
 obtain ⟨m,rfl,rfl,_⟩:=DataW.trod_int Tryz.underlying3 h
 simp only [DataW.lit.injEq,Lit.int.injEq,true_and] at hx
 subst hx
 rfl
set_option maxRecDepth 100000 in
theorem open_opening {s:List UInt8} {n:Int} (h:DataW.trod enc Tryz.prog w base sp hd fuel 184 cs=some x) (hx:x.1 = .agg [.lit (.string s),.lit (.int .i64 n)]):cs=[S_ s,.int .i64 n]:=by
 obtain ⟨xs,m,_,rfl,hl,hxs,hf⟩:=DataW.trod_struct Tryz.underlying184 h
 have c:Tryz.prog.cellsOf 184=2:=by kernel_rfl
 have c9:Tryz.prog.cellsOf 9=1:=by kernel_rfl
 have c3:Tryz.prog.cellsOf 3=1:=by kernel_rfl
 rw [c] at hl
 have f0:DataW.trod enc Tryz.prog w base sp hd m 9 ((cs.drop 0).take (Tryz.prog.cellsOf 9))=xs[0]?:=hf 0 _ rfl
 have f1:DataW.trod enc Tryz.prog w base sp hd m 3 ((cs.drop 1).take (Tryz.prog.cellsOf 3))=xs[1]?:=hf 1 _ rfl
 rw [c9] at f0
 rw [c3] at f1
 match xs,hxs,hx,f0,f1 with
 | [x0,x1],_,hx,f0,f1 =>
  simp only [List.map_cons,List.map_nil,DataW.agg.injEq,List.cons.injEq,and_true] at hx
  have e0:=lit_string f0 hx.1
  have e1:=lit_int f1 hx.2
  match cs,hl,e0,e1 with
  | [a,b],_,e0,e1 =>
   simp at e0 e1
   rw [e0,e1]
set_option maxRecDepth 100000 in
theorem open_operator {s:List UInt8} {n b:Int} (h:DataW.trod enc Tryz.prog w base sp hd fuel 187 cs=some x) (hx:x.1 = .agg [.lit (.string s),.lit (.int .i64 n),.lit (.int .i64 b)]):cs=[S_ s,.int .i64 n,.int .i64 b]:=by
 obtain ⟨xs,m,_,rfl,hl,hxs,hf⟩:=DataW.trod_struct Tryz.underlying187 h
 have c:Tryz.prog.cellsOf 187=3:=by kernel_rfl
 have c9:Tryz.prog.cellsOf 9=1:=by kernel_rfl
 have c3:Tryz.prog.cellsOf 3=1:=by kernel_rfl
 rw [c] at hl
 have f0:DataW.trod enc Tryz.prog w base sp hd m 9 ((cs.drop 0).take (Tryz.prog.cellsOf 9))=xs[0]?:=hf 0 _ rfl
 have f1:DataW.trod enc Tryz.prog w base sp hd m 3 ((cs.drop 1).take (Tryz.prog.cellsOf 3))=xs[1]?:=hf 1 _ rfl
 have f2:DataW.trod enc Tryz.prog w base sp hd m 3 ((cs.drop 2).take (Tryz.prog.cellsOf 3))=xs[2]?:=hf 2 _ rfl
 rw [c9] at f0
 rw [c3] at f1 f2
 match xs,hxs,hx,f0,f1,f2 with
 | [x0,x1,x2],_,hx,f0,f1,f2 =>
  simp only [List.map_cons,List.map_nil,DataW.agg.injEq,List.cons.injEq,and_true] at hx
  have e0:=lit_string f0 hx.1
  have e1:=lit_int f1 hx.2.1
  have e2:=lit_int f2 hx.2.2
  match cs,hl,e0,e1,e2 with
  | [a,b,c],_,e0,e1,e2 =>
   simp at e0 e1 e2
   rw [e0,e1,e2]
theorem open_openings (h:DataW.trod enc Tryz.prog w base sp hd fuel 185 cs=some x) (hx:x.1 = .agg (openL.map fun o=>.agg [.lit (.string o.1),.lit (.int .i64 o.2)])):cs=openArr.toList:=by
 obtain ⟨xs,m,_,rfl,hl,hxs,hel⟩:=DataW.trod_array Tryz.underlying185 h
 have c:Tryz.prog.cellsOf 184=2:=by kernel_rfl
 have cA:Tryz.prog.cellsOf 185=40:=by kernel_rfl
 rw [cA] at hl
 simp only [DataW.agg.injEq] at hx
 have e:openArr.toList=(openL.map fun o=>[S_ o.1,Value.int .i64 o.2]).flatten:=by kernel_rfl
 have len:openL.length=20:=by kernel_rfl
 rw [e]
 refine cells_flat 2 _ cs (by intro y hy;obtain ⟨o,_,rfl⟩:=List.mem_map.1 hy;rfl) (by rw [hl,List.length_map,len]) (fun i hi=>?_)
 have hi':i < openL.length:=by simpa using hi
 have hE:=hel i (by omega)
 rw [c] at hE
 have hxi:xs[i]?=some (xs[i]'(by omega)):=List.getElem?_eq_getElem (by omega)
 rw [hxi] at hE
 rw [List.getElem_map]
 refine open_opening hE ?_
 have:=congrArg (fun l=>l[i]?) hx
 simp only [List.getElem?_map,hxi,List.getElem?_eq_getElem hi',Option.map_some,Option.some.injEq] at this
 exact this
theorem open_operators (h:DataW.trod enc Tryz.prog w base sp hd fuel 188 cs=some x) (hx:x.1 = .agg (opsL.map fun o=>.agg [.lit (.string o.1),.lit (.int .i64 o.2.1),.lit (.int .i64 (o.2.2:Nat))])):cs=opsArr.toList:=by
 obtain ⟨xs,m,_,rfl,hl,hxs,hel⟩:=DataW.trod_array Tryz.underlying188 h
 have c:Tryz.prog.cellsOf 187=3:=by kernel_rfl
 have cA:Tryz.prog.cellsOf 188=24:=by kernel_rfl
 rw [cA] at hl
 simp only [DataW.agg.injEq] at hx
 have e:opsArr.toList=(opsL.map fun o=>[S_ o.1,Value.int .i64 o.2.1,Value.int .i64 (o.2.2:Nat)]).flatten:=by kernel_rfl
 have len:opsL.length=8:=by kernel_rfl
 rw [e]
 refine cells_flat 3 _ cs (by intro y hy;obtain ⟨o,_,rfl⟩:=List.mem_map.1 hy;rfl) (by rw [hl,List.length_map,len]) (fun i hi=>?_)
 have hi':i < opsL.length:=by simpa using hi
 have hE:=hel i (by omega)
 rw [c] at hE
 have hxi:xs[i]?=some (xs[i]'(by omega)):=List.getElem?_eq_getElem (by omega)
 rw [hxi] at hE
 rw [List.getElem_map]
 refine open_operator hE ?_
 have:=congrArg (fun l=>l[i]?) hx
 simp only [List.getElem?_map,hxi,List.getElem?_eq_getElem hi',Option.map_some,Option.some.injEq] at this
 exact this
end
theorem ownAll:ownKnob Tryz.prog.godebug=none:=by kernel_rfl
theorem gOpen : Tryz.prog.globalNamed "peculium/syntax.openings" = some 0 := by kernel_rfl
theorem gOps : Tryz.prog.globalNamed "peculium/syntax.operators" = some 1 := by kernel_rfl
theorem tOpen:(Tryz.prog.globals[0]?).map (·.type)=some 185:=by kernel_rfl
theorem tOps:(Tryz.prog.globals[1]?).map (·.type)=some 188:=by kernel_rfl
def laidL : List (String × DataW Unit) := [("peculium/syntax.openings", Rows.laid_peculium_syntax_openings), ("peculium/syntax.operators", Rows.laid_peculium_syntax_operators)]
theorem row_of_var {W:World} {n:String} {g:Nat} {cs:Array Value} (hg:Tryz.prog.globalNamed n=some g) (h:W.var? Tryz.prog n=some cs):∃ t fr,W.heap[g]?=some (.cells cs t fr):=by
 simp only [World.var?,hg,Option.bind_some] at h
 split at h
 ·rename_i c t fr e
  cases h
  exact ⟨t,fr,e⟩
 ·cases h
set_option maxRecDepth 100000 in
theorem of_laid {W:World} (h:laidMetH Tryz.prog laidL W):GLw W∧2≤W.heap.size:=by
 rw [MakeChecks.laidMetH_plain _ _ _ (by kernel_rfl)] at h
 obtain ⟨ps,⟨g0,t0,cs0,f0,p0,q0,hg0,ht0,hv0,hd0,⟨g1,t1,cs1,f1,p1,q1,hg1,ht1,hv1,hd1,_,_⟩,_⟩,_,_⟩:=h
 obtain rfl:=Option.some.inj (gOpen.symm.trans hg0)
 obtain rfl:=Option.some.inj (gOps.symm.trans hg1)
 obtain rfl:=Option.some.inj (tOpen.symm.trans ht0)
 obtain rfl:=Option.some.inj (tOps.symm.trans ht1)
 have e0:=open_openings hd0 rfl
 have e1:=open_operators hd1 rfl
 obtain ⟨u0,r0,k0⟩:=row_of_var hg0 hv0
 obtain ⟨u1,r1,k1⟩:=row_of_var hg1 hv1
 rw [show cs0=openArr from Array.toList_inj.1 e0] at k0
 rw [show cs1=opsArr from Array.toList_inj.1 e1] at k1
 exact ⟨⟨⟨u0,r0,k0⟩,⟨u1,r1,k1⟩⟩,by have:=heap_lt k1;omega⟩
theorem door_met (os:Os) (args:Array Value):laidMetH Tryz.prog laidL ((World.doorLaid Tryz.prog 400 os).forCall (fun _ _=>0) ⟨#[],args,[]⟩).memory :=
 laidMetH_of_parts3 (fuel:=8) (laidMet_of_run' 8 (by kernel_rfl) (by kernel_rfl)) (by kernel_rfl) (by kernel_rfl)
end Go.Proofs.YtgjijidlaghlmaaGreatDoor
namespace Go.Proofs.YtgjijidlaghlmaaGreatDoor
open Go.RowKit
theorem S_bsT (J:ByteArray):S_ (bs J) = .string J:=congrArg Value.string (str_bs J)
abbrev Tk (h7 h8:Nat) (v7 v8:Value) (w1 w:World):Prop:=w.cell? ⟨h7,0,none⟩=some v7∧w.cell? ⟨h7,2,none⟩=some (.int .i64 0)∧w.cell? ⟨h8,0,none⟩=some v8∧w.cell? ⟨h8,2,none⟩=some (.int .i64 0)∧Hid (Below w1.heap.size w1 w)
theorem tk_below {h7 h8:Nat} {v7 v8:Value} {w1 w w':World} (s:Tk h7 h8 v7 v8 w1 w) (hb:Below w.heap.size w w'):Tk h7 h8 v7 v8 w1 w':=by
 obtain ⟨c0,c1,d0,d1,b⟩:=s
 exact ⟨(hb.cell (p:=⟨h7,0,none⟩) (lt_of_cell c0)).trans c0,(hb.cell (p:=⟨h7,2,none⟩) (lt_of_cell c1)).trans c1,(hb.cell (p:=⟨h8,0,none⟩) (lt_of_cell d0)).trans d0,(hb.cell (p:=⟨h8,2,none⟩) (lt_of_cell d1)).trans d1,qh (b.out.trans (hb.mono b.out.size))⟩
theorem tk_drew {h7 h8:Nat} {v7 v8:Value} {w1 w:World} (s:Tk h7 h8 v7 v8 w1 w):Tk h7 h8 v7 v8 w1 w.drew:=tk_below s ((Below.refl _ w).drew)
theorem tk_b {h7 h8:Nat} {v7 v8:Value} {w1 w:World} (s:Tk h7 h8 v7 v8 w1 w):Below w1.heap.size w1 w:=s.2.2.2.2.out
set_option maxRecDepth 100000 in
set_option maxHeartbeats 1000000 in
theorem tokens_bad (s:ByteArray) (x i:Int) (hx:0≤x∧x < 256) (hi:x % 4=i) (w:World) (hw:2≤w.heap.size) (gl:GLw w) (hs:s.size≤140737488355328) {o:Option Nd} {p er:Nat} (hp:parseP (bs s) (askW i)=(o,p,er))
  (her:¬ er=0) :
  Calls Tryz.prog 9 #[.string s,.int .u8 x] w fun e w'=>e = .returned (.bool true)∧Below w.heap.size w w':=by
 have CS:=qh (saneS_any w hw gl)
 have hi4:i=0∨i=1∨i=2∨i=3:=by omega
 have CA:=qh (fun W hw gl=>parsed_any s i hi4 hp W hw gl (by unfold maxLen;omega))
 have e1:((er:Int)==0)=false:=by rw [beq_eq_false_iff_ne];omega
 have HG:=qh gl
 clear hp gl
 go_enter Tryz.func9,Tryz.ntmps9
 go_wp2_with fail
 refine CS.out.mono ?_
 rintro e w1 ⟨rfl,hb1⟩
 have G1:=qh (HG.out.keep fun b hb _=>hb1.block b (by omega))
 have z1:2≤w1.heap.size:=by have:=hb1.size;omega
 have B1:=qh hb1
 clear CS hb1 HG
 go_wp2_with fail
 refine (CA.out _ z1 G1.out).mono ?_
 rintro e w2 ⟨⟨k,sx,a,n,c,rfl⟩,hb2⟩
 have B2:=qh (B1.out.trans (hb2.mono B1.out.size))
 clear CA hb2 G1 B1
 go_wp2
 all_goals (try go_ret)
 all_goals exact ⟨rfl,B2.out.alloc B2.out.size _⟩
set_option maxRecDepth 100000 in
set_option maxHeartbeats 1000000 in
theorem tokens_long (s:ByteArray) (x i:Int) (hx:0≤x∧x < 256) (hi:x % 4=i) (w:World) (hw:2≤w.heap.size) (gl:GLw w) (hs:s.size≤140737488355328) {t:Nd} (hp:parseP (bs s) (askW i)=(some t,0,0))
  (hpr:printP t=([],2)) :
  Calls Tryz.prog 9 #[.string s,.int .u8 x] w fun e w'=>e = .returned (.bool true)∧Below w.heap.size w w':=by
 have CS:=qh (saneS_any w hw gl)
 have hi4:i=0∨i=1∨i=2∨i=3:=by omega
 have CA:=qh (fun W hw gl=>parsedT_any s i hi4 hp W hw gl (by unfold maxLen;omega))
 have CP:=qh (fun W v0 v1 v2 (ht:NdR W t v0 v1 v2) (gl:GLw W) (hw:2≤W.heap.size)=>Print_any t v0 v1 v2 W ht gl hw)
 simp only [hpr] at CP
 have HG:=qh gl
 clear hp gl hpr
 go_enter Tryz.func9,Tryz.ntmps9
 go_wp2_with fail
 refine CS.out.mono ?_
 rintro e w1 ⟨rfl,hb1⟩
 have G1:=qh (HG.out.keep fun b hb _=>hb1.block b (by omega))
 have z1:2≤w1.heap.size:=by have:=hb1.size;omega
 have B1:=qh hb1
 clear CS hb1 HG
 go_wp2_with fail
 refine (CA.out _ z1 G1.out).mono ?_
 rintro e w2 ⟨k,sx,a,n,c,rfl,hb2,hn2⟩
 have hn2:NdS (fun b=>w1.heap.size≤b) w2 t (.int .i64 k) (.string sx) (.slice a n c):=hn2
 obtain ⟨V2,hV2⟩:∃ V2,w2.alloc (.cells #[.int .i64 k,.string sx,.slice a n c] 25)=V2:=⟨_,rfl⟩
 obtain ⟨h2,hh2⟩:∃ h2,w2.heap.size=h2:=⟨_,rfl⟩
 have hb2':Below w1.heap.size w1 V2:=by rw [←hV2];exact hb2.alloc hb2.size _
 have N2:Row3 V2 h2 (.int .i64 k) (.string sx) (.slice a n c):=by rw [←hV2,←hh2];exact Row3.new _ _ _ _
 have T2:=qh (show NdR V2 t (.int .i64 k) (.string sx) (.slice a n c) from (hn2.toR).later (by rw [←hV2];exact (Below.refl _ _).alloc (Nat.le_refl _) _))
 have G2:=qh (G1.out.keep fun b hb _=>hb2'.block b (by omega))
 have z2:2≤V2.heap.size:=Nat.le_trans z1 hb2'.size
 have B2:=qh (B1.out.trans (hb2'.mono B1.out.size))
 have HN2:=qh N2
 have HV2:=qh hV2
 have HH2:=qh hh2
 clear CA hb2 hb2' hn2 G1 B1 N2 hV2 hh2
 go_upto_region 4 with fail
 rw [HV2.out,HH2.out]
 clear HV2 HH2
 obtain ⟨⟨n0,n1,n2⟩,_⟩:=HN2.out.cells
 go_wp2_with fail
 refine (CP.out _ _ _ _ T2.out G2.out z2).mono ?_
 rintro e w3 ⟨rfl,hb3⟩
 have B3:=qh (B2.out.trans (hb3.mono B2.out.size))
 clear CP hb3 n0 n1 n2
 go_wp2
 all_goals (try go_ret)
 all_goals exact ⟨rfl,B3.out⟩
set_option maxRecDepth 100000 in
set_option maxHeartbeats 20000000 in
theorem tokens_some (s:ByteArray) (x i:Int) (hx:0≤x∧x < 256) (hi:x % 4=i) (w:World) (hw:2≤w.heap.size) (gl:GLw w) (hs:s.size≤140737488355328) {t:Nd} {us vs:List Lx.Tok} {J:ByteArray}
  (hp:parseP (bs s) (askW i)=(some t,0,0)) (hsc:Lx.scan (bs s) = .toks us) (hpr:printP t=(bs J,0)) (hsc2:Lx.scan (bs J) = .toks vs) (hp2:parseP (bs J) (askW i)=(some t,0,0)) (hJ:J.size≤20000)
  (hsame:sameB ((us.filter bareT).map ofTok) ((vs.filter bareT).map ofTok)=true) :
  Calls Tryz.prog 9 #[.string s,.int .u8 x] w fun e w'=>e = .returned (.bool true)∧Below w.heap.size w w':=by
 have CS:=qh (saneS_any w hw gl)
 have hi4:i=0∨i=1∨i=2∨i=3:=by omega
 have CA:=qh (fun W hw gl=>parsedT_any s i hi4 hp W hw gl (by unfold maxLen;omega))
 have CB:=qh (fun W hw gl=>parsedT_any J i hi4 hp2 W hw gl (by unfold maxLen;omega))
 have CP:=qh (fun W v0 v1 v2 (ht:NdR W t v0 v1 v2) (gl:GLw W) (hw:2≤W.heap.size)=>Print_any t v0 v1 v2 W ht gl hw)
 simp only [hpr,S_bsT] at CP
 have CM:=qh (fun W v0 v1 v2 u0 u1 u2 (h1:NdR W t v0 v1 v2) (h2:NdR W t u0 u1 u2)=>rSameN _ t t W v0 v1 v2 u0 u1 u2 (Nat.le_refl _) h1 h2)
 simp only [sameN_me] at CM
 have lu:=scan_len hsc
 have lv:=scan_len hsc2
 have CR:=qh (fun W=>rscanT s us hsc W (by unfold maxLen;omega))
 have CR2:=qh (fun W=>rscanT J vs hsc2 W (by unfold maxLen;omega))
 have CE:=qh (fun v W hv=>lawBare us v W hv lu)
 have CE2:=qh (fun v W hv=>lawBare vs v W hv lv)
 have CT:=qh (fun va vb W ha hb=>rSame_any va vb ((us.filter bareT).map ofTok) ((vs.filter bareT).map ofTok) W ha hb (by rw [List.length_map];have:=List.length_filter_le bareT us;unfold maxLen;omega) (by rw [List.length_map];have:=List.length_filter_le bareT vs;unfold maxLen;omega))
 simp only [hsame] at CT
 obtain ⟨Lu,hLu⟩:∃ L,us.filter bareT=L:=⟨_,rfl⟩
 obtain ⟨Lv,hLv⟩:∃ L,vs.filter bareT=L:=⟨_,rfl⟩
 rw [hLu] at CE CT
 rw [hLv] at CE2 CT
 have HG:=qh gl
 clear hp gl hpr hp2 hsc hsc2 hsame hLu hLv
 go_enter Tryz.func9,Tryz.ntmps9
 go_wp2_with fail
 refine CS.out.mono ?_
 rintro e w1 ⟨rfl,hb1⟩
 have G1:=qh (HG.out.keep fun b hb _=>hb1.block b (by omega))
 have z1:2≤w1.heap.size:=by have:=hb1.size;omega
 have B1:=qh hb1
 clear CS hb1 HG
 go_wp2_with fail
 refine (CA.out _ z1 G1.out).mono ?_
 rintro e w2 ⟨k,sx,a,n,c,rfl,hb2,hn2⟩
 have hn2:NdS (fun b=>w1.heap.size≤b) w2 t (.int .i64 k) (.string sx) (.slice a n c):=hn2
 obtain ⟨V2,hV2⟩:∃ V2,w2.alloc (.cells #[.int .i64 k,.string sx,.slice a n c] 25)=V2:=⟨_,rfl⟩
 obtain ⟨h2,hh2⟩:∃ h2,w2.heap.size=h2:=⟨_,rfl⟩
 have hb2':Below w1.heap.size w1 V2:=by rw [←hV2];exact hb2.alloc hb2.size _
 have N2:Row3 V2 h2 (.int .i64 k) (.string sx) (.slice a n c):=by rw [←hV2,←hh2];exact Row3.new _ _ _ _
 have T2:=qh (show NdR V2 t (.int .i64 k) (.string sx) (.slice a n c) from (hn2.toR).later (by rw [←hV2];exact (Below.refl _ _).alloc (Nat.le_refl _) _))
 have G2:=qh (G1.out.keep fun b hb _=>hb2'.block b (by omega))
 have z2:2≤V2.heap.size:=Nat.le_trans z1 hb2'.size
 have B2:=qh (B1.out.trans (hb2'.mono B1.out.size))
 have HN2:=qh N2
 have HV2:=qh hV2
 have HH2:=qh hh2
 clear CA hb2 hb2' hn2 G1 B1 N2 hV2 hh2
 go_upto_region 4 with fail
 rw [HV2.out,HH2.out]
 clear HV2 HH2
 obtain ⟨⟨n0,n1,n2⟩,_⟩:=HN2.out.cells
 go_wp2_with fail
 refine (CP.out _ _ _ _ T2.out G2.out z2).mono ?_
 rintro e w3 ⟨rfl,hb3⟩
 have HN3:=qh (HN2.out.below hb3 HN2.out.lt)
 have T3:=qh (T2.out.later hb3)
 have G3:=qh (G2.out.keep fun b hb _=>hb3.block b (by omega))
 have z3:2≤w3.heap.size:=Nat.le_trans z2 hb3.size
 have B3:=qh (B2.out.trans (hb3.mono B2.out.size))
 clear hb3 n0 n1 n2 HN2 T2 G2 B2
 go_wp2_with fail
 refine (CB.out _ z3 G3.out).mono ?_
 rintro e w4 ⟨k',sx',a',n',c',rfl,hb4,hn4⟩
 have hn4:NdS (fun b=>w3.heap.size≤b) w4 t (.int .i64 k') (.string sx') (.slice a' n' c'):=hn4
 obtain ⟨V4,hV4⟩:∃ V4,w4.alloc (.cells #[.int .i64 k',.string sx',.slice a' n' c'] 25)=V4:=⟨_,rfl⟩
 obtain ⟨h4,hh4⟩:∃ h4,w4.heap.size=h4:=⟨_,rfl⟩
 have hb4':Below w3.heap.size w3 V4:=by rw [←hV4];exact hb4.alloc hb4.size _
 have N4:Row3 V4 h4 (.int .i64 k') (.string sx') (.slice a' n' c'):=by rw [←hV4,←hh4];exact Row3.new _ _ _ _
 have T4:=qh (show NdR V4 t (.int .i64 k') (.string sx') (.slice a' n' c') from (hn4.toR).later (by rw [←hV4];exact (Below.refl _ _).alloc (Nat.le_refl _) _))
 have U4:=qh (T3.out.later hb4')
 have G4:=qh (G3.out.keep fun b hb _=>hb4'.block b (by omega))
 have z4:2≤V4.heap.size:=Nat.le_trans z3 hb4'.size
 have B4:=qh (B3.out.trans (hb4'.mono B3.out.size))
 have HM4:=qh (HN3.out.below hb4' HN3.out.lt)
 have HN4:=qh N4
 have HV4:=qh hV4
 have HH4:=qh hh4
 clear CB hb4 hb4' hn4 G3 B3 N4 hV4 hh4 HN3 T3
 go_upto_region 10 with fail
 rw [HV4.out,HH4.out]
 clear HV4 HH4
 obtain ⟨⟨n0,n1,n2⟩,_⟩:=HN4.out.cells
 go_wp2_with fail
 refine (CP.out _ _ _ _ T4.out G4.out z4).mono ?_
 rintro e w5 ⟨rfl,hb5⟩
 have HN5:=qh (HN4.out.below hb5 HN4.out.lt)
 have HM5:=qh (HM4.out.below hb5 HM4.out.lt)
 have T5:=qh (T4.out.later hb5)
 have U5:=qh (U4.out.later hb5)
 have B5:=qh (B4.out.trans (hb5.mono B4.out.size))
 clear CP hb5 n0 n1 n2 HN4 HM4 T4 U4 G4 B4
 obtain ⟨⟨n0,n1,n2⟩,_⟩:=HN5.out.cells
 obtain ⟨⟨m0,m1,m2⟩,_⟩:=HM5.out.cells
 go_wp2_with fail
 refine (CM.out _ _ _ _ _ _ _ T5.out U5.out).mono ?_
 rintro e w6 ⟨rfl,hb6⟩
 have B6:=qh (B5.out.trans (hb6.mono B5.out.size))
 clear CM hb6 n0 n1 n2 m0 m1 m2 HN5 HM5 T5 U5 B5
 go_wp2_with fail
 refine (CR.out _).mono ?_
 rintro e w7 ⟨a7,c7,rfl,ht7,hb7⟩
 obtain ⟨l7,hl7⟩:∃ l7,us.length=l7:=⟨_,rfl⟩
 rw [hl7] at ht7 ⊢
 obtain ⟨V7,hV7⟩:∃ V7,w7.alloc (.cells #[.slice a7 l7 c7,.int .i64 0,.int .i64 0] 70)=V7:=⟨_,rfl⟩
 obtain ⟨h7,hh7⟩:∃ h7,w7.heap.size=h7:=⟨_,rfl⟩
 have b7:Below w7.heap.size w7 V7:=by rw [←hV7];exact (Below.refl _ _).alloc (Nat.le_refl _) _
 have X7:V7.heap[h7]?=some (.cells #[.slice a7 l7 c7,.int .i64 0,.int .i64 0] 70 (0,0)):=by rw [←hV7,←hh7];exact World.alloc_heap_new _ _
 have K7:=qh (ht7.below b7)
 have B7:=qh (B6.out.trans ((hb7.trans (b7.mono hb7.size)).mono B6.out.size))
 have HX7:=qh X7
 have HV7:=qh hV7
 have HH7:=qh hh7
 clear CR hb7 b7 X7 ht7 B6 hV7 hh7 hl7
 go_upto_region 14 with fail
 rw [HV7.out,HH7.out]
 clear HV7 HH7
 go_wp2_with fail
 refine (CR2.out _).mono ?_
 rintro e w8 ⟨a8,c8,rfl,ht8,hb8⟩
 obtain ⟨l8,hl8⟩:∃ l8,vs.length=l8:=⟨_,rfl⟩
 rw [hl8] at ht8 ⊢
 obtain ⟨V8,hV8⟩:∃ V8,w8.alloc (.cells #[.slice a8 l8 c8,.int .i64 0,.int .i64 0] 70)=V8:=⟨_,rfl⟩
 obtain ⟨h8,hh8⟩:∃ h8,w8.heap.size=h8:=⟨_,rfl⟩
 have b8:Below w8.heap.size w8 V8:=by rw [←hV8];exact (Below.refl _ _).alloc (Nat.le_refl _) _
 have X8:V8.heap[h8]?=some (.cells #[.slice a8 l8 c8,.int .i64 0,.int .i64 0] 70 (0,0)):=by rw [←hV8,←hh8];exact World.alloc_heap_new _ _
 have hb8':=hb8.trans (b8.mono hb8.size)
 have X7':V8.heap[h7]?=some (.cells #[.slice a7 l7 c7,.int .i64 0,.int .i64 0] 70 (0,0)):=(hb8'.block h7 (heap_lt HX7.out)).trans HX7.out
 have K8:=qh (ht8.below b8)
 have J8:=qh (K7.out.below hb8')
 have B8:=qh (B7.out.trans (hb8'.mono B7.out.size))
 have SD0:Tk h7 h8 (.slice a7 l7 c7) (.slice a8 l8 c8) V8 V8.drew:=tk_drew ⟨cell_of_row _ _ _ _ _ _ X7',cell_of_row _ _ _ _ _ _ X7',cell_of_row _ _ _ _ _ _ X8,cell_of_row _ _ _ _ _ _ X8,qh (Below.refl _ _)⟩
 have HV8:=qh hV8
 have HH8:=qh hh8
 have C1:Hid (∀ W,Tk h7 h8 (.slice a7 l7 c7) (.slice a8 l8 c8) V8 W→Calls Tryz.prog 55 #[.slice a7 l7 c7] W fun e w'=>∃ v',e = .returned v'∧Hid (TokSl w' v' (Lu.map ofTok))∧Below W.heap.size W w'):=qh (fun W hW=>(CE.out _ W (J8.out.below (tk_b hW))).mono fun e w' ⟨v',he,ht,hb⟩=>⟨v',he,qh ht.sl,hb⟩)
 have C2:Hid (∀ W,Tk h7 h8 (.slice a7 l7 c7) (.slice a8 l8 c8) V8 W→Calls Tryz.prog 55 #[.slice a8 l8 c8] W fun e w'=>∃ v',e = .returned v'∧Hid (TokSl w' v' (Lv.map ofTok))∧Below W.heap.size W w'):=qh (fun W hW=>(CE2.out _ W (K8.out.below (tk_b hW))).mono fun e w' ⟨v',he,ht,hb⟩=>⟨v',he,qh ht.sl,hb⟩)
 clear CR2 hb8 hb8' b8 X7' X8 ht8 B7 hV8 hh8 hl8 HX7 CE CE2 K7 K8 J8
 go_upto_region 15 with fail
 rw [HV8.out,HH8.out]
 clear HV8 HH8
 go_region_held3 (fun w'=>w'.cell? ⟨h7,0,none⟩=some (.slice a7 l7 c7)∧w'.cell? ⟨h7,2,none⟩=some (.int .i64 0)∧w'.cell? ⟨h8,0,none⟩=some (.slice a8 l8 c8)∧w'.cell? ⟨h8,2,none⟩=some (.int .i64 0)∧Hid (Below V8.heap.size V8 w'))
  (first | with_reducible exact SD0 | with_reducible exact SD1 | with_reducible exact SD2 | with_reducible exact SD3)
  (first
   | (go_at_call 55;(with_reducible refine (C1.out _ SD0).mono ?_);rintro e w9 ⟨v9,rfl,k9,hb9⟩;have SD1:=tk_below SD0 hb9;clear hb9)
   | (go_at_call 55;(with_reducible refine (C2.out _ SD1).mono ?_);rintro e wa ⟨va,rfl,ka,hba⟩;have SD2:=tk_below SD1 hba;have k9':=qh (k9.out.below hba);clear hba)
   | (go_at_call 54;(with_reducible refine (CT.out _ _ _ k9'.out ka.out).mono ?_);rintro e wb ⟨rfl,hbb⟩;have SD3:=tk_below SD2 hbb;clear hbb))
 all_goals (try go_wp2)
 all_goals go_ret
 all_goals exact ⟨rfl,B8.out.trans ((tk_b SD3).mono B8.out.size)⟩
theorem parse_someT {r:Lx.Bs} {what:Int} {o:Option Nd} {p:Nat} (h:parseP r what=(o,p,0)):∃ t us,o=some t∧p=0∧Lx.scan r = .toks us:=by
 cases hs:Lx.scan r with
 | bad q e =>
  have he:=scan_err hs
  unfold parseP at h
  rw [hs] at h
  simp only [Prod.mk.injEq] at h
  omega
 | toks us =>
  unfold parseP at h
  rw [hs] at h
  simp only at h
  split at h
  ·simp at h
  ·split at h
   ·simp at h
   ·split at h
    ·cases h
     exact ⟨_,us,rfl,rfl,rfl⟩
    ·rename_i hc
     simp only [Prod.mk.injEq] at h
     exact absurd h.2.2 hc
theorem bareT_kt (l:List Lx.Tok):bareK (l.map Lx.Tok.kt)=(l.filter bareT).map Lx.Tok.kt:=by
 unfold bareK
 rw [List.filter_map]
 rfl
theorem synTokens_any (s:ByteArray) (x:Int) (hx:0≤x∧x < 256) (w:World) (hw:2≤w.heap.size) (gl:GLw w) (hs:s.size≤140737488355328) :
  Calls Tryz.prog 9 #[.string s,.int .u8 x] w fun e w'=>e = .returned (.bool true)∧Below w.heap.size w w':=by
 rcases hp:parseP (bs s) (askW (x % 4)) with ⟨o,p,er⟩
 by_cases h1:er=0
 ·subst h1
  obtain ⟨t,us,rfl,rfl,hsc⟩:=parse_someT hp
  obtain ⟨hc,hf,hK⟩:=parse_bare (askW_in _) hsc hp
  cases hsw:Lx.scan t.whl with
  | bad q e =>
   refine tokens_long s x _ hx rfl w hw gl hs hp ?_
   unfold printP
   rw [if_pos hc,hsw]
  | toks vs =>
   obtain ⟨J,hJ⟩:∃ J:ByteArray,bs J=t.whl:=⟨⟨t.whl.toArray⟩,rfl⟩
   rw [←hJ] at hsw hK
   have hr:=Lx.scan_runs hsw
   have hp2:=parse_back hc (askW_in (x % 4)) hf hsw (by rw [←hJ];exact hr.1)
   refine tokens_some s x _ hx rfl w hw gl hs hp hsc ?_ hsw hp2 (by rw [←bs_len];exact hr.2) ?_
   ·unfold printP
    rw [if_pos hc,←hJ,hsw]
   ·rw [sameB_toks,←bareT_kt,←bareT_kt]
    exact (hK _ hr.1).symm
 ·exact tokens_bad s x _ hx rfl w hw gl hs hp h1
end Go.Proofs.YtgjijidlaghlmaaGreatDoor
namespace Go.Proofs.YtgjijidlaghlmaaGreatDoor
open Go.ChangeShapes Go.WideShapes Go.ChangeAt Go.RowKit Go.ChangeMaps
set_option maxHeartbeats 800000 in
set_option maxRecDepth 100000 in
theorem syntaxTokens_lifted (os:Os) (started:os.Started) (H:Type) (enc:TypeId×Value→H) :
  ReturnsInHanded {} Tryz.checked os 9 .any (fun w args=>(Rows.syntaxTokensSpec.pre enc Tryz.prog Tryz.f9 [] false w args∧laidMetH Tryz.prog laidL w)∧sizedMet enc Tryz.prog Tryz.f9 (OpenSpec.ofChange Rows.syntaxTokensSpec) false w args)
   (Rows.syntaxTokensSpec.post enc Tryz.prog Tryz.f9 false true false false):=by
 refine returnsInHanded_of_change_and (C:=Tryz.checked) (X:=fun w _=>laidMetH Tryz.prog laidL w) (fun _ _ _ hh h=>h.of_heap hh) ownAll started (by kernel_rfl) Tryz.func9
  (ChangeSpec.witness_shaped (enc:=enc) (C:=Tryz.checked) (os:=os) (X:=fun w _=>laidMetH Tryz.prog laidL w) false (World.doorLaid Tryz.prog 400 os) #[.string ⟨#[]⟩,.int .u8 0] 8 rfl (World.shaped_of_RefB (by kernel_rfl) (by kernel_rfl)) (by kernel_rfl) (by kernel_rfl) (by kernel_rfl) (door_met os _)) ?_
 intro W base args ds gs before hval0 hW _ hsz0 hL _
 have hval:∀ (j:Nat) t v,Tryz.f9.params[j]?=some t→args[j]?=some v→Value.okWide Tryz.prog W .any base t v:=hval0
 have hW':=hW
 have hlt0:=hW.lt
 obtain ⟨p,q,hA0,hV,rfl,_,_⟩:=hW
 have hA:DataW.TrodAll enc Tryz.prog W 0 (fun _=>true) true Tryz.f9.params.toList args.toList ds p:=hA0
 rw [Tryz.params9] at hA hval
 have hA2:=hA
 have hlt:∀ r∈p,r.block < W.heap.size:=fun r hr=>hlt0 r (List.mem_append_left _ hr)
 clear hlt0
 obtain ⟨v0,v1,d0,d1,p0,p1,rfl,rfl,rfl,h0,h1⟩:=trodAll_two hA
 obtain ⟨rfl,rfl⟩:=trodVars_none hV
 obtain ⟨s,rfl,rfl,rfl,ws⟩:=open_string Tryz.underlying9 (hval 0 9 v0 rfl rfl) h0
 obtain ⟨b,rfl,rfl,rfl,wb⟩:=open_int Tryz.underlying5 (hval 1 5 v1 rfl rfl) h1
 have hsz:(DataW.weightsEach Tryz.prog (Tryz.f9.params.toList++Rows.syntaxTokensSpec.plain.varTypes Tryz.prog) ([DataW.lit (.string s.data.toList),DataW.lit (.int .u8 b)]++[])).all (·≤reachBytes)=true:=hsz0
 have z0:=sized_string hsz (j:=0) (t:=9) rfl rfl
 have y0:s.size≤140737488355328:=by
  have h:s.data.toList.length=s.size:=by simp
  have:=reachBytes_lt
  omega
 have hx:0≤b∧b < 256:=by
  have h:(decide ((0:Int)≤b) && decide (b≤255))=true:=wb
  rw [Bool.and_eq_true,decide_eq_true_eq,decide_eq_true_eq] at h
  omega
 obtain ⟨gl,hz⟩:=of_laid hL
 clear hsz hsz0
 clear hA0 hval0
 simp only [List.append_nil] at hW'
 refine (synTokens_any s b hx W hz gl y0).mono fun e W' ⟨he,hnx⟩=>?_
 subst he
 exact ⟨_,rfl,_,_,_,[],_,[],hW',trodAll_mk1 (shut_bool Tryz.underlying4 true),trodAll_mk2 (shut_string Tryz.underlying9 ws) (shut_int Tryz.underlying5 wb),rfl,hnx.frame _,fun h=>by cases h⟩
end Go.Proofs.YtgjijidlaghlmaaGreatDoor
