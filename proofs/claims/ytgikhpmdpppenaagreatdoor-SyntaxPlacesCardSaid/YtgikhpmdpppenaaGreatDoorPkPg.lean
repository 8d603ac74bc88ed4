/- A part of the proof, packed: see the last text of this claim. -/
import Derived.Test.YtgikhpmdpppenaaGreatDoorPkPa
import Derived.Test.YtgikhpmdpppenaaGreatDoorPkPb
import Derived.Test.YtgikhpmdpppenaaGreatDoorPkPc
import Derived.Test.YtgikhpmdpppenaaGreatDoorPkPd
import Derived.Test.YtgikhpmdpppenaaGreatDoorPkPf
import Derived.BigGuardIn
import Derived.Stop.RegionWithIn
import Derived.Shelf.Abstract
import Derived.Deep.RegionHeld3
import Derived.Test.YtgikhpmdpppenaaGreatDoorRows
import Derived.Test.YtgikhpmdpppenaaGreatDoorChecked
import Derived.ProofKit
import Derived.SizedLaws
import Derived.ReadAgain
import Derived.Below
import Derived.Deep.Slices
import Derived.Deep.Fields
import Derived.ChangeSame
import Derived.LaidMore
import Derived.OpenShut
import Derived.Stop.Joined
namespace Go.Proofs.YtgikhpmdpppenaaGreatDoor
open Go.RowKit Go.Shelf
attribute [local go_sem] Oper.semAt_some
set_option maxRecDepth 100000 in
set_option maxHeartbeats 2000000 in
theorem occurring_ok (t:Nd) (kind:Int) (w:World) (v0 v1 v2:Value) (ht:NdR w t v0 v1 v2) (hv:chkN t=0) (hsm:smN t) (hsz:t.sz≤4000) :
  Calls Tryz.prog 65 #[.agg #[v0,v1,v2],.int .i64 kind] w fun e w'=>∃ v,e = .returned (.tuple #[v,.int .i64 0])∧RowS w.heap.size w' v (occs kind (preN 0 [] false t))∧Below w.heap.size w w':=by
 obtain ⟨k,s,kids,a,cap,rfl,rfl,rfl,rfl,hs,hl⟩:=ht.form
 have eg:∀ args w,(callFunc 119 args).run Tryz.prog w = .ok (.enter 119 args) w:=enters_of Tryz.func119 (by kernel_rfl) rfl
 have hmm:=@run_makeMap Tryz.prog
 obtain ⟨W0,hW0⟩:∃ W0,(w.alloc (.cells #[.int .i64 k,.string s,.slice a kids.length cap] 24)).alloc (.cells #[.int .i64 kind] 3)=W0:=⟨_,rfl⟩
 obtain ⟨h,hh⟩:∃ h,w.heap.size=h:=⟨_,rfl⟩
 have b0:Below h w W0:=by rw [←hW0,←hh];exact ((Below.refl _ w).alloc (Nat.le_refl _) _).alloc (by simp) _
 have r0:Row3 W0 h (.int .i64 k) (.string s) (.slice a kids.length cap):=by rw [←hW0,←hh];exact (Below.heap_alloc _ _ _ (by simp only [World.size_alloc];omega)).trans (World.alloc_heap_new _ _)
 have k0:W0.heap[h+1]?=some (.cells #[.int .i64 kind] 3 (0,0)):=by rw [←hW0,←hh];exact alloc_at (by simp)
 have z0:W0.heap.size=h+1+1:=by rw [←hW0];simp [hh]
 have t0:NdR W0 (.mk k s kids) (.int .i64 k) (.string s) (.slice a kids.length cap):=ht.later (by rw [hh];exact b0)
 have CC:=qh (check_tree _ W0 _ _ _ t0)
 rw [hv] at CC
 refine (callsIn_wide (n:=6)).1 ?_
 refine callsIn_of_wpAt Tryz.func65 rfl ?_
 simp only [Tryz.ntmps65,List.size_toArray,List.length_cons,List.length_nil,Nat.reduceAdd,Nat.reduceSub,Array.replicate_succ,Array.replicate_zero,List.push_toArray,List.append_toArray,List.nil_append,List.cons_append]
 refine wpAt_seq (wpAt_of_wpIn ?_)
 gi_wp2
 (try rw [hW0])
 (try rw [hh])
 clear hW0
 obtain ⟨⟨n0,n1,n2⟩,_⟩:=r0.cells
 refine wpAt_seq (wpAt_of_wpIn ?_)
 gi_wp2_with fail
 refine ⟨trivial,((callsIn_wide (n:=5)).2 CC.out).mono ?_⟩
 rintro e w1 ⟨rfl,hb1⟩
 have r1:Row3 w1 h (.int .i64 k) (.string s) (.slice a kids.length cap):=(hb1.block _ r0.lt).trans r0
 have k1:w1.heap[h+1]?=some (.cells #[.int .i64 kind] 3 (0,0)):=(hb1.block _ (by omega)).trans k0
 have B1:Below h w w1:=b0.trans (hb1.mono (by omega))
 have z1:h+1+1≤w1.heap.size:=by have:=hb1.size;omega
 have t1:=qh (t0.later hb1)
 clear n0 n1 n2 hb1 CC t0 k0 r0 b0
 gi_wp2
 refine wpAt_seq (wpAt_of_wpIn ?_)
 gi_wp2
 refine wpAt_seq (wpAt_of_wpIn ?_)
 gi_wp2
 obtain ⟨L1,hL1⟩:∃ L1,w1.heap.size=L1:=⟨_,rfl⟩
 obtain ⟨W3,hW3⟩:∃ W3,((w1.alloc (.cells #[.slice none 0 0] 31)).alloc (.map #[] 0)).alloc (.cells #[.map (some (L1+1))] 111)=W3:=⟨_,rfl⟩
 have z3:W3.heap.size=L1+1+1+1:=by rw [←hW3];simp [hL1]
 have o3:∀ b,b < L1→W3.heap[b]?=w1.heap[b]?:=fun b hb=>by
  rw [←hW3]
  exact (Below.heap_alloc _ _ _ (by simp only [World.size_alloc];omega)).trans ((Below.heap_alloc _ _ _ (by simp only [World.size_alloc];omega)).trans (Below.heap_alloc _ _ _ (by omega)))
 have B3:Below L1 w1 W3:=by
  rw [←hW3]
  exact (((Below.refl _ w1).alloc (by omega) _).alloc (by simp only [World.size_alloc];omega) _).alloc (by simp only [World.size_alloc];omega) _
 have l3:W3.heap[L1]?=some (.cells #[.slice none 0 0] 31 (0,0)):=by
  rw [←hW3,←hL1]
  exact (Below.heap_alloc _ _ _ (by simp only [World.size_alloc];omega)).trans ((Below.heap_alloc _ _ _ (by simp only [World.size_alloc];omega)).trans (World.alloc_heap_new _ _))
 have m3:StrMap W3 (L1+1) (mapOf []):=⟨#[],0,by
  rw [←hW3,←hL1]
  exact (Below.heap_alloc _ _ _ (by simp only [World.size_alloc];omega)).trans (alloc_at (by simp)),by simp [mapOf]⟩
 have v3:W3.heap[L1+1+1]?=some (.cells #[.map (some (L1+1))] 111 (0,0)):=by
  rw [←hW3,←hL1];exact alloc_at (by simp)
 rw [hL1] at z1
 have r3:Row3 W3 h (.int .i64 k) (.string s) (.slice a kids.length cap):=(o3 _ (by omega)).trans r1
 have k3:W3.heap[h+1]?=some (.cells #[.int .i64 kind] 3 (0,0)):=(o3 _ (by omega)).trans k1
 have t3:NdR W3 (.mk k s kids) (.int .i64 k) (.string s) (.slice a kids.length cap):=t1.out.later (by rw [hL1];exact B3)
 (try rw [hL1])
 (try rw [hW3])
 clear hW3 r1
 obtain ⟨⟨n0,n1,n2⟩,_⟩:=r3.cells
 refine wpAt_seq (wpAt_seq (wpAt_of_wpIn ?_))
 gi_wp2_with fail
 refine ⟨trivial,((callsIn_wide (n:=5)).2 (walk_any k s a kids.length cap _)).mono ?_⟩
 rintro e w2 ⟨rfl,rfl⟩
 gi_wp2
 obtain ⟨T,hT⟩:∃ T,L1+1+1+1=T:=⟨_,rfl⟩
 rw [hT] at z3
 (try rw [z3])
 (try rw [hT])
 clear n0 n1 n2
 refine wpAt_block (wpAt_rangeFunc_fn (gf:=119) (lb:=#[.pointer (some ⟨T,0,none⟩)]) rfl eg ?_)
 intro r hr
 have hr1:r.state = .ready:=by rw [hr]
 have hr2:r.pending=none:=by rw [hr]
 have hr3:r.params=#[19,20]:=by rw [hr]
 obtain ⟨W4,hW4⟩:∃ W4,W3.alloc (.cells #[.int .i64 k,.string s,.slice a kids.length cap] 24)=W4:=⟨_,rfl⟩
 have z4:W4.heap.size=T+1:=by rw [←hW4,World.size_alloc,z3]
 have b4:Row3 W4 T (.int .i64 k) (.string s) (.slice a kids.length cap):=by rw [←hW4];exact alloc_at (by omega)
 have o4:∀ b,b < T→W4.heap[b]?=W3.heap[b]?:=fun b hb=>by rw [←hW4];exact Below.heap_alloc _ _ _ (by omega)
 have B4:Below L1 w1 W4:=by rw [←hW4];exact B3.alloc (by omega) _
 rw [hW4]
 clear hW4
 obtain ⟨W1,hW1⟩:∃ W1,(W4.alloc (.deferred (some []))).alloc (.loop r)=W1:=⟨_,rfl⟩
 have old:∀ b,b < T+1→W1.heap[b]?=W4.heap[b]?:=fun b hb=>by rw [←hW1];exact (Below.heap_alloc _ _ _ (by simp only [World.size_alloc];omega)).trans (Below.heap_alloc _ _ _ (by omega))
 have zW1:W1.heap.size=T+1+1+1:=by rw [←hW1];simp [z4]
 have hd1:W1.heap[T+1]?=some (.deferred (some [])):=by rw [←hW1];exact (Below.heap_alloc _ _ _ (by simp only [World.size_alloc];omega)).trans (alloc_at (by omega))
 have hl1:W1.heap[T+1+1]?=some (.loop r):=by rw [←hW1];exact alloc_at (by simp only [World.size_alloc];omega)
 have hB1:Below L1 w1 W1:=by rw [←hW1];exact (B4.alloc (by omega) _).alloc (by simp only [World.size_alloc];omega) _
 have j0:JFc L1 T w1 (occs kind []) W1:=⟨hB1,by omega,hd1,m3.keep ((old _ (by omega)).trans (o4 _ (by omega))),((old _ (by omega)).trans (o4 _ (by omega))).trans v3,_,((old _ (by omega)).trans (o4 _ (by omega))).trans l3,World.ownsRow_nil _ _ _ _⟩
 have hsup:Sup w1 W1:=fun b c t z e=>(hB1.block b (by rw [←hL1];exact heap_lt e)).trans e
 have K1:=qh k1
 have hcall:CallsIn Fence.wide 5 Tryz.prog 119 #[.func (.yield (T+1+1)) #[] #[],.pointer (some ⟨T,0,none⟩)] W1
   (fun e w'=>(∃ v,e = .returned v)∧JFc L1 T w1 (occs kind (preN 0 [] false (.mk k s kids))) w'∧w'.heap[T+1+1]?=some (.loop r)):=by
  refine (callsIn_wide (n:=5)).2 ?_
  refine (walkI_any (Oo L1) (T+1+1) T w1 W1 (fun pre W=>pre.length≤4000∧JFc L1 T w1 (occs kind pre) W∧W.heap[T+1+1]?=some (.loop r)) (fun _ _=>False) k s kids a cap
   (fun pre W hj=>by have:=hj.1;omega) (fun pre A B hj hb hk=>⟨hj.1,hj.2.1.keep hT (hj.2.1.b.trans (hb.mono (by omega))) hb.size (fun b _ _ h3=>h3.elim (fun h=>hb.block b (by omega)) (fun h=>hk b h)),(hb.block _ (by omega)).trans hj.2.2⟩)
   (fun A B hb b h=>h.imp id (fun ⟨v,h1,h2⟩=>⟨v,(hb.cell (p:=⟨L1,0,none⟩) (by simp only;omega)).symm.trans h1,h2⟩)) (fun pre A hj b hb=>by have:=hj.2.1.z;rcases hj.2.1.own hb with h | h <;> omega)
   ?_ t1.out ((old T (by omega)).trans b4) hsup (by omega) (fun b hb=>by rcases j0.own hb with h | h <;> omega) ⟨by simp,j0,hl1⟩).mono ?_
  ·intro m pre it A vp vi u0 u1 u2 n₁ ps hn1 hj hall hpd hg
   obtain ⟨hjl,hjm,hjr⟩:=hj
   obtain ⟨hgd,hgp,hgi,hgt⟩:=hg
   have hlen:(pre++[it]).length≤4000:=by have:=hall.length_le;rw [preN_len] at this;omega
   have hsz1:it.t.s'.size≤64:=sm_pre 0 [] false _ hsm it (hall.subset (by simp))
   obtain ⟨ap,cp,rfl⟩:=row_shape hgp
   obtain ⟨ai,ci,hvi⟩:=row_shape hgi
   subst hvi
   rw [List.length_map] at hgi
   obtain ⟨k1,s1,l1,a1,c1,ht1,rfl,rfl,rfl,_,_⟩:=hgt.form
   have hil:it.ins.length≤90000:=by have:=ins_pre 0 [] false _ it (hall.subset (by simp));simp only [List.length_nil] at this;omega
   obtain ⟨V,hV⟩:∃ V,((k1==15 || k1==16) && (!it.wd && !Lib.containsS it.ins s1))=V:=⟨_,rfl⟩
   have hos:=(occs_snoc kind pre it).trans (occ_at ht1 hV kind _)
   rw [ht1] at hsz1
   simp only [Nd.s'] at hsz1
   obtain ⟨out,hout⟩:∃ out,occs kind pre=out:=⟨_,rfl⟩
   have hol:out.length≤4000:=by rw [←hout];have:=occs_len kind pre;omega
   rw [hout] at hjm hos
   obtain ⟨out',hout'⟩:∃ out',occs kind (pre++[it])=out':=⟨_,rfl⟩
   rw [hout'] at hos
   obtain ⟨R,hR⟩:∃ R:Ending→World→Prop,(fun e W'=>(e = .returned (.bool true)∧((pre++[it]).length≤4000∧JFc L1 T w1 (occs kind (pre++[it])) W'∧W'.heap[T+1+1]?=some (.loop r))∧Kc (Oo L1) A W')∨(e = .returned (.bool false)∧False∧Kc (Oo L1) A W'))=R:=⟨_,rfl⟩
   rw [hR]
   have HR:Hid (∀ W',JFc L1 T w1 out' W'→W'.heap[T+1+1]?=some (.loop r)→Kc (Oo L1) A W'→R (.returned (.bool true)) W'):=qh (fun W' j1 j2 j3=>by rw [←hR];exact .inl ⟨rfl,⟨hlen,by rw [hout'];exact j1,j2⟩,j3⟩)
   clear hR hout hout' hlen hall hjl
   refine ⟨_,_,_,_,run_yield (P:=Tryz.prog) hjr (by rw [hr3];rfl),?_⟩
   have hr4:r.fn=65:=by rw [hr]
   rw [hr4]
   refine roundIn_of_wpIn_p trivial Tryz.func65 ?_
   have hrs:=hr1
   have HJ:=qh hjm
   have HJR:=qh hjr
   have HRR:=qh hr
   have HOS:=qh hos
   have HGI:=qh hgi
   have hVH:=qh hV
   have HIL:=qh hil
   simp only [hr]
   clear hgp hgi hgt hjm hjr hr hr1 hr2 hr3 hr4 hos hV hil
   gi_wp2
   refine ⟨_,run_beginRound (r:=r) ((Below.heap_alloc _ _ _ (by have:=heap_lt HJR.out;simp only [World.size_alloc];omega)).trans ((Below.heap_alloc _ _ _ (heap_lt HJR.out)).trans HJR.out)) hrs,?_⟩
   obtain ⟨N,hN⟩:∃ N,A.heap.size=N:=⟨_,rfl⟩
   obtain ⟨W2,hW2⟩:∃ W2,((A.alloc (.cells #[.slice ap ps.length cp,.slice ai it.ins.length ci,.bool it.wd] 80)).alloc (.cells #[.int .i64 k1,.string s1,.slice a1 l1.length c1] 24)).putObj (T+1+1) (.loop { r with state:=.busy })=W2:=⟨_,rfl⟩
   have hTN:T+1+1 < N:=by have:=HJ.out.z;omega
   have ko:∀ b,b < N→b≠T+1+1→W2.heap[b]?=A.heap[b]?:=fun b hb1 hb2=>by
    rw [←hW2];exact (World.putObj_heap_other hb2).trans ((Below.heap_alloc _ _ _ (by simp only [World.size_alloc];omega)).trans (Below.heap_alloc _ _ _ (by omega)))
   have mz:W2.heap.size=N+1+1:=by rw [←hW2,World.putObj_size,World.size_alloc,World.size_alloc,hN]
   have m5:W2.heap[T+1+1]?=some (.loop { r with state:=.busy }):=by rw [←hW2];exact World.putObj_heap_same (by simp only [World.size_alloc];omega)
   have mt:RowP W2 N (.slice ap ps.length cp) (.slice ai it.ins.length ci) (.bool it.wd):=by
    rw [←hW2,←hN];exact (World.putObj_heap_other (by omega)).trans ((Below.heap_alloc _ _ _ (by simp only [World.size_alloc];omega)).trans (World.alloc_heap_new _ _))
   have mx:Row3 W2 (N+1) (.int .i64 k1) (.string s1) (.slice a1 l1.length c1):=by
    rw [←hW2,←hN];exact (World.putObj_heap_other (by omega)).trans (alloc_at (by simp))
   have mb:Below L1 w1 W2:=by rw [←hW2];exact below_put ((HJ.out.b.alloc (by omega) _).alloc (by simp only [World.size_alloc];omega) _) _ _ (by omega)
   have mj:JFc L1 T w1 out W2:=HJ.out.keep hT mb (by omega) (fun b h1 h2 _=>ko b (by omega) h2)
   have mi:RowS n₁ W2 (.slice ai it.ins.length ci) it.ins:=row_keep HGI.out fun g e=>by have:=World.ownsRow.lt HGI.out g e;exact ko g (by omega) (by omega)
   rw [hW2,hN]
   obtain ⟨⟨p0,p1,p2⟩,_⟩:=mt.cells
   obtain ⟨⟨x0,x1,x2⟩,_⟩:=mx.cells
   have hkb:=(mb.block (h+1) (by omega)).trans K1.out
   have kc:W2.cell? ⟨h+1,0,none⟩=some (.int .i64 kind):=cell_of_row _ _ _ _ _ _ hkb
   have HM:=qh mj
   have HKO:=qh ko
   have HMZ:=qh mz
   have HM5:=qh m5
   have HMX:=qh mx
   have HN:=qh hN
   have CF:=qh (frees_any n₁ ap ai ps.length cp it.ins.length ci it.wd k1 s1 a1 l1.length c1 it.ins W2 mi HIL.out)
   rw [hVH.out] at CF
   obtain ⟨wd,hwd⟩:∃ wd,it.wd=wd:=⟨_,rfl⟩
   obtain ⟨NI,hni⟩:∃ NI,it.ins.length=NI:=⟨_,rfl⟩
   obtain ⟨NP,hnp⟩:∃ NP,ps.length=NP:=⟨_,rfl⟩
   rw [hwd,hni,hnp] at CF
   rw [hwd] at p2
   rw [hni] at p1
   rw [hnp] at p0
   have e0:({ ({ r with state:=.busy }:Loop) with state:=.ready,pending:=none }:Loop)=r:=by rw [HRR.out]
   have E0:=qh e0
   have FIN:Hid (∀ W',Below W2.heap.size W2 W'→out'=out→R (.returned (.bool true)) (W'.putObj (T+1+1) (.loop r))):=qh (fun W' hb he=>by
    have kk:∀ b,b < A.heap.size→b≠T+1+1→W'.heap[b]?=A.heap[b]?:=fun b h1 h2=>(hb.block b (by omega)).trans (ko b (by omega) h2)
    have jj:JFc L1 T w1 out W':=HJ.out.keep hT (mb.trans (hb.mono (by omega))) (by have:=hb.size;omega) (fun b h1 h2 _=>kk b h1 h2)
    refine HR.out _ ?_ (World.putObj_heap_same (by have:=hb.size;omega)) ((Kc.same hT (by have:=hb.size;omega) HJR.out kk).putLoop hT HJR.out r)
    rw [he]
    exact jj.putLoop hT r)
   have FINL:Hid (∀ W',Below W2.heap.size W2 W'→W'.heap[T+1+1]?=some (.loop { r with state:=.busy })):=qh (fun W' hb=>(hb.block _ (by omega)).trans m5)
   clear ko mz m5 mt mx mj mb mi hW2 hN hkb hwd hni hnp e0
   cases hkk:(k1==kind) with
   | false =>
    have HE:Hid (out'=out):=qh (by rw [HOS.out,hkk];simp)
    gi_wp2
    refine ⟨trivial,?_⟩
    gi_wp2
    refine ⟨_,_,run_endRound none (FINL.out _ (Below.refl _ _)),?_⟩
    simp only [Option.isNone_none,if_true]
    rw [E0.out]
    exact FIN.out _ (Below.refl _ _) HE.out
   | true =>
    gi_wp2_with fail
    refine ⟨trivial,fun e=>(by cases e),(CallsIn.inRound _ ((callsIn_wide (n:=m - 1)).2 CF.out)).mono ?_⟩
    rintro e w5 ⟨rfl,hb5⟩
    have HB5:=qh hb5
    clear hb5 CF p0 p1 p2
    cases V with
    | false =>
     have HE:Hid (out'=out):=qh (by rw [HOS.out,hkk];simp)
     gi_wp2
     refine ⟨_,_,run_endRound none (FINL.out _ HB5.out),?_⟩
     simp only [Option.isNone_none,if_true]
     rw [E0.out]
     exact FIN.out _ HB5.out HE.out
    | true =>
     have hzN:=HMZ.out
     have mj5:JFc L1 T w1 out w5:=HM.out.keep hT (HM.out.b.trans (HB5.out.mono (by have:=HM.out.z;omega))) HB5.out.size (fun b h1 _ _=>HB5.out.block b h1)
     have mx5:Row3 w5 (N+1) (.int .i64 k1) (.string s1) (.slice a1 l1.length c1):=(HB5.out.block _ HMX.out.lt).trans HMX.out
     have z5:=HB5.out.size
     obtain ⟨vl,cl5,rl5⟩:=mj5.c
     have v5:w5.cell? ⟨L1+1+1,0,none⟩=some (.map (some (L1+1))):=cell_of_row _ _ _ _ _ _ mj5.v
     obtain ⟨⟨y0,y1,y2⟩,_⟩:=mx5.cells
     have hlk:=run_met mj5.m s1
     obtain ⟨X,hX⟩:∃ X,Lib.containsS out s1=X:=⟨_,rfl⟩
     have HE:Hid (out'=if X=true then out else out++[s1]):=qh (by rw [HOS.out,hkk,hX];cases X <;> rfl)
     rw [hX] at hlk
     cases X with
     | true =>
      clear y0 y2 cl5 rl5 mj5 mx5 hX x0 x1 x2 hzN z5
      gi_wp2
      refine ⟨_,_,run_endRound none (FINL.out _ HB5.out),?_⟩
      simp only [Option.isNone_none,if_true]
      rw [E0.out]
      exact FIN.out _ HB5.out (by rw [HE.out];simp)
     | false =>
      obtain ⟨w6,hmu,m6,z6,b6,o6⟩:=run_meet mj5.m s1 hX
      have hne6:∀ b,b≠L1+1→w6.heap[b]?=w5.heap[b]?:=o6
      have cl6:=(o6 L1 (by omega)).trans cl5
      have mx6:Row3 w6 (N+1) (.int .i64 k1) (.string s1) (.slice a1 l1.length c1):=(o6 _ (by omega)).trans mx5
      have rl6:RowS (T+1+1+1) w6 vl out:=row_keep rl5 fun g e=>o6 g (by have:=World.ownsRow.lt rl5 g e;omega)
      have l6:w6.cell? ⟨L1,0,none⟩=some vl:=cell_of_row _ _ _ _ _ _ cl6
      have n6:w6.cell? ⟨N+1,1,none⟩=some (.string s1):=mx6.cells.1.2.1
      have hown6:∀ g,vl.ownBlock=some g→T+1+1+1≤g∧g < w6.heap.size:=World.ownsRow.lt rl6
      have D6:=qh ((o6 (T+1) (by omega)).trans mj5.d)
      have V6:=qh ((o6 (L1+1+1) (by omega)).trans mj5.v)
      have M6:=qh m6
      have CL6:=qh cl6
      have RL6:=qh rl6
      have B6:=qh (mj5.b.trans (b6 L1 (by omega)))
      have O6:=qh hne6
      have Z6:Hid (T+1+1 < w6.heap.size∧N+1+1≤w6.heap.size):=qh (by have:=mj5.z;omega)
      have F6:=qh (show w6.frozen? ⟨L1,0,none⟩=false from frozen_of_row _ _ _ _ _ cl6)
      have CC6:=qh (clone_any s1 w6.drew (by omega))
      obtain ⟨iS,hS,hSz,hSs,hSb⟩:=info_parts infoStr
      clear y0 y2 cl5 rl5 mj5 mx5 hX x0 x1 x2 hzN z5 m6 z6 b6 o6 hne6 cl6 mx6 rl6
      gi_wp2_with fail
      have LEAF:∀ (g8 cap8:Nat) (w8:World),((∀ b,b < w6.heap.size→vl.ownBlock≠some b→w8.heap[b]?=w6.heap[b]?)∧w6.heap.size≤w8.heap.size∧(∀ B,B≤w6.heap.size→(∀ k,vl.ownBlock=some k→B≤k)→Below B w6 w8)) →
        RowS (T+1+1+1) w8 (.slice (some ⟨g8,0,none⟩) (out++[s1]).length cap8) (out++[s1])→(∀ g',(Value.slice (some ⟨g8,0,none⟩) (out++[s1]).length cap8).ownBlock=some g'→vl.ownBlock=some g'∨w6.heap.size≤g') →
        ∃ v w',(Instr.endRound (T+1+1) none).run Tryz.prog (w8.setCell ⟨L1,0,none⟩ (.slice (some ⟨g8,0,none⟩) (out.length+1) cap8)) = .ok v w'∧R (.returned v) w':=by
       intro g8 cap8 w8 ⟨hk8,hz8,hb8⟩ q8 ho8
       have e9:out.length+1=(out++[s1]).length:=by simp
       rw [e9]
       clear e9
       have hz6:=Z6.out
       have hNN:=HN.out
       have hzM:=HMZ.out
       obtain ⟨v',hv'⟩:∃ v',Value.slice (some ⟨g8,0,none⟩) (out++[s1]).length cap8=v':=⟨_,rfl⟩
       rw [hv'] at q8 ho8 ⊢
       have far:∀ b,b≠L1→(w8.setCell ⟨L1,0,none⟩ v').heap[b]?=w8.heap[b]?:=fun b hb=>Below.heap_setCell _ _ _ _ (by simp only;exact hb)
       have c6A:∀ b,b < N→b≠T+1+1→b≠L1+1→w6.heap[b]?=A.heap[b]?:=fun b h1 h2 h3=>(O6.out b h3).trans ((HB5.out.block b (by omega)).trans (HKO.out b h1 h2))
       have hlow:∀ g,vl.ownBlock=some g→T+1+1+1≤g:=fun g e=>(hown6 g e).1
       have hzJ:=HJ.out.z
       have hloop:(w8.setCell ⟨L1,0,none⟩ v').heap[T+1+1]?=some (.loop { r with state:=.busy }) :=
        (far _ (by omega)).trans ((hk8 _ (by omega) (fun e=>by have:=hlow _ e;omega)).trans ((O6.out _ (by omega)).trans (FINL.out _ HB5.out)))
       refine ⟨_,_,run_endRound none hloop,?_⟩
       simp only [Option.isNone_none,if_true]
       rw [E0.out]
       have jadd:JFc L1 T w1 (out++[s1]) (w8.setCell ⟨L1,0,none⟩ v'):=JFc.add hT (B6.out.trans (hb8 L1 (by omega) (fun k e=>by have:=hlow k e;omega))) hz6.1 hz8 D6.out M6.out V6.out CL6.out hlow hk8 q8
       have hcA:A.heap[L1]?=some (.cells #[vl] 31 (0,0)):=(c6A L1 (by omega) (by omega) (by omega)).symm.trans CL6.out
       have hc9:(w8.setCell ⟨L1,0,none⟩ v').heap[L1]?=some (.cells #[v'] 31 (0,0)):=heap_setCell_same _ _ 0 _ _ _ ((hk8 L1 (by omega) (fun e=>by have:=hlow _ e;omega)).trans CL6.out)
       have kc:Kc (Oo L1) A (w8.setCell ⟨L1,0,none⟩ v'):=Kc.added (by rw [setCell_size];omega) HJR.out HJ.out.m hcA hc9 (fun g e=>(ho8 g e).imp id (fun h=>by omega))
        (fun b h1 h2 h3 h4 h5=>(far b h4).trans ((hk8 b (by omega) h5).trans (c6A b (by omega) h2 h3)))
       refine HR.out _ ?_ (World.putObj_heap_same (by rw [setCell_size];omega)) (kc.putLoop hT HJR.out r)
       have e':out'=out++[s1]:=by rw [HE.out];simp
       rw [e']
       exact jadd.putLoop hT r
      refine wpIn_region_any (by kernel_rfl) ?_
      change wpAnyIn _ _ _ _ _ _ _ _ _ (World.drew _)
      refine wpAnyIn_ready (rs:=[0,1]) (by kernel_rfl) (by simp) ?_
      refine AllReadyIn.cons rfl (fun K hK=>?_) ?_
      ·skip
       go_simp
       refine hK _ _ ?_
       clear hK K
       refine wpAnyIn_ready (rs:=[1]) (by kernel_rfl) (by simp) ?_
       refine AllReadyIn.cons rfl (fun K hK=>?_) ?_
       ·skip
        go_simp
        refine hK _ _ ?_
        clear hK K
        refine wpAnyIn_ready (rs:=[2]) (by kernel_rfl) (by simp) ?_
        refine AllReadyIn.cons rfl (fun K hK=>?_) ?_
        ·skip
         go_simp
         refine hK _ _ ?_
         clear hK K
         refine wpAnyIn_ready (rs:=[3]) (by kernel_rfl) (by simp) ?_
         refine AllReadyIn.cons rfl (fun K hK=>?_) ?_
         ·skip
          go_simp
          refine ⟨trivial,fun e=>(by cases e),?_⟩
          refine (CallsIn.inRound _ ((callsIn_wide (n:=m - 1)).2 CC6.out)).mono ?_
          rintro e w7 ⟨rfl,hb7⟩
          have hz7:w6.heap.size≤w7.heap.size:=hb7.size
          have hL7:L1 < w7.heap.size:=(by have:=Z6.out;omega)
          have l7:w7.cell? ⟨L1,0,none⟩=some vl:=(hb7.cell (p:=⟨L1,0,none⟩) (show L1 < w6.heap.size by have:=Z6.out;omega)).trans l6
          have l7a:=(fun o=>(World.cell?_alloc_past (w:=w7) o L1 0 hL7).trans l7)
          have r7:RowS (T+1+1+1) (w7.alloc (.cells #[.string s1] 9)) vl out:=row_keep RL6.out (fun g e=>(Below.heap_alloc _ _ _ (by have:=hown6 g e;omega)).trans (hb7.block g (hown6 g e).2))
          obtain ⟨g8,cap8,w8,hap,q8,p8,gr8,hg8⟩:=run_append_two (P:=Tryz.prog) (w7.alloc (.cells #[.string s1] 9)) 31 31 (T+1+1+1) 9 iS _ 16 Tryz.underlying31 hS hSz hSs hSb rfl vl (out.map Value.string) r7 ⟨w7.heap.size,0,none⟩ 1 (.string s1) (cells1 w7 _ _ _ rfl) rfl (by rw [List.length_map];unfold maxLen;omega) (by rw [List.length_map];omega) (by rw [World.size_alloc];have:=Z6.out;omega)
          have A8:=qh (app_same hb7 gr8)
          have f8:w8.frozen? ⟨L1,0,none⟩=false:=frozen_of_row _ _ _ _ _ ((A8.out.1 L1 (by have:=Z6.out;omega) (fun e=>by have:=hown6 L1 e;omega)).trans CL6.out)
          have c8:w8.cell? ⟨L1,0,none⟩=some vl:=cell_of_row _ _ _ _ _ _ ((A8.out.1 L1 (by have:=Z6.out;omega) (fun e=>by have:=hown6 L1 e;omega)).trans CL6.out)
          have Q8:=qh (rowS_snoc q8)
          have HG8:=qh (own_or (n:=(out++[s1]).length) (cap:=cap8) hg8 (by rw [World.size_alloc];exact Nat.le_succ_of_le hz7))
          rw [List.length_map] at hap
          have HAP:=qh hap
          clear q8 p8 gr8 hg8 r7 hb7 hap
          go_simp
          refine hK _ _ ?_
          clear hK K
          refine wpAnyIn_ready (rs:=[4]) (by kernel_rfl) (by simp) ?_
          refine AllReadyIn.cons rfl (fun K hK=>?_) ?_
          ·skip
           go_simp
           refine hK _ _ ?_
           clear hK K
           refine wpAnyIn_ready (rs:=[5]) (by kernel_rfl) (by simp) ?_
           refine AllReadyIn.cons rfl (fun K hK=>?_) ?_
           ·skip
            refine stepIn_append rfl _ _ 31 rfl rfl rfl HAP.out ?_
            refine hK _ _ ?_
            clear hK K
            refine wpAnyIn_ready (rs:=[6]) (by kernel_rfl) (by simp) ?_
            refine AllReadyIn.cons rfl (fun K hK=>?_) ?_
            ·skip
             go_simp
             refine hK _ _ ?_
             clear hK K
             refine wpAnyIn_done (by kernel_rfl) ?_ _
             go_simp
             simp only [Exit.inBlock,roundPostP]
             exact LEAF g8 cap8 w8 A8.out Q8.out HG8.out
            exact AllReadyIn.nil
           exact AllReadyIn.nil
          exact AllReadyIn.nil
         exact AllReadyIn.nil
        exact AllReadyIn.nil
       exact AllReadyIn.nil
      refine AllReadyIn.cons rfl (fun K hK=>?_) ?_
      ·skip
       go_simp
       refine hK _ _ ?_
       clear hK K
       refine wpAnyIn_ready (rs:=[0,2]) (by kernel_rfl) (by simp) ?_
       refine AllReadyIn.cons rfl (fun K hK=>?_) ?_
       ·skip
        go_simp
        refine hK _ _ ?_
        clear hK K
        refine wpAnyIn_ready (rs:=[2]) (by kernel_rfl) (by simp) ?_
        refine AllReadyIn.cons rfl (fun K hK=>?_) ?_
        ·skip
         go_simp
         refine hK _ _ ?_
         clear hK K
         refine wpAnyIn_ready (rs:=[3]) (by kernel_rfl) (by simp) ?_
         refine AllReadyIn.cons rfl (fun K hK=>?_) ?_
         ·skip
          go_simp
          refine ⟨trivial,fun e=>(by cases e),?_⟩
          refine (CallsIn.inRound _ ((callsIn_wide (n:=m - 1)).2 CC6.out)).mono ?_
          rintro e w7 ⟨rfl,hb7⟩
          have hz7:w6.heap.size≤w7.heap.size:=hb7.size
          have hL7:L1 < w7.heap.size:=(by have:=Z6.out;omega)
          have l7:w7.cell? ⟨L1,0,none⟩=some vl:=(hb7.cell (p:=⟨L1,0,none⟩) (show L1 < w6.heap.size by have:=Z6.out;omega)).trans l6
          have l7a:=(fun o=>(World.cell?_alloc_past (w:=w7) o L1 0 hL7).trans l7)
          have r7:RowS (T+1+1+1) (w7.alloc (.cells #[.string s1] 9)) vl out:=row_keep RL6.out (fun g e=>(Below.heap_alloc _ _ _ (by have:=hown6 g e;omega)).trans (hb7.block g (hown6 g e).2))
          obtain ⟨g8,cap8,w8,hap,q8,p8,gr8,hg8⟩:=run_append_two (P:=Tryz.prog) (w7.alloc (.cells #[.string s1] 9)) 31 31 (T+1+1+1) 9 iS _ 16 Tryz.underlying31 hS hSz hSs hSb rfl vl (out.map Value.string) r7 ⟨w7.heap.size,0,none⟩ 1 (.string s1) (cells1 w7 _ _ _ rfl) rfl (by rw [List.length_map];unfold maxLen;omega) (by rw [List.length_map];omega) (by rw [World.size_alloc];have:=Z6.out;omega)
          have A8:=qh (app_same hb7 gr8)
          have f8:w8.frozen? ⟨L1,0,none⟩=false:=frozen_of_row _ _ _ _ _ ((A8.out.1 L1 (by have:=Z6.out;omega) (fun e=>by have:=hown6 L1 e;omega)).trans CL6.out)
          have c8:w8.cell? ⟨L1,0,none⟩=some vl:=cell_of_row _ _ _ _ _ _ ((A8.out.1 L1 (by have:=Z6.out;omega) (fun e=>by have:=hown6 L1 e;omega)).trans CL6.out)
          have Q8:=qh (rowS_snoc q8)
          have HG8:=qh (own_or (n:=(out++[s1]).length) (cap:=cap8) hg8 (by rw [World.size_alloc];exact Nat.le_succ_of_le hz7))
          rw [List.length_map] at hap
          have HAP:=qh hap
          clear q8 p8 gr8 hg8 r7 hb7 hap
          go_simp
          refine hK _ _ ?_
          clear hK K
          refine wpAnyIn_ready (rs:=[4]) (by kernel_rfl) (by simp) ?_
          refine AllReadyIn.cons rfl (fun K hK=>?_) ?_
          ·skip
           go_simp
           refine hK _ _ ?_
           clear hK K
           refine wpAnyIn_ready (rs:=[5]) (by kernel_rfl) (by simp) ?_
           refine AllReadyIn.cons rfl (fun K hK=>?_) ?_
           ·skip
            refine stepIn_append rfl _ _ 31 rfl rfl rfl HAP.out ?_
            refine hK _ _ ?_
            clear hK K
            refine wpAnyIn_ready (rs:=[6]) (by kernel_rfl) (by simp) ?_
            refine AllReadyIn.cons rfl (fun K hK=>?_) ?_
            ·skip
             go_simp
             refine hK _ _ ?_
             clear hK K
             refine wpAnyIn_done (by kernel_rfl) ?_ _
             go_simp
             simp only [Exit.inBlock,roundPostP]
             exact LEAF g8 cap8 w8 A8.out Q8.out HG8.out
            exact AllReadyIn.nil
           exact AllReadyIn.nil
          exact AllReadyIn.nil
         exact AllReadyIn.nil
        exact AllReadyIn.nil
       refine AllReadyIn.cons rfl (fun K hK=>?_) ?_
       ·skip
        go_simp
        refine hK _ _ ?_
        clear hK K
        refine wpAnyIn_ready (rs:=[0,3]) (by kernel_rfl) (by simp) ?_
        refine AllReadyIn.cons rfl (fun K hK=>?_) ?_
        ·skip
         go_simp
         refine hK _ _ ?_
         clear hK K
         refine wpAnyIn_ready (rs:=[3]) (by kernel_rfl) (by simp) ?_
         refine AllReadyIn.cons rfl (fun K hK=>?_) ?_
         ·skip
          go_simp
          refine ⟨trivial,fun e=>(by cases e),?_⟩
          refine (CallsIn.inRound _ ((callsIn_wide (n:=m - 1)).2 CC6.out)).mono ?_
          rintro e w7 ⟨rfl,hb7⟩
          have hz7:w6.heap.size≤w7.heap.size:=hb7.size
          have hL7:L1 < w7.heap.size:=(by have:=Z6.out;omega)
          have l7:w7.cell? ⟨L1,0,none⟩=some vl:=(hb7.cell (p:=⟨L1,0,none⟩) (show L1 < w6.heap.size by have:=Z6.out;omega)).trans l6
          have l7a:=(fun o=>(World.cell?_alloc_past (w:=w7) o L1 0 hL7).trans l7)
          have r7:RowS (T+1+1+1) (w7.alloc (.cells #[.string s1] 9)) vl out:=row_keep RL6.out (fun g e=>(Below.heap_alloc _ _ _ (by have:=hown6 g e;omega)).trans (hb7.block g (hown6 g e).2))
          obtain ⟨g8,cap8,w8,hap,q8,p8,gr8,hg8⟩:=run_append_two (P:=Tryz.prog) (w7.alloc (.cells #[.string s1] 9)) 31 31 (T+1+1+1) 9 iS _ 16 Tryz.underlying31 hS hSz hSs hSb rfl vl (out.map Value.string) r7 ⟨w7.heap.size,0,none⟩ 1 (.string s1) (cells1 w7 _ _ _ rfl) rfl (by rw [List.length_map];unfold maxLen;omega) (by rw [List.length_map];omega) (by rw [World.size_alloc];have:=Z6.out;omega)
          have A8:=qh (app_same hb7 gr8)
          have f8:w8.frozen? ⟨L1,0,none⟩=false:=frozen_of_row _ _ _ _ _ ((A8.out.1 L1 (by have:=Z6.out;omega) (fun e=>by have:=hown6 L1 e;omega)).trans CL6.out)
          have c8:w8.cell? ⟨L1,0,none⟩=some vl:=cell_of_row _ _ _ _ _ _ ((A8.out.1 L1 (by have:=Z6.out;omega) (fun e=>by have:=hown6 L1 e;omega)).trans CL6.out)
          have Q8:=qh (rowS_snoc q8)
          have HG8:=qh (own_or (n:=(out++[s1]).length) (cap:=cap8) hg8 (by rw [World.size_alloc];exact Nat.le_succ_of_le hz7))
          rw [List.length_map] at hap
          have HAP:=qh hap
          clear q8 p8 gr8 hg8 r7 hb7 hap
          go_simp
          refine hK _ _ ?_
          clear hK K
          refine wpAnyIn_ready (rs:=[4]) (by kernel_rfl) (by simp) ?_
          refine AllReadyIn.cons rfl (fun K hK=>?_) ?_
          ·skip
           go_simp
           refine hK _ _ ?_
           clear hK K
           refine wpAnyIn_ready (rs:=[5]) (by kernel_rfl) (by simp) ?_
           refine AllReadyIn.cons rfl (fun K hK=>?_) ?_
           ·skip
            refine stepIn_append rfl _ _ 31 rfl rfl rfl HAP.out ?_
            refine hK _ _ ?_
            clear hK K
            refine wpAnyIn_ready (rs:=[6]) (by kernel_rfl) (by simp) ?_
            refine AllReadyIn.cons rfl (fun K hK=>?_) ?_
            ·skip
             go_simp
             refine hK _ _ ?_
             clear hK K
             refine wpAnyIn_done (by kernel_rfl) ?_ _
             go_simp
             simp only [Exit.inBlock,roundPostP]
             exact LEAF g8 cap8 w8 A8.out Q8.out HG8.out
            exact AllReadyIn.nil
           exact AllReadyIn.nil
          exact AllReadyIn.nil
         exact AllReadyIn.nil
        refine AllReadyIn.cons rfl (fun K hK=>?_) ?_
        ·skip
         go_simp
         refine ⟨trivial,fun e=>(by cases e),?_⟩
         refine (CallsIn.inRound _ ((callsIn_wide (n:=m - 1)).2 CC6.out)).mono ?_
         rintro e w7 ⟨rfl,hb7⟩
         have hz7:w6.heap.size≤w7.heap.size:=hb7.size
         have hL7:L1 < w7.heap.size:=(by have:=Z6.out;omega)
         have l7:w7.cell? ⟨L1,0,none⟩=some vl:=(hb7.cell (p:=⟨L1,0,none⟩) (show L1 < w6.heap.size by have:=Z6.out;omega)).trans l6
         have l7a:=(fun o=>(World.cell?_alloc_past (w:=w7) o L1 0 hL7).trans l7)
         have r7:RowS (T+1+1+1) (w7.alloc (.cells #[.string s1] 9)) vl out:=row_keep RL6.out (fun g e=>(Below.heap_alloc _ _ _ (by have:=hown6 g e;omega)).trans (hb7.block g (hown6 g e).2))
         obtain ⟨g8,cap8,w8,hap,q8,p8,gr8,hg8⟩:=run_append_two (P:=Tryz.prog) (w7.alloc (.cells #[.string s1] 9)) 31 31 (T+1+1+1) 9 iS _ 16 Tryz.underlying31 hS hSz hSs hSb rfl vl (out.map Value.string) r7 ⟨w7.heap.size,0,none⟩ 1 (.string s1) (cells1 w7 _ _ _ rfl) rfl (by rw [List.length_map];unfold maxLen;omega) (by rw [List.length_map];omega) (by rw [World.size_alloc];have:=Z6.out;omega)
         have A8:=qh (app_same hb7 gr8)
         have f8:w8.frozen? ⟨L1,0,none⟩=false:=frozen_of_row _ _ _ _ _ ((A8.out.1 L1 (by have:=Z6.out;omega) (fun e=>by have:=hown6 L1 e;omega)).trans CL6.out)
         have c8:w8.cell? ⟨L1,0,none⟩=some vl:=cell_of_row _ _ _ _ _ _ ((A8.out.1 L1 (by have:=Z6.out;omega) (fun e=>by have:=hown6 L1 e;omega)).trans CL6.out)
         have Q8:=qh (rowS_snoc q8)
         have HG8:=qh (own_or (n:=(out++[s1]).length) (cap:=cap8) hg8 (by rw [World.size_alloc];exact Nat.le_succ_of_le hz7))
         rw [List.length_map] at hap
         have HAP:=qh hap
         clear q8 p8 gr8 hg8 r7 hb7 hap
         go_simp
         refine hK _ _ ?_
         clear hK K
         refine wpAnyIn_ready (rs:=[0,4]) (by kernel_rfl) (by simp) ?_
         refine AllReadyIn.cons rfl (fun K hK=>?_) ?_
         ·skip
          go_simp
          refine hK _ _ ?_
          clear hK K
          refine wpAnyIn_ready (rs:=[4]) (by kernel_rfl) (by simp) ?_
          refine AllReadyIn.cons rfl (fun K hK=>?_) ?_
          ·skip
           go_simp
           refine hK _ _ ?_
           clear hK K
           refine wpAnyIn_ready (rs:=[5]) (by kernel_rfl) (by simp) ?_
           refine AllReadyIn.cons rfl (fun K hK=>?_) ?_
           ·skip
            refine stepIn_append rfl _ _ 31 rfl rfl rfl HAP.out ?_
            refine hK _ _ ?_
            clear hK K
            refine wpAnyIn_ready (rs:=[6]) (by kernel_rfl) (by simp) ?_
            refine AllReadyIn.cons rfl (fun K hK=>?_) ?_
            ·skip
             go_simp
             refine hK _ _ ?_
             clear hK K
             refine wpAnyIn_done (by kernel_rfl) ?_ _
             go_simp
             simp only [Exit.inBlock,roundPostP]
             exact LEAF g8 cap8 w8 A8.out Q8.out HG8.out
            exact AllReadyIn.nil
           exact AllReadyIn.nil
          exact AllReadyIn.nil
         refine AllReadyIn.cons rfl (fun K hK=>?_) ?_
         ·skip
          go_simp
          refine hK _ _ ?_
          clear hK K
          refine wpAnyIn_ready (rs:=[0]) (by kernel_rfl) (by simp) ?_
          refine AllReadyIn.cons rfl (fun K hK=>?_) ?_
          ·skip
           go_simp
           refine hK _ _ ?_
           clear hK K
           refine wpAnyIn_ready (rs:=[5]) (by kernel_rfl) (by simp) ?_
           refine AllReadyIn.cons rfl (fun K hK=>?_) ?_
           ·skip
            refine stepIn_append rfl _ _ 31 rfl rfl rfl HAP.out ?_
            refine hK _ _ ?_
            clear hK K
            refine wpAnyIn_ready (rs:=[6]) (by kernel_rfl) (by simp) ?_
            refine AllReadyIn.cons rfl (fun K hK=>?_) ?_
            ·skip
             go_simp
             refine hK _ _ ?_
             clear hK K
             refine wpAnyIn_done (by kernel_rfl) ?_ _
             go_simp
             simp only [Exit.inBlock,roundPostP]
             exact LEAF g8 cap8 w8 A8.out Q8.out HG8.out
            exact AllReadyIn.nil
           exact AllReadyIn.nil
          exact AllReadyIn.nil
         exact AllReadyIn.nil
        exact AllReadyIn.nil
       exact AllReadyIn.nil
      exact AllReadyIn.nil
  ·rintro e w' ⟨hv,hj | ⟨q,_,hf⟩⟩
   ·exact ⟨hv,hj.2⟩
   ·exact hf.elim
 rw [z4,hW1]
 refine hcall.mono ?_
 clear hcall j0 hsup hd1 hl1 old o4 B4 b4 hB1 m3 v3 l3 k3 r3 t3 B3 o3
 rintro e w' ⟨⟨v0,rfl⟩,j,jl⟩
 refine ⟨none,w'.putObj (T+1+1) (.loop { r with state:=.exhausted }),?_,?_⟩
 ·refine (run_endLoop (P:=Tryz.prog) jl (by rw [hr1];simp)).trans ?_
  rw [hr2]
 ·have j5:=j.putLoop hT { r with state:=.exhausted }
  obtain ⟨W5,hW5⟩:∃ W5,w'.putObj (T+1+1) (.loop { r with state:=.exhausted })=W5:=⟨_,rfl⟩
  rw [hW5] at j5 ⊢
  dsimp only [Exit.inBlock,Exit.then]
  obtain ⟨vl,cl5,rl5⟩:=j5.c
  have c5:W5.cell? ⟨L1,0,none⟩=some vl:=cell_of_row _ _ _ _ _ _ cl5
  have J5:=qh j5
  have RL5:=qh rl5
  clear j j5 jl hW5 cl5 rl5 hr hr1 hr2 hr3 hW1
  refine wpAt_of_wpIn (n:=6) ?_
  refine wpIn_wide.2 ?_
  go_wp2
  refine ⟨by simp,.inl ⟨_,_,rfl,run_takeDeferred J5.out.d,?_⟩⟩
  refine ⟨.tuple #[vl,.int .i64 0],by simp [results,Tryz.results65,go_sem],vl,rfl,?_,below_put (B1.trans (J5.out.b.mono (by omega))) _ _ (by omega)⟩
  exact row_keep (ownsRow_base RL5.out (by omega)) fun g e=>World.putObj_heap_other (by have:=World.ownsRow.lt RL5.out g e;omega)
end Go.Proofs.YtgikhpmdpppenaaGreatDoor
namespace Go.Proofs.YtgikhpmdpppenaaGreatDoor
open Go.RowKit Go.Shelf
set_option maxRecDepth 100000 in
set_option maxHeartbeats 2000000 in
theorem occurring_bad (t:Nd) (kind:Int) (w:World) (v0 v1 v2:Value) (ht:NdR w t v0 v1 v2) (c:Int) (hv:chkN t=c) (hc:c≠0) :
  Calls Tryz.prog 65 #[.agg #[v0,v1,v2],.int .i64 kind] w fun e w'=>e = .returned (.tuple #[.slice none 0 0,.int .i64 c])∧Below w.heap.size w w':=by
 obtain ⟨k,s,kids,a,cap,rfl,rfl,rfl,rfl,hs,hl⟩:=ht.form
 obtain ⟨W0,hW0⟩:∃ W0,(w.alloc (.cells #[.int .i64 k,.string s,.slice a kids.length cap] 24)).alloc (.cells #[.int .i64 kind] 3)=W0:=⟨_,rfl⟩
 have b0:Below w.heap.size w W0:=by rw [←hW0];exact ((Below.refl _ w).alloc (Nat.le_refl _) _).alloc (by simp) _
 have r0:Row3 W0 w.heap.size (.int .i64 k) (.string s) (.slice a kids.length cap):=by rw [←hW0];exact (Below.heap_alloc _ _ _ (by simp only [World.size_alloc];omega)).trans (World.alloc_heap_new _ _)
 have t0:NdR W0 (.mk k s kids) (.int .i64 k) (.string s) (.slice a kids.length cap):=ht.later b0
 have CC:=qh (check_tree _ W0 _ _ _ t0)
 rw [hv] at CC
 have hcb:((c:Int) != 0)=true:=by rw [bne_iff_ne];exact hc
 obtain ⟨⟨n0,n1,n2⟩,_⟩:=r0.cells
 have HB:=qh b0
 clear b0 r0 t0 ht hv hc
 go_enter Tryz.func65,Tryz.ntmps65
 go_upto_region 1 with fail
 (try rw [hW0])
 clear hW0
 go_wp2_with fail
 refine CC.out.mono ?_
 rintro e w1 ⟨rfl,hb⟩
 have HB1:=qh hb
 clear hb CC n0 n1 n2
 go_wp2
 go_ret2
 exact ⟨rfl,HB.out.trans (HB1.out.mono HB.out.size)⟩
def OccR (kind:Int) (t:Nd) (w:World) (e:Ending) (w':World):Prop :=
 ∃ v,e = .returned (.tuple #[v,.int .i64 (chkN t)])∧RowS w.heap.size w' v (if chkN t=0 then occs kind (preN 0 [] false t) else [])∧Below w.heap.size w w'
theorem occurring_any (t:Nd) (kind:Int) (w:World) (v0 v1 v2:Value) (ht:NdR w t v0 v1 v2) :
  Calls Tryz.prog 65 #[.agg #[v0,v1,v2],.int .i64 kind] w (OccR kind t w):=by
 by_cases h:chkN t=0
 ·refine (occurring_ok t kind w v0 v1 v2 ht h (valid_facts h).1 (valid_ok h).2).mono ?_
  rintro e w' ⟨v,rfl,hr,hb⟩
  refine ⟨v,by rw [h],?_,hb⟩
  rw [if_pos h]
  exact hr
 ·refine (occurring_bad t kind w v0 v1 v2 ht _ rfl h).mono ?_
  rintro e w' ⟨rfl,hb⟩
  refine ⟨_,rfl,?_,hb⟩
  rw [if_neg h]
  exact World.ownsRow_nil _ _ _ _
set_option maxRecDepth 100000 in
set_option maxHeartbeats 2000000 in
theorem occur_any (g:Nat) (kind:Int) (hg:(g=19∧kind=15)∨(g=21∧kind=16)) (t:Nd) (w:World) (v0 v1 v2:Value) (ht:NdR w t v0 v1 v2) :
  Calls Tryz.prog g #[.agg #[v0,v1,v2]] w (OccR kind t w):=by
 obtain ⟨k,s,kids,a,cap,rfl,rfl,rfl,rfl,hs,hl⟩:=ht.form
 obtain ⟨W0,hW0⟩:∃ W0,w.alloc (.cells #[.int .i64 k,.string s,.slice a kids.length cap] 24)=W0:=⟨_,rfl⟩
 have b0:Below w.heap.size w W0:=by rw [←hW0];exact (Below.refl _ w).alloc (Nat.le_refl _) _
 have z0:W0.heap.size=w.heap.size+1:=by rw [←hW0];simp
 have r0:Row3 W0 w.heap.size (.int .i64 k) (.string s) (.slice a kids.length cap):=by rw [←hW0];exact World.alloc_heap_new _ _
 have C0:=occurring_any _ kind W0 _ _ _ (ht.later b0)
 unfold OccR at C0 ⊢
 obtain ⟨L,hL⟩:∃ L,(if chkN (.mk k s kids)=0 then occs kind (preN 0 [] false (.mk k s kids)) else [])=L:=⟨_,rfl⟩
 obtain ⟨c,hc⟩:∃ c,chkN (.mk k s kids)=c:=⟨_,rfl⟩
 rw [hL,hc] at C0
 rw [hL,hc]
 have CC:=qh C0
 obtain ⟨⟨n0,n1,n2⟩,_⟩:=r0.cells
 have HB:=qh b0
 have HZ:=qh z0
 clear b0 r0 ht hL hc C0 z0
 rcases hg with ⟨rfl,rfl⟩ | ⟨rfl,rfl⟩
 ·go_enter Tryz.func19,Tryz.ntmps19
  go_upto_region 1 with fail
  (try rw [hW0])
  clear hW0
  go_wp2_with fail
  refine CC.out.mono ?_
  rintro e w1 ⟨v,rfl,hr,hb⟩
  have HB1:=qh hb
  have HR:=qh hr
  clear hb hr CC n0 n1 n2
  go_wp2
  go_ret2
  exact ⟨v,rfl,ownsRow_base HR.out (by have:=HZ.out;omega),HB.out.trans (HB1.out.mono HB.out.size)⟩
 ·go_enter Tryz.func21,Tryz.ntmps21
  go_upto_region 1 with fail
  (try rw [hW0])
  clear hW0
  go_wp2_with fail
  refine CC.out.mono ?_
  rintro e w1 ⟨v,rfl,hr,hb⟩
  have HB1:=qh hb
  have HR:=qh hr
  clear hb hr CC n0 n1 n2
  go_wp2
  go_ret2
  exact ⟨v,rfl,ownsRow_base HR.out (by have:=HZ.out;omega),HB.out.trans (HB1.out.mono HB.out.size)⟩
end Go.Proofs.YtgikhpmdpppenaaGreatDoor
namespace Go.Proofs.YtgikhpmdpppenaaGreatDoor
open Go.RowKit Go.Shelf
set_option maxRecDepth 100000 in
set_option maxHeartbeats 2000000 in
theorem equalFunc_any (g:Nat) (eg:∀ args w,(callFunc g args).run Tryz.prog w = .ok (.enter g args) w) (k k':Int) (s s':ByteArray) (l m:List Nd) (w:World) (a a':Option Addr) (cap cap':Nat)
  (ht:NdR w (.mk k s l) (.int .i64 k) (.string s) (.slice a l.length cap)) (hu:NdR w (.mk k' s' m) (.int .i64 k') (.string s') (.slice a' m.length cap')) (hl:l.length≤maxLen) (hm:m.length≤maxLen)
  (C:∀ i,(h:i < l.length)→(h2:i < m.length)→∀ (w:World) (v0 v1 v2 u0 u1 u2:Value),NdR w l[i] v0 v1 v2→NdR w m[i] u0 u1 u2→Calls Tryz.prog g #[.agg #[v0,v1,v2],.agg #[u0,u1,u2]] w fun e w'=>e = .returned (.bool (sameN l[i] m[i]))∧Below w.heap.size w w') :
  Calls Tryz.prog 64 #[.slice a l.length cap,.slice a' m.length cap',.func (.func g) #[] #[]] w fun e w'=>e = .returned (.bool (sameL l m))∧Below w.heap.size w w':=by
 unfold maxLen at hl hm
 have CC:=qh C
 clear C
 by_cases hll:l.length=m.length
 ·have hl2:((l.length:Int) != (m.length:Int))=false:=by rw [hll];simp
  have HL:=qh hll
  have HT:=qh ht
  have HU:=qh hu
  clear hll ht hu
  go_enter Tryz.func64,Tryz.ntmps64
  go_wp2
  go_loopw [17] (fun v wr=>∃ i:Nat,i≤l.length∧v = .int .i64 i∧Hid (sameL l m=sameL (l.drop i) (m.drop i))∧Hid (Below w.heap.size w wr)) (fun v _=>l.length - (intOf v).toNat)
  case atStart=>exact ⟨0,Nat.zero_le _,rfl,rfl,Below.refl _ _⟩
  case round =>
   obtain ⟨i,hi,rfl,hrun,hbl⟩:=hrel
   by_cases hlt:i < l.length
   ·have hlt':(i:Int) < (l.length:Int):=by omega
    have hi2:i < m.length:=by have:=HL.out;omega
    have hlt2:(i:Int) < (m.length:Int):=by omega
    have hi0:(0:Int)≤(i:Int):=by omega
    obtain ⟨b,o,k1,s1,l1,a1,c1,rfl,e1,x0,x1,x2,r1⟩:=(HT.out.later hbl.out).kid i hlt
    obtain ⟨b',o',k2,s2,l2,a2,c2,rfl,e2,y0,y1,y2,r2⟩:=(HU.out.later hbl.out).kid i hi2
    have Hst:=qh (sameL_step hlt hi2)
    obtain ⟨V,hV⟩:∃ V,sameN l[i] m[i]=V:=⟨_,rfl⟩
    have C1:=fun w=>CC.out i hlt hi2 w (.int .i64 k1) (.string s1) (.slice a1 l1.length c1) (.int .i64 k2) (.string s2) (.slice a2 l2.length c2)
    rw [hV] at C1 Hst
    rw [e1,e2] at C1
    have C2:=qh C1
    have R1:=qh r1
    have R2:=qh r2
    have L2:=lt_of_cell x0
    have L3:=lt_of_cell y0
    have yy0:=fun o=>(World.cell?_alloc_past (w:=wr) o b' (o'+i*3) L3).trans y0
    have yy1:=fun o=>(World.cell?_alloc_past (w:=wr) o b' (o'+i*3+1) L3).trans y1
    have yy2:=fun o=>(World.cell?_alloc_past (w:=wr) o b' (o'+i*3+2) L3).trans y2
    have Hbl:=hbl
    clear e1 e2 hV r1 r2 C1
    go_wp2_with fail
    refine (C2.out _ (R1.out.later (((Below.refl _ _).alloc (Nat.le_refl _) _).alloc (by simp) _)) (R2.out.later (((Below.refl _ _).alloc (Nat.le_refl _) _).alloc (by simp) _))).mono ?_
    rintro e w5 ⟨rfl,hb5⟩
    have hbx:Hid (Below w.heap.size w w5):=qh (Hbl.out.trans ((((Below.refl wr.heap.size wr).alloc (Nat.le_refl _) _).alloc (by simp) _).trans (hb5.mono (by simp;omega)) |>.mono Hbl.out.size))
    clear C2 R1 R2 x0 x1 x2 y0 y1 y2 yy0 yy1 yy2 hb5
    cases V with
    | false =>
     go_wp2
     go_ret
     exact ⟨by rw [hrun.out,Hst.out];rfl,hbx.out⟩
    | true =>
     go_wp2
     go_roundw
     case rel=>exact ⟨i+1,hlt,by push_cast;rfl,qh (by rw [hrun.out,Hst.out];rfl),hbx⟩
     case measure=>simp [intOf];omega
   ·have hlt':¬ ((i:Int) < (l.length:Int)):=by omega
    go_wp2
    go_ret
    exact ⟨by rw [hrun.out,sameL_end (by omega) (by have:=HL.out;omega)];rfl,hbl.out⟩
 ·have hl2:((l.length:Int) != (m.length:Int))=true:=by rw [bne_iff_ne];omega
  have HS:=qh (sameL_len l m hll)
  clear hll ht hu
  go_enter Tryz.func64,Tryz.ntmps64
  go_wp2
  go_ret
  exact ⟨by rw [HS.out];rfl,Below.refl _ _⟩
set_option maxRecDepth 100000 in
set_option maxHeartbeats 2000000 in
theorem sameN_any (n:Nat):∀ (t u:Nd) (w:World) (v0 v1 v2 u0 u1 u2:Value),t.sz≤n→NdR w t v0 v1 v2→NdR w u u0 u1 u2 →
  Calls Tryz.prog 17 #[.agg #[v0,v1,v2],.agg #[u0,u1,u2]] w fun e w'=>e = .returned (.bool (sameN t u))∧Below w.heap.size w w':=by
 induction n with
 | zero=>intro t u w v0 v1 v2 u0 u1 u2 h;cases t;simp only [Nd.sz] at h;omega
 | succ n ih =>
  intro t u w v0 v1 v2 u0 u1 u2 hsz ht hu
  obtain ⟨k,s,l,a,cap,rfl,rfl,rfl,rfl,hs,hl⟩:=ht.form
  obtain ⟨k',s',l',a',cap',rfl,rfl,rfl,rfl,hs',hl'⟩:=hu.form
  have eg:∀ args w,(callFunc 17 args).run Tryz.prog w = .ok (.enter 17 args) w:=enters_of Tryz.func17 (by kernel_rfl) rfl
  have CE:=qh (fun w h1 h2=>equalFunc_any _ eg k k' s s' l l' w a a' cap cap' h1 h2 hl hl' (fun i hi hi2 w v0 v1 v2 u0 u1 u2=>ih l[i] l'[i] w v0 v1 v2 u0 u1 u2 (by have:=Nd.kid_lt k s l i hi;omega)))
  clear ih eg
  have HB:Hid (Below w.heap.size w ((w.alloc (Obj.cells #[Value.int IntKind.i64 k,Value.string s,Value.slice a l.length cap] 24)).alloc (Obj.cells #[Value.int IntKind.i64 k',Value.string s',Value.slice a' l'.length cap'] 24))):=qh (((Below.refl _ w).alloc (Nat.le_refl _) _).alloc (by simp) _)
  have HT:=qh (ht.later HB.out)
  have HU:=qh (hu.later HB.out)
  have HS:Hid (sameN (.mk k s l) (.mk k' s' l')=((k==k' && s.toList==s'.toList) && sameL l l')):=qh (by simp only [sameN])
  obtain ⟨V,hV⟩:∃ V,sameL l l'=V:=⟨_,rfl⟩
  obtain ⟨V2,hV2⟩:∃ V,(s.toList==s'.toList)=V:=⟨_,rfl⟩
  rw [hV] at CE HS
  rw [hV2] at HS
  clear hV ht hu
  by_cases hk:k=k'
  ·have hk2:(k==k')=true:=by rw [hk];simp
   rw [hk2] at HS
   clear hk
   cases V2 with
   | false =>
    go_enter Tryz.func17,Tryz.ntmps17
    go_wp2
    go_ret
    exact ⟨by rw [HS.out];rfl,HB.out⟩
   | true =>
    go_enter Tryz.func17,Tryz.ntmps17
    go_wp2_with fail
    refine (CE.out _ HT.out HU.out).mono ?_
    rintro e w5 ⟨rfl,hb5⟩
    have HB2:Hid (Below w.heap.size w w5):=qh (HB.out.trans (hb5.mono HB.out.size))
    clear hb5 CE HT HU
    go_wp2
    go_ret
    exact ⟨by rw [HS.out];rfl,HB2.out⟩
  ·have hk2:(k==k')=false:=by rw [beq_eq_false_iff_ne];exact hk
   rw [hk2] at HS
   clear hk
   go_enter Tryz.func17,Tryz.ntmps17
   go_wp2
   go_ret
   exact ⟨by rw [HS.out];rfl,HB.out⟩
end Go.Proofs.YtgikhpmdpppenaaGreatDoor
namespace Go.Proofs.YtgikhpmdpppenaaGreatDoor
open Go.RowKit
def St (w wi:World):Prop:=Below w.heap.size w wi∧GLw wi∧2≤wi.heap.size
theorem St.below {w wi wj:World} (h:St w wi) (hb:Below wi.heap.size wi wj):St w wj:=⟨h.1.trans (hb.mono h.1.size),h.2.1.keep fun b _ hl=>hb.block b hl,Nat.le_trans h.2.2 hb.size⟩
theorem St.alloc {w wi:World} (h:St w wi) (o:Obj):St w (wi.alloc o):=h.below ((Below.refl _ wi).alloc (Nat.le_refl _) o)
theorem sn_form_says (s:ByteArray) (what:Int) (g:Nat) (hg:(g=39∧what=18)∨(g=37∧what=1)) (k:Int) (n:ByteArray) (l:List Nd) (hp:parseP (bs s) what=(some (.mk k n l),0,0)) (hs:s.size≤maxLen) (w wi:World) (h:St w wi) :
  Calls Tryz.prog g #[.string s] wi fun e w'=>∃ a c,e = .returned (.tuple #[.agg #[.int .i64 k,.string n,.slice a l.length c],.int .i64 0,.int .i64 0])∧St w w'∧NdR w' (.mk k n l) (.int .i64 k) (.string n) (.slice a l.length c):=by
 have C:Calls Tryz.prog g #[.string s] wi (ParseR (parseP (bs s) what) wi):=by
  rcases hg with ⟨rfl,rfl⟩ | ⟨rfl,rfl⟩
  ·exact ParseForm_any s wi h.2.2 h.2.1 hs
  ·exact Parse_any s wi h.2.2 h.2.1 hs
 rw [hp] at C
 refine C.mono ?_
 rintro e w' ⟨k',s',a,m,c,rfl,hb,hn⟩
 have hr:NdR w' (.mk k n l) (.int .i64 k') (.string s') (.slice a m c):=NdS.toR hn
 obtain ⟨k2,s2,l2,a2,c2,e1,e2,e3,e4,_,_⟩:=hr.form
 cases e1
 cases e2
 cases e3
 cases e4
 exact ⟨a,c,rfl,h.below hb,hr⟩
theorem sn_form_bad (s:ByteArray) (p er:Nat) (hp:parseP (bs s) 18=(none,p,er)) (hs:s.size≤maxLen) (w wi:World) (h:St w wi) :
  Calls Tryz.prog 39 #[.string s] wi fun e w'=>e = .returned (.tuple #[.agg #[.int .i64 0,.string ⟨#[]⟩,.slice none 0 0],.int .i64 p,.int .i64 er])∧St w w':=by
 have C:=ParseForm_any s wi h.2.2 h.2.1 hs
 rw [hp] at C
 refine C.mono ?_
 rintro e w' ⟨k',s',a,m,c,rfl,hb,hn⟩
 obtain ⟨rfl,rfl,rfl,rfl,rfl⟩:=hn
 exact ⟨rfl,h.below hb⟩
theorem sn_print_says (t:Nd) (out:ByteArray) (hp:printP t=(bs out,0)) (w wi:World) (h:St w wi) (v0 v1 v2:Value) (ht:NdR wi t v0 v1 v2) :
  Calls Tryz.prog 45 #[.agg #[v0,v1,v2]] wi fun e w'=>e = .returned (.tuple #[.string out,.int .i64 0])∧St w w'∧Below wi.heap.size wi w':=by
 have C:=Print_any t v0 v1 v2 wi ht h.2.1 h.2.2
 rw [hp] at C
 refine C.mono ?_
 rintro e w' ⟨rfl,hb⟩
 exact ⟨rfl,h.below hb,hb⟩
set_option maxRecDepth 100000 in
set_option maxHeartbeats 400000 in
theorem sn_node_any (k:Int) (s:ByteArray) (a:Option Addr) (n c:Nat) (w wi:World) (h:St w wi) :
  Calls Tryz.prog 49 #[.int .i64 k,.string s,.slice a n c] wi fun e w'=>e = .returned (.agg #[.int .i64 k,.string s,.slice a n c])∧St w w'∧Below wi.heap.size wi w':=by
 have R1:=qh (Row3.new wi (.int .i64 k) (.string s) (.slice a n c))
 have HB:=qh ((Below.refl wi.heap.size wi).alloc (Nat.le_refl _) (.cells #[.int .i64 k,.string s,.slice a n c] 24))
 have HS:=qh (h.alloc (.cells #[.int .i64 k,.string s,.slice a n c] 24))
 clear h
 go_enter Tryz.func49,Tryz.ntmps49
 go_wp2
 exact ret_node R1.out rfl rfl rfl ⟨rfl,HS.out,HB.out⟩
set_option maxRecDepth 100000 in
set_option maxHeartbeats 400000 in
theorem sn_atom_any (s:ByteArray) (a:Option Addr) (n c:Nat) (w wi:World) (h:St w wi) :
  Calls Tryz.prog 50 #[.string s,.slice a n c] wi fun e w'=>e = .returned (.agg #[.int .i64 15,.string s,.slice a n c])∧St w w'∧Below wi.heap.size wi w':=by
 have R1:=qh (Row3.new wi (.int .i64 15) (.string s) (.slice a n c))
 have HB:=qh ((Below.refl wi.heap.size wi).alloc (Nat.le_refl _) (.cells #[.int .i64 15,.string s,.slice a n c] 24))
 have HS:=qh (h.alloc (.cells #[.int .i64 15,.string s,.slice a n c] 24))
 clear h
 go_enter Tryz.func50,Tryz.ntmps50
 go_wp2
 exact ret_node R1.out rfl rfl rfl ⟨rfl,HS.out,HB.out⟩
theorem NdR.lit1 {w:World} {b:Nat} {k k1:Int} {s s1:ByteArray} {l1:List Nd} {a1:Option Addr} {c1:Nat} (hs:s.size≤maxLen) (h:w.heap[b]?=some (.cells #[.int .i64 k1,.string s1,.slice a1 l1.length c1] 24 (0,0)))
  (r:NdR w (.mk k1 s1 l1) (.int .i64 k1) (.string s1) (.slice a1 l1.length c1)):NdR w (.mk k s [.mk k1 s1 l1]) (.int .i64 k) (.string s) (.slice (some ⟨b,0,none⟩) 1 1):=by
 refine .mk k s [.mk k1 s1 l1] (some ⟨b,0,none⟩) 1 b 0 (fun _=>.int .i64 k1) (fun _=>.string s1) (fun _=>.slice a1 l1.length c1) hs (by simp [maxLen]) (by simp) (fun _=>rfl) ?_ ?_ ?_ ?_
 all_goals (intro i hi;obtain rfl:i=0:=by simpa using hi)
 ·exact cell_of_row _ _ _ _ _ _ h
 ·exact cell_of_row _ _ _ _ _ _ h
 ·exact cell_of_row _ _ _ _ _ _ h
 ·exact r
theorem NdR.lit2 {w:World} {b:Nat} {k k1 k2:Int} {s s1 s2:ByteArray} {l1 l2:List Nd} {a1 a2:Option Addr} {c1 c2:Nat} (hs:s.size≤maxLen) (h:w.heap[b]?=some (.cells #[.int .i64 k1,.string s1,.slice a1 l1.length c1,.int .i64 k2,.string s2,.slice a2 l2.length c2] 24 (0,0)))
  (r1:NdR w (.mk k1 s1 l1) (.int .i64 k1) (.string s1) (.slice a1 l1.length c1)) (r2:NdR w (.mk k2 s2 l2) (.int .i64 k2) (.string s2) (.slice a2 l2.length c2)):NdR w (.mk k s [.mk k1 s1 l1,.mk k2 s2 l2]) (.int .i64 k) (.string s) (.slice (some ⟨b,0,none⟩) 2 2):=by
 refine .mk k s [.mk k1 s1 l1,.mk k2 s2 l2] (some ⟨b,0,none⟩) 2 b 0 (fun i=>if i=0 then .int .i64 k1 else .int .i64 k2) (fun i=>if i=0 then .string s1 else .string s2) (fun i=>if i=0 then .slice a1 l1.length c1 else .slice a2 l2.length c2) hs (by simp [maxLen]) (by simp) (fun _=>rfl) ?_ ?_ ?_ ?_
 all_goals (intro i hi;obtain rfl | rfl:i=0∨i=1:=by simp at hi;omega)
 ·exact cell_of_row _ _ _ _ _ _ h
 ·exact cell_of_row _ _ _ _ _ _ h
 ·exact cell_of_row _ _ _ _ _ _ h
 ·exact cell_of_row _ _ _ _ _ _ h
 ·exact cell_of_row _ _ _ _ _ _ h
 ·exact cell_of_row _ _ _ _ _ _ h
 ·exact r1
 ·exact r2
theorem NdR.leaf (w:World) (k:Int) (s:ByteArray) (hs:s.size≤maxLen):NdR w (.mk k s []) (.int .i64 k) (.string s) (.slice none 0 0):=(NdS.leaf (fun _=>True) w k s hs none 0).toR
end Go.Proofs.YtgikhpmdpppenaaGreatDoor
namespace Go.Proofs.YtgikhpmdpppenaaGreatDoor
open Go.RowKit
set_option maxRecDepth 100000 in
set_option maxHeartbeats 4000000 in
theorem saneS_any (w:World) (hw:2≤w.heap.size) (gl:GLw w) :
  Calls Tryz.prog 11 #[] w fun e w'=>e = .returned (.bool true)∧Below w.heap.size w w':=by
 have s0:St w w:=⟨Below.refl _ _,gl,hw⟩
 have F1:=qh (fun b wi=>sn_form_says txt1 18 39 (.inl ⟨rfl,rfl⟩) _ _ _ parse1 (by unfold maxLen;decide) b wi)
 have F2:=qh (fun b wi=>sn_form_says txt2 18 39 (.inl ⟨rfl,rfl⟩) _ _ _ parse2 (by unfold maxLen;decide) b wi)
 have F4:=qh (fun b wi=>sn_form_bad txt4 _ _ parse4 (by unfold maxLen;decide) b wi)
 have F5:=qh (fun b wi=>sn_form_bad txt5 _ _ parse5 (by unfold maxLen;decide) b wi)
 have F6:=qh (fun b wi=>sn_form_says txt6 1 37 (.inr ⟨rfl,rfl⟩) _ _ _ parse6 (by unfold maxLen;decide) b wi)
 have P1:=qh (fun b=>sn_print_says tree1 txt1 print1 b)
 have P2:=qh (fun b=>sn_print_says tree2 out2 print2 b)
 have P3:=qh (fun b=>sn_print_says tree3 out3 print3 b)
 have P6:=qh (fun b=>sn_print_says tree6 out6 print6 b)
 have NA:=qh (fun b k s a n c wi h=>sn_node_any k s a n c b wi h)
 have AA:=qh (fun b s a n c wi h=>sn_atom_any s a n c b wi h)
 have HS0:=qh s0
 clear s0 hw gl
 go_enter Tryz.func11,Tryz.ntmps11
 go_wp2_with fail
 refine (F1.out _ _ HS0.out).mono ?_
 rintro e w1 ⟨a1,c1,rfl,s1,n1⟩
 have S1:=qh s1
 have N1:=qh n1
 clear s1 n1 F1
 go_wp2_with fail
 refine (P1.out _ _ (S1.out.alloc _) _ _ _ (N1.out.later ((Below.refl _ w1).alloc (Nat.le_refl _) _))).mono ?_
 rintro e w2 ⟨rfl,s2,_⟩
 have S2:=qh s2
 clear s2 P1 N1
 go_wp2_with fail
 refine (F2.out _ _ S2.out).mono ?_
 rintro e w3 ⟨a3,c3,rfl,s3,n3⟩
 have S3:=qh s3
 have N3:=qh n3
 clear s3 n3 F2
 go_wp2_with fail
 refine (P2.out _ _ (S3.out.alloc _) _ _ _ (N3.out.later ((Below.refl _ w3).alloc (Nat.le_refl _) _))).mono ?_
 rintro e w4 ⟨rfl,s4,_⟩
 have S4:=qh s4
 clear s4 P2 N3
 go_wp2_with fail
 refine (NA.out _ _ _ _ _ _ _ S4.out).mono ?_
 rintro e w5 ⟨rfl,s5,_⟩
 obtain ⟨V5,hV5⟩:∃ V5,w5.alloc (.cells #[.int .i64 16,.string { data:=#[88] },.slice none 0 0] 24)=V5:=⟨_,rfl⟩
 have s5':=s5.alloc (.cells #[.int .i64 16,.string { data:=#[88] },.slice none 0 0] 24)
 have HX':=Row3.new w5 (.int .i64 16) (.string { data:=#[88] }) (.slice none 0 0)
 rw [hV5] at s5' HX'
 obtain ⟨X,hX⟩:∃ X,w5.heap.size=X:=⟨_,rfl⟩
 rw [hX] at HX'
 have HX:=qh HX'
 have T5:=qh s5'
 have S5:Hid (St V5 V5):=qh ⟨Below.refl _ _,s5'.2.1,s5'.2.2⟩
 have HV5:=qh hV5
 have HXe:=qh hX
 clear s5 s5' HX' hV5 hX
 go_upto_region 6 with fail
 rw [HV5.out,HXe.out]
 clear HV5 HXe S1 S2 S3 S4
 go_wp2_with fail
 refine (AA.out _ _ _ _ _ _ S5.out).mono ?_
 rintro e w6 ⟨rfl,s6,_⟩
 have S6:=qh s6
 clear s6
 go_wp2_with fail
 refine (AA.out _ _ _ _ _ _ (S6.out.alloc _)).mono ?_
 rintro e w7 ⟨rfl,s7,b7⟩
 have S7:=qh s7
 have R7:Hid (NdR w7 (.mk 15 ⟨#[112]⟩ [nm_ 120]) (.int .i64 15) (.string ⟨#[112]⟩) (.slice (some ⟨w6.heap.size,0,none⟩) 1 1)) :=
  qh (NdR.lit1 (l1:=[]) (by unfold maxLen;decide) ((b7.block _ (by simp)).trans (World.alloc_heap_new _ _)) (NdR.leaf _ _ _ (by unfold maxLen;decide)))
 clear s7 b7
 go_wp2_with fail
 refine (NA.out _ _ _ _ _ _ _ (S7.out.alloc _)).mono ?_
 rintro e w8 ⟨rfl,s8,b8⟩
 have S8:=qh s8
 have R8:Hid (NdR w8 (.mk 18 ⟨#[120]⟩ [.mk 15 ⟨#[112]⟩ [nm_ 120]]) (.int .i64 18) (.string ⟨#[120]⟩) (.slice (some ⟨w7.heap.size,0,none⟩) 1 1)) :=
  qh (NdR.lit1 (l1:=[nm_ 120]) (by unfold maxLen;decide) ((b8.block _ (by simp)).trans (World.alloc_heap_new _ _)) ((R7.out.later ((Below.refl _ w7).alloc (Nat.le_refl _) _)).later b8))
 clear s8 b8 R7
 go_wp2_with fail
 refine (NA.out _ _ _ _ _ _ _ ((S8.out.alloc _).alloc _)).mono ?_
 rintro e w9 ⟨rfl,s9,b9⟩
 have S9:=qh s9
 have R9:Hid (NdR w9 (.mk 29 ⟨#[]⟩ [.mk 18 ⟨#[120]⟩ [.mk 15 ⟨#[112]⟩ [nm_ 120]]]) (.int .i64 29) (.string ⟨#[]⟩) (.slice (some ⟨w8.heap.size+1,0,none⟩) 1 1)) :=
  qh (NdR.lit1 (l1:=[.mk 15 ⟨#[112]⟩ [nm_ 120]]) (by unfold maxLen;decide) ((b9.block _ (by simp)).trans (alloc_at (by simp))) ((R8.out.later (((Below.refl _ w8).alloc (Nat.le_refl _) _).alloc (by simp) _)).later (b9.mono (by simp))))
 clear s9 b9 R8
 go_wp2_with fail
 refine (AA.out _ _ _ _ _ _ S9.out).mono ?_
 rintro e w10 ⟨rfl,s10,b10⟩
 have S10:=qh s10
 have R10:=qh (R9.out.later b10)
 clear s10 b10 R9
 go_wp2_with fail
 refine (NA.out _ _ _ _ _ _ _ (S10.out.alloc _)).mono ?_
 rintro e w11 ⟨rfl,s11,b11⟩
 have S11:=qh s11
 have R11:Hid (NdR w11 tree3 (.int .i64 22) (.string ⟨#[]⟩) (.slice (some ⟨w10.heap.size,0,none⟩) 2 2)) :=
  qh (NdR.lit2 (l1:=[.mk 18 ⟨#[120]⟩ [.mk 15 ⟨#[112]⟩ [nm_ 120]]]) (l2:=[]) (by unfold maxLen;decide) ((b11.block _ (by simp)).trans (World.alloc_heap_new _ _)) ((R10.out.later ((Below.refl _ w10).alloc (Nat.le_refl _) _)).later b11) (NdR.leaf _ _ _ (by unfold maxLen;decide)))
 clear s11 b11 R10
 go_wp2_with fail
 refine (P3.out _ _ S11.out _ _ _ R11.out).mono ?_
 rintro e w12 ⟨rfl,s12,_⟩
 have S12:=qh s12
 clear s12 R11 P3 AA NA S6 S7 S8 S9 S10 S11
 go_wp2_with fail
 refine (F4.out _ _ S12.out).mono ?_
 rintro e w13 ⟨rfl,s13⟩
 have S13:=qh s13
 clear s13 F4 S12
 go_wp2_with fail
 refine (F5.out _ _ (S13.out.alloc _)).mono ?_
 rintro e w14 ⟨rfl,s14⟩
 have S14:=qh s14
 clear s14 F5 S13
 go_wp2_with fail
 refine (F6.out _ _ (S14.out.alloc _)).mono ?_
 rintro e w15 ⟨an,cn,rfl,s15,n15⟩
 obtain ⟨V15,hV15⟩:∃ V,w15.alloc (.cells #[.int .i64 1,.string { data:=#[] },.slice an 2 cn] 24)=V:=⟨_,rfl⟩
 have s15':=s15.alloc (.cells #[.int .i64 1,.string { data:=#[] },.slice an 2 cn] 24)
 have HY':=Row3.new w15 (.int .i64 1) (.string { data:=#[] }) (.slice an 2 cn)
 have n15':=n15.later ((Below.refl _ w15).alloc (Nat.le_refl _) (.cells #[.int .i64 1,.string { data:=#[] },.slice an 2 cn] 24))
 rw [hV15] at s15' HY' n15'
 obtain ⟨Y,hY⟩:∃ Y,w15.heap.size=Y:=⟨_,rfl⟩
 rw [hY] at HY'
 have HY:=qh HY'
 have T15:=qh (T5.out.below s15'.1)
 have HX15:=qh (HX.out.below s15'.1 HX.out.lt)
 have N15:Hid (NdR V15 tree6 (.int .i64 1) (.string { data:=#[] }) (.slice an 2 cn)):=qh n15'
 have S15:Hid (St V15 V15):=qh ⟨Below.refl _ _,s15'.2.1,s15'.2.2⟩
 have HV15:=qh hV15
 have HYe:=qh hY
 clear s15 s15' HY' n15 n15' hV15 hY F6 S14 HX T5 S5
 go_upto_region 11 with fail
 rw [HV15.out,HYe.out]
 clear HV15 HYe
 obtain ⟨⟨y0,y1,y2⟩,_⟩:=HY.out.cells
 go_wp2_with fail
 refine (P6.out _ _ S15.out _ _ _ N15.out).mono ?_
 rintro e w16 ⟨rfl,s16,_⟩
 have S16:=qh s16
 have HY16:=qh (HY.out.below s16.1 HY.out.lt)
 clear s16 P6 y0 y1 y2
 obtain ⟨⟨y0,y1,y2⟩,_⟩:=HY16.out.cells
 have CV:=qh (occur_any 21 16 (.inr ⟨rfl,rfl⟩) tree6 w16 _ _ _ (N15.out.later S16.out.1))
 unfold OccR at CV
 rw [valid6,if_pos rfl,vars6] at CV
 go_wp2_with fail
 refine CV.out.mono ?_
 rintro e w17 ⟨vl,rfl,r17,b17⟩
 have S17:=qh (S16.out.below b17)
 obtain ⟨av,nv,hvl⟩:=row_shape (show w17.ownsRow _ _ 1 vl _ _ from r17)
 subst hvl
 have R17:=qh r17
 clear b17 r17 CV y0 y1 y2 S16
 have HY17:=qh (HY.out.below S17.out.1 HY.out.lt)
 have HX17:=qh (HX15.out.below S17.out.1 HX15.out.lt)
 have N17:=qh (N15.out.later S17.out.1)
 obtain ⟨⟨y0,y1,y2⟩,_⟩:=HY17.out.cells
 go_wp2_with fail
 obtain ⟨_,hv0 | ⟨g,rfl,hvc⟩⟩:=rowS_cells R17.out
 ·cases hv0
 have v0:w17.cell? ⟨g,0,none⟩=some (.string ⟨#[88]⟩):=hvc 0 (by simp)
 obtain ⟨b1,o1,k1,s1,l1,a1',c1',rfl,e1,p0,p1,p2,r1⟩:=N17.out.kid 1 (by simp)
 cases e1
 obtain ⟨b2,o2,k2,s2,l2,a2',c2',rfl,e2,q0,q1,q2,r2⟩:=r1.kid 0 (by simp)
 cases e2
 obtain ⟨b3,o3,k3,s3,l3,a3',c3',rfl,e3,t0,t1,t2,r3⟩:=r2.kid 1 (by simp)
 cases e3
 obtain ⟨b4,o4,k4,s4,l4,a4',c4',rfl,e4,u0,u1,u2,r4⟩:=r3.kid 0 (by simp)
 cases e4
 have CS:Hid (∀ W,Below w17.heap.size w17 W→Calls Tryz.prog 17 #[.agg #[.int .i64 16,.string { data:=#[88] },.slice a4' 0 c4'],.agg #[.int .i64 16,.string { data:=#[88] },.slice none 0 0]] W fun e w'=>e = .returned (.bool true)∧Below W.heap.size W w') :=
  qh (fun W hb=>by
   have C:=sameN_any 1 varX varX W _ _ _ _ _ _ (by decide) (r4.later hb) (NdR.leaf W 16 { data:=#[88] } (by unfold maxLen;decide))
   rw [show sameN varX varX=true from by kernel_rfl] at C
   exact C)
 obtain ⟨⟨x0,x1,x2⟩,_⟩:=HX17.out.cells
 clear r1 r2 r3 r4 hvc p0 p1 q1 t0 t1
 simp only [Nat.zero_mul,Nat.add_zero,Nat.one_mul] at p2 q0 q2 t2 u0 u1 u2
 go_upto_region 18 with fail
 have S0:Hid (w17.cell? ⟨g,0,none⟩=some (.string ⟨#[88]⟩)∧w17.cell? ⟨Y,2,none⟩=some (.slice (some ⟨b1,o1,none⟩) 2 cn)∧w17.cell? ⟨b1,o1+3+2,none⟩=some (.slice (some ⟨b2,o2,none⟩) 1 c1')∧w17.cell? ⟨b2,o2,none⟩=some (.int .i64 27)∧w17.cell? ⟨b2,o2+2,none⟩=some (.slice (some ⟨b3,o3,none⟩) 2 c2')∧w17.cell? ⟨b3,o3+3+2,none⟩=some (.slice (some ⟨b4,o4,none⟩) 1 c3')∧w17.cell? ⟨b4,o4,none⟩=some (.int .i64 16)∧w17.cell? ⟨b4,o4+1,none⟩=some (.string { data:=#[88] })∧w17.cell? ⟨b4,o4+2,none⟩=some (.slice a4' 0 c4')∧w17.cell? ⟨X,0,none⟩=some (.int .i64 16)∧w17.cell? ⟨X,1,none⟩=some (.string { data:=#[88] })∧w17.cell? ⟨X,2,none⟩=some (.slice none 0 0)):=qh ⟨v0,y2,p2,q0,q2,t2,u0,u1,u2,x0,x1,x2⟩
 have SD:w17.drew.cell? ⟨g,0,none⟩=some (.string ⟨#[88]⟩)∧w17.drew.cell? ⟨Y,2,none⟩=some (.slice (some ⟨b1,o1,none⟩) 2 cn)∧w17.drew.cell? ⟨b1,o1+3+2,none⟩=some (.slice (some ⟨b2,o2,none⟩) 1 c1')∧w17.drew.cell? ⟨b2,o2,none⟩=some (.int .i64 27)∧w17.drew.cell? ⟨b2,o2+2,none⟩=some (.slice (some ⟨b3,o3,none⟩) 2 c2')∧w17.drew.cell? ⟨b3,o3+3+2,none⟩=some (.slice (some ⟨b4,o4,none⟩) 1 c3')∧w17.drew.cell? ⟨b4,o4,none⟩=some (.int .i64 16)∧w17.drew.cell? ⟨b4,o4+1,none⟩=some (.string { data:=#[88] })∧w17.drew.cell? ⟨b4,o4+2,none⟩=some (.slice a4' 0 c4')∧w17.drew.cell? ⟨X,0,none⟩=some (.int .i64 16)∧w17.drew.cell? ⟨X,1,none⟩=some (.string { data:=#[88] })∧w17.drew.cell? ⟨X,2,none⟩=some (.slice none 0 0):=S0.out
 have SB:Hid (∀ W,Below w17.heap.size w17 W→W.cell? ⟨g,0,none⟩=some (.string ⟨#[88]⟩)∧W.cell? ⟨Y,2,none⟩=some (.slice (some ⟨b1,o1,none⟩) 2 cn)∧W.cell? ⟨b1,o1+3+2,none⟩=some (.slice (some ⟨b2,o2,none⟩) 1 c1')∧W.cell? ⟨b2,o2,none⟩=some (.int .i64 27)∧W.cell? ⟨b2,o2+2,none⟩=some (.slice (some ⟨b3,o3,none⟩) 2 c2')∧W.cell? ⟨b3,o3+3+2,none⟩=some (.slice (some ⟨b4,o4,none⟩) 1 c3')∧W.cell? ⟨b4,o4,none⟩=some (.int .i64 16)∧W.cell? ⟨b4,o4+1,none⟩=some (.string { data:=#[88] })∧W.cell? ⟨b4,o4+2,none⟩=some (.slice a4' 0 c4')∧W.cell? ⟨X,0,none⟩=some (.int .i64 16)∧W.cell? ⟨X,1,none⟩=some (.string { data:=#[88] })∧W.cell? ⟨X,2,none⟩=some (.slice none 0 0)):=qh (fun W hb=>⟨(hb.cell (p:=⟨g,0,none⟩) (lt_of_cell v0)).trans v0,(hb.cell (p:=⟨Y,2,none⟩) (lt_of_cell y2)).trans y2,(hb.cell (p:=⟨b1,o1+3+2,none⟩) (lt_of_cell p2)).trans p2,(hb.cell (p:=⟨b2,o2,none⟩) (lt_of_cell q0)).trans q0,(hb.cell (p:=⟨b2,o2+2,none⟩) (lt_of_cell q2)).trans q2,(hb.cell (p:=⟨b3,o3+3+2,none⟩) (lt_of_cell t2)).trans t2,(hb.cell (p:=⟨b4,o4,none⟩) (lt_of_cell u0)).trans u0,(hb.cell (p:=⟨b4,o4+1,none⟩) (lt_of_cell u1)).trans u1,(hb.cell (p:=⟨b4,o4+2,none⟩) (lt_of_cell u2)).trans u2,(hb.cell (p:=⟨X,0,none⟩) (lt_of_cell x0)).trans x0,(hb.cell (p:=⟨X,1,none⟩) (lt_of_cell x1)).trans x1,(hb.cell (p:=⟨X,2,none⟩) (lt_of_cell x2)).trans x2⟩)
 have HLB:Hid (∀ e:Bool,True):=qh (fun _=>trivial)
 clear v0 y2 p2 q0 q2 t2 u0 u1 u2 x0 x1 x2 y0 y1
 go_region_held3 (fun w'=>w'.cell? ⟨g,0,none⟩=some (.string ⟨#[88]⟩)∧w'.cell? ⟨Y,2,none⟩=some (.slice (some ⟨b1,o1,none⟩) 2 cn)∧w'.cell? ⟨b1,o1+3+2,none⟩=some (.slice (some ⟨b2,o2,none⟩) 1 c1')∧w'.cell? ⟨b2,o2,none⟩=some (.int .i64 27)∧w'.cell? ⟨b2,o2+2,none⟩=some (.slice (some ⟨b3,o3,none⟩) 2 c2')∧w'.cell? ⟨b3,o3+3+2,none⟩=some (.slice (some ⟨b4,o4,none⟩) 1 c3')∧w'.cell? ⟨b4,o4,none⟩=some (.int .i64 16)∧w'.cell? ⟨b4,o4+1,none⟩=some (.string { data:=#[88] })∧w'.cell? ⟨b4,o4+2,none⟩=some (.slice a4' 0 c4')∧w'.cell? ⟨X,0,none⟩=some (.int .i64 16)∧w'.cell? ⟨X,1,none⟩=some (.string { data:=#[88] })∧w'.cell? ⟨X,2,none⟩=some (.slice none 0 0))
  (first | with_reducible exact SD | with_reducible exact SE)
  (first | (go_at_call 17;refine (CS.out _ ((Below.refl _ w17).drew)).mono ?_;rintro e w18 ⟨rfl,hb⟩;have B18:Hid (Below w17.heap.size w17 w18):=qh (((Below.refl _ w17).drew).trans hb);have SE:=SB.out _ B18.out;clear hb))
 all_goals go_wp2
 all_goals go_ret
 all_goals exact ⟨rfl,(T15.out.1.trans (S17.out.1.mono T15.out.1.size)).trans (B18.out.mono (Nat.le_trans T15.out.1.size S17.out.1.size))⟩
end Go.Proofs.YtgikhpmdpppenaaGreatDoor
namespace Go.Proofs.YtgikhpmdpppenaaGreatDoor
open Go.RowKit
set_option maxRecDepth 100000 in
set_option maxHeartbeats 2000000 in
theorem rSameN (n:Nat):∀ (t u:Nd) (w:World) (v0 v1 v2 u0 u1 u2:Value),t.sz≤n→NdR w t v0 v1 v2→NdR w u u0 u1 u2 →
  Calls Tryz.prog 18 #[.agg #[v0,v1,v2],.agg #[u0,u1,u2]] w fun e w'=>e = .returned (.bool (sameN t u))∧Below w.heap.size w w':=by
 induction n with
 | zero=>intro t u w v0 v1 v2 u0 u1 u2 h;cases t;simp only [Nd.sz] at h;omega
 | succ n ih =>
  intro t u w v0 v1 v2 u0 u1 u2 hsz ht hu
  obtain ⟨k,s,l,a,cap,rfl,rfl,rfl,rfl,hs,hl⟩:=ht.form
  obtain ⟨k',s',l',a',cap',rfl,rfl,rfl,rfl,hs',hl'⟩:=hu.form
  have IH:=qh ih
  clear ih
  unfold maxLen at hl hl'
  by_cases hk:k=k'
  ·subst hk
   have hk2:(k != k)=false:=by simp
   by_cases hse:s.toList=s'.toList
   ·have hs2:(s.toList != s'.toList)=false:=by rw [hse];simp
    have hs3:(!(s.toList==s'.toList))=false:=by rw [hse];simp
    by_cases hll:l.length=l'.length
    ·have hl2:((l.length:Int) != (l'.length:Int))=false:=by rw [hll];simp
     have HS:Hid (sameN (.mk k s l) (.mk k s' l')=sameL l l'):=qh (by simp only [sameN];rw [hse];simp)
     have HL:=qh hll
     have HT:=qh ht
     have HU:=qh hu
     have Hsz:Hid (∀ i,(h:i < l.length)→(l[i]).sz≤n):=qh fun i h=>by have:=Nd.kid_lt k s l i h;omega
     have hss:=qh hse
     clear hse hll ht hu hsz
     go_enter Tryz.func18,Tryz.ntmps18
     go_wp2
     obtain ⟨h,hh⟩:∃ h,w.heap.size=h:=⟨_,rfl⟩
     obtain ⟨wz,hwz⟩:∃ wz,(w.alloc (Obj.cells #[Value.int IntKind.i64 k,Value.string s,Value.slice a l.length cap] 24)).alloc (Obj.cells #[Value.int IntKind.i64 k,Value.string s',Value.slice a' l'.length cap'] 24)=wz:=⟨_,rfl⟩
     have hB:Hid (Below w.heap.size w wz):=qh (by rw [←hwz];exact ((Below.refl _ w).alloc (Nat.le_refl _) _).alloc (by simp) _)
     have hz:wz.heap.size=h+1+1:=by rw [←hwz];simp [hh]
     have g0:wz.cell? ⟨h,2,none⟩=some (.slice a l.length cap):=by
      rw [←hwz,←hh];exact (World.cell?_alloc_past _ _ _ (by simp)).trans ((World.cell?_alloc_at _ _ _ _ rfl).trans rfl)
     have g1:wz.cell? ⟨h+1,2,none⟩=some (.slice a' l'.length cap'):=by
      rw [←hwz,←hh];exact (World.cell?_alloc_at _ _ _ _ (by simp)).trans rfl
     have HG0:=qh g0
     have HG1:=qh g1
     have Hz:=qh hz
     have HTz:=qh (HT.out.later hB.out)
     have HUz:=qh (HU.out.later hB.out)
     rw [hwz,hh]
     clear hwz hh hz g0 g1 HT HU
     go_loopw [5] (fun v5 wr=>∃ i:Nat,i≤l.length∧v5 = .int .i64 i∧Hid (sameL l l'=sameL (l.drop i) (l'.drop i))∧Hid (Below wz.heap.size wz wr)) (fun v5 _=>l.length - (intOf v5).toNat)
     case atStart=>exact ⟨0,Nat.zero_le _,rfl,rfl,Below.refl _ _⟩
     case round =>
      obtain ⟨i,hi,rfl,hrun,hbl⟩:=hrel
      have g0:=(hbl.out.cell (p:=⟨h,2,none⟩) (by have:=Hz.out;simp only;omega)).trans HG0.out
      have g1:=(hbl.out.cell (p:=⟨h+1,2,none⟩) (by have:=Hz.out;simp only;omega)).trans HG1.out
      by_cases hlt:i < l.length
      ·have hlt':(i:Int) < (l.length:Int):=by omega
       have hi2:i < l'.length:=by have:=HL.out;omega
       have hlt2:(i:Int) < (l'.length:Int):=by omega
       have hi0:(0:Int)≤(i:Int):=by omega
       obtain ⟨b,o,k1,s1,l1,a1,c1,rfl,e1,x0,x1,x2,r1⟩:=(HTz.out.later hbl.out).kid i hlt
       obtain ⟨b',o',k2,s2,l2,a2,c2,rfl,e2,y0,y1,y2,r2⟩:=(HUz.out.later hbl.out).kid i hi2
       have Hst:=qh (sameL_step hlt hi2)
       have hsz1:=Hsz.out i hlt
       rw [e1] at hsz1
       rw [e1,e2] at Hst
       obtain ⟨V,hV⟩:∃ V,sameN (.mk k1 s1 l1) (.mk k2 s2 l2)=V:=⟨_,rfl⟩
       have C:=qh (fun w (h1:NdR w (.mk k1 s1 l1) _ _ _) (h2:NdR w (.mk k2 s2 l2) _ _ _)=>IH.out _ _ w (.int .i64 k1) (.string s1) (.slice a1 l1.length c1) (.int .i64 k2) (.string s2) (.slice a2 l2.length c2) hsz1 h1 h2)
       rw [hV] at C Hst
       have R1:=qh r1
       have R2:=qh r2
       have L0:=lt_of_cell g0
       have L1:=lt_of_cell g1
       have L2:=lt_of_cell x0
       have L3:=lt_of_cell y0
       clear e1 e2 hV r1 r2
       go_upto_region 6 with fail
       go_cut [45] (fun v wx=>v = .bool (!V)∧Hid (Below wz.heap.size wz wx))
       case first =>
        go_region_held3 (fun w'=>w'.cell? ⟨h,2,none⟩=some (.slice (some ⟨b,o,none⟩) l.length cap)∧w'.cell? ⟨h+1,2,none⟩=some (.slice (some ⟨b',o',none⟩) l'.length cap')∧w'.cell? ⟨b,o+i*3,none⟩=some (.int .i64 k1)∧w'.cell? ⟨b,o+i*3+1,none⟩=some (.string s1)∧w'.cell? ⟨b,o+i*3+2,none⟩=some (.slice a1 l1.length c1)∧w'.cell? ⟨b',o'+i*3,none⟩=some (.int .i64 k2)∧w'.cell? ⟨b',o'+i*3+1,none⟩=some (.string s2)∧w'.cell? ⟨b',o'+i*3+2,none⟩=some (.slice a2 l2.length c2))
         (first | exact ⟨g0,g1,x0,x1,x2,y0,y1,y2⟩ | exact ⟨(hb5.cell (p:=⟨h,2,none⟩) L0).trans g0,(hb5.cell (p:=⟨h+1,2,none⟩) L1).trans g1,(hb5.cell (p:=⟨b,o+i*3,none⟩) L2).trans x0,(hb5.cell (p:=⟨b,o+i*3+1,none⟩) L2).trans x1,(hb5.cell (p:=⟨b,o+i*3+2,none⟩) L2).trans x2,(hb5.cell (p:=⟨b',o'+i*3,none⟩) L3).trans y0,(hb5.cell (p:=⟨b',o'+i*3+1,none⟩) L3).trans y1,(hb5.cell (p:=⟨b',o'+i*3+2,none⟩) L3).trans y2⟩)
         ((go_at_call 18;refine (C.out _ (R1.out.later (Below.refl _ _).drew) (R2.out.later (Below.refl _ _).drew)).mono ?_;rintro e w5 ⟨rfl,hb5⟩))
        all_goals go_wp2
        all_goals go_meet
        all_goals exact ⟨rfl,qh (hbl.out.drew.trans (hb5.mono hbl.out.size))⟩
       case rest =>
        obtain ⟨rfl,hbx⟩:=hcut
        clear C R1 R2 g0 g1 x0 x1 x2 y0 y1 y2
        cases V with
        | false =>
         go_wp2
         go_ret
         exact ⟨by rw [HS.out,hrun.out,Hst.out];rfl,hB.out.trans (hbx.out.mono hB.out.size)⟩
        | true =>
         go_wp2
         go_roundw
         case rel=>exact ⟨i+1,hlt,by push_cast;rfl,qh (by rw [hrun.out,Hst.out];rfl),hbx⟩
         case measure=>simp [intOf];omega
      ·have hlt':¬ ((i:Int) < (l.length:Int)):=by omega
       go_wp2
       go_ret
       exact ⟨by rw [HS.out,hrun.out,sameL_end (by omega) (by have:=HL.out;omega)];rfl,hB.out.trans (hbl.out.mono hB.out.size)⟩
    ·have hl2:((l.length:Int) != (l'.length:Int))=true:=by rw [bne_iff_ne];omega
     have HS:Hid (sameN (.mk k s l) (.mk k s' l')=false):=qh (by simp only [sameN];rw [sameL_len l l' hll,Bool.and_false])
     have hss:=qh hse
     clear hse hll ht hu
     go_enter Tryz.func18,Tryz.ntmps18
     go_wp2
     go_ret
     exact ⟨by rw [HS.out];rfl,((Below.refl _ w).alloc (Nat.le_refl _) _).alloc (by simp) _⟩
   ·have hs2:(s.toList==s'.toList)=false:=by rw [beq_eq_false_iff_ne];exact hse
    have HS:Hid (sameN (.mk k s l) (.mk k s' l')=false):=qh (by simp only [sameN];rw [hs2,Bool.and_false];rfl)
    have hs3:(s=s')=False:=eq_false (by rintro rfl;exact hse rfl)
    clear hse ht hu
    go_enter Tryz.func18,Tryz.ntmps18
    go_wp2
    go_ret
    exact ⟨by rw [HS.out];rfl,((Below.refl _ w).alloc (Nat.le_refl _) _).alloc (by simp) _⟩
  ·have hk2:(k != k')=true:=by rw [bne_iff_ne];exact hk
   have HS:Hid (sameN (.mk k s l) (.mk k' s' l')=false):=qh (by simp only [sameN];rw [show (k==k')=false from by rw [beq_eq_false_iff_ne];exact hk];rfl)
   clear hk ht hu
   go_enter Tryz.func18,Tryz.ntmps18
   go_wp2
   go_ret
   exact ⟨by rw [HS.out];rfl,((Below.refl _ w).alloc (Nat.le_refl _) _).alloc (by simp) _⟩
end Go.Proofs.YtgikhpmdpppenaaGreatDoor
namespace Go.Proofs.YtgikhpmdpppenaaGreatDoor
open Go.RowKit
mutual
theorem sameN_self:∀ t:Nd,sameN t t=true
 | .mk k s l=>by simp only [sameN,sameL_self l,beq_self_eq_true,Bool.and_self]
theorem sameL_self:∀ l:List Nd,sameL l l=true
 | []=>by simp only [sameL]
 | a :: l=>by simp only [sameL,sameN_self a,sameL_self l,Bool.and_self]
end
end Go.Proofs.YtgikhpmdpppenaaGreatDoor
namespace Go.Proofs.YtgikhpmdpppenaaGreatDoor
theorem atS_ex (c:Int) (r:Option Nd):∃ er tr,AtS c r er tr:=by
 by_cases h:c=0
 ·cases r with
  | none=>exact ⟨3,zeroN,.inr (.inl ⟨h,rfl,rfl,rfl⟩)⟩
  | some t=>exact ⟨0,t,.inr (.inr ⟨h,rfl,rfl⟩)⟩
 ·exact ⟨c,zeroN,.inl ⟨h,rfl,rfl⟩⟩
theorem putS_ex (cn cx:Int) (r:Option Nd) (cp:Int) (pt:Nd):∃ er tr,PutS cn cx r cp pt er tr:=by
 by_cases h:cn=0
 ·by_cases h2:cx=0
  ·cases r with
   | none=>exact ⟨3,zeroN,.inr (.inr (.inl ⟨h,h2,rfl,rfl,rfl⟩))⟩
   | some t =>
    by_cases h3:cp=0
    ·exact ⟨0,pt,.inr (.inr (.inr ⟨h,h2,by simp,h3,.inr ⟨rfl,rfl⟩⟩))⟩
    ·exact ⟨cp,zeroN,.inr (.inr (.inr ⟨h,h2,by simp,rfl,.inl ⟨h3,rfl⟩⟩))⟩
  ·exact ⟨cx,zeroN,.inr (.inl ⟨h,h2,rfl,rfl⟩)⟩
 ·exact ⟨cn,zeroN,.inl ⟨h,rfl,rfl⟩⟩
end Go.Proofs.YtgikhpmdpppenaaGreatDoor
namespace Go.Proofs.YtgikhpmdpppenaaGreatDoor
open Go.RowKit Go.Shelf
attribute [local go_sem] Oper.semAt_some
set_option maxRecDepth 100000 in
set_option maxHeartbeats 2000000 in
theorem places_any (t x:Nd) (p:List Int) (w:World) (v0 v1 v2 vp x0 x1 x2:Value) (ht:NdR w t v0 v1 v2) (hp:PathR w vp p) (hx:NdR w x x0 x1 x2) (hw:2≤w.heap.size) (gl:GLw w) :
  Calls Tryz.prog 5 #[.agg #[v0,v1,v2],vp,.agg #[x0,x1,x2]] w fun e w'=>e = .returned (.bool true)∧Below w.heap.size w w':=by
 obtain ⟨k,s,l,a,cap,rfl,rfl,rfl,rfl,hs,hl⟩:=ht.form
 obtain ⟨kx,sx,lx,ax,cx,rfl,rfl,rfl,rfl,hsx,hlx⟩:=hx.form
 obtain ⟨er,tr,hA⟩:=atS_ex (chkN (.mk k s l)) (goN (.mk k s l) p)
 obtain ⟨er2,tr2,hA2⟩:=putS_ex (chkN (.mk k s l)) (chkN (.mk kx sx lx)) (goN (.mk k s l) p) (chkN (putN (.mk k s l) p (.mk kx sx lx))) (putN (.mk k s l) p (.mk kx sx lx))
 have hvp:∃ b1 c1,vp = .slice b1 p.length c1:=by obtain ⟨_,_,_,c1,b1,e,_⟩:=hp;exact ⟨b1,c1,e⟩
 obtain ⟨b1,c1,rfl⟩:=hvp
 obtain ⟨W0,hW0⟩:∃ W0,(w.alloc (.cells #[.int .i64 k,.string s,.slice a l.length cap] 24)).alloc (.cells #[.int .i64 kx,.string sx,.slice ax lx.length cx] 24)=W0:=⟨_,rfl⟩
 obtain ⟨h,hh⟩:∃ h,w.heap.size=h:=⟨_,rfl⟩
 have b0:Below h w W0:=by rw [←hW0,←hh];exact ((Below.refl _ w).alloc (Nat.le_refl _) _).alloc (by simp) _
 have z0:W0.heap.size=h+1+1:=by rw [←hW0];simp [hh]
 have r0:Row3 W0 h (.int .i64 k) (.string s) (.slice a l.length cap):=by rw [←hW0,←hh];exact (Below.heap_alloc _ _ _ (by simp only [World.size_alloc];omega)).trans (World.alloc_heap_new _ _)
 have q0:Row3 W0 (h+1) (.int .i64 kx) (.string sx) (.slice ax lx.length cx):=by rw [←hW0,←hh];exact alloc_at (by simp)
 have CS:=qh (saneS_any W0 (by omega) (gl.keep fun b hb hl=>b0.block b (by omega)))
 have CA:=qh (fun W (hb:Below h w W)=>at_any _ _ _ _ _ p W (ht.later (by rw [hh];exact hb)) (hp.later (by rw [hh];exact hb)) er tr hA)
 have CB:=qh (fun W (hb:Below h w W)=>rAt_any _ _ _ _ _ p W (ht.later (by rw [hh];exact hb)) (hp.later (by rw [hh];exact hb)) er tr hA)
 have CC:=qh (fun W (hb:Below h w W)=>putTree_any _ _ _ _ _ _ _ _ _ p W (ht.later (by rw [hh];exact hb)) (hp.later (by rw [hh];exact hb)) (hx.later (by rw [hh];exact hb)) er2 tr2 hA2)
 have CD:=qh (fun W (hb:Below h w W)=>rPutTree_any _ _ _ _ _ _ _ _ _ p W (ht.later (by rw [hh];exact hb)) (hp.later (by rw [hh];exact hb)) (hx.later (by rw [hh];exact hb)) er2 tr2 hA2)
 have HB0:=qh b0
 have HR0:=qh r0
 have HQ0:=qh q0
 have HH:=qh hh
 have HZ0:=qh z0
 clear ht hp hx gl hw b0 r0 q0 hA hA2 hs hl hsx hlx
 rw [hh]
 go_enter Tryz.func5,Tryz.ntmps5
 go_upto_region 1 with fail
 (try rw [hW0])
 (try rw [hh])
 clear hW0
 go_wp2_with fail
 refine CS.out.mono ?_
 rintro e w1 ⟨rfl,hb1⟩
 have zz:=HZ0.out
 have HB1:=qh (HB0.out.trans (hb1.mono (show h≤W0.heap.size by omega)))
 have hz1:h+1+1≤w1.heap.size:=by have:=hb1.size;omega
 have HR1:=qh (HR0.out.below hb1 HR0.out.lt)
 have HQ1:=qh (HQ0.out.below hb1 HQ0.out.lt)
 clear hb1 CS HR0 HQ0
 obtain ⟨⟨n0,n1,n2⟩,_⟩:=HR1.out.cells
 go_wp2_with fail
 refine (CA.out _ HB1.out).mono ?_
 rintro e w2 ⟨u0,u1,u2,rfl,t2,b2⟩
 obtain ⟨k1,s1,l1,a1,c1',rfl,rfl,rfl,rfl,hs1,hl1⟩:=t2.form
 obtain ⟨W2,hW2⟩:∃ W2,w2.alloc (.cells #[.int .i64 k1,.string s1,.slice a1 l1.length c1'] 24)=W2:=⟨_,rfl⟩
 have b2':Below w2.heap.size w2 W2:=by rw [←hW2];exact (Below.refl _ _).alloc (Nat.le_refl _) _
 have b12:=b2.trans (b2'.mono b2.size)
 have HB2:=qh (HB1.out.trans (b12.mono (show h≤w1.heap.size by omega)))
 obtain ⟨Y1,hY1⟩:∃ Y1,w2.heap.size=Y1:=⟨_,rfl⟩
 have HA2:=qh (show Row3 W2 Y1 (.int .i64 k1) (.string s1) (.slice a1 l1.length c1') by rw [←hW2];exact alloc_at hY1.symm)
 have HT2:=qh (t2.later b2')
 have HR2:=qh (HR1.out.below b12 HR1.out.lt)
 have HQ2:=qh (HQ1.out.below b12 HQ1.out.lt)
 have hz2:h+1+1≤W2.heap.size:=by have:=b12.size;omega
 clear n0 n1 n2 HR1 HQ1 t2 b2 b2' b12 CA
 obtain ⟨⟨n0,n1,n2⟩,_⟩:=HR2.out.cells
 go_wp2_with fail
 refine (CB.out _ HB2.out).mono ?_
 rintro e w3 ⟨u0,u1,u2,rfl,t3,b3⟩
 obtain ⟨_,_,_,a3,c3,e3,rfl,rfl,rfl,_,_⟩:=t3.form
 cases e3
 obtain ⟨W3,hW3⟩:∃ W3,w3.alloc (.cells #[.int .i64 k1,.string s1,.slice a3 l1.length c3,.int .i64 er] 40)=W3:=⟨_,rfl⟩
 have b3':Below w3.heap.size w3 W3:=by rw [←hW3];exact (Below.refl _ _).alloc (Nat.le_refl _) _
 have b23:=b3.trans (b3'.mono b3.size)
 have HB3:=qh (HB2.out.trans (b23.mono (show h≤W2.heap.size by omega)))
 obtain ⟨Y2,hY2⟩:∃ Y2,w3.heap.size=Y2:=⟨_,rfl⟩
 have HA3:=qh (show Row4 W3 Y2 (.int .i64 k1) (.string s1) (.slice a3 l1.length c3) (.int .i64 er) by rw [←hW3];exact alloc_at hY2.symm)
 have HT3:=qh (t3.later b3')
 have HR3:=qh (HR2.out.below b23 HR2.out.lt)
 have HQ3:=qh (HQ2.out.below b23 HQ2.out.lt)
 have HA2':=qh (HA2.out.below b23 HA2.out.lt)
 have HT2':=qh (HT2.out.later b23)
 have hz3:h+1+1≤W3.heap.size:=by have:=b23.size;omega
 clear n0 n1 n2 HR2 HQ2 t3 b3 b3' b23 CB hW2 HA2 HT2
 obtain ⟨⟨n0,n1,n2⟩,_⟩:=HR3.out.cells
 obtain ⟨⟨m0,m1,m2⟩,_⟩:=HQ3.out.cells
 go_wp2_with fail
 refine (CC.out _ HB3.out).mono ?_
 rintro e w4 ⟨u0,u1,u2,rfl,t4,b4⟩
 obtain ⟨k4,s4,l4,a4,c4,rfl,rfl,rfl,rfl,hs4,hl4⟩:=t4.form
 obtain ⟨W4,hW4⟩:∃ W4,w4.alloc (.cells #[.int .i64 k4,.string s4,.slice a4 l4.length c4] 24)=W4:=⟨_,rfl⟩
 have b4':Below w4.heap.size w4 W4:=by rw [←hW4];exact (Below.refl _ _).alloc (Nat.le_refl _) _
 have b34:=b4.trans (b4'.mono b4.size)
 have HB4:=qh (HB3.out.trans (b34.mono (show h≤W3.heap.size by omega)))
 obtain ⟨Y3,hY3⟩:∃ Y3,w4.heap.size=Y3:=⟨_,rfl⟩
 have HA4:=qh (show Row3 W4 Y3 (.int .i64 k4) (.string s4) (.slice a4 l4.length c4) by rw [←hW4];exact alloc_at hY3.symm)
 have HT4:=qh (t4.later b4')
 have HR4:=qh (HR3.out.below b34 HR3.out.lt)
 have HQ4:=qh (HQ3.out.below b34 HQ3.out.lt)
 have HA2'':=qh (HA2'.out.below b34 HA2'.out.lt)
 have HT2'':=qh (HT2'.out.later b34)
 have HA3':=qh (HA3.out.below b34 HA3.out.lt)
 have HT3':=qh (HT3.out.later b34)
 have hz4:h+1+1≤W4.heap.size:=by have:=b34.size;omega
 clear n0 n1 n2 m0 m1 m2 HR3 HQ3 t4 b4 b4' b34 CC hW3 HA2' HT2' HA3 HT3
 obtain ⟨⟨n0,n1,n2⟩,_⟩:=HR4.out.cells
 obtain ⟨⟨m0,m1,m2⟩,_⟩:=HQ4.out.cells
 go_wp2_with fail
 refine (CD.out _ HB4.out).mono ?_
 rintro e w5 ⟨u0,u1,u2,rfl,t5,b5⟩
 obtain ⟨_,_,_,a5,c5,e5,rfl,rfl,rfl,_,_⟩:=t5.form
 cases e5
 obtain ⟨W5,hW5⟩:∃ W5,w5.alloc (.cells #[.int .i64 k4,.string s4,.slice a5 l4.length c5,.int .i64 er2] 40)=W5:=⟨_,rfl⟩
 have b5':Below w5.heap.size w5 W5:=by rw [←hW5];exact (Below.refl _ _).alloc (Nat.le_refl _) _
 have b45:=b5.trans (b5'.mono b5.size)
 have HB5:=qh (HB4.out.trans (b45.mono (show h≤W4.heap.size by omega)))
 obtain ⟨Y4,hY4⟩:∃ Y4,w5.heap.size=Y4:=⟨_,rfl⟩
 have HA5:=qh (show Row4 W5 Y4 (.int .i64 k4) (.string s4) (.slice a5 l4.length c5) (.int .i64 er2) by rw [←hW5];exact alloc_at hY4.symm)
 have hz5:h+1+1≤W5.heap.size:=by have:=b45.size;omega
 have G2:=HA2''.out.below b45 HA2''.out.lt
 have G3:=HA3'.out.below b45 HA3'.out.lt
 have G4:=HA4.out.below b45 HA4.out.lt
 have T2:=HT2''.out.later b45
 have T3:=HT3'.out.later b45
 have HT4':=qh (HT4.out.later b45)
 have HT5:=qh (t5.later b5')
 have S1:=qh (rSameN _ (.mk k1 s1 l1) (.mk k1 s1 l1) W5 _ _ _ _ _ _ (Nat.le_refl _) T2 T3)
 rw [sameN_self] at S1
 have HG4:=qh G4
 clear n0 n1 n2 m0 m1 m2 HR4 HQ4 t5 b5 b5' b45 CD hW4 HA2'' HT2'' HA3' HT3' HA4 HT4 T2 T3
 obtain ⟨⟨n0,n1,n2⟩,_⟩:=G2.cells
 obtain ⟨⟨m0,m1,m2,m3⟩,_⟩:=G3.cells
 clear G2 G3 G4
 go_wp2_with fail
 refine S1.out.mono ?_
 rintro e w6 ⟨rfl,b6⟩
 have HB6:=qh (HB5.out.trans (b6.mono (show h≤W5.heap.size by omega)))
 have hz6:h+1+1≤w6.heap.size:=by have:=b6.size;omega
 have G4:=HG4.out.below b6 HG4.out.lt
 have G5:=HA5.out.below b6 HA5.out.lt
 have S2:=qh (rSameN _ (.mk k4 s4 l4) (.mk k4 s4 l4) w6 _ _ _ _ _ _ (Nat.le_refl _) (HT4'.out.later b6) (HT5.out.later b6))
 rw [sameN_self] at S2
 clear b6 S1 n0 n1 n2 m0 m1 m2 m3 HA5 HG4 HT4' HT5
 obtain ⟨⟨n0,n1,n2⟩,_⟩:=G4.cells
 obtain ⟨⟨m0,m1,m2,m3⟩,_⟩:=G5.cells
 clear G4 G5
 go_wp2_with fail
 refine S2.out.mono ?_
 rintro e w7 ⟨rfl,b7⟩
 have HB7:=qh (HB6.out.trans (b7.mono (show h≤w6.heap.size by omega)))
 clear b7 S2
 go_wp2
 go_ret
 exact ⟨rfl,HB7.out⟩
end Go.Proofs.YtgikhpmdpppenaaGreatDoor
namespace Go.Proofs.YtgikhpmdpppenaaGreatDoor
open Go.ChangeShapes Go.WideShapes Go.ChangeAt Go.RowKit Go.ChangeMaps
section
variable {H:Type} {enc:TypeId×Value→H} {P:Program} {w w':World} {base:Nat} {sp:Nat→Bool} {held:Bool}
theorem trod_carry1 {t:TypeId} {v:Value} {d:DataW H} {ps:List MemPlace} (h:DataW.Trod enc P w base sp held t v d ps) (hs:∀ p∈ps,w.sameAt w' p):DataW.Trod enc P w' base sp held t v d ps:=by
 obtain ⟨n,hn⟩:=h
 exact ⟨n,DataW.trod_carry n _ _ _ hn hs⟩
theorem trodAll_carry:∀ {ts:List TypeId} {vs:List Value} {ds:List (DataW H)} {ps:List MemPlace},DataW.TrodAll enc P w base sp held ts vs ds ps→(∀ p∈ps,w.sameAt w' p)→DataW.TrodAll enc P w' base sp held ts vs ds ps
 | [],[],[],_,h,_=>h
 | _ :: _,_ :: _,_ :: _,_,⟨p,q,h1,h2,e⟩,hs=>⟨p,q,trod_carry1 h1 (fun x hx=>hs x (by rw [e];exact List.mem_append_left _ hx)),trodAll_carry h2 (fun x hx=>hs x (by rw [e];exact List.mem_append_right _ hx)),e⟩
theorem below_same {n:Nat} (hb:Below n w w') (p:MemPlace) (h:p.block < n):w.sameAt w' p:=by
 cases p with
 | cell b off=>exact hb.cell (p:=⟨b,off,none⟩) h
 | map b=>exact hb.block b h
theorem args_stay (hl:laidOutB P=true) (hm:mapsRowed P=true) (hz:((List.range P.types.size).all fun t=>match P.underlying t with | some (.slice e)=>decide (0 < P.cellsOf e) | _=>true)=true)
  {ts:List TypeId} {vs:List Value} {ds:List (DataW H)} {ps:List MemPlace} (ht:(ts.all fun t=>decide (t < P.types.size))=true) (hA:DataW.TrodAll enc P w 0 (fun _=>true) true ts vs ds ps) (hlt:∀ p∈ps,p.block < w.heap.size)
  (hb:Below w.heap.size w w') {sp:Nat→Bool} (hs:∀ p∈ps,sp p.block=true):DataW.TrodAll enc P w' 0 sp true ts vs ds ps:=by
 refine DataW.TrodAll.respare (T:=(· < P.types.size)) (kids_rows hl hm) (fun t e h1 h2=>slices_full_of P hz t e h1 h2) (fun t h=>?_) (trodAll_carry hA fun p hp=>below_same hb p (hlt p hp)) hs
 simpa using List.all_eq_true.1 ht t h
end
theorem laidAll:laidOutB Tryz.prog=true:=by kernel_rfl
theorem mapsAll:mapsRowed Tryz.prog=true:=by kernel_rfl
theorem fullAll:((List.range Tryz.prog.types.size).all fun t=>match Tryz.prog.underlying t with | some (.slice e)=>decide (0 < Tryz.prog.cellsOf e) | _=>true)=true:=by kernel_rfl
end Go.Proofs.YtgikhpmdpppenaaGreatDoor
namespace Go.Proofs.YtgikhpmdpppenaaGreatDoor
open Go.ChangeShapes Go.WideShapes Go.Deep Go.ChangeMaps Go.RowKit
section
variable {H:Type} {enc:TypeId×Value→H} {w:World} {base:Nat} {sp:Nat→Bool} {hd:Bool}
theorem sy_list_of {α:Type} {Q:Nat→α→Prop}:∀ n:Nat,(∀ i,i < n→∃ a,Q i a)→∃ l:List α,l.length=n∧∀ i,(h:i < l.length)→Q i l[i]
 | 0,_=>⟨[],rfl,fun i h=>absurd h (Nat.not_lt_zero _)⟩
 | n+1,h=>by
  obtain ⟨l,hl,hq⟩:=sy_list_of n fun i hi=>h i (by omega)
  obtain ⟨a,ha⟩:=h n (by omega)
  refine ⟨l++[a],by rw [List.length_append,hl];rfl,fun i hi=>?_⟩
  rw [List.getElem_append]
  split
  ·exact hq i _
  ·have:i=n:=by rw [List.length_append,List.length_singleton] at hi;omega
   subst this
   simpa using ha
theorem sy_addr_add (b o j:Nat):(⟨b,o,none⟩:Addr).add j=⟨b,o+j,none⟩:=by unfold Addr.add;split <;> simp_all
theorem NdS_leaf' (w:World) (k:Int) (s:ByteArray) (hs:s.size≤maxLen) (a:Option Addr) (cap:Nat):NdR w (.mk k s []) (.int .i64 k) (.string s) (.slice a 0 cap) :=
 .mk k s [] a cap 0 0 (fun _=>undef) (fun _=>undef) (fun _=>undef) hs (Nat.zero_le _) (Nat.zero_le _) (fun e=>absurd rfl e) (fun i hi=>absurd hi (Nat.not_lt_zero i)) (fun i hi=>absurd hi (Nat.not_lt_zero i)) (fun i hi=>absurd hi (Nat.not_lt_zero i)) (fun i hi=>absurd hi (Nat.not_lt_zero i))
theorem NdR.of_list {w:World} (k:Int) (s:ByteArray) (hs:s.size≤maxLen) (a:Addr) (len cap:Nat) (hl:len≤cap) (hm:cap≤maxLen)
  (h:∀ i,i < len→∃ (t:Nd) (v0 v1 v2:Value),(w.cell? (a.add (i*3))=some v0∧w.cell? (a.add (i*3+1))=some v1∧w.cell? (a.add (i*3+2))=some v2)∧NdR w t v0 v1 v2) :
  ∃ t,NdR w t (.int .i64 k) (.string s) (.slice (some a) len cap):=by
 obtain ⟨l,hll,hq⟩:=sy_list_of (Q:=fun i (q:Nd×Value×Value×Value)=>(w.cell? (a.add (i*3))=some q.2.1∧w.cell? (a.add (i*3+1))=some q.2.2.1∧w.cell? (a.add (i*3+2))=some q.2.2.2)∧NdR w q.1 q.2.1 q.2.2.1 q.2.2.2) len
  (fun i hi=>by obtain ⟨t,v0,v1,v2,h1,h2⟩:=h i hi;exact ⟨(t,v0,v1,v2),h1,h2⟩)
 have hlm:(l.map (·.1)).length=len:=by simp [hll]
 obtain ⟨b,o,g⟩:=a
 refine ⟨.mk k s (l.map (·.1)),?_⟩
 rw [←hlm]
 by_cases hne:l=[]
 ·subst hne
  simp only [List.map_nil,List.length_nil]
  exact (NdS_leaf' w k s hs (some ⟨b,o,g⟩) cap)
 ·have h0:0 < l.length:=List.length_pos_iff.2 hne
  have hg:g=none:=by
   have:=World.cell?_spot (hq 0 h0).1.1
   simpa [Addr.add] using this
  subst hg
  have fi:∀ i,(hi:i < (l.map (·.1)).length)→∃ q,l[i]?=some q∧(l.map (·.1))[i]=q.1∧(w.cell? ⟨b,o+i*3,none⟩=some q.2.1∧w.cell? ⟨b,o+i*3+1,none⟩=some q.2.2.1∧w.cell? ⟨b,o+i*3+2,none⟩=some q.2.2.2)∧NdR w q.1 q.2.1 q.2.2.1 q.2.2.2:=fun i hi=>by
   have hi':i < l.length:=by simpa using hi
   obtain ⟨⟨q0,q1,q2⟩,hr⟩:=hq i hi'
   rw [sy_addr_add] at q0 q1 q2
   refine ⟨l[i],List.getElem?_eq_getElem hi',by simp,⟨q0,?_,?_⟩,hr⟩
   ·rw [Nat.add_assoc];exact q1
   ·rw [Nat.add_assoc];exact q2
  refine .mk k s (l.map (·.1)) (some ⟨b,o,none⟩) cap b o (fun i=>((l[i]?).map (·.2.1)).getD undef) (fun i=>((l[i]?).map (·.2.2.1)).getD undef) (fun i=>((l[i]?).map (·.2.2.2)).getD undef) hs (by omega) (by omega) (fun _=>rfl) ?_ ?_ ?_ ?_
  all_goals intro i hi
  all_goals obtain ⟨q,e,e1,⟨c0,c1,c2⟩,hr⟩:=fi i hi
  ·simp only [e,Option.map_some,Option.getD_some];exact c0
  ·simp only [e,Option.map_some,Option.getD_some];exact c1
  ·simp only [e,Option.map_some,Option.getD_some];exact c2
  ·simp only [e,Option.map_some,Option.getD_some];rw [e1];exact hr
set_option maxRecDepth 100000 in
theorem open_node:∀ (fuel:Nat) (cs:List Value) (x:DataW H×List MemPlace),DataW.trod enc Tryz.prog w base sp hd fuel 24 cs=some x→∃ t v0 v1 v2,cs=[v0,v1,v2]∧NdR w t v0 v1 v2:=by
 intro fuel
 induction fuel using Nat.strongRecOn with
 | ind fuel ih =>
  intro cs x h
  obtain ⟨xs,n,rfl,rfl,hl,hxs,hf⟩:=DataW.trod_struct Tryz.underlying24 h
  have c:Tryz.prog.cellsOf 24=3:=by kernel_rfl
  have c9:Tryz.prog.cellsOf 9=1:=by kernel_rfl
  have c3:Tryz.prog.cellsOf 3=1:=by kernel_rfl
  have c22:Tryz.prog.cellsOf 22=1:=by kernel_rfl
  rw [c] at hl
  have f0:DataW.trod enc Tryz.prog w base sp hd n 3 ((cs.drop 0).take (Tryz.prog.cellsOf 3))=xs[0]?:=hf 0 _ rfl
  have f1:DataW.trod enc Tryz.prog w base sp hd n 9 ((cs.drop 1).take (Tryz.prog.cellsOf 9))=xs[1]?:=hf 1 _ rfl
  have f2:DataW.trod enc Tryz.prog w base sp hd n 22 ((cs.drop 2).take (Tryz.prog.cellsOf 22))=xs[2]?:=hf 2 _ rfl
  rw [c3] at f0
  rw [c9] at f1
  rw [c22] at f2
  match xs,hxs,f0,f1,f2 with
  | [x0,x1,x2],_,f0,f1,f2 =>
   obtain ⟨k,e0,_,_⟩:=DataW.trod_int Tryz.underlying3 f0
   obtain ⟨s,e1,_,hs⟩:=DataW.trod_string Tryz.underlying9 f1
   rcases DataW.trod_slice Tryz.underlying22 f2 with ⟨e2,_⟩ | ⟨a,len,cap,elems,rest,m,hfu,e2,_,hb,hlc,hm,hlen,hel,_,_⟩
   ·match cs,hl,e0,e1,e2 with
    | [u0,u1,u2],_,e0,e1,e2 =>
     simp at e0 e1 e2
     subst e0 e1 e2
     exact ⟨.mk k s [],_,_,_,rfl,NdS_leaf' w k s hs none 0⟩
   ·match cs,hl,e0,e1,e2 with
    | [u0,u1,u2],_,e0,e1,e2 =>
     simp at e0 e1 e2
     subst e0 e1 e2
     obtain ⟨t,ht⟩:=NdR.of_list k s hs a len cap hlc hm (fun i hi=>by
      have hE:=hel i hi
      rw [c] at hE
      have hxi:elems[i]?=some (elems[i]'(by omega)):=List.getElem?_eq_getElem (by omega)
      rw [hxi] at hE
      simp only [Option.bind_eq_some_iff] at hE
      obtain ⟨c1,hc1,hy1⟩:=hE
      obtain ⟨t,w0,w1,w2,rfl,hr⟩:=ih m (by omega) _ _ hy1
      obtain ⟨_,_,hat⟩:=World.cells?_some hc1
      refine ⟨t,w0,w1,w2,⟨?_,?_,?_⟩,hr⟩
      ·have:=hat 0 (by omega);rw [Go.Deep.add_add] at this;simpa using this
      ·have:=hat 1 (by omega);rw [Go.Deep.add_add] at this;simpa using this
      ·have:=hat 2 (by omega);rw [Go.Deep.add_add] at this;simpa using this)
     exact ⟨t,_,_,_,rfl,ht⟩
set_option maxRecDepth 100000 in
theorem open_tree {v:Value} {d:DataW H} {p:List MemPlace} {r:Reach} {b0:Nat} (hv:Value.okWide Tryz.prog w r b0 24 v) (h:DataW.Trod enc Tryz.prog w base sp hd 24 v d p):∃ t v0 v1 v2,v = .agg #[v0,v1,v2]∧NdR w t v0 v1 v2:=by
 obtain ⟨cs,rfl,_⟩:=okWide_struct Tryz.underlying24 hv
 obtain ⟨fuel,hf⟩:=h
 obtain ⟨t,v0,v1,v2,e,hr⟩:=open_node fuel _ _ hf
 have e':cs=#[v0,v1,v2]:=Array.toList_inj.1 e
 rw [e']
 exact ⟨t,v0,v1,v2,rfl,hr⟩
end
end Go.Proofs.YtgikhpmdpppenaaGreatDoor
namespace Go.Proofs.YtgikhpmdpppenaaGreatDoor
open Go.ChangeShapes Go.WideShapes Go.Deep Go.ChangeMaps Go.RowKit
set_option maxRecDepth 100000 in
theorem open_path {H:Type} {enc:TypeId×Value→H} {w:World} {base b0:Nat} {sp:Nat→Bool} {hd:Bool} {v:Value} {d:DataW H} {p:List MemPlace} {r:Reach} (hv:Value.okWide Tryz.prog w r b0 46 v) (h:DataW.Trod enc Tryz.prog w base sp hd 46 v d p):∃ q:List Int,PathR w v q:=by
 obtain ⟨a,len,cap,rfl⟩:=okWide_slice Tryz.underlying46 hv
 obtain ⟨fuel,hf⟩:=h
 have c3:Tryz.prog.cellsOf 3=1:=by kernel_rfl
 rcases DataW.trod_slice Tryz.underlying46 hf with ⟨e2,_⟩ | ⟨a',len',cap',elems,rest,m,hfu,e2,_,hb,hlc,hm,hlen,hel,_,_⟩
 ·have hc':Value.slice a len cap = .slice none 0 0:=List.cons.inj e2 |>.1
  simp only [Value.slice.injEq] at hc'
  obtain ⟨rfl,rfl,rfl⟩:=hc'
  exact ⟨[],Nat.zero_le _,0,0,0,none,rfl,Nat.le_refl _,fun h=>absurd rfl h,fun i hi=>absurd hi (Nat.not_lt_zero _)⟩
 ·have hc':Value.slice a len cap = .slice (some a') len' cap':=List.cons.inj e2 |>.1
  simp only [Value.slice.injEq] at hc'
  obtain ⟨rfl,rfl,rfl⟩:=hc'
  obtain ⟨l,hl,hq⟩:=sy_list_of (Q:=fun i (k:Int)=>w.cell? (a'.add i)=some (.int .i64 k)) len (fun i hi=>by
   have hE:=hel i hi
   rw [c3] at hE
   have hxi:elems[i]?=some (elems[i]'(by omega)):=List.getElem?_eq_getElem (by omega)
   rw [hxi] at hE
   simp only [Option.bind_eq_some_iff] at hE
   obtain ⟨c1,hc1,hy1⟩:=hE
   obtain ⟨k,rfl,_,_⟩:=DataW.trod_int Tryz.underlying3 hy1
   obtain ⟨_,_,hat⟩:=World.cells?_some hc1
   refine ⟨k,?_⟩
   have:=hat 0 (by omega)
   rw [Go.Deep.add_add] at this
   simpa using this)
  obtain ⟨b,o,g⟩:=a'
  subst hl
  by_cases hne:l=[]
  ·subst hne
   exact ⟨[],Nat.zero_le _,b,o,cap,_,rfl,Nat.zero_le _,fun h=>absurd rfl h,fun i hi=>absurd hi (Nat.not_lt_zero _)⟩
  ·have h0:0 < l.length:=List.length_pos_iff.2 hne
   have hg:g=none:=by
    have:=World.cell?_spot (hq 0 h0)
    simpa [Addr.add] using this
   subst hg
   refine ⟨l,by omega,b,o,cap,_,rfl,hlc,fun _=>rfl,fun j hj=>?_⟩
   have:=hq j hj
   rw [sy_addr_add] at this
   exact this
end Go.Proofs.YtgikhpmdpppenaaGreatDoor
namespace Go.Proofs.YtgikhpmdpppenaaGreatDoor
open Go.ChangeShapes Go.WideShapes Go.ChangeAt Go.RowKit
theorem cells_flat (k:Nat):∀ (L:List (List Value)) (cs:List Value),(∀ x∈L,x.length=k)→cs.length=L.length*k→(∀ i,(h:i < L.length)→(cs.drop (i*k)).take k=L[i])→cs=L.flatten
 | [],cs,_,hl,_=>by
  have:cs=[]:=List.eq_nil_of_length_eq_zero (by simpa using hl)
  rw [this]
  rfl
 | x :: L,cs,hk,hl,h=>by
  have h0:=h 0 (by simp)
  simp only [Nat.zero_mul,List.drop_zero,List.getElem_cons_zero] at h0
  have ih:=cells_flat k L (cs.drop k) (fun y hy=>hk y (by simp [hy])) (by
   rw [List.length_drop,hl,List.length_cons,Nat.succ_mul]
   omega) (fun i hi=>by
   have:=h (i+1) (by simpa using hi)
   rw [List.getElem_cons_succ] at this
   rw [List.drop_drop,←this,Nat.succ_mul,Nat.add_comm])
  rw [List.flatten_cons,←ih,←h0,List.take_append_drop]
section
variable {H:Type} {enc:TypeId×Value→H} {w:World} {base fuel:Nat} {sp:Nat→Bool} {hd:Bool} {cs:List Value} {x:DataW H×List MemPlace}
theorem lit_string {s:List UInt8} (h:DataW.trod enc Tryz.prog w base sp hd fuel 9 cs=some x) (hx:x.1 = .lit (.string s)):cs=[S_ s]:=by
 obtain ⟨s',rfl,rfl,_⟩:=DataW.trod_string Tryz.underlying9 h
 simp only [DataW.lit.injEq,Lit.string.injEq] at hx
 subst hx
 rfl
theorem lit_int {n:Int} (h:DataW.trod enc Tryz.prog w base sp hd fuel 3 cs=some x) (hx:x.1 = .lit (.int .i64 n)):cs=[.int .i64 n]:=by
 obtain ⟨m,rfl,rfl,_⟩:=DataW.trod_int Tryz.underlying3 h
 simp only [DataW.lit.injEq,Lit.int.injEq,true_and] at hx
 subst hx
 rfl
set_option maxRecDepth 100000 in
theorem open_opening {s:List UInt8} {n:Int} (h:DataW.trod enc Tryz.prog w base sp hd fuel 174 cs=some x) (hx:x.1 = .agg [.lit (.string s),.lit (.int .i64 n)]):cs=[S_ s,.int .i64 n]:=by
 obtain ⟨xs,m,_,rfl,hl,hxs,hf⟩:=DataW.trod_struct Tryz.underlying174 h
 have c:Tryz.prog.cellsOf 174=2:=by kernel_rfl
 have c9:Tryz.prog.cellsOf 9=1:=by kernel_rfl
 have c3:Tryz.prog.cellsOf 3=1:=by kernel_rfl
 rw [c] at hl
 have f0:DataW.trod enc Tryz.prog w base sp hd m 9 ((cs.drop 0).take (Tryz.prog.cellsOf 9))=xs[0]?:=hf 0 _ rfl
 have f1:DataW.trod enc Tryz.prog w base sp hd m 3 ((cs.drop 1).take (Tryz.prog.cellsOf 3))=xs[1]?:=hf 1 _ rfl
 rw [c9] at f0
 rw [c3] at f1
 match xs,hxs,hx,f0,f1 with
 | [x0,x1],_,hx,f0,f1 =>
  simp only [List.map_cons,List.map_nil,DataW.agg.injEq,List.cons.injEq,and_true] at hx
  have e0:=lit_string f0 hx.1
  have e1:=lit_int f1 hx.2
  match cs,hl,e0,e1 with
  | [a,b],_,e0,e1 =>
   simp at e0 e1
   rw [e0,e1]
set_option maxRecDepth 100000 in
theorem open_operator {s:List UInt8} {n b:Int} (h:DataW.trod enc Tryz.prog w base sp hd fuel 177 cs=some x) (hx:x.1 = .agg [.lit (.string s),.lit (.int .i64 n),.lit (.int .i64 b)]):cs=[S_ s,.int .i64 n,.int .i64 b]:=by
 obtain ⟨xs,m,_,rfl,hl,hxs,hf⟩:=DataW.trod_struct Tryz.underlying177 h
 have c:Tryz.prog.cellsOf 177=3:=by kernel_rfl
 have c9:Tryz.prog.cellsOf 9=1:=by kernel_rfl
 have c3:Tryz.prog.cellsOf 3=1:=by kernel_rfl
 rw [c] at hl
 have f0:DataW.trod enc Tryz.prog w base sp hd m 9 ((cs.drop 0).take (Tryz.prog.cellsOf 9))=xs[0]?:=hf 0 _ rfl
 have f1:DataW.trod enc Tryz.prog w base sp hd m 3 ((cs.drop 1).take (Tryz.prog.cellsOf 3))=xs[1]?:=hf 1 _ rfl
 have f2:DataW.trod enc Tryz.prog w base sp hd m 3 ((cs.drop 2).take (Tryz.prog.cellsOf 3))=xs[2]?:=hf 2 _ rfl
 rw [c9] at f0
 rw [c3] at f1 f2
 match xs,hxs,hx,f0,f1,f2 with
 | [x0,x1,x2],_,hx,f0,f1,f2 =>
  simp only [List.map_cons,List.map_nil,DataW.agg.injEq,List.cons.injEq,and_true] at hx
  have e0:=lit_string f0 hx.1
  have e1:=lit_int f1 hx.2.1
  have e2:=lit_int f2 hx.2.2
  match cs,hl,e0,e1,e2 with
  | [a,b,c],_,e0,e1,e2 =>
   simp at e0 e1 e2
   rw [e0,e1,e2]
theorem open_openings (h:DataW.trod enc Tryz.prog w base sp hd fuel 175 cs=some x) (hx:x.1 = .agg (openL.map fun o=>.agg [.lit (.string o.1),.lit (.int .i64 o.2)])):cs=openArr.toList:=by
 obtain ⟨xs,m,_,rfl,hl,hxs,hel⟩:=DataW.trod_array Tryz.underlying175 h
 have c:Tryz.prog.cellsOf 174=2:=by kernel_rfl
 have cA:Tryz.prog.cellsOf 175=40:=by kernel_rfl
 rw [cA] at hl
 simp only [DataW.agg.injEq] at hx
 have e:openArr.toList=(openL.map fun o=>[S_ o.1,Value.int .i64 o.2]).flatten:=by kernel_rfl
 have len:openL.length=20:=by kernel_rfl
 rw [e]
 refine cells_flat 2 _ cs (by intro y hy;obtain ⟨o,_,rfl⟩:=List.mem_map.1 hy;rfl) (by rw [hl,List.length_map,len]) (fun i hi=>?_)
 have hi':i < openL.length:=by simpa using hi
 have hE:=hel i (by omega)
 rw [c] at hE
 have hxi:xs[i]?=some (xs[i]'(by omega)):=List.getElem?_eq_getElem (by omega)
 rw [hxi] at hE
 rw [List.getElem_map]
 refine open_opening hE ?_
 have:=congrArg (fun l=>l[i]?) hx
 simp only [List.getElem?_map,hxi,List.getElem?_eq_getElem hi',Option.map_some,Option.some.injEq] at this
 exact this
theorem open_operators (h:DataW.trod enc Tryz.prog w base sp hd fuel 178 cs=some x) (hx:x.1 = .agg (opsL.map fun o=>.agg [.lit (.string o.1),.lit (.int .i64 o.2.1),.lit (.int .i64 (o.2.2:Nat))])):cs=opsArr.toList:=by
 obtain ⟨xs,m,_,rfl,hl,hxs,hel⟩:=DataW.trod_array Tryz.underlying178 h
 have c:Tryz.prog.cellsOf 177=3:=by kernel_rfl
 have cA:Tryz.prog.cellsOf 178=24:=by kernel_rfl
 rw [cA] at hl
 simp only [DataW.agg.injEq] at hx
 have e:opsArr.toList=(opsL.map fun o=>[S_ o.1,Value.int .i64 o.2.1,Value.int .i64 (o.2.2:Nat)]).flatten:=by kernel_rfl
 have len:opsL.length=8:=by kernel_rfl
 rw [e]
 refine cells_flat 3 _ cs (by intro y hy;obtain ⟨o,_,rfl⟩:=List.mem_map.1 hy;rfl) (by rw [hl,List.length_map,len]) (fun i hi=>?_)
 have hi':i < opsL.length:=by simpa using hi
 have hE:=hel i (by omega)
 rw [c] at hE
 have hxi:xs[i]?=some (xs[i]'(by omega)):=List.getElem?_eq_getElem (by omega)
 rw [hxi] at hE
 rw [List.getElem_map]
 refine open_operator hE ?_
 have:=congrArg (fun l=>l[i]?) hx
 simp only [List.getElem?_map,hxi,List.getElem?_eq_getElem hi',Option.map_some,Option.some.injEq] at this
 exact this
end
theorem ownAll:ownKnob Tryz.prog.godebug=none:=by kernel_rfl
theorem gOpen : Tryz.prog.globalNamed "peculium/syntax.openings" = some 0 := by kernel_rfl
theorem gOps : Tryz.prog.globalNamed "peculium/syntax.operators" = some 1 := by kernel_rfl
theorem tOpen:(Tryz.prog.globals[0]?).map (·.type)=some 175:=by kernel_rfl
theorem tOps:(Tryz.prog.globals[1]?).map (·.type)=some 178:=by kernel_rfl
def laidL : List (String × DataW Unit) := [("peculium/syntax.openings", Rows.laid_peculium_syntax_openings), ("peculium/syntax.operators", Rows.laid_peculium_syntax_operators)]
theorem row_of_var {W:World} {n:String} {g:Nat} {cs:Array Value} (hg:Tryz.prog.globalNamed n=some g) (h:W.var? Tryz.prog n=some cs):∃ t fr,W.heap[g]?=some (.cells cs t fr):=by
 simp only [World.var?,hg,Option.bind_some] at h
 split at h
 ·rename_i c t fr e
  cases h
  exact ⟨t,fr,e⟩
 ·cases h
set_option maxRecDepth 100000 in
theorem of_laid {W:World} (h:laidMetH Tryz.prog laidL W):GLw W∧2≤W.heap.size:=by
 rw [MakeChecks.laidMetH_plain _ _ _ (by kernel_rfl)] at h
 obtain ⟨ps,⟨g0,t0,cs0,f0,p0,q0,hg0,ht0,hv0,hd0,⟨g1,t1,cs1,f1,p1,q1,hg1,ht1,hv1,hd1,_,_⟩,_⟩,_,_⟩:=h
 obtain rfl:=Option.some.inj (gOpen.symm.trans hg0)
 obtain rfl:=Option.some.inj (gOps.symm.trans hg1)
 obtain rfl:=Option.some.inj (tOpen.symm.trans ht0)
 obtain rfl:=Option.some.inj (tOps.symm.trans ht1)
 have e0:=open_openings hd0 rfl
 have e1:=open_operators hd1 rfl
 obtain ⟨u0,r0,k0⟩:=row_of_var hg0 hv0
 obtain ⟨u1,r1,k1⟩:=row_of_var hg1 hv1
 rw [show cs0=openArr from Array.toList_inj.1 e0] at k0
 rw [show cs1=opsArr from Array.toList_inj.1 e1] at k1
 exact ⟨⟨⟨u0,r0,k0⟩,⟨u1,r1,k1⟩⟩,by have:=heap_lt k1;omega⟩
theorem door_met (os:Os) (args:Array Value):laidMetH Tryz.prog laidL ((World.doorLaid Tryz.prog 400 os).forCall (fun _ _=>0) ⟨#[],args,[]⟩).memory :=
 laidMetH_of_parts3 (fuel:=8) (laidMet_of_run' 8 (by kernel_rfl) (by kernel_rfl)) (by kernel_rfl) (by kernel_rfl)
end Go.Proofs.YtgikhpmdpppenaaGreatDoor
namespace Go.Proofs.YtgikhpmdpppenaaGreatDoor
open Go.RowKit Go.Shelf
attribute [local go_sem] Oper.semAt_some
theorem put_go:∀ (p:List Int) (t t':Nd),goN t p=some t'→putN t p t'=t
 | [],t,t',h=>by
  have e:t=t':=by cases t;simpa [goN] using h
  subst e
  cases t;rfl
 | i :: p,.mk k s l,t',h=>by
  simp only [goN] at h
  split at h
  ·rename_i hi
   simp only [putN,dif_pos hi]
   rw [put_go p _ _ h,List.set_getElem_self]
  ·cases h
theorem go_put (x:Nd):∀ (p:List Int) (t:Nd),goN t p≠none→goN (putN t p x) p=some x
 | [],t,_=>by cases t;cases x;rfl
 | i :: p,.mk k s l,h=>by
  simp only [goN] at h
  split at h
  ·rename_i hi
   simp only [putN,dif_pos hi]
   have hi2:0≤i∧i < ((l.set i.toNat (putN (l[i.toNat]'(by omega)) p x)).length:Int):=by rw [List.length_set];exact hi
   simp only [goN]
   rw [dif_pos hi2,List.getElem_set_self]
   exact go_put x p _ h
  ·exact absurd rfl h
set_option maxRecDepth 100000 in
set_option maxHeartbeats 2000000 in
theorem puts_any (t x:Nd) (p:List Int) (w:World) (v0 v1 v2 vp x0 x1 x2:Value) (ht:NdR w t v0 v1 v2) (hp:PathR w vp p) (hx:NdR w x x0 x1 x2) (hw:2≤w.heap.size) (gl:GLw w) :
  Calls Tryz.prog 6 #[.agg #[v0,v1,v2],vp,.agg #[x0,x1,x2]] w fun e w'=>e = .returned (.bool true)∧Below w.heap.size w w':=by
 obtain ⟨k,s,l,a,cap,rfl,rfl,rfl,rfl,hs,hl⟩:=ht.form
 obtain ⟨kx,sx,lx,ax,cx,rfl,rfl,rfl,rfl,hsx,hlx⟩:=hx.form
 obtain ⟨er,tr,hA⟩:=atS_ex (chkN (.mk k s l)) (goN (.mk k s l) p)
 obtain ⟨er3,tr3,hA3⟩:=putS_ex (chkN (.mk k s l)) (chkN (.mk kx sx lx)) (goN (.mk k s l) p) (chkN (putN (.mk k s l) p (.mk kx sx lx))) (putN (.mk k s l) p (.mk kx sx lx))
 have hvp:∃ b1 c1,vp = .slice b1 p.length c1:=by obtain ⟨_,_,_,c1,b1,e,_⟩:=hp;exact ⟨b1,c1,e⟩
 obtain ⟨b1,c1,rfl⟩:=hvp
 obtain ⟨W0,hW0⟩:∃ W0,(w.alloc (.cells #[.int .i64 k,.string s,.slice a l.length cap] 24)).alloc (.cells #[.int .i64 kx,.string sx,.slice ax lx.length cx] 24)=W0:=⟨_,rfl⟩
 obtain ⟨h,hh⟩:∃ h,w.heap.size=h:=⟨_,rfl⟩
 have b0:Below h w W0:=by rw [←hW0,←hh];exact ((Below.refl _ w).alloc (Nat.le_refl _) _).alloc (by simp) _
 have z0:W0.heap.size=h+1+1:=by rw [←hW0];simp [hh]
 have r0:Row3 W0 h (.int .i64 k) (.string s) (.slice a l.length cap):=by rw [←hW0,←hh];exact (Below.heap_alloc _ _ _ (by simp only [World.size_alloc];omega)).trans (World.alloc_heap_new _ _)
 have q0:Row3 W0 (h+1) (.int .i64 kx) (.string sx) (.slice ax lx.length cx):=by rw [←hW0,←hh];exact alloc_at (by simp)
 have CS:=qh (saneS_any W0 (by omega) (gl.keep fun b hb hl=>b0.block b (by omega)))
 have CA:=qh (fun W (hb:Below h w W)=>at_any _ _ _ _ _ p W (ht.later (by rw [hh];exact hb)) (hp.later (by rw [hh];exact hb)) er tr hA)
 have HT:=qh ht
 have HX:=qh hx
 have HP:=qh hp
 have HAS:=qh hA
 have HAS3:=qh hA3
 have HB0:=qh b0
 have HR0:=qh r0
 have HQ0:=qh q0
 have HH:=qh hh
 have HZ0:=qh z0
 clear ht hp hx gl hw b0 r0 q0 hA hA3 hs hl hsx hlx
 rw [hh]
 go_enter Tryz.func6,Tryz.ntmps6
 go_upto_region 1 with fail
 (try rw [hW0])
 (try rw [hh])
 clear hW0
 go_wp2_with fail
 refine CS.out.mono ?_
 rintro e w1 ⟨rfl,hb1⟩
 have zz:=HZ0.out
 have HB1:=qh (HB0.out.trans (hb1.mono (show h≤W0.heap.size by omega)))
 have hz1:h+1+1≤w1.heap.size:=by have:=hb1.size;omega
 have HR1:=qh (HR0.out.below hb1 HR0.out.lt)
 have HQ1:=qh (HQ0.out.below hb1 HQ0.out.lt)
 clear hb1 CS HR0 HQ0
 obtain ⟨⟨n0,n1,n2⟩,_⟩:=HR1.out.cells
 go_wp2_with fail
 refine (CA.out _ HB1.out).mono ?_
 rintro e w2 ⟨u0,u1,u2,rfl,t2,b2⟩
 obtain ⟨k1,s1,l1,a1,c1',rfl,rfl,rfl,rfl,hs1,hl1⟩:=t2.form
 obtain ⟨W2,hW2⟩:∃ W2,w2.alloc (.cells #[.int .i64 k1,.string s1,.slice a1 l1.length c1'] 24)=W2:=⟨_,rfl⟩
 have b2':Below w2.heap.size w2 W2:=by rw [←hW2];exact (Below.refl _ _).alloc (Nat.le_refl _) _
 have b12:=b2.trans (b2'.mono b2.size)
 have HB2:=qh (HB1.out.trans (b12.mono (show h≤w1.heap.size by omega)))
 obtain ⟨Y1,hY1⟩:∃ Y1,w2.heap.size=Y1:=⟨_,rfl⟩
 have HA2:=qh (show Row3 W2 Y1 (.int .i64 k1) (.string s1) (.slice a1 l1.length c1') by rw [←hW2];exact alloc_at hY1.symm)
 have HT2:=qh (t2.later b2')
 have HR2:=qh (HR1.out.below b12 HR1.out.lt)
 have HQ2:=qh (HQ1.out.below b12 HQ1.out.lt)
 have hz2:h+1+1≤W2.heap.size:=by have:=b12.size;omega
 clear n0 n1 n2 HR1 HQ1 t2 b2 b2' b12 CA
 by_cases hr0:er=0
 ·subst hr0
  have hfc:Hid (chkN (.mk k s l)=0∧goN (.mk k s l) p=some (.mk k1 s1 l1)):=qh (by
   rcases HAS.out with h | h | h
   ·exact absurd h.2.1.symm h.1
   ·exact absurd h.2.2.1 (by decide)
   ·exact ⟨h.1,h.2.1⟩)
  obtain ⟨⟨n0,n1,n2⟩,_⟩:=HR2.out.cells
  obtain ⟨⟨m0,m1,m2⟩,_⟩:=HA2.out.cells
  obtain ⟨d,hd⟩:∃ d,chkN (.mk k1 s1 l1)=d:=⟨_,rfl⟩
  have hpg:=put_go p _ _ hfc.out.2
  by_cases hd0:d=0
  ·subst hd0
   have CP:=qh (putTree_any _ (.mk k1 s1 l1) _ _ _ _ _ _ _ p W2 (HT.out.later (by rw [HH.out];exact HB2.out)) (HP.out.later (by rw [HH.out];exact HB2.out)) HT2.out 0 (.mk k s l) (.inr (.inr (.inr ⟨hfc.out.1,hd,by rw [hfc.out.2];simp,by rw [hpg];exact hfc.out.1,.inr ⟨rfl,hpg.symm⟩⟩))))
   clear hpg hd
   go_wp2_with fail
   refine CP.out.mono ?_
   rintro e w3 ⟨u0,u1,u2,rfl,t3,b3⟩
   obtain ⟨_,_,_,a3,c3,e3,rfl,rfl,rfl,_,_⟩:=t3.form
   cases e3
   obtain ⟨W3,hW3⟩:∃ W3,w3.alloc (.cells #[.int .i64 k,.string s,.slice a3 l.length c3] 24)=W3:=⟨_,rfl⟩
   have b3':Below w3.heap.size w3 W3:=by rw [←hW3];exact (Below.refl _ _).alloc (Nat.le_refl _) _
   have b23:=b3.trans (b3'.mono b3.size)
   have HB3:=qh (HB2.out.trans (b23.mono (show h≤W2.heap.size by omega)))
   obtain ⟨Y2,hY2⟩:∃ Y2,w3.heap.size=Y2:=⟨_,rfl⟩
   have A3:Row3 W3 Y2 (.int .i64 k) (.string s) (.slice a3 l.length c3):=by rw [←hW3];exact alloc_at hY2.symm
   have HR3:=qh (HR2.out.below b23 HR2.out.lt)
   have HQ3:=qh (HQ2.out.below b23 HQ2.out.lt)
   have hz3:h+1+1≤W3.heap.size:=by have:=b23.size;omega
   have S1:=qh (rSameN _ (.mk k s l) (.mk k s l) W3 _ _ _ _ _ _ (Nat.le_refl _) (t3.later b3') (HT.out.later (by rw [HH.out];exact HB3.out)))
   rw [sameN_self] at S1
   clear n0 n1 n2 m0 m1 m2 HR2 HQ2 t3 b3 b3' b23 CP hW2 HA2 HT2
   obtain ⟨⟨n0,n1,n2⟩,_⟩:=HR3.out.cells
   obtain ⟨⟨m0,m1,m2⟩,_⟩:=A3.cells
   clear A3
   go_wp2_with fail
   refine S1.out.mono ?_
   rintro e w4 ⟨rfl,b4⟩
   have HB4:=qh (HB3.out.trans (b4.mono (show h≤W3.heap.size by omega)))
   have hz4:h+1+1≤w4.heap.size:=by have:=b4.size;omega
   have HR4:=qh (HR3.out.below b4 HR3.out.lt)
   have HQ4:=qh (HQ3.out.below b4 HQ3.out.lt)
   clear n0 n1 n2 m0 m1 m2 b4 S1 HR3 HQ3
   have CQ:=qh (putTree_any _ _ _ _ _ _ _ _ _ p w4 (HT.out.later (by rw [HH.out];exact HB4.out)) (HP.out.later (by rw [HH.out];exact HB4.out)) (HX.out.later (by rw [HH.out];exact HB4.out)) er3 tr3 HAS3.out)
   obtain ⟨⟨n0,n1,n2⟩,_⟩:=HR4.out.cells
   obtain ⟨⟨m0,m1,m2⟩,_⟩:=HQ4.out.cells
   go_wp2_with fail
   refine CQ.out.mono ?_
   rintro e w5 ⟨u0,u1,u2,rfl,t5,b5⟩
   obtain ⟨k5,s5,l5,a5,c5,rfl,rfl,rfl,rfl,_,_⟩:=t5.form
   obtain ⟨W5,hW5⟩:∃ W5,w5.alloc (.cells #[.int .i64 k5,.string s5,.slice a5 l5.length c5] 24)=W5:=⟨_,rfl⟩
   have b5':Below w5.heap.size w5 W5:=by rw [←hW5];exact (Below.refl _ _).alloc (Nat.le_refl _) _
   have b45:=b5.trans (b5'.mono b5.size)
   have HB5:=qh (HB4.out.trans (b45.mono (show h≤w4.heap.size by omega)))
   obtain ⟨Y3,hY3⟩:∃ Y3,w5.heap.size=Y3:=⟨_,rfl⟩
   have A5:Row3 W5 Y3 (.int .i64 k5) (.string s5) (.slice a5 l5.length c5):=by rw [←hW5];exact alloc_at hY3.symm
   have HQ5:=qh (HQ4.out.below b45 HQ4.out.lt)
   have HT5:=qh (t5.later b5')
   have hz5:h+1+1≤W5.heap.size:=by have:=b45.size;omega
   clear n0 n1 n2 m0 m1 m2 HR4 HQ4 t5 b5 b5' b45 CQ hW3
   by_cases hr3:er3=0
   ·subst hr3
    have hfd:Hid (chkN (.mk k5 s5 l5)=0∧goN (.mk k5 s5 l5) p=some (.mk kx sx lx)):=qh (by
     have hg:=go_put (.mk kx sx lx) p (.mk k s l) (by rw [hfc.out.2];simp)
     rcases HAS3.out with h | h | h | h
     ·exact absurd h.2.1.symm h.1
     ·exact absurd h.2.2.1.symm h.2.1
     ·exact absurd h.2.2.2.1 (by decide)
     ·rcases h.2.2.2.2 with h9 | h9
      ·exact absurd rfl h9.1
      ·rw [h9.2];exact ⟨h.2.2.2.1,hg⟩)
    have CR:=qh (at_any _ _ _ _ _ p W5 HT5.out (HP.out.later (by rw [HH.out];exact HB5.out)) 0 (.mk kx sx lx) (.inr (.inr ⟨hfd.out.1,hfd.out.2,rfl⟩)))
    obtain ⟨⟨n0,n1,n2⟩,_⟩:=A5.cells
    clear A5
    go_wp2_with fail
    refine CR.out.mono ?_
    rintro e w6 ⟨u0,u1,u2,rfl,t6,b6⟩
    obtain ⟨_,_,_,a6,c6,e6,rfl,rfl,rfl,_,_⟩:=t6.form
    cases e6
    obtain ⟨W6,hW6⟩:∃ W6,w6.alloc (.cells #[.int .i64 kx,.string sx,.slice a6 lx.length c6] 24)=W6:=⟨_,rfl⟩
    have b6':Below w6.heap.size w6 W6:=by rw [←hW6];exact (Below.refl _ _).alloc (Nat.le_refl _) _
    have b56:=b6.trans (b6'.mono b6.size)
    have HB6:=qh (HB5.out.trans (b56.mono (show h≤W5.heap.size by omega)))
    obtain ⟨Y4,hY4⟩:∃ Y4,w6.heap.size=Y4:=⟨_,rfl⟩
    have A6:Row3 W6 Y4 (.int .i64 kx) (.string sx) (.slice a6 lx.length c6):=by rw [←hW6];exact alloc_at hY4.symm
    have Q6:=HQ5.out.below b56 HQ5.out.lt
    have hz6:h+1+1≤W6.heap.size:=by have:=b56.size;omega
    have S2:=qh (rSameN _ (.mk kx sx lx) (.mk kx sx lx) W6 _ _ _ _ _ _ (Nat.le_refl _) (t6.later b6') (HX.out.later (by rw [HH.out];exact HB6.out)))
    rw [sameN_self] at S2
    clear n0 n1 n2 t6 b6 b6' b56 CR hW5 HQ5 HT5
    obtain ⟨⟨n0,n1,n2⟩,_⟩:=A6.cells
    obtain ⟨⟨m0,m1,m2⟩,_⟩:=Q6.cells
    clear A6 Q6
    go_wp2_with fail
    refine S2.out.mono ?_
    rintro e w7 ⟨rfl,b7⟩
    have HB7:=qh (HB6.out.trans (b7.mono (show h≤W6.heap.size by omega)))
    clear b7 S2
    go_wp2
    go_ret
    exact ⟨rfl,HB7.out⟩
   ·have hr3':(er3==0)=false:=by simp [hr3]
    clear A5
    go_wp2
    go_ret
    exact ⟨rfl,HB5.out⟩
  ·have hd0':(d==0)=false:=by simp [hd0]
   have CP:=qh (putTree_any _ (.mk k1 s1 l1) _ _ _ _ _ _ _ p W2 (HT.out.later (by rw [HH.out];exact HB2.out)) (HP.out.later (by rw [HH.out];exact HB2.out)) HT2.out d zeroN (.inr (.inl ⟨hfc.out.1,by rw [hd];exact hd0,hd.symm,rfl⟩)))
   have HD:=qh hd
   clear hpg hd
   go_wp2_with fail
   refine CP.out.mono ?_
   rintro e w3 ⟨u0,u1,u2,rfl,t3,b3⟩
   obtain ⟨k3,s3,l3,a3,c3,e3,rfl,rfl,rfl,_,_⟩:=t3.form
   obtain ⟨W3,hW3⟩:∃ W3,w3.alloc (.cells #[.int .i64 k3,.string s3,.slice a3 l3.length c3] 24)=W3:=⟨_,rfl⟩
   have b3':Below w3.heap.size w3 W3:=by rw [←hW3];exact (Below.refl _ _).alloc (Nat.le_refl _) _
   have b23:=b3.trans (b3'.mono b3.size)
   have HB3:=qh (HB2.out.trans (b23.mono (show h≤W2.heap.size by omega)))
   have hz3:h+1+1≤W3.heap.size:=by have:=b23.size;omega
   have HA3:=qh (HA2.out.below b23 HA2.out.lt)
   have K1:=qh (fun W (hb:Below W2.heap.size W2 W)=>check_tree _ W _ _ _ (HT2.out.later hb))
   rw [HD.out] at K1
   have Hb23:=qh b23
   clear n0 n1 n2 m0 m1 m2 t3 b3 b3' b23 CP hW2
   obtain ⟨⟨m0,m1,m2⟩,_⟩:=HA3.out.cells
   go_wp2_with fail
   refine (K1.out _ Hb23.out).mono ?_
   rintro e w4 ⟨rfl,b4⟩
   have HB4:=qh (HB3.out.trans (b4.mono (show h≤W3.heap.size by omega)))
   have Hb24:=qh (Hb23.out.trans (b4.mono Hb23.out.size))
   have hz4:h+1+1≤w4.heap.size:=by have:=b4.size;omega
   have A4:=HA3.out.below b4 HA3.out.lt
   clear m0 m1 m2 b4
   obtain ⟨⟨m0,m1,m2⟩,_⟩:=A4.cells
   clear A4
   go_wp2_with fail
   refine (K1.out _ Hb24.out).mono ?_
   rintro e w5 ⟨rfl,b5⟩
   have HB5:=qh (HB4.out.trans (b5.mono (show h≤w4.heap.size by omega)))
   clear b5
   have hdd:(d==d)=true:=by simp
   go_wp2
   go_ret
   exact ⟨by simp [hd0],HB5.out⟩
 ·have hr0':(er==0)=false:=by simp [hr0]
  go_wp2
  go_ret
  exact ⟨rfl,HB2.out⟩
end Go.Proofs.YtgikhpmdpppenaaGreatDoor
