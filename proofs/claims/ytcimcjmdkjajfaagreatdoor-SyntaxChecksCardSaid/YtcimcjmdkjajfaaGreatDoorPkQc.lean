/- A part of the proof, packed: see the last text of this claim. -/
import Derived.Test.YtcimcjmdkjajfaaGreatDoorPkQa
import Derived.Test.YtcimcjmdkjajfaaGreatDoorPkQb
import Derived.RegionDies
import Derived.BigQuiet
import Derived.Lib.IndexLaws
namespace Go.Proofs.YtcimcjmdkjajfaaGreatDoor
open Go.RowKit
theorem Row3.grown {W W':World} {b:Nat} {v0 v1 v2:Value} {row:Option Nat} (h:Row3 W b v0 v1 v2) (hg:W.grownBy W' row) (hne:some b≠row):Row3 W' b v0 v1 v2:=(hg.block b h.lt hne).trans h
set_option maxRecDepth 100000 in
set_option maxHeartbeats 2000000 in
theorem binder_none (E:PE) (q:Nat) (w:World) (h:PS E q w) (k:Int) (g:Nat) (q1:Nat) (hn:Sx.nameA E.ts q = .bad q1) :
  Calls Tryz.prog 144 #[.pointer (some ⟨E.pb,0,none⟩),.int .i64 k,.func (.func g) #[] #[]] w fun e w'=>e = .panicked [{ v:=misfit E q,recovered:=false }]∧Below w.heap.size w w':=by
 have HP:=qh h
 have T1:=qh (fun w h=>(name_bad E q w h q1 hn).2)
 have T2:=qh (fun w h=>refuse_any E q w h)
 have B0:=qh ((Below.refl w.heap.size w).alloc (Nat.le_refl _) (.cells #[.int .i64 0,.string ⟨#[]⟩,.slice none 0 0] 24))
 clear h hn
 go_enter Tryz.func144,Tryz.ntmps144
 go_wp2_with fail
 refine (T1.out _ (HP.out.later B0.out)).mono ?_
 rintro e u1 ⟨rfl,hb⟩
 have B1:=qh ((B0.out.trans (hb.mono B0.out.size)).alloc (by have:=B0.out.size;have:=hb.size;omega) (.cells #[.int .i64 0,.string ⟨#[]⟩,.slice none 0 0] 24))
 clear hb
 go_wp2_with fail
 refine (T2.out _ (HP.out.later B1.out)).mono ?_
 rintro e u2 ⟨rfl,hb⟩
 go_wp2
 exact ⟨rfl,rfl,B1.out.trans (hb.mono B1.out.size)⟩
set_option maxRecDepth 100000 in
set_option maxHeartbeats 2000000 in
theorem binder_tbad (E:PE) (q:Nat) (w:World) (h:PS E q w) (k:Int) (g:Nat) (_eg:∀ args w,(callFunc g args).run Tryz.prog w = .ok (.enter g args) w) (nk:Int) (s:ByteArray) (q1:Nat) (hn:Sx.nameA E.ts q = .ok (.mk nk s []) q1) (ht:Sx.txt E.ts q1=[58]) (qb:Nat) (CT:∀ w0,PS E (q1+1) w0→Calls Tryz.prog 97 #[.pointer (some ⟨E.pb,0,none⟩)] w0 (Gr E w0 (.bad qb))) :
  Calls Tryz.prog 144 #[.pointer (some ⟨E.pb,0,none⟩),.int .i64 k,.func (.func g) #[] #[]] w (Gr E w (.bad qb)):=by
 have HP:=qh h
 have hpl:=h.lt
 have hsz:=(name_max E h.g hn).1
 have T1:=qh (fun w h=>name_ok E q w h nk s [] q1 hn)
 have B0:=qh ((Below.refl w.heap.size w).alloc (Nat.le_refl _) (.cells #[.int .i64 0,.string ⟨#[]⟩,.slice none 0 0] 24))
 have R0:=qh (Row3.new w (.int .i64 0) (.string ⟨#[]⟩) (.slice none 0 0))
 have T2:=qh (fun w h=>take_yes E q1 ⟨#[58]⟩ w h ht (by decide))
 have D:=qh CT
 have HS:=qh hsz
 clear h hn hsz ht CT
 obtain ⟨R,hR⟩:∃ R,Gr E w (.bad qb)=R:=⟨_,rfl⟩
 have HR:=qh hR
 rw [hR]
 clear hR
 go_enter Tryz.func144,Tryz.ntmps144
 go_wp2_with fail
 refine (T1.out _ (HP.out.later B0.out)).mono ?_
 rintro e u1 ⟨rfl,hm,hp⟩
 have M:=qh (((Mv.before HP.out B0.out hm).alloc (.cells #[.int .i64 nk,.string s,.slice none 0 0] 24)).alloc (.cells #[.int .i64 k,.string s,.slice none 0 0] 24))
 have P:=qh (hp.later (((Below.refl _ u1).alloc (Nat.le_refl _) (.cells #[.int .i64 nk,.string s,.slice none 0 0] 24)).alloc (by simp) (.cells #[.int .i64 k,.string s,.slice none 0 0] 24)))
 have Rw:=qh (((R0.out.mv hm (by omega)).alloc (.cells #[.int .i64 nk,.string s,.slice none 0 0] 24)).alloc (.cells #[.int .i64 k,.string s,.slice none 0 0] 24))
 have Nw:=qh (Row3.newAt (W:=u1.alloc (.cells #[.int .i64 nk,.string s,.slice none 0 0] 24)) (n:=u1.heap.size+1) (v0:=.int .i64 k) (v1:=.string s) (v2:=.slice none 0 0) (by simp))
 have hwu:w.heap.size < u1.heap.size:=(R0.out.mv hm (by omega)).lt
 have hz:u1.heap.size+1+1≤((u1.alloc (.cells #[.int .i64 nk,.string s,.slice none 0 0] 24)).alloc (.cells #[.int .i64 k,.string s,.slice none 0 0] 24)).heap.size:=by simp
 have Hz:=qh hz
 clear hm hp hz
 go_wp2_with fail
 refine (T2.out _ P.out).mono ?_
 rintro e u2 ⟨rfl,hm,hp⟩
 have hz2:u1.heap.size+1+1≤u2.heap.size:=Nat.le_trans Hz.out hm.size
 have M2:=qh (Mv.trans HP.out M.out P.out.le hm)
 have P2:=qh hp
 have R2:=qh (Rw.out.mv hm (by omega))
 have N2:=qh (Nw.out.mv hm (by omega))
 obtain ⟨⟨m0,m1,m2⟩,f0,f1,f2⟩:=N2.out.cells
 have ln:=N2.out.lt
 clear hm hp
 have F:Hid (∀ w5,Mv E qb u2.drew w5→qb≤E.ts.length→R (.panicked [{ v:=misfit E qb,recovered:=false }]) w5):=qh fun w5 hm5 hq5=>by
  rw [←HR.out]
  exact ⟨rfl,Mv.trans HP.out (M2.out.later (below_drewN (Below.refl _ _) 1)) P2.out.le hm5,hq5⟩
 go_wp2_with fail
 go_region_dies
 all_goals refine (D.out _ (P2.out.later (Below.refl _ _).drew)).mono ?_
 all_goals rintro e w5 ⟨rfl,hm5,hq5⟩
 all_goals exact ⟨rfl,F.out w5 hm5 hq5⟩
set_option maxRecDepth 100000 in
set_option maxHeartbeats 2000000 in
theorem binder_tno (E:PE) (q:Nat) (w:World) (h:PS E q w) (k:Int) (g:Nat) (_eg:∀ args w,(callFunc g args).run Tryz.prog w = .ok (.enter g args) w) (nk:Int) (s:ByteArray) (q1:Nat) (hn:Sx.nameA E.ts q = .ok (.mk nk s []) q1) (ht:Sx.txt E.ts q1=[58]) (k1:Int) (s1:ByteArray) (l1:List Nd) (r:Nat) (CT:∀ w0,PS E (q1+1) w0→Calls Tryz.prog 97 #[.pointer (some ⟨E.pb,0,none⟩)] w0 (Gr E w0 (.ok (.mk k1 s1 l1) r))) (hd:Sx.txt E.ts r≠[46]) :
  Calls Tryz.prog 144 #[.pointer (some ⟨E.pb,0,none⟩),.int .i64 k,.func (.func g) #[] #[]] w (Gr E w (.bad r)):=by
 have HP:=qh h
 have hpl:=h.lt
 have hsz:=(name_max E h.g hn).1
 have T1:=qh (fun w h=>name_ok E q w h nk s [] q1 hn)
 have B0:=qh ((Below.refl w.heap.size w).alloc (Nat.le_refl _) (.cells #[.int .i64 0,.string ⟨#[]⟩,.slice none 0 0] 24))
 have R0:=qh (Row3.new w (.int .i64 0) (.string ⟨#[]⟩) (.slice none 0 0))
 have T2:=qh (fun w h=>take_yes E q1 ⟨#[58]⟩ w h ht (by decide))
 have D:=qh CT
 have T3:=qh (fun w h=>need_no E r ⟨#[46]⟩ w h hd)
 have HS:=qh hsz
 clear h hn hsz ht CT hd
 obtain ⟨R,hR⟩:∃ R,Gr E w (.bad r)=R:=⟨_,rfl⟩
 have HR:=qh hR
 rw [hR]
 clear hR
 go_enter Tryz.func144,Tryz.ntmps144
 go_wp2_with fail
 refine (T1.out _ (HP.out.later B0.out)).mono ?_
 rintro e u1 ⟨rfl,hm,hp⟩
 have M:=qh (((Mv.before HP.out B0.out hm).alloc (.cells #[.int .i64 nk,.string s,.slice none 0 0] 24)).alloc (.cells #[.int .i64 k,.string s,.slice none 0 0] 24))
 have P:=qh (hp.later (((Below.refl _ u1).alloc (Nat.le_refl _) (.cells #[.int .i64 nk,.string s,.slice none 0 0] 24)).alloc (by simp) (.cells #[.int .i64 k,.string s,.slice none 0 0] 24)))
 have Rw:=qh (((R0.out.mv hm (by omega)).alloc (.cells #[.int .i64 nk,.string s,.slice none 0 0] 24)).alloc (.cells #[.int .i64 k,.string s,.slice none 0 0] 24))
 have Nw:=qh (Row3.newAt (W:=u1.alloc (.cells #[.int .i64 nk,.string s,.slice none 0 0] 24)) (n:=u1.heap.size+1) (v0:=.int .i64 k) (v1:=.string s) (v2:=.slice none 0 0) (by simp))
 have hwu:w.heap.size < u1.heap.size:=(R0.out.mv hm (by omega)).lt
 have hz:u1.heap.size+1+1≤((u1.alloc (.cells #[.int .i64 nk,.string s,.slice none 0 0] 24)).alloc (.cells #[.int .i64 k,.string s,.slice none 0 0] 24)).heap.size:=by simp
 have Hz:=qh hz
 clear hm hp hz
 go_wp2_with fail
 refine (T2.out _ P.out).mono ?_
 rintro e u2 ⟨rfl,hm,hp⟩
 have hz2:u1.heap.size+1+1≤u2.heap.size:=Nat.le_trans Hz.out hm.size
 have M2:=qh (Mv.trans HP.out M.out P.out.le hm)
 have P2:=qh hp
 have R2:=qh (Rw.out.mv hm (by omega))
 have N2:=qh (Nw.out.mv hm (by omega))
 obtain ⟨⟨m0,m1,m2⟩,f0,f1,f2⟩:=N2.out.cells
 have ln:=N2.out.lt
 clear hm hp
 go_wp2_with fail
 go_region_law (first
  | (go_simp;go_at_call 97;refine (D.out _ (P2.out.later (Below.refl _ _).drew)).mono ?_;rintro e w5 ⟨⟨a,cap,rfl,hn5⟩,hm5,hq5⟩;have hm5':=Mv.before P2.out (Below.refl _ _).drew hm5;have N5:=qh (N2.out.mv hm5' (by omega));have R5:=qh (R2.out.mv hm5' (by omega));have hz5:u1.heap.size+1+1≤w5.heap.size:=Nat.le_trans hz2 hm5'.size;obtain ⟨⟨c0,c1,c2⟩,y0,y1,y2⟩:=N5.out.cells;have l5:=N5.out.lt)
  | (refine step_append_kid rfl _ _ rfl (u1.heap.size+1+1) (.slice none 0 0) [] rfl (Kids.nil _ _) ⟨w5.heap.size,0,none⟩ 1 (by rfl) (.mk k1 s1 l1) (.int .i64 k1) (.string s1) (.slice a l1.length cap) (cells3 w5 _ _ _ _ _ rfl) (hn5.keep (fun b hb1 hb2=>⟨Below.heap_alloc _ _ _ hb2,Nat.le_trans hz2 hb1,fun e=>by cases e⟩)) (by simp) (by simp;omega) _ rfl ?_;intro g6 cap6 w6 K6 G6 _ hg6;have N6:=qh ((N5.out.alloc _).grown G6 (by simp [Value.ownBlock]));have R6:=qh ((R5.out.alloc _).grown G6 (by simp [Value.ownBlock]));obtain ⟨⟨d0,d1,d2⟩,z0,z1,z2⟩:=N6.out.cells))
 all_goals
  have hz6:u1.heap.size+1+1≤w6.heap.size:=by have:=G6.size;simp at this;omega
  have M6:=Mv.later (Mv.trans HP.out M2.out P2.out.le hm5') ((((Below.refl w.heap.size w5).alloc (by omega) (.cells #[.int .i64 k1,.string s1,.slice a l1.length cap] 24)).grown G6 (by simp;omega) (by intro b hb;simp [Value.ownBlock] at hb)))
  obtain ⟨W,hW⟩:∃ W,w6.setCell ⟨u1.heap.size+1,2,none⟩ (.slice (some ⟨g6,0,none⟩) 1 cap6)=W:=⟨_,rfl⟩
  have M3:=qh (show Mv E r w W by rw [←hW];exact M6.later ((Below.refl w.heap.size w6).setCell (p:=⟨u1.heap.size+1,2,none⟩) (by simp only;omega) _))
  have N3:=qh (show Row3 W (u1.heap.size+1) (.int .i64 k) (.string s) (.slice (some ⟨g6,0,none⟩) 1 cap6) by rw [←hW];exact N6.out.put2 _)
  have R3:=qh (show Row3 W w.heap.size (.int .i64 0) (.string ⟨#[]⟩) (.slice none 0 0) by rw [←hW];exact R6.out.other _ (by simp only;omega))
  have K3:=qh (show Kids (u1.heap.size+1+1) W (.slice (some ⟨g6,0,none⟩) 1 cap6) [.mk k1 s1 l1] by rw [←hW];exact K6.keep fun b hb1 _=>Below.heap_setCell _ _ _ _ (by simp only;omega))
  have P3:=qh (M3.out.ps HP.out hq5)
  have hz3:u1.heap.size+1+1≤W.heap.size:=by rw [←hW,setCell_size];exact hz6
  rw [hW]
  clear hW hn5 hm5 hm5' hq5 N5 R5 N6 R6 K6 G6 M6 c0 c1 c2 y0 y1 y2 l5 d0 d1 d2 z0 z1 z2 m0 m1 m2 f0 f1 f2 ln hg6 M2 P2 R2 N2
  go_wp2_with fail
  refine (T3.out _ P3.out).mono ?_
  rintro e u4 ⟨rfl,hb⟩
  have M4:=M3.out.later (hb.mono M3.out.size)
  go_wp2
  rw [←HR.out]
  exact ⟨rfl,rfl,M4,P3.out.le⟩
set_option maxRecDepth 100000 in
set_option maxHeartbeats 2000000 in
theorem binder_tbb (E:PE) (q:Nat) (w:World) (h:PS E q w) (k:Int) (g:Nat) (eg:∀ args w,(callFunc g args).run Tryz.prog w = .ok (.enter g args) w) (nk:Int) (s:ByteArray) (q1:Nat) (hn:Sx.nameA E.ts q = .ok (.mk nk s []) q1) (ht:Sx.txt E.ts q1=[58]) (k1:Int) (s1:ByteArray) (l1:List Nd) (r:Nat) (CT:∀ w0,PS E (q1+1) w0→Calls Tryz.prog 97 #[.pointer (some ⟨E.pb,0,none⟩)] w0 (Gr E w0 (.ok (.mk k1 s1 l1) r))) (hd:Sx.txt E.ts r=[46]) (qb:Nat) (CB:∀ w0,PS E (r+1) w0→Calls Tryz.prog g #[.pointer (some ⟨E.pb,0,none⟩)] w0 (Gr E w0 (.bad qb))) :
  Calls Tryz.prog 144 #[.pointer (some ⟨E.pb,0,none⟩),.int .i64 k,.func (.func g) #[] #[]] w (Gr E w (.bad qb)):=by
 have HP:=qh h
 have hpl:=h.lt
 have hsz:=(name_max E h.g hn).1
 have T1:=qh (fun w h=>name_ok E q w h nk s [] q1 hn)
 have B0:=qh ((Below.refl w.heap.size w).alloc (Nat.le_refl _) (.cells #[.int .i64 0,.string ⟨#[]⟩,.slice none 0 0] 24))
 have R0:=qh (Row3.new w (.int .i64 0) (.string ⟨#[]⟩) (.slice none 0 0))
 have T2:=qh (fun w h=>take_yes E q1 ⟨#[58]⟩ w h ht (by decide))
 have D:=qh CT
 have D2:=qh CB
 have T3:=qh (fun w h=>need_yes E r ⟨#[46]⟩ w h hd (by decide))
 have HS:=qh hsz
 clear h hn hsz ht CT hd CB
 obtain ⟨R,hR⟩:∃ R,Gr E w (.bad qb)=R:=⟨_,rfl⟩
 have HR:=qh hR
 rw [hR]
 clear hR
 go_enter Tryz.func144,Tryz.ntmps144
 go_wp2_with fail
 refine (T1.out _ (HP.out.later B0.out)).mono ?_
 rintro e u1 ⟨rfl,hm,hp⟩
 have M:=qh (((Mv.before HP.out B0.out hm).alloc (.cells #[.int .i64 nk,.string s,.slice none 0 0] 24)).alloc (.cells #[.int .i64 k,.string s,.slice none 0 0] 24))
 have P:=qh (hp.later (((Below.refl _ u1).alloc (Nat.le_refl _) (.cells #[.int .i64 nk,.string s,.slice none 0 0] 24)).alloc (by simp) (.cells #[.int .i64 k,.string s,.slice none 0 0] 24)))
 have Rw:=qh (((R0.out.mv hm (by omega)).alloc (.cells #[.int .i64 nk,.string s,.slice none 0 0] 24)).alloc (.cells #[.int .i64 k,.string s,.slice none 0 0] 24))
 have Nw:=qh (Row3.newAt (W:=u1.alloc (.cells #[.int .i64 nk,.string s,.slice none 0 0] 24)) (n:=u1.heap.size+1) (v0:=.int .i64 k) (v1:=.string s) (v2:=.slice none 0 0) (by simp))
 have hwu:w.heap.size < u1.heap.size:=(R0.out.mv hm (by omega)).lt
 have hz:u1.heap.size+1+1≤((u1.alloc (.cells #[.int .i64 nk,.string s,.slice none 0 0] 24)).alloc (.cells #[.int .i64 k,.string s,.slice none 0 0] 24)).heap.size:=by simp
 have Hz:=qh hz
 clear hm hp hz
 go_wp2_with fail
 refine (T2.out _ P.out).mono ?_
 rintro e u2 ⟨rfl,hm,hp⟩
 have hz2:u1.heap.size+1+1≤u2.heap.size:=Nat.le_trans Hz.out hm.size
 have M2:=qh (Mv.trans HP.out M.out P.out.le hm)
 have P2:=qh hp
 have R2:=qh (Rw.out.mv hm (by omega))
 have N2:=qh (Nw.out.mv hm (by omega))
 obtain ⟨⟨m0,m1,m2⟩,f0,f1,f2⟩:=N2.out.cells
 have ln:=N2.out.lt
 clear hm hp
 go_wp2_with fail
 go_region_law (first
  | (go_simp;go_at_call 97;refine (D.out _ (P2.out.later (Below.refl _ _).drew)).mono ?_;rintro e w5 ⟨⟨a,cap,rfl,hn5⟩,hm5,hq5⟩;have hm5':=Mv.before P2.out (Below.refl _ _).drew hm5;have N5:=qh (N2.out.mv hm5' (by omega));have R5:=qh (R2.out.mv hm5' (by omega));have hz5:u1.heap.size+1+1≤w5.heap.size:=Nat.le_trans hz2 hm5'.size;obtain ⟨⟨c0,c1,c2⟩,y0,y1,y2⟩:=N5.out.cells;have l5:=N5.out.lt)
  | (refine step_append_kid rfl _ _ rfl (u1.heap.size+1+1) (.slice none 0 0) [] rfl (Kids.nil _ _) ⟨w5.heap.size,0,none⟩ 1 (by rfl) (.mk k1 s1 l1) (.int .i64 k1) (.string s1) (.slice a l1.length cap) (cells3 w5 _ _ _ _ _ rfl) (hn5.keep (fun b hb1 hb2=>⟨Below.heap_alloc _ _ _ hb2,Nat.le_trans hz2 hb1,fun e=>by cases e⟩)) (by simp) (by simp;omega) _ rfl ?_;intro g6 cap6 w6 K6 G6 _ hg6;have N6:=qh ((N5.out.alloc _).grown G6 (by simp [Value.ownBlock]));have R6:=qh ((R5.out.alloc _).grown G6 (by simp [Value.ownBlock]));obtain ⟨⟨d0,d1,d2⟩,z0,z1,z2⟩:=N6.out.cells))
 all_goals
  have hz6:u1.heap.size+1+1≤w6.heap.size:=by have:=G6.size;simp at this;omega
  have M6:=Mv.later (Mv.trans HP.out M2.out P2.out.le hm5') ((((Below.refl w.heap.size w5).alloc (by omega) (.cells #[.int .i64 k1,.string s1,.slice a l1.length cap] 24)).grown G6 (by simp;omega) (by intro b hb;simp [Value.ownBlock] at hb)))
  obtain ⟨W,hW⟩:∃ W,w6.setCell ⟨u1.heap.size+1,2,none⟩ (.slice (some ⟨g6,0,none⟩) 1 cap6)=W:=⟨_,rfl⟩
  have M3:=qh (show Mv E r w W by rw [←hW];exact M6.later ((Below.refl w.heap.size w6).setCell (p:=⟨u1.heap.size+1,2,none⟩) (by simp only;omega) _))
  have N3:=qh (show Row3 W (u1.heap.size+1) (.int .i64 k) (.string s) (.slice (some ⟨g6,0,none⟩) 1 cap6) by rw [←hW];exact N6.out.put2 _)
  have R3:=qh (show Row3 W w.heap.size (.int .i64 0) (.string ⟨#[]⟩) (.slice none 0 0) by rw [←hW];exact R6.out.other _ (by simp only;omega))
  have K3:=qh (show Kids (u1.heap.size+1+1) W (.slice (some ⟨g6,0,none⟩) 1 cap6) [.mk k1 s1 l1] by rw [←hW];exact K6.keep fun b hb1 _=>Below.heap_setCell _ _ _ _ (by simp only;omega))
  have P3:=qh (M3.out.ps HP.out hq5)
  have hz3:u1.heap.size+1+1≤W.heap.size:=by rw [←hW,setCell_size];exact hz6
  rw [hW]
  clear hW hn5 hm5 hm5' hq5 N5 R5 N6 R6 K6 G6 M6 c0 c1 c2 y0 y1 y2 l5 d0 d1 d2 z0 z1 z2 m0 m1 m2 f0 f1 f2 ln hg6 M2 P2 R2 N2
  go_wp2_with fail
  refine (T3.out _ P3.out).mono ?_
  rintro e u4 ⟨rfl,hm,hp⟩
  have hz4:u1.heap.size+1+1≤u4.heap.size:=Nat.le_trans hz3 hm.size
  have M4:=qh (Mv.trans HP.out M3.out P3.out.le hm)
  have P4:=qh hp
  have R4:=qh (R3.out.mv hm (by omega))
  have N4:=qh (N3.out.mv hm (by omega))
  have K4:=qh (Kids.step hm (by omega) K3.out)
  obtain ⟨⟨m0,m1,m2⟩,f0,f1,f2⟩:=N4.out.cells
  have ln:=N4.out.lt
  clear hm hp
  have F:Hid (∀ w5,Mv E qb u4.drew w5→qb≤E.ts.length→R (.panicked [{ v:=misfit E qb,recovered:=false }]) w5):=qh fun w5 hm5 hq5=>by
   rw [←HR.out]
   exact ⟨rfl,Mv.trans HP.out (M4.out.later (below_drewN (Below.refl _ _) 1)) P4.out.le hm5,hq5⟩
  go_wp2_with fail
  go_region_dies
  all_goals refine (D2.out _ (P4.out.later (Below.refl _ _).drew)).mono ?_
  all_goals rintro e w5 ⟨rfl,hm5,hq5⟩
  all_goals exact ⟨rfl,F.out w5 hm5 hq5⟩
set_option maxRecDepth 100000 in
set_option maxHeartbeats 2000000 in
theorem binder_tok (E:PE) (q:Nat) (w:World) (h:PS E q w) (k:Int) (g:Nat) (eg:∀ args w,(callFunc g args).run Tryz.prog w = .ok (.enter g args) w) (nk:Int) (s:ByteArray) (q1:Nat) (hn:Sx.nameA E.ts q = .ok (.mk nk s []) q1) (ht:Sx.txt E.ts q1=[58]) (k1:Int) (s1:ByteArray) (l1:List Nd) (r:Nat) (CT:∀ w0,PS E (q1+1) w0→Calls Tryz.prog 97 #[.pointer (some ⟨E.pb,0,none⟩)] w0 (Gr E w0 (.ok (.mk k1 s1 l1) r))) (hd:Sx.txt E.ts r=[46]) (k2:Int) (s2:ByteArray) (l2:List Nd) (qb:Nat) (CB:∀ w0,PS E (r+1) w0→Calls Tryz.prog g #[.pointer (some ⟨E.pb,0,none⟩)] w0 (Gr E w0 (.ok (.mk k2 s2 l2) qb))) :
  Calls Tryz.prog 144 #[.pointer (some ⟨E.pb,0,none⟩),.int .i64 k,.func (.func g) #[] #[]] w (Gr E w (.ok (.mk k s [.mk k1 s1 l1,.mk k2 s2 l2]) qb)):=by
 have HP:=qh h
 have hpl:=h.lt
 have hsz:=(name_max E h.g hn).1
 have T1:=qh (fun w h=>name_ok E q w h nk s [] q1 hn)
 have B0:=qh ((Below.refl w.heap.size w).alloc (Nat.le_refl _) (.cells #[.int .i64 0,.string ⟨#[]⟩,.slice none 0 0] 24))
 have R0:=qh (Row3.new w (.int .i64 0) (.string ⟨#[]⟩) (.slice none 0 0))
 have T2:=qh (fun w h=>take_yes E q1 ⟨#[58]⟩ w h ht (by decide))
 have D:=qh CT
 have D2:=qh CB
 have T3:=qh (fun w h=>need_yes E r ⟨#[46]⟩ w h hd (by decide))
 have HS:=qh hsz
 clear h hn hsz ht CT hd CB
 obtain ⟨R,hR⟩:∃ R,Gr E w (.ok (.mk k s [.mk k1 s1 l1,.mk k2 s2 l2]) qb)=R:=⟨_,rfl⟩
 have HR:=qh hR
 rw [hR]
 clear hR
 go_enter Tryz.func144,Tryz.ntmps144
 go_wp2_with fail
 refine (T1.out _ (HP.out.later B0.out)).mono ?_
 rintro e u1 ⟨rfl,hm,hp⟩
 have M:=qh (((Mv.before HP.out B0.out hm).alloc (.cells #[.int .i64 nk,.string s,.slice none 0 0] 24)).alloc (.cells #[.int .i64 k,.string s,.slice none 0 0] 24))
 have P:=qh (hp.later (((Below.refl _ u1).alloc (Nat.le_refl _) (.cells #[.int .i64 nk,.string s,.slice none 0 0] 24)).alloc (by simp) (.cells #[.int .i64 k,.string s,.slice none 0 0] 24)))
 have Rw:=qh (((R0.out.mv hm (by omega)).alloc (.cells #[.int .i64 nk,.string s,.slice none 0 0] 24)).alloc (.cells #[.int .i64 k,.string s,.slice none 0 0] 24))
 have Nw:=qh (Row3.newAt (W:=u1.alloc (.cells #[.int .i64 nk,.string s,.slice none 0 0] 24)) (n:=u1.heap.size+1) (v0:=.int .i64 k) (v1:=.string s) (v2:=.slice none 0 0) (by simp))
 have hwu:w.heap.size < u1.heap.size:=(R0.out.mv hm (by omega)).lt
 have hz:u1.heap.size+1+1≤((u1.alloc (.cells #[.int .i64 nk,.string s,.slice none 0 0] 24)).alloc (.cells #[.int .i64 k,.string s,.slice none 0 0] 24)).heap.size:=by simp
 have Hz:=qh hz
 clear hm hp hz
 go_wp2_with fail
 refine (T2.out _ P.out).mono ?_
 rintro e u2 ⟨rfl,hm,hp⟩
 have hz2:u1.heap.size+1+1≤u2.heap.size:=Nat.le_trans Hz.out hm.size
 have M2:=qh (Mv.trans HP.out M.out P.out.le hm)
 have P2:=qh hp
 have R2:=qh (Rw.out.mv hm (by omega))
 have N2:=qh (Nw.out.mv hm (by omega))
 obtain ⟨⟨m0,m1,m2⟩,f0,f1,f2⟩:=N2.out.cells
 have ln:=N2.out.lt
 clear hm hp
 go_wp2_with fail
 go_region_law (first
  | (go_simp;go_at_call 97;refine (D.out _ (P2.out.later (Below.refl _ _).drew)).mono ?_;rintro e w5 ⟨⟨a,cap,rfl,hn5⟩,hm5,hq5⟩;have hm5':=Mv.before P2.out (Below.refl _ _).drew hm5;have N5:=qh (N2.out.mv hm5' (by omega));have R5:=qh (R2.out.mv hm5' (by omega));have hz5:u1.heap.size+1+1≤w5.heap.size:=Nat.le_trans hz2 hm5'.size;obtain ⟨⟨c0,c1,c2⟩,y0,y1,y2⟩:=N5.out.cells;have l5:=N5.out.lt)
  | (refine step_append_kid rfl _ _ rfl (u1.heap.size+1+1) (.slice none 0 0) [] rfl (Kids.nil _ _) ⟨w5.heap.size,0,none⟩ 1 (by rfl) (.mk k1 s1 l1) (.int .i64 k1) (.string s1) (.slice a l1.length cap) (cells3 w5 _ _ _ _ _ rfl) (hn5.keep (fun b hb1 hb2=>⟨Below.heap_alloc _ _ _ hb2,Nat.le_trans hz2 hb1,fun e=>by cases e⟩)) (by simp) (by simp;omega) _ rfl ?_;intro g6 cap6 w6 K6 G6 _ hg6;have N6:=qh ((N5.out.alloc _).grown G6 (by simp [Value.ownBlock]));have R6:=qh ((R5.out.alloc _).grown G6 (by simp [Value.ownBlock]));obtain ⟨⟨d0,d1,d2⟩,z0,z1,z2⟩:=N6.out.cells))
 all_goals
  have hz6:u1.heap.size+1+1≤w6.heap.size:=by have:=G6.size;simp at this;omega
  have M6:=Mv.later (Mv.trans HP.out M2.out P2.out.le hm5') ((((Below.refl w.heap.size w5).alloc (by omega) (.cells #[.int .i64 k1,.string s1,.slice a l1.length cap] 24)).grown G6 (by simp;omega) (by intro b hb;simp [Value.ownBlock] at hb)))
  obtain ⟨W,hW⟩:∃ W,w6.setCell ⟨u1.heap.size+1,2,none⟩ (.slice (some ⟨g6,0,none⟩) 1 cap6)=W:=⟨_,rfl⟩
  have M3:=qh (show Mv E r w W by rw [←hW];exact M6.later ((Below.refl w.heap.size w6).setCell (p:=⟨u1.heap.size+1,2,none⟩) (by simp only;omega) _))
  have N3:=qh (show Row3 W (u1.heap.size+1) (.int .i64 k) (.string s) (.slice (some ⟨g6,0,none⟩) 1 cap6) by rw [←hW];exact N6.out.put2 _)
  have R3:=qh (show Row3 W w.heap.size (.int .i64 0) (.string ⟨#[]⟩) (.slice none 0 0) by rw [←hW];exact R6.out.other _ (by simp only;omega))
  have K3:=qh (show Kids (u1.heap.size+1+1) W (.slice (some ⟨g6,0,none⟩) 1 cap6) [.mk k1 s1 l1] by rw [←hW];exact K6.keep fun b hb1 _=>Below.heap_setCell _ _ _ _ (by simp only;omega))
  have P3:=qh (M3.out.ps HP.out hq5)
  have hz3:u1.heap.size+1+1≤W.heap.size:=by rw [←hW,setCell_size];exact hz6
  rw [hW]
  clear hW hn5 hm5 hm5' hq5 N5 R5 N6 R6 K6 G6 M6 c0 c1 c2 y0 y1 y2 l5 d0 d1 d2 z0 z1 z2 m0 m1 m2 f0 f1 f2 ln hg6 M2 P2 R2 N2
  go_wp2_with fail
  refine (T3.out _ P3.out).mono ?_
  rintro e u4 ⟨rfl,hm,hp⟩
  have hz4:u1.heap.size+1+1≤u4.heap.size:=Nat.le_trans hz3 hm.size
  have M4:=qh (Mv.trans HP.out M3.out P3.out.le hm)
  have P4:=qh hp
  have R4:=qh (R3.out.mv hm (by omega))
  have N4:=qh (N3.out.mv hm (by omega))
  have K4:=qh (Kids.step hm (by omega) K3.out)
  obtain ⟨⟨m0,m1,m2⟩,f0,f1,f2⟩:=N4.out.cells
  have ln:=N4.out.lt
  clear hm hp
  go_wp2_with fail
  go_region_law (first
   | (go_simp;refine (D2.out _ (P4.out.later (Below.refl _ _).drew)).mono ?_;rintro e w5 ⟨⟨a5,cap5,rfl,hn5⟩,hm5,hq5⟩;have hm5':=Mv.before P4.out (Below.refl _ _).drew hm5;have N5:=qh (N4.out.mv hm5' (by omega));have R5:=qh (R4.out.mv hm5' (by omega));have K5:=qh (Kids.step hm5' (by omega) K4.out);have hz5:u1.heap.size+1+1≤w5.heap.size:=Nat.le_trans hz4 hm5'.size;obtain ⟨⟨c0,c1,c2⟩,y0,y1,y2⟩:=N5.out.cells;have l5:=N5.out.lt)
   | (refine step_append_kid rfl _ _ rfl (u1.heap.size+1+1) _ [Nd.mk k1 s1 l1] rfl (Kids.keep K5.out fun b _ hb2=>Below.heap_alloc _ _ _ hb2) ⟨w5.heap.size,0,none⟩ 1 (by rfl) (.mk k2 s2 l2) (.int .i64 k2) (.string s2) (.slice a5 l2.length cap5) (cells3 w5 _ _ _ _ _ rfl) (hn5.keep (fun b hb1 hb2=>⟨Below.heap_alloc _ _ _ hb2,Nat.le_trans hz4 hb1,fun e=>by have:=K4.out.own b e;have hb1':u4.heap.size≤b:=hb1;omega⟩)) (by simp) (by simp;omega) _ rfl ?_;intro g6 cap6 w6 K6 G6 _ hg6;have hown:=K5.out.own;have N6:=qh ((N5.out.alloc _).grown G6 (fun e=>by have:=hown _ e.symm;omega));have R6:=qh ((R5.out.alloc _).grown G6 (fun e=>by have:=hown _ e.symm;omega));obtain ⟨⟨d0,d1,d2⟩,z0,z1,z2⟩:=N6.out.cells))
  all_goals
   have hz6:u1.heap.size+1+1≤w6.heap.size:=by have:=G6.size;simp at this;omega
   have M6:=Mv.later (Mv.trans HP.out M4.out P4.out.le hm5') ((((Below.refl w.heap.size w5).alloc (by omega) (.cells #[.int .i64 k2,.string s2,.slice a5 l2.length cap5] 24)).grown G6 (by simp;omega) (fun b hb=>by have:=hown b hb;omega)))
   obtain ⟨V,hV⟩:∃ V,w6.setCell ⟨u1.heap.size+1,2,none⟩ (.slice (some ⟨g6,0,none⟩) ([Nd.mk k1 s1 l1].length+1) cap6)=V:=⟨_,rfl⟩
   have M7:=qh (show Mv E qb w V by rw [←hV];exact M6.later ((Below.refl w.heap.size w6).setCell (p:=⟨u1.heap.size+1,2,none⟩) (by simp only;omega) _))
   have N7:=qh (show Row3 V (u1.heap.size+1) (.int .i64 k) (.string s) (.slice (some ⟨g6,0,none⟩) ([Nd.mk k1 s1 l1].length+1) cap6) by rw [←hV];exact N6.out.put2 _)
   have R7:=qh (show Row3 V w.heap.size (.int .i64 0) (.string ⟨#[]⟩) (.slice none 0 0) by rw [←hV];exact R6.out.other _ (by simp only;omega))
   have K7:=show Kids (u1.heap.size+1+1) V (.slice (some ⟨g6,0,none⟩) ([Nd.mk k1 s1 l1].length+1) cap6) ([Nd.mk k1 s1 l1]++[.mk k2 s2 l2]) by rw [←hV];exact K6.keep fun b hb1 _=>Below.heap_setCell _ _ _ _ (by simp only;omega)
   have Q7:=qh hq5
   have hz7:u1.heap.size+1+1≤V.heap.size:=by rw [←hV,setCell_size];exact hz6
   have N8:=qh ((K7.node k s HS.out (by unfold maxLen;simp)).fin (h:=w.heap.size) (by omega) ((Kp.refl (u1.heap.size+1+1) V).put3 (b:=w.heap.size) (.int .i64 k) (.string s) (.slice (some ⟨g6,0,none⟩) ([Nd.mk k1 s1 l1].length+1) cap6) (by omega)))
   simp only [List.length_nil,List.length_cons,Nat.zero_add,Nat.reduceAdd] at hV N7 N8
   rw [hV]
   clear hV hn5 hm5 hm5' hq5 N5 R5 N6 R6 K6 G6 M6 c0 c1 c2 y0 y1 y2 l5 d0 d1 d2 z0 z1 z2 m0 m1 m2 f0 f1 f2 ln hg6 hown K5 K7
   obtain ⟨⟨n0,n1,n2⟩,_⟩:=N7.out.cells
   obtain ⟨⟨r0,r1,r2⟩,g0,g1,g2⟩:=R7.out.cells
   have ln:=N7.out.lt
   have lr:=R7.out.lt
   go_wp2
   refine ret_node (R7.out.put _ _ _) Tryz.results144 rfl rfl ?_
   rw [←HR.out]
   exact ⟨⟨_,_,rfl,N8.out⟩,M7.out.put3 (Nat.le_refl _) _ _ _,Q7.out⟩
set_option maxRecDepth 100000 in
set_option maxHeartbeats 2000000 in
theorem binder_nno (E:PE) (q:Nat) (w:World) (h:PS E q w) (k:Int) (g:Nat) (_eg:∀ args w,(callFunc g args).run Tryz.prog w = .ok (.enter g args) w) (nk:Int) (s:ByteArray) (q1:Nat) (hn:Sx.nameA E.ts q = .ok (.mk nk s []) q1) (ht:Sx.txt E.ts q1≠[58]) (hd:Sx.txt E.ts q1≠[46]) :
  Calls Tryz.prog 144 #[.pointer (some ⟨E.pb,0,none⟩),.int .i64 k,.func (.func g) #[] #[]] w (Gr E w (.bad q1)):=by
 have HP:=qh h
 have hpl:=h.lt
 have hsz:=(name_max E h.g hn).1
 have T1:=qh (fun w h=>name_ok E q w h nk s [] q1 hn)
 have B0:=qh ((Below.refl w.heap.size w).alloc (Nat.le_refl _) (.cells #[.int .i64 0,.string ⟨#[]⟩,.slice none 0 0] 24))
 have R0:=qh (Row3.new w (.int .i64 0) (.string ⟨#[]⟩) (.slice none 0 0))
 have T2:=qh (fun w h=>take_no E q1 ⟨#[58]⟩ w h ht)
 have T3:=qh (fun w h=>need_no E q1 ⟨#[46]⟩ w h hd)
 have HS:=qh hsz
 clear h hn hsz ht hd
 obtain ⟨R,hR⟩:∃ R,Gr E w (.bad q1)=R:=⟨_,rfl⟩
 have HR:=qh hR
 rw [hR]
 clear hR
 go_enter Tryz.func144,Tryz.ntmps144
 go_wp2_with fail
 refine (T1.out _ (HP.out.later B0.out)).mono ?_
 rintro e u1 ⟨rfl,hm,hp⟩
 have M:=qh (((Mv.before HP.out B0.out hm).alloc (.cells #[.int .i64 nk,.string s,.slice none 0 0] 24)).alloc (.cells #[.int .i64 k,.string s,.slice none 0 0] 24))
 have P:=qh (hp.later (((Below.refl _ u1).alloc (Nat.le_refl _) (.cells #[.int .i64 nk,.string s,.slice none 0 0] 24)).alloc (by simp) (.cells #[.int .i64 k,.string s,.slice none 0 0] 24)))
 have Rw:=qh (((R0.out.mv hm (by omega)).alloc (.cells #[.int .i64 nk,.string s,.slice none 0 0] 24)).alloc (.cells #[.int .i64 k,.string s,.slice none 0 0] 24))
 have Nw:=qh (Row3.newAt (W:=u1.alloc (.cells #[.int .i64 nk,.string s,.slice none 0 0] 24)) (n:=u1.heap.size+1) (v0:=.int .i64 k) (v1:=.string s) (v2:=.slice none 0 0) (by simp))
 have hwu:w.heap.size < u1.heap.size:=(R0.out.mv hm (by omega)).lt
 have hz:u1.heap.size+1+1≤((u1.alloc (.cells #[.int .i64 nk,.string s,.slice none 0 0] 24)).alloc (.cells #[.int .i64 k,.string s,.slice none 0 0] 24)).heap.size:=by simp
 have Hz:=qh hz
 clear hm hp hz
 go_wp2_with fail
 refine (T2.out _ P.out).mono ?_
 rintro e W ⟨rfl,hb⟩
 have hz3:u1.heap.size+1+1≤W.heap.size:=Nat.le_trans Hz.out hb.size
 have M3:=qh (M.out.later (hb.mono M.out.size))
 have P3:=qh (P.out.later hb)
 have R3:=qh (Rw.out.below hb Rw.out.lt)
 have N3:=qh (Nw.out.below hb Nw.out.lt)
 have K3:=qh (Kids.nil (u1.heap.size+1+1) W)
 clear hb
 go_wp2_with fail
 refine (T3.out _ P3.out).mono ?_
 rintro e u4 ⟨rfl,hb⟩
 have M4:=M3.out.later (hb.mono M3.out.size)
 go_wp2
 rw [←HR.out]
 exact ⟨rfl,rfl,M4,P3.out.le⟩
set_option maxRecDepth 100000 in
set_option maxHeartbeats 2000000 in
theorem binder_nbb (E:PE) (q:Nat) (w:World) (h:PS E q w) (k:Int) (g:Nat) (eg:∀ args w,(callFunc g args).run Tryz.prog w = .ok (.enter g args) w) (nk:Int) (s:ByteArray) (q1:Nat) (hn:Sx.nameA E.ts q = .ok (.mk nk s []) q1) (ht:Sx.txt E.ts q1≠[58]) (hd:Sx.txt E.ts q1=[46]) (qb:Nat) (CB:∀ w0,PS E (q1+1) w0→Calls Tryz.prog g #[.pointer (some ⟨E.pb,0,none⟩)] w0 (Gr E w0 (.bad qb))) :
  Calls Tryz.prog 144 #[.pointer (some ⟨E.pb,0,none⟩),.int .i64 k,.func (.func g) #[] #[]] w (Gr E w (.bad qb)):=by
 have HP:=qh h
 have hpl:=h.lt
 have hsz:=(name_max E h.g hn).1
 have T1:=qh (fun w h=>name_ok E q w h nk s [] q1 hn)
 have B0:=qh ((Below.refl w.heap.size w).alloc (Nat.le_refl _) (.cells #[.int .i64 0,.string ⟨#[]⟩,.slice none 0 0] 24))
 have R0:=qh (Row3.new w (.int .i64 0) (.string ⟨#[]⟩) (.slice none 0 0))
 have T2:=qh (fun w h=>take_no E q1 ⟨#[58]⟩ w h ht)
 have D2:=qh CB
 have T3:=qh (fun w h=>need_yes E q1 ⟨#[46]⟩ w h hd (by decide))
 have HS:=qh hsz
 clear h hn hsz ht hd CB
 obtain ⟨R,hR⟩:∃ R,Gr E w (.bad qb)=R:=⟨_,rfl⟩
 have HR:=qh hR
 rw [hR]
 clear hR
 go_enter Tryz.func144,Tryz.ntmps144
 go_wp2_with fail
 refine (T1.out _ (HP.out.later B0.out)).mono ?_
 rintro e u1 ⟨rfl,hm,hp⟩
 have M:=qh (((Mv.before HP.out B0.out hm).alloc (.cells #[.int .i64 nk,.string s,.slice none 0 0] 24)).alloc (.cells #[.int .i64 k,.string s,.slice none 0 0] 24))
 have P:=qh (hp.later (((Below.refl _ u1).alloc (Nat.le_refl _) (.cells #[.int .i64 nk,.string s,.slice none 0 0] 24)).alloc (by simp) (.cells #[.int .i64 k,.string s,.slice none 0 0] 24)))
 have Rw:=qh (((R0.out.mv hm (by omega)).alloc (.cells #[.int .i64 nk,.string s,.slice none 0 0] 24)).alloc (.cells #[.int .i64 k,.string s,.slice none 0 0] 24))
 have Nw:=qh (Row3.newAt (W:=u1.alloc (.cells #[.int .i64 nk,.string s,.slice none 0 0] 24)) (n:=u1.heap.size+1) (v0:=.int .i64 k) (v1:=.string s) (v2:=.slice none 0 0) (by simp))
 have hwu:w.heap.size < u1.heap.size:=(R0.out.mv hm (by omega)).lt
 have hz:u1.heap.size+1+1≤((u1.alloc (.cells #[.int .i64 nk,.string s,.slice none 0 0] 24)).alloc (.cells #[.int .i64 k,.string s,.slice none 0 0] 24)).heap.size:=by simp
 have Hz:=qh hz
 clear hm hp hz
 go_wp2_with fail
 refine (T2.out _ P.out).mono ?_
 rintro e W ⟨rfl,hb⟩
 have hz3:u1.heap.size+1+1≤W.heap.size:=Nat.le_trans Hz.out hb.size
 have M3:=qh (M.out.later (hb.mono M.out.size))
 have P3:=qh (P.out.later hb)
 have R3:=qh (Rw.out.below hb Rw.out.lt)
 have N3:=qh (Nw.out.below hb Nw.out.lt)
 have K3:=qh (Kids.nil (u1.heap.size+1+1) W)
 clear hb
 go_wp2_with fail
 refine (T3.out _ P3.out).mono ?_
 rintro e u4 ⟨rfl,hm,hp⟩
 have hz4:u1.heap.size+1+1≤u4.heap.size:=Nat.le_trans hz3 hm.size
 have M4:=qh (Mv.trans HP.out M3.out P3.out.le hm)
 have P4:=qh hp
 have R4:=qh (R3.out.mv hm (by omega))
 have N4:=qh (N3.out.mv hm (by omega))
 have K4:=qh (Kids.step hm (by omega) K3.out)
 obtain ⟨⟨m0,m1,m2⟩,f0,f1,f2⟩:=N4.out.cells
 have ln:=N4.out.lt
 clear hm hp
 have F:Hid (∀ w5,Mv E qb u4.drew w5→qb≤E.ts.length→R (.panicked [{ v:=misfit E qb,recovered:=false }]) w5):=qh fun w5 hm5 hq5=>by
  rw [←HR.out]
  exact ⟨rfl,Mv.trans HP.out (M4.out.later (below_drewN (Below.refl _ _) 1)) P4.out.le hm5,hq5⟩
 go_wp2_with fail
 go_region_dies
 all_goals refine (D2.out _ (P4.out.later (Below.refl _ _).drew)).mono ?_
 all_goals rintro e w5 ⟨rfl,hm5,hq5⟩
 all_goals exact ⟨rfl,F.out w5 hm5 hq5⟩
set_option maxRecDepth 100000 in
set_option maxHeartbeats 2000000 in
theorem binder_nok (E:PE) (q:Nat) (w:World) (h:PS E q w) (k:Int) (g:Nat) (eg:∀ args w,(callFunc g args).run Tryz.prog w = .ok (.enter g args) w) (nk:Int) (s:ByteArray) (q1:Nat) (hn:Sx.nameA E.ts q = .ok (.mk nk s []) q1) (ht:Sx.txt E.ts q1≠[58]) (hd:Sx.txt E.ts q1=[46]) (k2:Int) (s2:ByteArray) (l2:List Nd) (qb:Nat) (CB:∀ w0,PS E (q1+1) w0→Calls Tryz.prog g #[.pointer (some ⟨E.pb,0,none⟩)] w0 (Gr E w0 (.ok (.mk k2 s2 l2) qb))) :
  Calls Tryz.prog 144 #[.pointer (some ⟨E.pb,0,none⟩),.int .i64 k,.func (.func g) #[] #[]] w (Gr E w (.ok (.mk k s [.mk k2 s2 l2]) qb)):=by
 have HP:=qh h
 have hpl:=h.lt
 have hsz:=(name_max E h.g hn).1
 have T1:=qh (fun w h=>name_ok E q w h nk s [] q1 hn)
 have B0:=qh ((Below.refl w.heap.size w).alloc (Nat.le_refl _) (.cells #[.int .i64 0,.string ⟨#[]⟩,.slice none 0 0] 24))
 have R0:=qh (Row3.new w (.int .i64 0) (.string ⟨#[]⟩) (.slice none 0 0))
 have T2:=qh (fun w h=>take_no E q1 ⟨#[58]⟩ w h ht)
 have D2:=qh CB
 have T3:=qh (fun w h=>need_yes E q1 ⟨#[46]⟩ w h hd (by decide))
 have HS:=qh hsz
 clear h hn hsz ht hd CB
 obtain ⟨R,hR⟩:∃ R,Gr E w (.ok (.mk k s [.mk k2 s2 l2]) qb)=R:=⟨_,rfl⟩
 have HR:=qh hR
 rw [hR]
 clear hR
 go_enter Tryz.func144,Tryz.ntmps144
 go_wp2_with fail
 refine (T1.out _ (HP.out.later B0.out)).mono ?_
 rintro e u1 ⟨rfl,hm,hp⟩
 have M:=qh (((Mv.before HP.out B0.out hm).alloc (.cells #[.int .i64 nk,.string s,.slice none 0 0] 24)).alloc (.cells #[.int .i64 k,.string s,.slice none 0 0] 24))
 have P:=qh (hp.later (((Below.refl _ u1).alloc (Nat.le_refl _) (.cells #[.int .i64 nk,.string s,.slice none 0 0] 24)).alloc (by simp) (.cells #[.int .i64 k,.string s,.slice none 0 0] 24)))
 have Rw:=qh (((R0.out.mv hm (by omega)).alloc (.cells #[.int .i64 nk,.string s,.slice none 0 0] 24)).alloc (.cells #[.int .i64 k,.string s,.slice none 0 0] 24))
 have Nw:=qh (Row3.newAt (W:=u1.alloc (.cells #[.int .i64 nk,.string s,.slice none 0 0] 24)) (n:=u1.heap.size+1) (v0:=.int .i64 k) (v1:=.string s) (v2:=.slice none 0 0) (by simp))
 have hwu:w.heap.size < u1.heap.size:=(R0.out.mv hm (by omega)).lt
 have hz:u1.heap.size+1+1≤((u1.alloc (.cells #[.int .i64 nk,.string s,.slice none 0 0] 24)).alloc (.cells #[.int .i64 k,.string s,.slice none 0 0] 24)).heap.size:=by simp
 have Hz:=qh hz
 clear hm hp hz
 go_wp2_with fail
 refine (T2.out _ P.out).mono ?_
 rintro e W ⟨rfl,hb⟩
 have hz3:u1.heap.size+1+1≤W.heap.size:=Nat.le_trans Hz.out hb.size
 have M3:=qh (M.out.later (hb.mono M.out.size))
 have P3:=qh (P.out.later hb)
 have R3:=qh (Rw.out.below hb Rw.out.lt)
 have N3:=qh (Nw.out.below hb Nw.out.lt)
 have K3:=qh (Kids.nil (u1.heap.size+1+1) W)
 clear hb
 go_wp2_with fail
 refine (T3.out _ P3.out).mono ?_
 rintro e u4 ⟨rfl,hm,hp⟩
 have hz4:u1.heap.size+1+1≤u4.heap.size:=Nat.le_trans hz3 hm.size
 have M4:=qh (Mv.trans HP.out M3.out P3.out.le hm)
 have P4:=qh hp
 have R4:=qh (R3.out.mv hm (by omega))
 have N4:=qh (N3.out.mv hm (by omega))
 have K4:=qh (Kids.step hm (by omega) K3.out)
 obtain ⟨⟨m0,m1,m2⟩,f0,f1,f2⟩:=N4.out.cells
 have ln:=N4.out.lt
 clear hm hp
 go_wp2_with fail
 go_region_law (first
  | (go_simp;refine (D2.out _ (P4.out.later (Below.refl _ _).drew)).mono ?_;rintro e w5 ⟨⟨a5,cap5,rfl,hn5⟩,hm5,hq5⟩;have hm5':=Mv.before P4.out (Below.refl _ _).drew hm5;have N5:=qh (N4.out.mv hm5' (by omega));have R5:=qh (R4.out.mv hm5' (by omega));have K5:=qh (Kids.step hm5' (by omega) K4.out);have hz5:u1.heap.size+1+1≤w5.heap.size:=Nat.le_trans hz4 hm5'.size;obtain ⟨⟨c0,c1,c2⟩,y0,y1,y2⟩:=N5.out.cells;have l5:=N5.out.lt)
  | (refine step_append_kid rfl _ _ rfl (u1.heap.size+1+1) _ ([]:List Nd) rfl (Kids.keep K5.out fun b _ hb2=>Below.heap_alloc _ _ _ hb2) ⟨w5.heap.size,0,none⟩ 1 (by rfl) (.mk k2 s2 l2) (.int .i64 k2) (.string s2) (.slice a5 l2.length cap5) (cells3 w5 _ _ _ _ _ rfl) (hn5.keep (fun b hb1 hb2=>⟨Below.heap_alloc _ _ _ hb2,Nat.le_trans hz4 hb1,fun e=>by have:=K4.out.own b e;have hb1':u4.heap.size≤b:=hb1;omega⟩)) (by simp) (by simp;omega) _ rfl ?_;intro g6 cap6 w6 K6 G6 _ hg6;have hown:=K5.out.own;have N6:=qh ((N5.out.alloc _).grown G6 (fun e=>by have:=hown _ e.symm;omega));have R6:=qh ((R5.out.alloc _).grown G6 (fun e=>by have:=hown _ e.symm;omega));obtain ⟨⟨d0,d1,d2⟩,z0,z1,z2⟩:=N6.out.cells))
 all_goals
  have hz6:u1.heap.size+1+1≤w6.heap.size:=by have:=G6.size;simp at this;omega
  have M6:=Mv.later (Mv.trans HP.out M4.out P4.out.le hm5') ((((Below.refl w.heap.size w5).alloc (by omega) (.cells #[.int .i64 k2,.string s2,.slice a5 l2.length cap5] 24)).grown G6 (by simp;omega) (fun b hb=>by have:=hown b hb;omega)))
  obtain ⟨V,hV⟩:∃ V,w6.setCell ⟨u1.heap.size+1,2,none⟩ (.slice (some ⟨g6,0,none⟩) (([]:List Nd).length+1) cap6)=V:=⟨_,rfl⟩
  have M7:=qh (show Mv E qb w V by rw [←hV];exact M6.later ((Below.refl w.heap.size w6).setCell (p:=⟨u1.heap.size+1,2,none⟩) (by simp only;omega) _))
  have N7:=qh (show Row3 V (u1.heap.size+1) (.int .i64 k) (.string s) (.slice (some ⟨g6,0,none⟩) (([]:List Nd).length+1) cap6) by rw [←hV];exact N6.out.put2 _)
  have R7:=qh (show Row3 V w.heap.size (.int .i64 0) (.string ⟨#[]⟩) (.slice none 0 0) by rw [←hV];exact R6.out.other _ (by simp only;omega))
  have K7:=show Kids (u1.heap.size+1+1) V (.slice (some ⟨g6,0,none⟩) (([]:List Nd).length+1) cap6) (([]:List Nd)++[.mk k2 s2 l2]) by rw [←hV];exact K6.keep fun b hb1 _=>Below.heap_setCell _ _ _ _ (by simp only;omega)
  have Q7:=qh hq5
  have hz7:u1.heap.size+1+1≤V.heap.size:=by rw [←hV,setCell_size];exact hz6
  have N8:=qh ((K7.node k s HS.out (by unfold maxLen;simp)).fin (h:=w.heap.size) (by omega) ((Kp.refl (u1.heap.size+1+1) V).put3 (b:=w.heap.size) (.int .i64 k) (.string s) (.slice (some ⟨g6,0,none⟩) (([]:List Nd).length+1) cap6) (by omega)))
  simp only [List.length_nil,Nat.zero_add] at hV N7 N8
  rw [hV]
  clear hV hn5 hm5 hm5' hq5 N5 R5 N6 R6 K6 G6 M6 c0 c1 c2 y0 y1 y2 l5 d0 d1 d2 z0 z1 z2 m0 m1 m2 f0 f1 f2 ln hg6 hown K5 K7
  obtain ⟨⟨n0,n1,n2⟩,_⟩:=N7.out.cells
  obtain ⟨⟨r0,r1,r2⟩,g0,g1,g2⟩:=R7.out.cells
  have ln:=N7.out.lt
  have lr:=R7.out.lt
  go_wp2
  refine ret_node (R7.out.put _ _ _) Tryz.results144 rfl rfl ?_
  rw [←HR.out]
  exact ⟨⟨_,_,rfl,N8.out⟩,M7.out.put3 (Nat.le_refl _) _ _ _,Q7.out⟩
end Go.Proofs.YtcimcjmdkjajfaaGreatDoor
namespace Go.Proofs.YtcimcjmdkjajfaaGreatDoor
open Go.RowKit
theorem binder_any (E:PE) (q:Nat) (w:World) (h:PS E q w) (k:Int) (g:Nat) (eg:∀ args w,(callFunc g args).run Tryz.prog w = .ok (.enter g args) w) (ty body:Nat→Sx.PR Nd) (hty:∀ p,Sx.Goes E.ts p (ty p))
  (CT:∀ p w0,q < p→PS E p w0→Calls Tryz.prog 97 #[.pointer (some ⟨E.pb,0,none⟩)] w0 (Gr E w0 (ty p)))
  (CB:∀ p w0,q < p→PS E p w0→Calls Tryz.prog g #[.pointer (some ⟨E.pb,0,none⟩)] w0 (Gr E w0 (body p))) :
  Calls Tryz.prog 144 #[.pointer (some ⟨E.pb,0,none⟩),.int .i64 k,.func (.func g) #[] #[]] w (Gr E w (Sx.binder ty body E.ts k q)):=by
 unfold Sx.binder
 cases hn:Sx.nameA E.ts q with
 | bad q1 =>
  obtain rfl:q1=q:=(name_bad E q w h q1 hn).1
  refine (binder_none E q1 w h k g q1 hn).mono ?_
  rintro e w' ⟨rfl,hb⟩
  exact ⟨rfl,Mv.below h hb,h.le⟩
 | ok x q1 =>
  obtain ⟨nk,s,l⟩:=x
  obtain ⟨_,rfl⟩:=name_max E h.g hn
  have hq1:=Sx.nameA_ok hn
  simp only
  by_cases ht:Sx.txt E.ts q1=[58]
  ·rw [if_pos ht]
   have CT':=fun w0 (h0:PS E (q1+1) w0)=>CT (q1+1) w0 (by omega) h0
   cases hr:ty (q1+1) with
   | bad r =>
    rw [hr] at CT'
    exact binder_tbad E q w h k g eg nk s q1 hn ht r CT'
   | ok t r =>
    rw [hr] at CT'
    have hgo:=hty _ _ _ hr
    obtain ⟨k1,s1,l1⟩:=t
    simp only
    by_cases hd:Sx.txt E.ts r=[46]
    ·rw [if_pos hd]
     have CB':=fun w0 (h0:PS E (r+1) w0)=>CB (r+1) w0 (by omega) h0
     cases hb:body (r+1) with
     | bad u =>
      rw [hb] at CB'
      exact binder_tbb E q w h k g eg nk s q1 hn ht k1 s1 l1 r CT' hd u CB'
     | ok b u =>
      rw [hb] at CB'
      obtain ⟨k2,s2,l2⟩:=b
      exact binder_tok E q w h k g eg nk s q1 hn ht k1 s1 l1 r CT' hd k2 s2 l2 u CB'
    ·rw [if_neg hd]
     exact binder_tno E q w h k g eg nk s q1 hn ht k1 s1 l1 r CT' hd
  ·rw [if_neg ht]
   by_cases hd:Sx.txt E.ts q1=[46]
   ·rw [if_pos hd]
    have CB':=fun w0 (h0:PS E (q1+1) w0)=>CB (q1+1) w0 (by omega) h0
    cases hb:body (q1+1) with
    | bad u =>
     rw [hb] at CB'
     exact binder_nbb E q w h k g eg nk s q1 hn ht hd u CB'
    | ok b u =>
     rw [hb] at CB'
     obtain ⟨k2,s2,l2⟩:=b
     exact binder_nok E q w h k g eg nk s q1 hn ht hd k2 s2 l2 u CB'
   ·rw [if_neg hd]
    exact binder_nno E q w h k g eg nk s q1 hn ht hd
theorem egTerm:∀ args w,(callFunc 96 args).run Tryz.prog w = .ok (.enter 96 args) w:=enters_of Tryz.func96 (by kernel_rfl) rfl
theorem egForm:∀ args w,(callFunc 95 args).run Tryz.prog w = .ok (.enter 95 args) w:=enters_of Tryz.func95 (by kernel_rfl) rfl
theorem applied_eq (E:PE) (f q:Nat):Sx.applied E.ts f q=(match Sx.nameA E.ts q with | .bad q1=>.bad q1 | .ok (.mk k s _) q1=>appR k s (Sx.args E.ts f [] q1)):=by
 unfold Sx.applied
 cases Sx.nameA E.ts q with
 | bad _=>rfl
 | ok x q1 =>
  obtain ⟨k,s,l⟩:=x
  simp only
  cases Sx.args E.ts f [] q1 <;> rfl
theorem applied_of (E:PE) (hsn:SaneT E.ts) (f:Nat) (ih:∀ f1,f1 < f→∀ q w,PS E q w→16*(E.ts.length - q)+4≤f1→Calls Tryz.prog 96 #[.pointer (some ⟨E.pb,0,none⟩)] w (Gr E w (Sx.term E.ts f1 q)))
  (q:Nat) (w:World) (h:PS E q w) (hf:16*(E.ts.length - q)+3≤f):Calls Tryz.prog 146 #[.pointer (some ⟨E.pb,0,none⟩)] w (Gr E w (Sx.applied E.ts f q)):=by
 rw [applied_eq]
 cases hn:Sx.nameA E.ts q with
 | bad q1 =>
  obtain rfl:q1=q:=(name_bad E q w h q1 hn).1
  refine (applied_none E q1 w h q1 hn).mono ?_
  rintro e w' ⟨rfl,hb⟩
  exact ⟨rfl,Mv.below h hb,h.le⟩
 | ok x q1 =>
  obtain ⟨nk,s,l⟩:=x
  obtain ⟨_,rfl⟩:=name_max E h.g hn
  have hq1:=Sx.nameA_ok hn
  refine applied_walk E hsn q w h f nk s q1 hn (by omega) fun f1 p w0 hf1 hp hm h0 ht=>?_
  have hlt:=Sx.txt_at ht
  exact brack_paren E p w0 h0 ht _ fun w1 h1=>ih f1 hf1 (p+1) w1 h1 (by omega)
theorem term_all (E:PE) (hsn:SaneT E.ts) (f:Nat):∀ q w,PS E q w→16*(E.ts.length - q)+4≤f→Calls Tryz.prog 96 #[.pointer (some ⟨E.pb,0,none⟩)] w (Gr E w (Sx.term E.ts f q)):=by
 induction f using Nat.strongRecOn with
 | _ f ih =>
  intro q w h hf
  obtain ⟨f,rfl⟩:∃ f',f=f'+1:=⟨f - 1,by omega⟩
  by_cases hl:Sx.txt E.ts q=[92]
  ·have e:Sx.term E.ts (f+1) q=Sx.binder (Sx.typed E.ts f) (Sx.term E.ts f) E.ts 17 (q+1):=by
    simp only [Sx.term];rw [if_pos hl]
   have hlt:=Sx.txt_at hl
   rw [e]
   refine term_lam E q w h hl _ fun w0 h0=>?_
   exact binder_any E (q+1) w0 h0 17 _ egTerm _ _ (Sx.typed_goes E.ts f).1 (fun p w1 hp h1=>typed_any E f p w1 h1 (by omega)) (fun p w1 hp h1=>ih f (by omega) p w1 h1 (by omega))
  ·by_cases ht:Sx.txt E.ts q=[40]
   ·have hlt:=Sx.txt_at ht
    have e:Sx.term E.ts (f+1) q=needR E [41] (Sx.term E.ts f (q+1)):=by
     simp only [Sx.term,needR]
     rw [if_neg hl,if_pos ht]
     cases Sx.term E.ts f (q+1) <;> rfl
    rw [e]
    refine term_brack E q w h hl _ fun w0 h0=>?_
    exact brack_paren E q w0 h0 ht _ fun w1 h1=>ih f (by omega) (q+1) w1 h1 (by omega)
   ·have e:Sx.term E.ts (f+1) q=Sx.applied E.ts f q:=by
     rw [applied_eq]
     simp only [Sx.term]
     rw [if_neg hl,if_neg ht]
     cases Sx.nameA E.ts q with
     | bad _=>rfl
     | ok x q1 =>
      obtain ⟨k,s,l⟩:=x
      simp only
      cases Sx.args E.ts f [] q1 <;> rfl
    rw [e]
    exact term_app E q w h hl ht _ fun w0 h0=>applied_of E hsn f (fun f1 hf1=>ih f1 (by omega)) q w0 h0 (by omega)
theorem applied_any (E:PE) (hsn:SaneT E.ts) (f q:Nat) (w:World) (h:PS E q w) (hf:16*(E.ts.length - q)+3≤f):Calls Tryz.prog 146 #[.pointer (some ⟨E.pb,0,none⟩)] w (Gr E w (Sx.applied E.ts f q)) :=
 applied_of E hsn f (fun f1 _ q w h hf=>term_all E hsn f1 q w h hf) q w h hf
end Go.Proofs.YtcimcjmdkjajfaaGreatDoor
namespace Go.Proofs.YtcimcjmdkjajfaaGreatDoor
open Go.RowKit
set_option maxRecDepth 100000 in
set_option maxHeartbeats 1000000 in
theorem form_bad (E:PE) (q:Nat) (w:World) (h:PS E q w) (q':Nat) (C1:∀ w0,PS E q w0→Calls Tryz.prog 141 #[.pointer (some ⟨E.pb,0,none⟩),.int .i64 1] w0 (Gr E w0 (.bad q'))) :
  Calls Tryz.prog 95 #[.pointer (some ⟨E.pb,0,none⟩)] w (Gr E w (.bad q')):=by
 have HP:=qh h
 have D:=qh C1
 have B0:=qh ((Below.refl w.heap.size w).alloc (Nat.le_refl _) (.cells #[.int .i64 0,.string ⟨#[]⟩,.slice none 0 0] 24))
 clear h C1
 go_enter Tryz.func95,Tryz.ntmps95
 go_wp2_with fail
 refine (D.out _ (HP.out.later B0.out)).mono ?_
 rintro e w1 ⟨rfl,hm,hq⟩
 go_wp2
 exact ⟨rfl,rfl,Mv.before HP.out B0.out hm,hq⟩
theorem formR_none {ts:List Lx.Tok} {f:Nat} {a:Nd} {p:Nat} (h:Sx.sgn ts 0 p=none):Sx.formR ts (f+1) a p = .ok a p:=by simp only [Sx.formR,h]
theorem formR_bad {ts:List Lx.Tok} {f:Nat} {a:Nd} {p:Nat} {k:Int} {r:Nat} (h:Sx.sgn ts 0 p=some k) (h2:Sx.right ts f 1 (p+1) = .bad r):Sx.formR ts (f+1) a p = .bad r:=by simp only [Sx.formR,h,h2]
theorem formR_ok {ts:List Lx.Tok} {f:Nat} {a c:Nd} {p:Nat} {k:Int} {r:Nat} (h:Sx.sgn ts 0 p=some k) (h2:Sx.right ts f 1 (p+1) = .ok c r):Sx.formR ts (f+1) a p=Sx.formR ts f (.mk k Sx.noS [a,c]) r:=by simp only [Sx.formR,h,h2]
set_option maxRecDepth 100000 in
set_option maxHeartbeats 4000000 in
theorem form_walk (E:PE) (q:Nat) (w:World) (h:PS E q w) (f:Nat) (k0:Int) (s0:ByteArray) (l0:List Nd) (q1:Nat) (hq1:q < q1) (hf:16*(E.ts.length - q1)+1≤f)
  (C1:∀ w0,PS E q w0→Calls Tryz.prog 141 #[.pointer (some ⟨E.pb,0,none⟩),.int .i64 1] w0 (Gr E w0 (.ok (.mk k0 s0 l0) q1)))
  (C2:∀ f1 p w0,f1 < f→q < p→16*(E.ts.length - p)+9≤f1→PS E p w0→Calls Tryz.prog 141 #[.pointer (some ⟨E.pb,0,none⟩),.int .i64 1] w0 (Gr E w0 (Sx.right E.ts f1 1 p))) :
  Calls Tryz.prog 95 #[.pointer (some ⟨E.pb,0,none⟩)] w (Gr E w (Sx.formR E.ts f (.mk k0 s0 l0) q1)):=by
 have HP:=qh h
 have hpl:=h.lt
 have D1:=qh C1
 have D2:=qh C2
 have Hf:=qh hf
 have Hq1:=qh hq1
 have CO:=qh (fun p w h=>operator_any E p 0 w h (by omega))
 have B0:=qh ((Below.refl w.heap.size w).alloc (Nat.le_refl _) (.cells #[.int .i64 0,.string ⟨#[]⟩,.slice none 0 0] 24))
 have R0:=qh (Row3.new w (.int .i64 0) (.string ⟨#[]⟩) (.slice none 0 0))
 obtain ⟨A,hA⟩:∃ A,Sx.formR E.ts f (.mk k0 s0 l0) q1=A:=⟨_,rfl⟩
 have HA:=qh hA
 obtain ⟨R,hR⟩:∃ R,Gr E w A=R:=⟨_,rfl⟩
 have HR:=qh hR
 rw [hA,hR]
 clear h C1 C2 hA hR hf hq1
 go_enter Tryz.func95,Tryz.ntmps95
 go_wp2_with fail
 refine (D1.out _ (HP.out.later B0.out)).mono ?_
 rintro e w1 ⟨⟨a0,cap0,rfl,hn⟩,hm,hq⟩
 obtain ⟨nb,hnb⟩:∃ nb,w1.heap.size=nb:=⟨_,rfl⟩
 have hwn:w.heap.size < nb:=by rw [←hnb];exact (R0.out.mv hm (by omega)).lt
 have M0:=qh ((Mv.before HP.out B0.out hm).alloc (.cells #[.int .i64 k0,.string s0,.slice a0 l0.length cap0] 24))
 have P0:=qh (((Mv.before HP.out B0.out hm).ps HP.out hq).later ((Below.refl _ w1).alloc (Nat.le_refl _) (.cells #[.int .i64 k0,.string s0,.slice a0 l0.length cap0] 24)))
 have R1:=qh ((R0.out.mv hm (by omega)).alloc (.cells #[.int .i64 k0,.string s0,.slice a0 l0.length cap0] 24))
 have N0:=qh (Row3.newAt (W:=w1) (n:=nb) (v0:=.int .i64 k0) (v1:=.string s0) (v2:=.slice a0 l0.length cap0) hnb.symm)
 have T0:=qh (NdS.keep (S':=fun b=>w.heap.size < b∧b≠nb) (w':=w1.alloc (.cells #[.int .i64 k0,.string s0,.slice a0 l0.length cap0] 24)) (fun b h1 h2=>⟨Below.heap_alloc _ _ _ h2,by simp at h1;omega,by omega⟩) hn)
 clear hm hq hn
 go_wp2_with fail
 go_loopw [] (fun W=>∃ (f1 p:Nat) (k:Int) (s:ByteArray) (l:List Nd) (a:Option Addr) (cap:Nat),q < p∧f1≤f∧16*(E.ts.length - p)+1≤f1∧Hid (Sx.formR E.ts f1 (.mk k s l) p=A)∧Hid (Mv E p w W)∧Hid (PS E p W)∧Hid (Row3 W w.heap.size (.int .i64 0) (.string ⟨#[]⟩) (.slice none 0 0))∧Hid (Row3 W nb (.int .i64 k) (.string s) (.slice a l.length cap))∧Hid (NdS (fun b=>w.heap.size < b∧b≠nb) W (.mk k s l) (.int .i64 k) (.string s) (.slice a l.length cap))) (fun W=>E.ts.length+1 - nxt E W)
 case atStart =>
  exact ⟨f,q1,k0,s0,l0,a0,cap0,Hq1.out,Nat.le_refl _,Hf.out,HA,M0.out,P0.out,R1.out,N0.out,T0.out⟩
 case round =>
  obtain ⟨f1,p,k,s,l,a,cap,hqp,hff,hf1,hrun,hM,hP,hRw,hN,hT⟩:=hrel
  clear D1 N0 M0 P0 R1 T0
  obtain ⟨f2,rfl⟩:∃ f2,f1=f2+1:=⟨f1 - 1,by omega⟩
  have hple:=hP.out.le
  have hnl:=hN.out.lt
  have hrl:=hRw.out.lt
  have hpbn:E.pb < nb:=by omega
  have Hmeas:=qh hP.out.nxt
  obtain ⟨o,ho⟩:∃ o,opFind (Sx.txt E.ts p) 0 opsL=o:=⟨_,rfl⟩
  have CP:=qh (CO.out p)
  rw [ho] at CP
  have ho':Sx.sgn E.ts 0 p=o:=by rw [←opFind_sgn E.ts p 0 (by omega)];exact ho
  cases o with
  | none =>
   have HA':=qh (hrun.out.symm.trans (formR_none ho'))
   clear ho ho' CO hrun
   go_wp2_with fail
   refine (CP.out _ hP.out).mono ?_
   rintro e W1 ⟨h0,_⟩
   obtain ⟨rfl,hb⟩:=h0 rfl
   have M1:=qh (hM.out.later (hb.mono hM.out.size))
   have R1:=qh (hRw.out.below hb hrl)
   have N1:=qh (hN.out.below hb hnl)
   have T1:=qh (NdS.keep (S':=fun b=>w.heap.size < b∧b≠nb) (w':=W1) (fun b h1 h2=>⟨hb.block b h2,h1⟩) hT.out)
   obtain ⟨⟨r0,r1,r2⟩,t0,t1,t2⟩:=R1.out.cells
   obtain ⟨⟨n0,n1,n2⟩,g0,g1,g2⟩:=N1.out.cells
   have ln:=N1.out.lt
   have lr:=R1.out.lt
   have Hple:=qh hple
   have TF:=qh (NdS.keep (S':=fun b=>w.heap.size≤b) (w':=((W1.setCell ⟨w.heap.size,0,none⟩ (.int .i64 k)).setCell ⟨w.heap.size,1,none⟩ (.string s)).setCell ⟨w.heap.size,2,none⟩ (.slice a l.length cap)) (fun b h1 h2=>⟨((Kp.refl (w.heap.size+1) W1).put3 (b:=w.heap.size) _ _ _ (by omega)).blk b (by omega) h2,by omega⟩) T1.out)
   clear hb CP h0
   go_wp2
   refine ret_node (R1.out.put _ _ _) Tryz.results95 rfl rfl ?_
   rw [←HR.out,HA'.out]
   exact ⟨⟨a,cap,rfl,TF.out⟩,M1.out.put3 (Nat.le_refl _) _ _ _,Hple.out⟩
  | some kk =>
   have hlt:=Sx.sgn_lt ho'
   obtain ⟨r2,hr2⟩:∃ r,Sx.right E.ts f2 1 (p+1)=r:=⟨_,rfl⟩
   have DB:=qh (fun w0 h0=>D2.out f2 (p+1) w0 (by omega) (by omega) (by omega) h0)
   rw [hr2] at DB
   cases r2 with
   | bad qb =>
    have HA':=qh (hrun.out.symm.trans (formR_bad ho' hr2))
    clear ho ho' CO hrun hr2
    go_wp2_with fail
    refine (CP.out _ hP.out).mono ?_
    rintro e W1 ⟨_,h0⟩
    obtain ⟨rfl,hm,hp⟩:=h0 kk rfl
    have M1:=qh (Mv.trans HP.out hM.out hple hm)
    have P1:=qh hp
    have N1:=qh (hN.out.mv hm (by omega))
    obtain ⟨⟨n0,n1,n2⟩,g0,g1,g2⟩:=N1.out.cells
    have ln:=N1.out.lt
    clear hm hp CP h0
    have F:Hid (∀ w5,Mv E qb W1.drew w5→qb≤E.ts.length→R (.panicked [{ v:=misfit E qb,recovered:=false }]) w5):=qh fun w5 hm5 hq5=>by
     rw [←HR.out,HA'.out]
     exact ⟨rfl,Mv.trans HP.out (M1.out.later (below_drewN (Below.refl _ _) 1)) P1.out.le hm5,hq5⟩
    go_wp2_with fail
    go_region_dies
    all_goals refine (DB.out _ (P1.out.later (Below.refl _ _).drew)).mono ?_
    all_goals rintro e w5 ⟨rfl,hm5,hq5⟩
    all_goals exact ⟨rfl,F.out w5 hm5 hq5⟩
   | ok c p2 =>
    obtain ⟨k2,s2,l2⟩:=c
    have HA':=qh ((formR_ok ho' hr2).symm.trans hrun.out)
    have hgo:=(Sx.form_goes E.ts f2).2.1 1 _ _ _ hr2
    clear ho ho' CO hrun hr2
    go_wp2_with fail
    refine (CP.out _ hP.out).mono ?_
    rintro e W1 ⟨_,h0⟩
    obtain ⟨rfl,hm,hp⟩:=h0 kk rfl
    have M1:=qh (Mv.trans HP.out hM.out hple hm)
    have P1:=qh hp
    have N1:=qh (hN.out.mv hm (by omega))
    have R1:=qh (hRw.out.mv hm (by omega))
    have T1:=qh (NdS.keep (S':=fun b=>w.heap.size < b∧b≠nb) (w':=W1) (fun b h1 h2=>⟨hm.blk b h2 (by omega),h1⟩) hT.out)
    obtain ⟨⟨n0,n1,n2⟩,g0,g1,g2⟩:=N1.out.cells
    have ln:=N1.out.lt
    have Hgo:=qh hgo
    clear hm hp CP h0 hgo
    go_wp2_with fail
    go_region_law (first
     | (go_simp;go_at_call 141;refine (DB.out _ (P1.out.later (Below.refl _ _).drew)).mono ?_;rintro e w5 ⟨⟨a5,cap5,rfl,hn5⟩,hm5,hq5⟩;have hm5':=Mv.before P1.out (Below.refl _ _).drew hm5;have N5:=qh (N1.out.mv hm5' (by omega));have R5:=qh (R1.out.mv hm5' (by omega));obtain ⟨⟨c0,c1,c2⟩,y0,y1,y2⟩:=N5.out.cells;have l5:=N5.out.lt)
     | (go_simp;go_at_call 85;refine (pair_any kk k k2 s s2 a a5 l.length l2.length cap cap5 w5).mono ?_;rintro e w6 ⟨g,rfl,hg,htw,hb6⟩;have N6:=qh (N5.out.below hb6 N5.out.lt);have R6:=qh (R5.out.below hb6 R5.out.lt);obtain ⟨⟨d0,d1,d2⟩,z0,z1,z2⟩:=N6.out.cells))
    all_goals
     have hs5:=hm5'.size
     have hgw:nb < g:=by omega
     obtain ⟨V,hV⟩:∃ V,((w6.setCell ⟨nb,0,none⟩ (.int .i64 kk)).setCell ⟨nb,1,none⟩ (.string ⟨#[]⟩)).setCell ⟨nb,2,none⟩ (.slice (some ⟨g,0,none⟩) 2 2)=V:=⟨_,rfl⟩
     have hkv:∀ b,b≠nb→V.heap[b]?=w6.heap[b]?:=fun b hb=>by
      rw [←hV]
      exact (Below.heap_setCell _ _ _ _ hb).trans ((Below.heap_setCell _ _ _ _ hb).trans (Below.heap_setCell _ _ _ _ hb))
     have hb6s:=hb6.size
     have TL:=NdS.keep (S':=fun b=>w.heap.size < b∧b≠nb) (w':=V) (fun b h1 h2=>⟨(hkv b h1.2).trans ((hb6.block b (by omega)).trans (hm5'.blk b h2 (by omega))),h1⟩) T1.out
     have TR:=NdS.keep (S':=fun b=>w.heap.size < b∧b≠nb) (w':=V) (fun b h1 h2=>⟨(hkv b (by have:W1.heap.size≤b:=h1;omega)).trans (hb6.block b h2),by have:W1.heap.size≤b:=h1;omega,by have:W1.heap.size≤b:=h1;omega⟩) hn5
     have TW:Two V g (.int .i64 k) (.string s) (.slice a l.length cap) (.int .i64 k2) (.string s2) (.slice a5 l2.length cap5):=by
      obtain ⟨t,ht⟩:=htw
      exact ⟨t,(hkv g (by omega)).trans ht⟩
     have NN:=qh (NdS.two TW ⟨by omega,by omega⟩ TL TR kk 2 (Nat.le_refl _))
     have M7:=qh (show Mv E p2 w V by rw [←hV];exact ((Mv.trans HP.out M1.out P1.out.le hm5').later (hb6.mono (by omega))).put3 (b:=nb) (by omega) _ _ _)
     have P7:=qh (M7.out.ps HP.out hq5)
     have N7:=qh (show Row3 V nb (.int .i64 kk) (.string Sx.noS) (.slice (some ⟨g,0,none⟩) 2 2) by rw [←hV];exact N6.out.put _ _ _)
     have R7:=qh (show Row3 V w.heap.size (.int .i64 0) (.string ⟨#[]⟩) (.slice none 0 0) by rw [←hV];exact R6.out.put3o (by omega) _ _ _)
     have Hm7:=qh P7.out.nxt
     rw [hV]
     clear TL TR TW hV hkv htw hb6 hm5 hm5' hn5 hs5 hq5 N5 R5 N6 R6 c0 c1 c2 y0 y1 y2 l5 d0 d1 d2 z0 z1 z2 n0 n1 n2 g0 g1 g2
     go_wp2_with fail
     go_roundw
     case rel=>exact ⟨f2,p2,kk,Sx.noS,[Nd.mk k s l,Nd.mk k2 s2 l2],some ⟨g,0,none⟩,2,by have:=Hgo.out;omega,by omega,by have:=Hgo.out;omega,HA',M7,P7,R7,N7,NN⟩
     case measure=>rw [Hm7.out,Hmeas.out];have:=Hgo.out;omega
end Go.Proofs.YtcimcjmdkjajfaaGreatDoor
namespace Go.Proofs.YtcimcjmdkjajfaaGreatDoor
open Go.RowKit
attribute [local go_sem] fieldTok0 fieldTok1 fieldTok2
theorem indexOpen (i:Nat) (hi:i < 20) (w:World):∃ s k,openL[i]?=some (s,k)∧(Instr.index 181 (.agg openArr) (.int .i64 (i:Nat))).run Tryz.prog w = .ok (.agg #[S_ s,.int .i64 k]) w:=by
 match i,hi with
 | 0,_=>exact ⟨_,_,rfl,by kernel_rfl⟩
 | 1,_=>exact ⟨_,_,rfl,by kernel_rfl⟩
 | 2,_=>exact ⟨_,_,rfl,by kernel_rfl⟩
 | 3,_=>exact ⟨_,_,rfl,by kernel_rfl⟩
 | 4,_=>exact ⟨_,_,rfl,by kernel_rfl⟩
 | 5,_=>exact ⟨_,_,rfl,by kernel_rfl⟩
 | 6,_=>exact ⟨_,_,rfl,by kernel_rfl⟩
 | 7,_=>exact ⟨_,_,rfl,by kernel_rfl⟩
 | 8,_=>exact ⟨_,_,rfl,by kernel_rfl⟩
 | 9,_=>exact ⟨_,_,rfl,by kernel_rfl⟩
 | 10,_=>exact ⟨_,_,rfl,by kernel_rfl⟩
 | 11,_=>exact ⟨_,_,rfl,by kernel_rfl⟩
 | 12,_=>exact ⟨_,_,rfl,by kernel_rfl⟩
 | 13,_=>exact ⟨_,_,rfl,by kernel_rfl⟩
 | 14,_=>exact ⟨_,_,rfl,by kernel_rfl⟩
 | 15,_=>exact ⟨_,_,rfl,by kernel_rfl⟩
 | 16,_=>exact ⟨_,_,rfl,by kernel_rfl⟩
 | 17,_=>exact ⟨_,_,rfl,by kernel_rfl⟩
 | 18,_=>exact ⟨_,_,rfl,by kernel_rfl⟩
 | 19,_=>exact ⟨_,_,rfl,by kernel_rfl⟩
 | i+20,h=>exact absurd h (by omega)
theorem runOpen {w:World} (h:GLw w):(loadVar 181 ⟨0,0,none⟩).run Tryz.prog w = .ok (.agg openArr) w:=by
 obtain ⟨t,fr,h1⟩:=h.g0
 exact run_loadVar_row w 0 t _ openArr fr _ h1 Tryz.underlying181 rfl (by kernel_rfl)
set_option maxRecDepth 100000 in
theorem zRule:∃ z,∀ w,(zeroValue 177).run Tryz.prog w = .ok z w:=⟨_,fun w=>by rfl⟩
def kindF (t:Lx.Bs) (l:List (List UInt8×Int)):Int:=l.foldl (fun acc o=>if o.1=t then o.2 else acc) 0
theorem kindF_step {t:Lx.Bs} {i:Nat} {s:List UInt8} {k:Int} (h:openL[i]?=some (s,k)):kindF t (openL.take (i+1))=if s=t then k else kindF t (openL.take i):=by
 have hi:i < openL.length:=(List.getElem?_eq_some_iff.1 h).1
 unfold kindF
 rw [List.take_succ_eq_append_getElem hi,List.foldl_append,(List.getElem?_eq_some_iff.1 h).2]
 rfl
set_option maxRecDepth 100000 in
set_option maxHeartbeats 1000000 in
theorem opened_none (E:PE) (q:Nat) (w:World) (h:PS E q w) (mb:Nat) (L:List (List UInt8×Value)) (hm:∀ W,PS E q W→StrMap W mb L) (hf:found L (Sx.txt E.ts q)=none) :
  Calls Tryz.prog 138 #[.pointer (some ⟨E.pb,0,none⟩),.map (some mb)] w fun e w'=>e = .panicked [{ v:=misfit E q,recovered:=false }]∧Below w.heap.size w w':=by
 have HP:=qh h
 have C:=qh (fun w h=>peek_any E q w h)
 have D:=qh (fun w h=>refuse_any E q w h)
 unfold tokF at C
 have B0:=qh ((Below.refl w.heap.size w).alloc (Nat.le_refl _) (.cells #[.int .i64 0,.string ⟨#[]⟩,.slice none 0 0] 24))
 have HM:=qh hm
 have HF:=qh hf
 obtain ⟨z,hz⟩:=zRule
 have HZ:=qh hz
 clear h hm hf hz
 go_enter Tryz.func138,Tryz.ntmps138
 go_wp2_with fail
 refine (C.out _ (HP.out.later B0.out)).mono ?_
 rintro e w1 ⟨rfl,hb⟩
 have B1:=qh (B0.out.trans (hb.mono B0.out.size))
 have P1:=qh (HP.out.later B1.out)
 have SM:=qh (HM.out w1 P1.out)
 clear hb
 go_wp2_with (refine wpList_lookup_str rfl _ _ _ rfl Tryz.underlying132 Tryz.underlying9 (HZ.out _) rfl SM.out (Sx.txt E.ts q) rfl ?_;rw [HF.out];simp only [Option.getD_none,Option.isSome_none])
 refine (D.out _ P1.out).mono ?_
 rintro e w2 ⟨rfl,hb⟩
 go_wp2
 exact ⟨rfl,rfl,B1.out.trans (hb.mono B1.out.size)⟩
set_option maxRecDepth 100000 in
set_option maxHeartbeats 2000000 in
theorem opened_walk (E:PE) (q:Nat) (w:World) (h:PS E q w) (mb:Nat) (L:List (List UInt8×Value)) (hm:∀ W,PS E q W→StrMap W mb L) (g:Nat) (eg:∀ args w,(callFunc g args).run Tryz.prog w = .ok (.enter g args) w) (hf:found L (Sx.txt E.ts q)=some (F_ g)) (hq:q < E.ts.length)
  (k:Int) (hk:kindF (Sx.txt E.ts q) openL=k) (r:Sx.PR Nd) (CG:∀ w0,PS E (q+1) w0→Calls Tryz.prog g #[.pointer (some ⟨E.pb,0,none⟩),.int .i64 k] w0 (Gr E w0 r)) :
  Calls Tryz.prog 138 #[.pointer (some ⟨E.pb,0,none⟩),.map (some mb)] w (Gr E w r):=by
 have HP:=qh h
 have hpl:=h.lt
 have hfew:=h.g.few
 have C:=qh (fun w h=>peek_any E q w h)
 unfold tokF at C
 have B0:=qh ((Below.refl w.heap.size w).alloc (Nat.le_refl _) (.cells #[.int .i64 0,.string ⟨#[]⟩,.slice none 0 0] 24))
 have R0:=qh (Row3.new w (.int .i64 0) (.string ⟨#[]⟩) (.slice none 0 0))
 have HM:=qh hm
 have HF:=qh hf
 have HK:=qh hk
 have DG:=qh CG
 have Hq:=qh hq
 obtain ⟨z,hz⟩:=zRule
 have HZ:=qh hz
 obtain ⟨t,ht⟩:∃ t,Sx.txt E.ts q=t:=⟨_,rfl⟩
 rw [ht] at HF HK C
 obtain ⟨y,hy⟩:∃ y,Sx.str t=y:=⟨_,rfl⟩
 rw [hy] at C
 have HY:Hid (Value.string y=S_ t):=qh (by rw [←hy];rfl)
 have Hy:=qh hy
 clear hy
 have HT:=qh ht
 obtain ⟨R,hR⟩:∃ R,Gr E w r=R:=⟨_,rfl⟩
 have HR:=qh hR
 rw [hR]
 clear h hm hf hz hk CG ht hR
 go_enter Tryz.func138,Tryz.ntmps138
 go_wp2_with fail
 refine (C.out _ (HP.out.later B0.out)).mono ?_
 rintro e w1 ⟨rfl,hb⟩
 have B1:=qh (B0.out.trans (hb.mono B0.out.size))
 have P1:=qh (HP.out.later B1.out)
 have R1:=qh (R0.out.below hb (by simp))
 have SM:=qh (HM.out w1 P1.out)
 obtain ⟨_,c1,_⟩:=P1.out.cells
 have f1:=P1.out.frozen 1
 have lp:=P1.out.lt
 have M2:=qh (show Mv E (q+1) w (w1.setCell ⟨E.pb,1,none⟩ (.int .i64 ((q:Int)+1))) by
  have:=Mv.step (q':=q+1) HP.out B1.out
  push_cast at this
  exact this)
 have HGL:=qh (runOpen (M2.out.ps HP.out Hq.out).g.gl)
 clear hb C
 go_wp2_with (first
  | (refine wpList_lookup_str rfl _ _ _ rfl Tryz.underlying132 Tryz.underlying9 (HZ.out _) rfl SM.out t HY.out ?_;rw [HF.out];simp only [Option.getD_some,Option.isSome_some,F_])
  | (refine wpList_load_glob rfl _ _ rfl HGL.out ?_))
 obtain ⟨W,hW⟩:∃ W,w1.setCell ⟨E.pb,1,none⟩ (.int .i64 ((q:Int)+1))=W:=⟨_,rfl⟩
 rw [hW] at M2
 rw [hW]
 have R2:=qh (show Row3 W w.heap.size (.int .i64 0) (.string ⟨#[]⟩) (.slice none 0 0) by rw [←hW];exact R1.out.other _ (by simp only;omega))
 clear hW HGL c1 f1
 go_loopw [8,32] (fun v8 v32 wr=>∃ (i:Nat) (kk:Int),i≤20∧v32 = .int .i64 i∧v8 = .int .i64 kk∧Hid (kindF t (openL.take i)=kk)∧Hid (Below W.heap.size W wr)) (fun _ v32 _=>20 - (intOf v32).toNat)
 case atStart=>exact ⟨0,0,Nat.zero_le _,rfl,rfl,rfl,Below.refl _ _⟩
 case round =>
  obtain ⟨i,kk,hi,rfl,rfl,hrun,hbl⟩:=hrel
  by_cases hlt:i < 20
  ·have hlt':(i:Int) < 20:=by omega
   obtain ⟨s,k3,hget,hidx⟩:=indexOpen i hlt wr
   have Hidx:=qh hidx
   have Hst:=qh (kindF_step (t:=t) hget)
   unfold S_ at Hidx
   obtain ⟨xs,hxs⟩:∃ xs,(⟨s.toArray⟩:ByteArray)=xs:=⟨_,rfl⟩
   rw [hxs] at Hidx
   have Hxs:=qh hxs
   have hm1:(i:Int)+1≤20:=by omega
   clear hidx hget
   by_cases hs:s=t
   ·have HF2:=qh (Hst.out.trans (if_pos hs))
    obtain rfl:xs=y:=by rw [←hxs,←Hy.out,hs];rfl
    clear hs hxs
    go_wp2_with (refine wpList_index_run rfl _ _ _ rfl rfl rfl Hidx.out ?_)
    go_roundw
    case rel=>exact ⟨i+1,k3,hlt,by push_cast;rfl,rfl,HF2,hbl.out.alloc hbl.out.size _⟩
    case measure=>simp [intOf];omega
   ·have HF2:=qh (Hst.out.trans ((if_neg hs).trans hrun.out))
    have e1:(xs.toList==y.toList)=false:=beq_no (fun e=>hs (by
     rw [←hxs,←Hy.out] at e
     have:=congrArg (fun x:ByteArray=>x.data.toList) e
     simpa [Sx.str] using this))
    clear hs hxs
    go_wp2_with (refine wpList_index_run rfl _ _ _ rfl rfl rfl Hidx.out ?_)
    go_roundw
    case rel=>exact ⟨i+1,kk,hlt,by push_cast;rfl,rfl,HF2,hbl.out.alloc hbl.out.size _⟩
    case measure=>simp [intOf];omega
  ·have hlt':¬ ((i:Int) < 20):=by omega
   obtain rfl:i=20:=by omega
   have hkk:kk=k:=hrun.out.symm.trans HK.out
   subst hkk
   have M3:=qh (M2.out.later (hbl.out.mono M2.out.size))
   have P3:=qh (M3.out.ps HP.out Hq.out)
   have R3:=qh (R2.out.below hbl.out R2.out.lt)
   cases r with
   | bad q' =>
    go_wp2_with fail
    refine (DG.out _ P3.out).mono ?_
    rintro e w5 ⟨rfl,hm,hq5⟩
    have M5:=Mv.trans HP.out M3.out P3.out.le hm
    go_wp2
    rw [←HR.out]
    exact ⟨rfl,rfl,M5,hq5⟩
   | ok x q1 =>
    obtain ⟨k1,s1,l1⟩:=x
    go_wp2_with fail
    refine (DG.out _ P3.out).mono ?_
    rintro e w5 ⟨⟨a,cap,rfl,hn⟩,hm,hq5⟩
    have M5:=qh (Mv.trans HP.out M3.out P3.out.le hm)
    have N5:=qh (hn.from R3.out.lt)
    have R5:=qh (R3.out.mv hm (by omega))
    have Hq5:=qh hq5
    obtain ⟨⟨n0,n1,n2⟩,g0,g1,g2⟩:=R5.out.cells
    have lr:=R5.out.lt
    clear hm hn hq5
    go_wp2
    refine ret_node (R5.out.put _ _ _) Tryz.results138 rfl rfl ?_
    rw [←HR.out]
    exact ⟨⟨a,cap,rfl,N5.out.fin (Nat.le_succ _) ((Kp.refl (w.heap.size+1) w5).put3 (b:=w.heap.size) _ _ _ (by omega))⟩,M5.out.put3 (Nat.le_refl _) _ _ _,Hq5.out⟩
end Go.Proofs.YtcimcjmdkjajfaaGreatDoor
namespace Go.Proofs.YtcimcjmdkjajfaaGreatDoor
open Go.RowKit
attribute [local go_sem] fieldTok0 fieldTok1 fieldTok2
set_option maxRecDepth 100000 in
theorem fieldNode1 (k:Int) (s:ByteArray) (v:Value) (w:World):(Instr.field 24 (.agg #[.int .i64 k,.string s,v]) 1).run Tryz.prog w = .ok (.string s) w:=by rfl
attribute [local go_sem] fieldNode1
theorem lone_walk (E:PE) (q:Nat) (w:World) (h:PS E q w) (k:Int):Calls Tryz.prog 182 #[.pointer (some ⟨E.pb,0,none⟩),.int .i64 k] w (Gr E w (.ok (.mk k Sx.noS []) q)):=by
 have HP:=qh h
 obtain ⟨R,hR⟩:∃ R,Gr E w (.ok (.mk k Sx.noS []) q)=R:=⟨_,rfl⟩
 have HR:=qh hR
 rw [hR]
 clear h hR
 go_enter Tryz.func182,Tryz.ntmps182
 go_wp2
 refine ret_node (Row3.new w _ _ _) Tryz.results182 rfl rfl ?_
 rw [←HR.out]
 exact ⟨⟨none,0,rfl,.leaf _ _ _ _ (by unfold maxLen;decide) _ _⟩,Mv.below HP.out ((Below.refl _ w).alloc (Nat.le_refl _) _),HP.out.le⟩
def namedR (k:Int):Sx.PR Nd→Sx.PR Nd
 | .bad q=>.bad q
 | .ok (.mk _ s _) q=>.ok (.mk k s []) q
set_option maxRecDepth 100000 in
set_option maxHeartbeats 1000000 in
theorem named_walk (E:PE) (q:Nat) (w:World) (h:PS E q w) (k:Int):Calls Tryz.prog 179 #[.pointer (some ⟨E.pb,0,none⟩),.int .i64 k] w (Gr E w (namedR k (Sx.small E.ts q))):=by
 have HP:=qh h
 have hpl:=h.lt
 have D:=qh (fun w h=>small_gr E q w h)
 have B0:=qh ((Below.refl w.heap.size w).alloc (Nat.le_refl _) (.cells #[.int .i64 0,.string ⟨#[]⟩,.slice none 0 0] 24))
 have R0:=qh (Row3.new w (.int .i64 0) (.string ⟨#[]⟩) (.slice none 0 0))
 generalize Sx.small E.ts q=r at *
 obtain ⟨R,hR⟩:∃ R,Gr E w (namedR k r)=R:=⟨_,rfl⟩
 have HR:=qh hR
 rw [hR]
 clear h hR
 cases r with
 | bad q' =>
  go_enter Tryz.func179,Tryz.ntmps179
  go_wp2_with fail
  refine (D.out _ (HP.out.later B0.out)).mono ?_
  rintro e w1 ⟨rfl,hm,hq⟩
  go_wp2
  rw [←HR.out]
  exact ⟨rfl,rfl,Mv.before HP.out B0.out hm,hq⟩
 | ok t q1 =>
  obtain ⟨k1,s1,l1⟩:=t
  go_enter Tryz.func179,Tryz.ntmps179
  go_wp2_with fail
  refine (D.out _ (HP.out.later B0.out)).mono ?_
  rintro e w1 ⟨⟨a,cap,rfl,hn⟩,hm,hq⟩
  have M1:=qh (Mv.before HP.out B0.out hm)
  have R1:=qh (R0.out.mv hm (by omega))
  have Hq:=qh hq
  have HS:Hid (s1.size≤maxLen):=qh (by obtain ⟨k',s',l',a',c',e1,_,e3,_,h5,_⟩:=hn.form;cases e1;exact h5)
  obtain ⟨⟨n0,n1,n2⟩,g0,g1,g2⟩:=R1.out.cells
  have lr:=R1.out.lt
  clear hm hn hq D
  go_wp2
  refine ret_node (R1.out.put _ _ _) Tryz.results179 rfl rfl ?_
  rw [←HR.out]
  exact ⟨⟨none,0,rfl,.leaf _ _ _ _ HS.out _ _⟩,M1.out.put3 (Nat.le_refl _) _ _ _,Hq.out⟩
def oneR (k:Int):Sx.PR Nd→Sx.PR Nd
 | .bad q=>.bad q
 | .ok a q=>.ok (.mk k Sx.noS [a]) q
theorem NdS.one {S:Nat→Prop} {w':World} {g:Nat} {a:Nd} {u0 u1 u2:Value} {t:TypeId} (ht:w'.heap[g]?=some (.cells #[u0,u1,u2] t (0,0))) (hg:S g) (ha:NdS S w' a u0 u1 u2) (k:Int) :
  NdS S w' (.mk k Sx.noS [a]) (.int .i64 k) (.string ⟨#[]⟩) (.slice (some ⟨g,0,none⟩) 1 1):=by
 have hx:=fun j=>cell_of_row w' g j _ _ _ ht
 refine .mk k Sx.noS [a] (some ⟨g,0,none⟩) 1 g 0 (fun _=>u0) (fun _=>u1) (fun _=>u2) (by unfold maxLen;decide) (by unfold maxLen;simp) (Nat.le_refl _) (fun _=>rfl) (fun _=>hg) ?_ ?_ ?_ ?_
 ·intro i hi
  match i,hi with
  | 0,_=>exact (hx 0).trans rfl
 ·intro i hi
  match i,hi with
  | 0,_=>exact (hx 1).trans rfl
 ·intro i hi
  match i,hi with
  | 0,_=>exact (hx 2).trans rfl
 ·intro i hi
  match i,hi with
  | 0,_=>exact ha
set_option maxRecDepth 100000 in
set_option maxHeartbeats 1000000 in
theorem bang_walk (E:PE) (q:Nat) (w:World) (h:PS E q w) (k:Int) (r:Sx.PR Nd) (C:∀ w0,PS E q w0→Calls Tryz.prog 190 #[.pointer (some ⟨E.pb,0,none⟩)] w0 (Gr E w0 r)) :
  Calls Tryz.prog 180 #[.pointer (some ⟨E.pb,0,none⟩),.int .i64 k] w (Gr E w (oneR k r)):=by
 have HP:=qh h
 have hpl:=h.lt
 have D:=qh C
 have B0:=qh ((Below.refl w.heap.size w).alloc (Nat.le_refl _) (.cells #[.int .i64 0,.string ⟨#[]⟩,.slice none 0 0] 24))
 have R0:=qh (Row3.new w (.int .i64 0) (.string ⟨#[]⟩) (.slice none 0 0))
 obtain ⟨R,hR⟩:∃ R,Gr E w (oneR k r)=R:=⟨_,rfl⟩
 have HR:=qh hR
 rw [hR]
 clear h hR C
 cases r with
 | bad q' =>
  go_enter Tryz.func180,Tryz.ntmps180
  go_wp2_with fail
  refine (D.out _ (HP.out.later B0.out)).mono ?_
  rintro e w1 ⟨rfl,hm,hq⟩
  go_wp2
  rw [←HR.out]
  exact ⟨rfl,rfl,Mv.before HP.out B0.out hm,hq⟩
 | ok t q1 =>
  obtain ⟨k1,s1,l1⟩:=t
  go_enter Tryz.func180,Tryz.ntmps180
  go_wp2_with fail
  refine (D.out _ (HP.out.later B0.out)).mono ?_
  rintro e w1 ⟨⟨a,cap,rfl,hn⟩,hm,hq⟩
  have M1:=qh (Mv.before HP.out B0.out hm)
  have R1:=qh (R0.out.mv hm (by omega))
  have N1:=qh hn
  have Hq:=qh hq
  obtain ⟨⟨n0,n1,n2⟩,g0,g1,g2⟩:=R1.out.cells
  have lr:=R1.out.lt
  clear hm hn hq D
  go_wp2
  refine ret_node ((R1.out.put _ _ _).alloc _) Tryz.results180 rfl rfl ?_
  rw [←HR.out]
  refine ⟨⟨some ⟨w1.heap.size,0,none⟩,1,rfl,NdS.one (alloc_at (by simp only [setCell_size])) (by show w.heap.size≤w1.heap.size;omega) (N1.out.fin (by simp) (((Kp.refl _ w1).put3 (b:=w.heap.size) _ _ _ (by simp)).alloc _)) k⟩,(M1.out.put3 (Nat.le_refl _) _ _ _).alloc _,Hq.out⟩
set_option maxRecDepth 100000 in
set_option maxHeartbeats 1000000 in
theorem monad_walk (E:PE) (q:Nat) (w:World) (h:PS E q w) (k:Int) (r:Sx.PR Nd) (C:∀ w0,PS E q w0→Calls Tryz.prog 95 #[.pointer (some ⟨E.pb,0,none⟩)] w0 (Gr E w0 r)) :
  Calls Tryz.prog 183 #[.pointer (some ⟨E.pb,0,none⟩),.int .i64 k] w (Gr E w (oneR k (needR E [125] r))):=by
 have HP:=qh h
 have hpl:=h.lt
 have D:=qh C
 have B0:=qh ((Below.refl w.heap.size w).alloc (Nat.le_refl _) (.cells #[.int .i64 0,.string ⟨#[]⟩,.slice none 0 0] 24))
 have R0:=qh (Row3.new w (.int .i64 0) (.string ⟨#[]⟩) (.slice none 0 0))
 obtain ⟨R,hR⟩:∃ R,Gr E w (oneR k (needR E [125] r))=R:=⟨_,rfl⟩
 clear h C
 cases r with
 | bad q' =>
  have HR:Hid (Gr E w (.bad q')=R):=qh hR
  rw [hR]
  clear hR
  go_enter Tryz.func183,Tryz.ntmps183
  go_wp2_with fail
  refine (D.out _ (HP.out.later B0.out)).mono ?_
  rintro e w1 ⟨rfl,hm,hq⟩
  go_wp2
  rw [←HR.out]
  exact ⟨rfl,rfl,Mv.before HP.out B0.out hm,hq⟩
 | ok t q1 =>
  obtain ⟨k1,s1,l1⟩:=t
  by_cases hc:Sx.txt E.ts q1=[125]
  ·have HR:Hid (Gr E w (.ok (.mk k Sx.noS [.mk k1 s1 l1]) (q1+1))=R):=qh (by rw [←hR];simp only [needR];rw [if_pos hc];rfl)
   have NY:=qh (fun w h=>need_yes E q1 ⟨#[125]⟩ w h hc (by decide))
   have hlt:=Sx.txt_at hc
   rw [hR]
   clear hR hc
   go_enter Tryz.func183,Tryz.ntmps183
   go_wp2_with fail
   refine (D.out _ (HP.out.later B0.out)).mono ?_
   rintro e w1 ⟨⟨a,cap,rfl,hn⟩,hm,hq⟩
   obtain ⟨W,hW⟩:∃ W,(w1.alloc (.cells #[.int .i64 k1,.string s1,.slice a l1.length cap] 24)).alloc (.cells #[.int .i64 k,.string ⟨#[]⟩,.slice (some ⟨w1.heap.size,0,none⟩) 1 1] 24)=W:=⟨_,rfl⟩
   have M1:=qh (show Mv E q1 w W by rw [←hW];exact ((Mv.before HP.out B0.out hm).alloc _).alloc _)
   have R1:=qh (show Row3 W w.heap.size (.int .i64 0) (.string ⟨#[]⟩) (.slice none 0 0) by rw [←hW];exact ((R0.out.mv hm (by omega)).alloc _).alloc _)
   have X1:=qh (show Row3 W (w1.heap.size+1) (.int .i64 k) (.string ⟨#[]⟩) (.slice (some ⟨w1.heap.size,0,none⟩) 1 1) by rw [←hW];exact Row3.newAt (by simp))
   have G1:∃ t,W.heap[w1.heap.size]?=some (.cells #[.int .i64 k1,.string s1,.slice a l1.length cap] t (0,0)):=⟨_,by rw [←hW];exact (Below.heap_alloc _ _ _ (by simp)).trans (World.alloc_heap_new _ _)⟩
   have N1:=qh (show NdS (fun b=>w.heap.size < b∧b≠w1.heap.size+1) W (.mk k1 s1 l1) _ _ _ by rw [←hW];exact hn.keep fun b h1 h2=>⟨(Below.heap_alloc _ _ _ (by simp;omega)).trans (Below.heap_alloc _ _ _ h2),by simp at h1;omega,by omega⟩)
   have P1:=qh (M1.out.ps HP.out hq)
   have Hq:=qh hq
   have hw1:w.heap.size < w1.heap.size:=(R0.out.mv hm (by omega)).lt
   have HG1:=qh G1
   clear hm hn hq D G1
   go_wp2_with fail
   (try rw [hW])
   clear hW
   refine (NY.out _ P1.out).mono ?_
   rintro e w2 ⟨rfl,hm2,hp2⟩
   have M2:=qh (Mv.trans HP.out M1.out Hq.out hm2)
   have R2:=qh (R1.out.mv hm2 (by omega))
   have X2:=qh (X1.out.mv hm2 (by omega))
   obtain ⟨⟨n0,n1,n2⟩,g0,g1,g2⟩:=R2.out.cells
   obtain ⟨⟨x0,x1,x2⟩,_⟩:=X2.out.cells
   have lx:=X2.out.lt
   have lr:=R2.out.lt
   have ll:w.heap.size≠w1.heap.size+1:=by omega
   obtain ⟨V,hV⟩:∃ V,((w2.setCell ⟨w.heap.size,0,none⟩ (.int .i64 k)).setCell ⟨w.heap.size,1,none⟩ (.string ⟨#[]⟩)).setCell ⟨w.heap.size,2,none⟩ (.slice (some ⟨w1.heap.size,0,none⟩) 1 1)=V:=⟨_,rfl⟩
   have hkv:∀ b,w.heap.size < b→b < W.heap.size→V.heap[b]?=W.heap[b]?:=fun b h1 h2=>by
    rw [←hV]
    exact (((Kp.refl (w.heap.size+1) w2).put3 (b:=w.heap.size) _ _ _ (by omega)).blk b (by omega) (Nat.lt_of_lt_of_le h2 hm2.size)).trans (hm2.blk b h2 (by omega))
   have NF:=qh (show NdS (fun b=>w.heap.size≤b) V (.mk k Sx.noS [.mk k1 s1 l1]) (.int .i64 k) (.string ⟨#[]⟩) (.slice (some ⟨w1.heap.size,0,none⟩) 1 1) by
    obtain ⟨t,ht⟩:=HG1.out
    exact NdS.one ((hkv _ hw1 (heap_lt ht)).trans ht) (Nat.le_of_lt hw1) (N1.out.keep fun b h1 h2=>⟨hkv b h1.1 h2,Nat.le_of_lt h1.1⟩) k)
   have MF:=qh (show Mv E (q1+1) w V by rw [←hV];exact M2.out.put3 (Nat.le_refl _) _ _ _)
   have RF:=qh (show Row3 V w.heap.size (.int .i64 k) (.string ⟨#[]⟩) (.slice (some ⟨w1.heap.size,0,none⟩) 1 1) by rw [←hV];exact R2.out.put _ _ _)
   clear hm2 hp2 hkv
   go_wp2
   try rw [hV]
   refine ret_node RF.out Tryz.results183 rfl rfl ?_
   rw [←HR.out]
   exact ⟨⟨_,_,rfl,NF.out⟩,MF.out,hlt⟩
  ·have HR:Hid (Gr E w (.bad q1)=R):=qh (by rw [←hR];simp only [needR];rw [if_neg hc];rfl)
   have NN:=qh (fun w h=>need_no E q1 ⟨#[125]⟩ w h hc)
   rw [hR]
   clear hR hc
   go_enter Tryz.func183,Tryz.ntmps183
   go_wp2_with fail
   refine (D.out _ (HP.out.later B0.out)).mono ?_
   rintro e w1 ⟨⟨a,cap,rfl,hn⟩,hm,hq⟩
   obtain ⟨W,hW⟩:∃ W,(w1.alloc (.cells #[.int .i64 k1,.string s1,.slice a l1.length cap] 24)).alloc (.cells #[.int .i64 k,.string ⟨#[]⟩,.slice (some ⟨w1.heap.size,0,none⟩) 1 1] 24)=W:=⟨_,rfl⟩
   have M1:=qh (show Mv E q1 w W by rw [←hW];exact ((Mv.before HP.out B0.out hm).alloc _).alloc _)
   have P1:=qh (M1.out.ps HP.out hq)
   have Hq:=qh hq
   clear hm hn hq D
   go_wp2_with fail
   (try rw [hW])
   clear hW
   refine (NN.out _ P1.out).mono ?_
   rintro e w2 ⟨rfl,hb2⟩
   have M2:=M1.out.later (hb2.mono M1.out.size)
   go_wp2
   rw [←HR.out]
   exact ⟨rfl,rfl,M2,Hq.out⟩
end Go.Proofs.YtcimcjmdkjajfaaGreatDoor
namespace Go.Proofs.YtcimcjmdkjajfaaGreatDoor
open Go.RowKit
attribute [local go_sem] fieldTok0 fieldTok1 fieldTok2
theorem egBang:∀ args w,(callFunc 180 args).run Tryz.prog w = .ok (.enter 180 args) w:=enters_of Tryz.func180 (by kernel_rfl) rfl
theorem egQuant:∀ args w,(callFunc 181 args).run Tryz.prog w = .ok (.enter 181 args) w:=enters_of Tryz.func181 (by kernel_rfl) rfl
theorem egLone:∀ args w,(callFunc 182 args).run Tryz.prog w = .ok (.enter 182 args) w:=enters_of Tryz.func182 (by kernel_rfl) rfl
theorem egMonad:∀ args w,(callFunc 183 args).run Tryz.prog w = .ok (.enter 183 args) w:=enters_of Tryz.func183 (by kernel_rfl) rfl
theorem egGroup:∀ args w,(callFunc 184 args).run Tryz.prog w = .ok (.enter 184 args) w:=enters_of Tryz.func184 (by kernel_rfl) rfl
set_option maxRecDepth 100000 in
set_option maxHeartbeats 1000000 in
theorem part_name (E:PE) (q:Nat) (w:World) (h:PS E q w) (hk:Sx.knd E.ts q=1) (r:Sx.PR Nd) (CA:∀ w0,PS E q w0→Calls Tryz.prog 146 #[.pointer (some ⟨E.pb,0,none⟩)] w0 (Gr E w0 r)) :
  Calls Tryz.prog 190 #[.pointer (some ⟨E.pb,0,none⟩)] w (Gr E w r):=by
 have HP:=qh h
 have hpl:=h.lt
 have C:=qh (fun w h=>peek_any E q w h)
 unfold tokF at C
 rw [hk] at C
 have C':Hid (∀ w,PS E q w→Calls Tryz.prog 185 #[.pointer (some ⟨E.pb,0,none⟩)] w fun e w'=>e = .returned (.agg #[.int .i64 1,.string (Sx.str (Sx.txt E.ts q)),.int .i64 (E.pos q:Nat)])∧Below w.heap.size w w'):=C
 have D:=qh CA
 have B0:=qh ((Below.refl w.heap.size w).alloc (Nat.le_refl _) (.cells #[.int .i64 0,.string ⟨#[]⟩,.slice none 0 0] 24))
 have R0:=qh (Row3.new w (.int .i64 0) (.string ⟨#[]⟩) (.slice none 0 0))
 obtain ⟨R,hR⟩:∃ R,Gr E w r=R:=⟨_,rfl⟩
 have HR:=qh hR
 rw [hR]
 clear h hR CA hk C
 go_enter Tryz.func190,Tryz.ntmps190
 go_wp2_with fail
 refine (C'.out _ (HP.out.later B0.out)).mono ?_
 rintro e w1 ⟨rfl,hb⟩
 have B1:=qh (B0.out.trans (hb.mono B0.out.size))
 have P1:=qh (HP.out.later B1.out)
 have R1:=qh (R0.out.below hb (by simp))
 clear hb C'
 cases r with
 | bad q' =>
  go_wp2_with fail
  refine (D.out _ P1.out).mono ?_
  rintro e w5 ⟨rfl,hm,hq⟩
  go_wp2
  rw [←HR.out]
  exact ⟨rfl,rfl,Mv.before HP.out B1.out hm,hq⟩
 | ok x q1 =>
  obtain ⟨k1,s1,l1⟩:=x
  go_wp2_with fail
  refine (D.out _ P1.out).mono ?_
  rintro e w5 ⟨⟨a,cap,rfl,hn⟩,hm,hq⟩
  have M5:=qh (Mv.before HP.out B1.out hm)
  have N5:=qh (hn.from R1.out.lt)
  have R5:=qh (R1.out.mv hm (by omega))
  have Hq5:=qh hq
  obtain ⟨⟨n0,n1,n2⟩,g0,g1,g2⟩:=R5.out.cells
  have lr:=R5.out.lt
  clear hm hn hq
  go_wp2
  refine ret_node (R5.out.put _ _ _) Tryz.results190 rfl rfl ?_
  rw [←HR.out]
  exact ⟨⟨a,cap,rfl,N5.out.fin (Nat.le_succ _) ((Kp.refl (w.heap.size+1) w5).put3 (b:=w.heap.size) _ _ _ (by omega))⟩,M5.out.put3 (Nat.le_refl _) _ _ _,Hq5.out⟩
set_option maxRecDepth 100000 in
set_option maxHeartbeats 1000000 in
theorem part_open (E:PE) (q:Nat) (w:World) (h:PS E q w) (hk:Sx.knd E.ts q≠1) (r:Sx.PR Nd) (CA:∀ w0,PS E q w0→Calls Tryz.prog 138 #[.pointer (some ⟨E.pb,0,none⟩),.map (some E.mp)] w0 (Gr E w0 r)) :
  Calls Tryz.prog 190 #[.pointer (some ⟨E.pb,0,none⟩)] w (Gr E w r):=by
 have HP:=qh h
 have hpl:=h.lt
 have C:=qh (fun w h=>peek_any E q w h)
 unfold tokF at C
 have e1:(((Sx.knd E.ts q:Nat):Int)==1)=false:=by rw [beq_eq_false_iff_ne];omega
 obtain ⟨k,hk2⟩:∃ k,((Sx.knd E.ts q:Nat):Int)=k:=⟨_,rfl⟩
 rw [hk2] at C e1
 have D:=qh CA
 have B0:=qh ((Below.refl w.heap.size w).alloc (Nat.le_refl _) (.cells #[.int .i64 0,.string ⟨#[]⟩,.slice none 0 0] 24))
 have R0:=qh (Row3.new w (.int .i64 0) (.string ⟨#[]⟩) (.slice none 0 0))
 obtain ⟨R,hR⟩:∃ R,Gr E w r=R:=⟨_,rfl⟩
 have HR:=qh hR
 rw [hR]
 clear h hR CA hk hk2
 go_enter Tryz.func190,Tryz.ntmps190
 go_wp2_with fail
 refine (C.out _ (HP.out.later B0.out)).mono ?_
 rintro e w1 ⟨rfl,hb⟩
 have B1:=qh (B0.out.trans (hb.mono B0.out.size))
 have P1:=qh (HP.out.later B1.out)
 have R1:=qh (R0.out.below hb (by simp))
 obtain ⟨_,_,_,_,c4⟩:=P1.out.cells
 clear hb C
 cases r with
 | bad q' =>
  go_wp2_with fail
  refine (D.out _ P1.out).mono ?_
  rintro e w5 ⟨rfl,hm,hq⟩
  go_wp2
  rw [←HR.out]
  exact ⟨rfl,rfl,Mv.before HP.out B1.out hm,hq⟩
 | ok x q1 =>
  obtain ⟨k1,s1,l1⟩:=x
  go_wp2_with fail
  refine (D.out _ P1.out).mono ?_
  rintro e w5 ⟨⟨a,cap,rfl,hn⟩,hm,hq⟩
  have M5:=qh (Mv.before HP.out B1.out hm)
  have N5:=qh (hn.from R1.out.lt)
  have R5:=qh (R1.out.mv hm (by omega))
  have Hq5:=qh hq
  obtain ⟨⟨n0,n1,n2⟩,g0,g1,g2⟩:=R5.out.cells
  have lr:=R5.out.lt
  clear hm hn hq c4
  go_wp2
  refine ret_node (R5.out.put _ _ _) Tryz.results190 rfl rfl ?_
  rw [←HR.out]
  exact ⟨⟨a,cap,rfl,N5.out.fin (Nat.le_succ _) ((Kp.refl (w.heap.size+1) w5).put3 (b:=w.heap.size) _ _ _ (by omega))⟩,M5.out.put3 (Nat.le_refl _) _ _ _,Hq5.out⟩
theorem parts_none {t:Lx.Bs} (h1:t≠[33]) (h2:t≠[97,108,108]) (h3:t≠[101,120]) (h4:t≠[111,110,101]) (h5:t≠[116,111,112]) (h6:t≠[123]) (h7:t≠[40]):found partsL t=none:=by
 unfold found partsL
 have f:∀ s:List UInt8,t≠s→(s==t)=false:=fun s h=>by rw [beq_eq_false_iff_ne];exact fun e=>h e.symm
 simp [f _ h1,f _ h2,f _ h3,f _ h4,f _ h5,f _ h6,f _ h7]
theorem part_any (E:PE) (hsn:SaneT E.ts) (f:Nat)
  (ihp:∀ q w,PS E q w→16*(E.ts.length - q)+4≤f→Calls Tryz.prog 190 #[.pointer (some ⟨E.pb,0,none⟩)] w (Gr E w (Sx.part E.ts f q)))
  (ihf:∀ q w,PS E q w→16*(E.ts.length - q)+10≤f→Calls Tryz.prog 95 #[.pointer (some ⟨E.pb,0,none⟩)] w (Gr E w (Sx.form E.ts f q)))
  (q:Nat) (w:World) (h:PS E q w) (hf:16*(E.ts.length - q)+4≤f+1):Calls Tryz.prog 190 #[.pointer (some ⟨E.pb,0,none⟩)] w (Gr E w (Sx.part E.ts (f+1) q)):=by
 by_cases hk:Sx.knd E.ts q=1
 ·have e:Sx.part E.ts (f+1) q=Sx.applied E.ts f q:=by simp only [Sx.part];rw [if_pos hk]
  rw [e]
  exact part_name E q w h hk _ fun w0 h0=>applied_any E hsn f q w0 h0 (by omega)
 refine part_open E q w h hk _ fun w0 h0=>?_
 have HM:∀ W,PS E q W→StrMap W E.mp partsL:=fun W hW=>hW.g.mp
 by_cases h1:Sx.txt E.ts q=[33]
 ·have hq:=Sx.txt_at h1
  have e:Sx.part E.ts (f+1) q=oneR 29 (Sx.part E.ts f (q+1)):=by
   simp only [Sx.part]
   rw [if_neg hk,if_pos h1]
   cases Sx.part E.ts f (q+1) <;> rfl
  rw [e]
  exact opened_walk E q w0 h0 E.mp partsL HM _ egBang (by rw [h1];rfl) hq 29 (by rw [h1];rfl) _ fun w1 h2=>bang_walk E (q+1) w1 h2 29 _ fun w2 h3=>ihp (q+1) w2 h3 (by omega)
 by_cases h2:Sx.txt E.ts q=[97,108,108]
 ·have hq:=Sx.txt_at h2
  have e:Sx.part E.ts (f+1) q=Sx.binder (Sx.typed E.ts f) (Sx.form E.ts f) E.ts 18 (q+1):=by
   simp only [Sx.part]
   rw [if_neg hk,if_neg h1,if_pos h2]
  rw [e]
  exact opened_walk E q w0 h0 E.mp partsL HM _ egQuant (by rw [h2];rfl) hq 18 (by rw [h2];rfl) _ fun w1 h3=>quant_wrap E (q+1) w1 h3 _ 18 fun w2 h4=>binder_any E (q+1) w2 h4 18 _ egForm _ _ (Sx.typed_goes E.ts f).1 (fun p w3 hp h5=>typed_any E f p w3 h5 (by omega)) (fun p w3 hp h5=>ihf p w3 h5 (by omega))
 by_cases h3:Sx.txt E.ts q=[101,120]
 ·have hq:=Sx.txt_at h3
  have e:Sx.part E.ts (f+1) q=Sx.binder (Sx.typed E.ts f) (Sx.form E.ts f) E.ts 19 (q+1):=by
   simp only [Sx.part]
   rw [if_neg hk,if_neg h1,if_neg h2,if_pos h3]
  rw [e]
  exact opened_walk E q w0 h0 E.mp partsL HM _ egQuant (by rw [h3];rfl) hq 19 (by rw [h3];rfl) _ fun w1 h4=>quant_wrap E (q+1) w1 h4 _ 19 fun w2 h4=>binder_any E (q+1) w2 h4 19 _ egForm _ _ (Sx.typed_goes E.ts f).1 (fun p w3 hp h5=>typed_any E f p w3 h5 (by omega)) (fun p w3 hp h5=>ihf p w3 h5 (by omega))
 by_cases h4:Sx.txt E.ts q=[111,110,101]
 ·have hq:=Sx.txt_at h4
  have e:Sx.part E.ts (f+1) q = .ok (.mk 20 Sx.noS []) (q+1):=by
   simp only [Sx.part]
   rw [if_neg hk,if_neg h1,if_neg h2,if_neg h3,if_pos h4]
  rw [e]
  exact opened_walk E q w0 h0 E.mp partsL HM _ egLone (by rw [h4];rfl) hq 20 (by rw [h4];rfl) _ fun w1 h5=>lone_walk E (q+1) w1 h5 20
 by_cases h5:Sx.txt E.ts q=[116,111,112]
 ·have hq:=Sx.txt_at h5
  have e:Sx.part E.ts (f+1) q = .ok (.mk 21 Sx.noS []) (q+1):=by
   simp only [Sx.part]
   rw [if_neg hk,if_neg h1,if_neg h2,if_neg h3,if_neg h4,if_pos h5]
  rw [e]
  exact opened_walk E q w0 h0 E.mp partsL HM _ egLone (by rw [h5];rfl) hq 21 (by rw [h5];rfl) _ fun w1 h6=>lone_walk E (q+1) w1 h6 21
 by_cases h6:Sx.txt E.ts q=[123]
 ·have hq:=Sx.txt_at h6
  have e:Sx.part E.ts (f+1) q=oneR 30 (needR E [125] (Sx.form E.ts f (q+1))):=by
   simp only [Sx.part]
   rw [if_neg hk,if_neg h1,if_neg h2,if_neg h3,if_neg h4,if_neg h5,if_pos h6]
   cases Sx.form E.ts f (q+1) with
   | bad _=>rfl
   | ok a q1 =>
    simp only [needR]
    by_cases hc:Sx.txt E.ts q1=[125]
    ·rw [if_pos hc,if_pos hc];rfl
    ·rw [if_neg hc,if_neg hc];rfl
  rw [e]
  exact opened_walk E q w0 h0 E.mp partsL HM _ egMonad (by rw [h6];rfl) hq 30 (by rw [h6];rfl) _ fun w1 h7=>monad_walk E (q+1) w1 h7 30 _ fun w2 h8=>ihf (q+1) w2 h8 (by omega)
 by_cases h7:Sx.txt E.ts q=[40]
 ·have hq:=Sx.txt_at h7
  have e:Sx.part E.ts (f+1) q=needR E [41] (Sx.form E.ts f (q+1)):=by
   simp only [Sx.part]
   rw [if_neg hk,if_neg h1,if_neg h2,if_neg h3,if_neg h4,if_neg h5,if_neg h6,if_pos h7]
   cases Sx.form E.ts f (q+1) <;> rfl
  rw [e]
  exact opened_walk E q w0 h0 E.mp partsL HM _ egGroup (by rw [h7];rfl) hq 0 (by rw [h7];rfl) _ fun w1 h8=>group_walk E (q+1) w1 h8 0 _ fun w2 h9=>ihf (q+1) w2 h9 (by omega)
 have e:Sx.part E.ts (f+1) q = .bad q:=by
  simp only [Sx.part]
  rw [if_neg hk,if_neg h1,if_neg h2,if_neg h3,if_neg h4,if_neg h5,if_neg h6,if_neg h7]
 rw [e]
 refine (opened_none E q w0 h0 E.mp partsL HM (parts_none h1 h2 h3 h4 h5 h6 h7)).mono ?_
 rintro e w' ⟨rfl,hb⟩
 exact ⟨rfl,Mv.below h0 hb,h0.le⟩
theorem infR_right (E:PE) (f b q:Nat) (hb:b≤4):infR E b (Sx.right E.ts f (b+1) q) (Sx.right E.ts f b)=Sx.right E.ts (f+1) b q:=by
 simp only [infR,Sx.right]
 rw [if_neg (by omega)]
 cases Sx.right E.ts f (b+1) q with
 | bad q'=>rfl
 | ok a q' =>
  simp only [opFind_sgn E.ts q' b hb]
  all_goals (cases Sx.sgn E.ts b q' with
   | none=>rfl
   | some k=>cases Sx.right E.ts f b (q'+1) <;> rfl)
theorem forms_all (E:PE) (hsn:SaneT E.ts) (f:Nat) :
  (∀ q w,PS E q w→16*(E.ts.length - q)+4≤f→Calls Tryz.prog 190 #[.pointer (some ⟨E.pb,0,none⟩)] w (Gr E w (Sx.part E.ts f q))) ∧
  (∀ b q w,1≤b→b≤5→PS E q w→16*(E.ts.length - q)+(10 - b)≤f→Calls Tryz.prog 141 #[.pointer (some ⟨E.pb,0,none⟩),.int .i64 (b:Nat)] w (Gr E w (Sx.right E.ts f b q))) ∧
  (∀ q w,PS E q w→16*(E.ts.length - q)+10≤f→Calls Tryz.prog 95 #[.pointer (some ⟨E.pb,0,none⟩)] w (Gr E w (Sx.form E.ts f q))):=by
 induction f using Nat.strongRecOn with
 | _ f ih =>
  cases f with
  | zero=>exact ⟨fun q w _ h=>by omega,fun b q w _ _ _ h=>by omega,fun q w _ h=>by omega⟩
  | succ f =>
   obtain ⟨ih1,ih2,ih3⟩:=ih f (by omega)
   refine ⟨fun q w h hf=>part_any E hsn f ih1 ih3 q w h hf,fun b q w hb1 hb5 h hf=>?_,fun q w h hf=>?_⟩
   ·by_cases hb:b=5
    ·subst hb
     have e:Sx.right E.ts (f+1) 5 q=Sx.part E.ts f q:=by simp only [Sx.right];rw [if_pos (by omega)]
     rw [e]
     exact infix5 E q w h _ fun w0 h0=>ih1 q w0 h0 (by omega)
    ·rw [←infR_right E f b q (by omega)]
     refine infix_walk E q b w h (by omega) hb _ _ (fun w0 h0=>?_) (fun q1 a e hq w0 h0=>?_)
     ·have:=ih2 (b+1) q w0 (by omega) (by omega) h0 (by omega)
      push_cast at this
      exact this
     ·have:=(Sx.form_goes E.ts f).2.1 (b+1) q a q1 e
      exact ih2 b (q1+1) w0 hb1 hb5 h0 (by omega)
   ·simp only [Sx.form]
    have C1:=fun w0 (h0:PS E q w0)=>ih2 1 q w0 (by omega) (by omega) h0 (by omega)
    cases hr:Sx.right E.ts f 1 q with
    | bad q' =>
     rw [hr] at C1
     exact form_bad E q w h q' C1
    | ok a q1 =>
     rw [hr] at C1
     have hgo:=(Sx.form_goes E.ts f).2.1 1 q a q1 hr
     obtain ⟨k0,s0,l0⟩:=a
     exact form_walk E q w h f k0 s0 l0 q1 hgo.1 (by omega) C1 fun f1 p w0 hf1 hp hm h0=>(ih f1 (by omega)).2.1 1 p w0 (by omega) (by omega) h0 (by omega)
theorem form_any (E:PE) (hsn:SaneT E.ts) (f q:Nat) (w:World) (h:PS E q w) (hf:16*(E.ts.length - q)+10≤f):Calls Tryz.prog 95 #[.pointer (some ⟨E.pb,0,none⟩)] w (Gr E w (Sx.form E.ts f q)) :=
 (forms_all E hsn f).2.2 q w h hf
end Go.Proofs.YtcimcjmdkjajfaaGreatDoor
namespace Go.Proofs.YtcimcjmdkjajfaaGreatDoor
open Go.RowKit
attribute [local go_sem] fieldTok0 fieldTok1 fieldTok2
def GrK (E:PE) (w:World) (k:Int) (s:ByteArray) (r:Sx.PR (List Nd)) (e:Ending) (w':World):Prop :=
 match r with
 | .ok l q=>(∃ v,e = .returned (.agg #[.int .i64 k,.string s,v])∧Kids w.heap.size w' v l)∧Mv E q w w'∧q≤E.ts.length∧l.length≤q
 | .bad q=>e = .panicked [{ v:=misfit E q,recovered:=false }]∧Mv E q w w'∧q≤E.ts.length
theorem GrK.gr {E:PE} {w:World} {k:Int} {s:ByteArray} {r:Sx.PR (List Nd)} {e:Ending} {w':World} (hs:s.size≤maxLen) (hf:E.ts.length≤6000) (h:GrK E w k s r e w'):Gr E w (appR k s r) e w':=by
 cases r with
 | bad q=>exact h
 | ok l q =>
  obtain ⟨⟨v,rfl,hk⟩,hm,hq,hl⟩:=h
  obtain ⟨a,cap,rfl,_⟩:=hk.shape
  exact ⟨⟨a,cap,rfl,hk.node k s hs (by unfold maxLen;omega)⟩,hm,hq⟩
def namesL (ts:List Lx.Tok) (f:Nat) (acc:List Nd) (p:Nat):Sx.PR (List Nd) :=
 match Sx.small ts p with
 | .bad q=>.bad q
 | .ok a q=>Sx.namesR ts f (acc++[a]) q
theorem namesL_bad {ts:List Lx.Tok} {f:Nat} {acc:List Nd} {p q:Nat} (h:Sx.small ts p = .bad q):namesL ts f acc p = .bad q:=by unfold namesL;rw [h]
theorem namesL_ok {ts:List Lx.Tok} {f:Nat} {acc:List Nd} {p q:Nat} {a:Nd} (h:Sx.small ts p = .ok a q):namesL ts f acc p=Sx.namesR ts f (acc++[a]) q:=by unfold namesL;rw [h]
theorem namesR_go {ts:List Lx.Tok} {f:Nat} {acc:List Nd} {p:Nat} (h:Sx.txt ts p=[44]):Sx.namesR ts (f+1) acc p=namesL ts f acc (p+1):=by simp only [Sx.namesR,namesL];rw [if_pos h];cases Sx.small ts (p+1) <;> rfl
theorem namesR_end {ts:List Lx.Tok} {f:Nat} {acc:List Nd} {p:Nat} (h:Sx.txt ts p≠[44]):Sx.namesR ts (f+1) acc p = .ok acc p:=by simp only [Sx.namesR];rw [if_neg h]
set_option maxRecDepth 100000 in
set_option maxHeartbeats 4000000 in
theorem names_walk (E:PE) (q:Nat) (w:World) (h:PS E q w) (k:Int) (f:Nat) (hf:16*(E.ts.length - q)+1≤f) :
  Calls Tryz.prog 174 #[.pointer (some ⟨E.pb,0,none⟩),.int .i64 k] w (GrK E w k Sx.noS (Sx.names E.ts f q)):=by
 have HP:=qh h
 have hpl:=h.lt
 have hfew:=h.g.few
 have Hf:=qh hf
 have D:=qh (fun p w h=>small_gr E p w h)
 have B0:=qh ((Below.refl w.heap.size w).alloc (Nat.le_refl _) (.cells #[.int .i64 0,.string ⟨#[]⟩,.slice none 0 0] 24))
 obtain ⟨A,hA⟩:∃ A,Sx.names E.ts f q=A:=⟨_,rfl⟩
 have HA:Hid (namesL E.ts f [] q=A):=qh (by rw [←hA];rfl)
 obtain ⟨R,hR⟩:∃ R,GrK E w k Sx.noS A=R:=⟨_,rfl⟩
 have HR:=qh hR
 rw [hA,hR]
 have HPP:=qh h
 clear h hA hR hf
 go_enter Tryz.func174,Tryz.ntmps174
 go_wp2_with fail
 obtain ⟨W0,hW0⟩:∃ W,(w.alloc (.cells #[.int .i64 0,.string ⟨#[]⟩,.slice none 0 0] 24)).alloc (.cells #[.int .i64 k,.string ⟨#[]⟩,.slice none 0 0] 24)=W:=⟨_,rfl⟩
 have M0:=qh (show Mv E q w W0 by rw [←hW0];exact Mv.below HPP.out (B0.out.alloc (by simp) _))
 have P0:=qh (M0.out.ps HPP.out HPP.out.le)
 have R0:=qh (show Row3 W0 w.heap.size (.int .i64 0) (.string ⟨#[]⟩) (.slice none 0 0) by rw [←hW0];exact (Row3.new w _ _ _).alloc _)
 have N0:=qh (show Row3 W0 (w.heap.size+1) (.int .i64 k) (.string ⟨#[]⟩) (.slice none 0 0) by rw [←hW0];exact Row3.newAt (by simp))
 have z0:w.heap.size+1+1≤W0.heap.size:=by rw [←hW0];simp
 have Hz0:=qh z0
 rw [hW0]
 clear hW0 z0
 go_loopw [] (fun W=>∃ (f1 p:Nat) (acc:List Nd) (v:Value),q≤p∧16*(E.ts.length - p)+1≤f1∧acc.length≤p∧Hid (namesL E.ts f1 acc p=A)∧Hid (Mv E p w W)∧Hid (PS E p W)∧Hid (Row3 W w.heap.size (.int .i64 0) (.string ⟨#[]⟩) (.slice none 0 0))∧Hid (Row3 W (w.heap.size+1) (.int .i64 k) (.string ⟨#[]⟩) v)∧Hid (Kids (w.heap.size+1+1) W v acc)∧Hid (w.heap.size+1+1≤W.heap.size)) (fun W=>E.ts.length+1 - nxt E W)
 case atStart =>
  exact ⟨f,q,[],.slice none 0 0,Nat.le_refl _,Hf.out,Nat.zero_le _,HA,M0,P0,R0,N0,Kids.nil _ _,Hz0⟩
 case round =>
  obtain ⟨f1,p,acc,v,hqp,hf1,hacc,hrun,hM,hP,hRw,hN,hK,hz⟩:=hrel
  clear M0 P0 R0 N0 Hz0 HA
  obtain ⟨va,vcap,rfl,_⟩:=hK.out.shape
  have hple:=hP.out.le
  have hnl:=hN.out.lt
  have Hmeas:=qh hP.out.nxt
  obtain ⟨⟨n0,n1,n2⟩,g0,g1,g2⟩:=hN.out.cells
  have DB:=qh (D.out p)
  cases hs:Sx.small E.ts p with
  | bad qb =>
   have HA':=qh (hrun.out.symm.trans (namesL_bad hs))
   rw [hs] at DB
   have F:Hid (∀ w5,Mv E qb wr.drew w5→qb≤E.ts.length→R (.panicked [{ v:=misfit E qb,recovered:=false }]) w5):=qh fun w5 hm5 hq5=>by
    rw [←HR.out,HA'.out]
    exact ⟨rfl,Mv.trans HP.out (hM.out.later (below_drewN (Below.refl _ _) 1)) hple hm5,hq5⟩
   clear hs D hrun
   go_wp2_with fail
   go_region_dies
   all_goals refine (DB.out _ (hP.out.later (Below.refl _ _).drew)).mono ?_
   all_goals rintro e w5 ⟨rfl,hm5,hq5⟩
   all_goals exact ⟨rfl,F.out w5 hm5 hq5⟩
  | ok x p1 =>
   obtain ⟨k2,s2,l2⟩:=x
   obtain ⟨hp1,hp1l,hlf,_⟩:=Sx.small_ok hs
   have hrun2:=qh ((namesL_ok hs).symm.trans hrun.out)
   rw [hs] at DB
   have Hp1:=qh (And.intro hp1 hp1l)
   obtain ⟨f2,hf2⟩:∃ f2,f1=f2+1:=⟨f1 - 1,by omega⟩
   have hlt:p < E.ts.length:=by omega
   clear hs D hrun hlf hp1 hp1l
   go_wp2_with fail
   go_region_law (first
    | (go_simp;go_at_call 212;refine (DB.out _ (hP.out.later (Below.refl _ _).drew)).mono ?_;rintro e w5 ⟨⟨a5,cap5,rfl,hn5⟩,hm5,hq5⟩;have hm5':=Mv.before hP.out (Below.refl _ _).drew hm5;have N5:=qh (hN.out.mv hm5' (by omega));have R5:=qh (hRw.out.mv hm5' (by omega));have K5:=qh (Kids.step hm5' (by omega) hK.out);have hz5:w.heap.size+1+1≤w5.heap.size:=Nat.le_trans hz.out hm5'.size;obtain ⟨⟨c0,c1,c2⟩,y0,y1,y2⟩:=N5.out.cells;have l5:=N5.out.lt)
    | (refine step_append_kid rfl _ _ rfl (w.heap.size+1+1) (.slice va acc.length vcap) acc rfl (Kids.keep K5.out fun b _ hb2=>Below.heap_alloc _ _ _ hb2) ⟨w5.heap.size,0,none⟩ 1 (by rfl) (.mk k2 s2 l2) (.int .i64 k2) (.string s2) (.slice a5 l2.length cap5) (cells3 w5 _ _ _ _ _ rfl) (hn5.keep (fun b hb1 hb2=>⟨Below.heap_alloc _ _ _ hb2,Nat.le_trans hz.out hb1,fun e=>by have:=hK.out.own b e;have hb1':wr.heap.size≤b:=hb1;omega⟩)) (by omega) (by simp;omega) _ rfl ?_;intro g6 cap6 w6 K6 G6 _ hg6;have hown:=K5.out.own;have N6:=qh ((N5.out.alloc _).grown' G6 (fun e=>by have:=hown _ e.symm;omega));have R6:=qh ((R5.out.alloc _).grown' G6 (fun e=>by have:=hown _ e.symm;omega));obtain ⟨⟨d0,d1,d2⟩,z0,z1,z2⟩:=N6.out.cells))
   all_goals
    have hz6:w.heap.size+1+1≤w6.heap.size:=by have:=G6.size;simp at this;omega
    have M6:=Mv.later (Mv.trans HP.out hM.out hple hm5') ((((Below.refl w.heap.size w5).alloc (by omega) (.cells #[.int .i64 k2,.string s2,.slice a5 l2.length cap5] 24)).grown G6 (by simp;omega) (fun b hb=>by have:=hown b hb;omega)))
    obtain ⟨V,hV⟩:∃ V,w6.setCell ⟨w.heap.size+1,2,none⟩ (.slice (some ⟨g6,0,none⟩) (acc.length+1) cap6)=V:=⟨_,rfl⟩
    have M7:=qh (show Mv E p1 w V by rw [←hV];exact M6.later ((Below.refl w.heap.size w6).setCell (p:=⟨w.heap.size+1,2,none⟩) (by simp only;omega) _))
    have N7:=qh (show Row3 V (w.heap.size+1) (.int .i64 k) (.string ⟨#[]⟩) (.slice (some ⟨g6,0,none⟩) (acc.length+1) cap6) by rw [←hV];exact N6.out.put2 _)
    have R7:=qh (show Row3 V w.heap.size (.int .i64 0) (.string ⟨#[]⟩) (.slice none 0 0) by rw [←hV];exact R6.out.other _ (by simp only;omega))
    have K7:=qh (show Kids (w.heap.size+1+1) V (.slice (some ⟨g6,0,none⟩) (acc.length+1) cap6) (acc++[.mk k2 s2 l2]) by rw [←hV];exact K6.keep fun b hb1 _=>Below.heap_setCell _ _ _ _ (by simp only;omega))
    have P7:=qh (M7.out.ps HP.out hq5)
    have z7:w.heap.size+1+1≤V.heap.size:=by rw [←hV,setCell_size];exact hz6
    have Hz7:=qh z7
    rw [hV]
    clear hV hn5 hm5 hm5' hq5 N5 R5 N6 R6 K6 G6 M6 c0 c1 c2 y0 y1 y2 d0 d1 d2 z0 z1 z2 n0 n1 n2 g0 g1 g2 l5 hg6 hown K5 DB
    by_cases hc:Sx.txt E.ts p1=[44]
    ·have HA2:=qh ((namesR_go hc).symm.trans (hf2▸hrun2.out))
     have T:=qh (fun w h=>take_yes E p1 ⟨#[44]⟩ w h hc (by decide))
     have hlt1:=Sx.txt_at hc
     clear hc
     go_wp2_with fail
     refine (T.out _ P7.out).mono ?_
     rintro e w8 ⟨rfl,hm8,hp8⟩
     have M8:=qh (Mv.trans HP.out M7.out P7.out.le hm8)
     have P8:=qh hp8
     have N8:=qh (N7.out.mv hm8 (by omega))
     have R8:=qh (R7.out.mv hm8 (by omega))
     have K8:=qh (Kids.step hm8 (by omega) K7.out)
     have z8:=qh (Nat.le_trans z7 hm8.size)
     have Hm8:=qh hp8.nxt
     clear hm8 hp8 T
     go_wp2_with fail
     go_roundw
     case rel=>exact ⟨f2,p1+1,acc++[Nd.mk k2 s2 l2],_,by have:=Hp1.out;omega,by have:=Hp1.out;omega,by have:=Hp1.out;simp;omega,HA2,M8,P8,R8,N8,K8,z8⟩
     case measure=>rw [Hm8.out,Hmeas.out];have:=Hp1.out;omega
    ·have HA2:=qh ((namesR_end hc).symm.trans (hf2▸hrun2.out))
     have T:=qh (fun w h=>take_no E p1 ⟨#[44]⟩ w h hc)
     clear hc
     go_wp2_with fail
     refine (T.out _ P7.out).mono ?_
     rintro e w8 ⟨rfl,hb8⟩
     have M8:=qh (M7.out.later (hb8.mono M7.out.size))
     have R8:=qh (R7.out.below hb8 R7.out.lt)
     have N8:=qh (N7.out.below hb8 N7.out.lt)
     have K8:=qh (K7.out.keep fun b _ h2=>hb8.block b h2)
     obtain ⟨⟨r0,r1,r2⟩,t0,t1,t2⟩:=R8.out.cells
     obtain ⟨⟨x0,x1,x2⟩,_⟩:=N8.out.cells
     have ln:=N8.out.lt
     have lr:=R8.out.lt
     have KF:=qh ((K8.out.kp ((Kp.refl (w.heap.size+1+1) w8).put3 (b:=w.heap.size) (.int .i64 k) (.string ⟨#[]⟩) (.slice (some ⟨g6,0,none⟩) (acc.length+1) cap6) (by omega))).base (h':=w.heap.size) (by omega))
     have Hle:=qh P7.out.le
     clear hb8 T
     go_wp2
     refine ret_node (R8.out.put _ _ _) Tryz.results174 rfl rfl ?_
     rw [←HR.out,←HA2.out]
     exact ⟨⟨_,rfl,KF.out⟩,M8.out.put3 (Nat.le_refl _) _ _ _,Hle.out,by have:=Hp1.out;simp;omega⟩
end Go.Proofs.YtcimcjmdkjajfaaGreatDoor
namespace Go.Proofs.YtcimcjmdkjajfaaGreatDoor
open Go.RowKit
attribute [local go_sem] fieldTok0 fieldTok1 fieldTok2 fieldNode1
set_option maxRecDepth 100000 in
set_option maxHeartbeats 1000000 in
theorem named_ok (E:PE) (q:Nat) (w:World) (h:PS E q w) (k:Int) (hk:Sx.knd E.ts q=1):Calls Tryz.prog 179 #[.pointer (some ⟨E.pb,0,none⟩),.int .i64 k] w fun e w'=>e = .returned (.agg #[.int .i64 k,.string (Sx.str (Sx.txt E.ts q)),.slice none 0 0])∧Mv E (q+1) w w'∧PS E (q+1) w':=by
 have HP:=qh h
 have hpl:=h.lt
 have D:=qh (fun w h=>small_yes E q w h hk)
 unfold leafV at D
 generalize Sx.str (Sx.txt E.ts q)=x at *
 have B0:=qh ((Below.refl w.heap.size w).alloc (Nat.le_refl _) (.cells #[.int .i64 0,.string ⟨#[]⟩,.slice none 0 0] 24))
 have R0:=qh (Row3.new w (.int .i64 0) (.string ⟨#[]⟩) (.slice none 0 0))
 clear h hk
 go_enter Tryz.func179,Tryz.ntmps179
 go_wp2_with fail
 refine (D.out _ (HP.out.later B0.out)).mono ?_
 rintro e w1 ⟨rfl,hm,hp⟩
 have M1:=qh (Mv.before HP.out B0.out hm)
 have R1:=qh (R0.out.mv hm (by omega))
 have Hq:=qh hp.le
 obtain ⟨⟨n0,n1,n2⟩,g0,g1,g2⟩:=R1.out.cells
 have lr:=R1.out.lt
 clear hm hp D
 go_wp2
 have hM:=M1.out.put3 (b:=w.heap.size) (Nat.le_refl _) (.int .i64 k) (.string x) (.slice none 0 0)
 exact ret_node (R1.out.put _ _ _) Tryz.results179 rfl rfl ⟨rfl,hM,hM.ps HP.out Hq.out⟩
def listL (rd:Nat→Nat→Sx.PR Nd) (ts:List Lx.Tok):Nat→List Nd→Nat→Sx.PR (List Nd)
 | 0,_,p=>.bad p
 | f+1,acc,p=>if Sx.txt ts p=[46] then .ok acc p else (match rd f p with
  | .bad q=>.bad q
  | .ok a q=>listL rd ts f (acc++[a]) q)
section
variable {rd:Nat→Nat→Sx.PR Nd} {ts:List Lx.Tok} {f:Nat} {acc:List Nd} {p q:Nat} {a:Nd}
theorem listL_end (h:Sx.txt ts p=[46]):listL rd ts (f+1) acc p = .ok acc p:=by simp only [listL];rw [if_pos h]
theorem listL_bad (h:Sx.txt ts p≠[46]) (h2:rd f p = .bad q):listL rd ts (f+1) acc p = .bad q:=by simp only [listL];rw [if_neg h,h2]
theorem listL_ok (h:Sx.txt ts p≠[46]) (h2:rd f p = .ok a q):listL rd ts (f+1) acc p=listL rd ts f (acc++[a]) q:=by simp only [listL];rw [if_neg h,h2]
end
set_option maxRecDepth 100000 in
set_option maxHeartbeats 4000000 in
theorem listed_walk (E:PE) (q:Nat) (w:World) (h:PS E q w) (k:Int) (hk:Sx.knd E.ts q=1) (f:Nat) (hf:16*(E.ts.length - (q+1))+2≤f) (g:Nat) (eg:∀ args w,(callFunc g args).run Tryz.prog w = .ok (.enter g args) w) (rd:Nat→Nat→Sx.PR Nd) (hgo:∀ f1 p,Sx.Goes E.ts p (rd f1 p))
  (CR:∀ f1 p w0,f1 < f→q < p→16*(E.ts.length - p)+1≤f1→PS E p w0→Calls Tryz.prog g #[.pointer (some ⟨E.pb,0,none⟩)] w0 (Gr E w0 (rd f1 p))) :
  Calls Tryz.prog 213 #[.pointer (some ⟨E.pb,0,none⟩),.int .i64 k,.func (.func g) #[.pointer (some ⟨E.pb,0,none⟩)] #[]] w (Gr E w (appR k (Sx.str (Sx.txt E.ts q)) (listL rd E.ts f [] (q+1)))):=by
 have HP:=qh h
 have hpl:=h.lt
 have hfew:=h.g.few
 have Hf:=qh hf
 have D:=qh CR
 have HG:=qh hgo
 have C:=qh (fun p w h=>peek_any E p w h)
 unfold tokF at C
 have T1:=qh (fun w h=>named_ok E q w h k hk)
 have Hsz:=qh (txt_max E h.g q)
 generalize Sx.str (Sx.txt E.ts q)=s at *
 have B0:=qh ((Below.refl w.heap.size w).alloc (Nat.le_refl _) (.cells #[.int .i64 0,.string ⟨#[]⟩,.slice none 0 0] 24))
 have R0:=qh (Row3.new w (.int .i64 0) (.string ⟨#[]⟩) (.slice none 0 0))
 obtain ⟨A,hA⟩:∃ A,listL rd E.ts f [] (q+1)=A:=⟨_,rfl⟩
 have HA:=qh hA
 obtain ⟨R,hR⟩:∃ R,Gr E w (appR k s A)=R:=⟨_,rfl⟩
 have HR:=qh hR
 rw [hA,hR]
 clear h hA hR hf CR hgo hk
 go_enter Tryz.func213,Tryz.ntmps213
 go_wp2_with fail
 refine (T1.out _ (HP.out.later B0.out)).mono ?_
 rintro e u1 ⟨rfl,hm,hp⟩
 obtain ⟨nb,hnb⟩:∃ nb,u1.heap.size=nb:=⟨_,rfl⟩
 have hwn:w.heap.size < nb:=by rw [←hnb];exact (R0.out.mv hm (by omega)).lt
 have M0:=qh ((Mv.before HP.out B0.out hm).alloc (.cells #[.int .i64 k,.string s,.slice none 0 0] 24))
 have P0:=qh (hp.later ((Below.refl _ u1).alloc (Nat.le_refl _) (.cells #[.int .i64 k,.string s,.slice none 0 0] 24)))
 have R1:=qh ((R0.out.mv hm (by omega)).alloc (.cells #[.int .i64 k,.string s,.slice none 0 0] 24))
 have N0:=qh (Row3.newAt (W:=u1) (n:=nb) (v0:=.int .i64 k) (v1:=.string s) (v2:=.slice none 0 0) hnb.symm)
 have Z0:Hid (nb+1≤(u1.alloc (.cells #[.int .i64 k,.string s,.slice none 0 0] 24)).heap.size):=qh (by simp;omega)
 clear hm hp
 go_wp2_with fail
 go_loopw [] (fun W=>∃ (f1 p:Nat) (acc:List Nd) (v:Value),q < p∧f1≤f∧16*(E.ts.length - p)+2≤f1∧acc.length≤p∧Hid (listL rd E.ts f1 acc p=A)∧Hid (Mv E p w W)∧Hid (PS E p W)∧Hid (Row3 W w.heap.size (.int .i64 0) (.string ⟨#[]⟩) (.slice none 0 0))∧Hid (Row3 W nb (.int .i64 k) (.string s) v)∧Hid (Kids (nb+1) W v acc)∧Hid (nb+1≤W.heap.size)) (fun W=>E.ts.length+1 - nxt E W)
 case atStart =>
  exact ⟨f,q+1,[],.slice none 0 0,by omega,Nat.le_refl _,Hf.out,Nat.zero_le _,HA,M0.out,P0.out,R1.out,N0.out,Kids.nil _ _,Z0.out⟩
 case round =>
  obtain ⟨f1,p,acc,v,hqp,hff,hf1,hacc,hrun,hM,hP,hRw,hN,hK,hz⟩:=hrel
  clear M0 P0 R1 N0 HA T1
  obtain ⟨va,vcap,rfl,_⟩:=hK.out.shape
  obtain ⟨f2,rfl⟩:∃ f2,f1=f2+1:=⟨f1 - 1,by omega⟩
  have hple:=hP.out.le
  have hnl:=hN.out.lt
  have Hmeas:=qh hP.out.nxt
  have CP:=qh (C.out p)
  by_cases hd:Sx.txt E.ts p=[46]
  ·have HA2:=qh (hrun.out.symm.trans (listL_end hd))
   rw [hd] at CP
   have CP':Hid (∀ w,PS E p w→Calls Tryz.prog 185 #[.pointer (some ⟨E.pb,0,none⟩)] w fun e w'=>e = .returned (.agg #[.int .i64 (Sx.knd E.ts p:Nat),.string ⟨#[46]⟩,.int .i64 (E.pos p:Nat)])∧Below w.heap.size w w'):=CP
   clear hd C hrun CP
   go_wp2_with fail
   refine (CP'.out _ hP.out).mono ?_
   rintro e w8 ⟨rfl,hb8⟩
   have M8:=qh (hM.out.later (hb8.mono hM.out.size))
   have R8:=qh (hRw.out.below hb8 hRw.out.lt)
   have N8:=qh (hN.out.below hb8 hnl)
   have K8:=qh (hK.out.keep fun b _ h2=>hb8.block b h2)
   obtain ⟨⟨r0,r1,r2⟩,t0,t1,t2⟩:=R8.out.cells
   obtain ⟨⟨x0,x1,x2⟩,_⟩:=N8.out.cells
   have ln:=N8.out.lt
   have lr:=R8.out.lt
   have ND:=qh (((K8.out.kp ((Kp.refl (nb+1) w8).put3 (b:=w.heap.size) (.int .i64 k) (.string s) (.slice va acc.length vcap) (by omega))).node k s Hsz.out (by unfold maxLen;omega)).from (h':=w.heap.size) (by omega))
   have Hle:=qh hple
   clear hb8 CP'
   go_wp2
   refine ret_node (R8.out.put _ _ _) Tryz.results213 rfl rfl ?_
   rw [←HR.out,HA2.out]
   exact ⟨⟨va,vcap,rfl,ND.out⟩,M8.out.put3 (Nat.le_refl _) _ _ _,Hle.out⟩
  ·obtain ⟨x,hx⟩:∃ x,Sx.str (Sx.txt E.ts p)=x:=⟨_,rfl⟩
   rw [hx] at CP
   have hxn:x≠⟨#[46]⟩:=fun e=>hd (by
    rw [←hx] at e
    have:=congrArg (fun y:ByteArray=>y.data.toList) e
    simpa [Sx.str] using this)
   have e1:(!(x.toList==[46]))=true:=by
    rw [show ([46]:List UInt8)=(⟨#[46]⟩:ByteArray).toList from by decide +kernel,beq_no hxn];rfl
   have DB:=qh (fun w0 h0=>D.out f2 p w0 (by omega) hqp (by omega) h0)
   clear hx hxn C
   go_wp2_with fail
   refine (CP.out _ hP.out).mono ?_
   rintro e W1 ⟨rfl,hb⟩
   have M1:=qh (hM.out.later (hb.mono hM.out.size))
   have P1:=qh (hP.out.later hb)
   have R1:=qh (hRw.out.below hb hRw.out.lt)
   have N1:=qh (hN.out.below hb hnl)
   have K1:=qh (hK.out.keep fun b _ h2=>hb.block b h2)
   have hz1:=qh (Nat.le_trans hz.out hb.size)
   obtain ⟨⟨n0,n1,n2⟩,g0,g1,g2⟩:=N1.out.cells
   have ln1:=N1.out.lt
   clear hb CP
   cases hs:rd f2 p with
   | bad qb =>
    have HA':=qh (hrun.out.symm.trans (listL_bad hd hs))
    rw [hs] at DB
    have F:Hid (∀ w5,Mv E qb W1.drew w5→qb≤E.ts.length→R (.panicked [{ v:=misfit E qb,recovered:=false }]) w5):=qh fun w5 hm5 hq5=>by
     rw [←HR.out,HA'.out]
     exact ⟨rfl,Mv.trans HP.out (M1.out.later (below_drewN (Below.refl _ _) 1)) hple hm5,hq5⟩
    clear hs D hrun hd
    go_wp2_with fail
    go_region_dies
    all_goals refine (DB.out _ (P1.out.later (Below.refl _ _).drew)).mono ?_
    all_goals rintro e w5 ⟨rfl,hm5,hq5⟩
    all_goals exact ⟨rfl,F.out w5 hm5 hq5⟩
   | ok y p1 =>
    obtain ⟨k2,s2,l2⟩:=y
    have HA':=qh ((listL_ok (acc:=acc) hd hs).symm.trans hrun.out)
    have Hp1:=qh (HG.out f2 p _ _ hs)
    rw [hs] at DB
    clear hs D hrun hd
    go_wp2_with fail
    go_region_law (first
     | (go_simp;refine (DB.out _ (P1.out.later (Below.refl _ _).drew)).mono ?_;rintro e w5 ⟨⟨a5,cap5,rfl,hn5⟩,hm5,hq5⟩;have hm5':=Mv.before P1.out (Below.refl _ _).drew hm5;have N5:=qh (N1.out.mv hm5' (by omega));have R5:=qh (R1.out.mv hm5' (by omega));have K5:=qh (Kids.step hm5' (by omega) K1.out);have hz5:nb+1≤w5.heap.size:=Nat.le_trans hz1.out hm5'.size;obtain ⟨⟨c0,c1,c2⟩,y0,y1,y2⟩:=N5.out.cells;have l5:=N5.out.lt)
     | (refine step_append_kid rfl _ _ rfl (nb+1) (.slice va acc.length vcap) acc rfl (Kids.keep K5.out fun b _ hb2=>Below.heap_alloc _ _ _ hb2) ⟨w5.heap.size,0,none⟩ 1 (by rfl) (.mk k2 s2 l2) (.int .i64 k2) (.string s2) (.slice a5 l2.length cap5) (cells3 w5 _ _ _ _ _ rfl) (hn5.keep (fun b hb1 hb2=>⟨Below.heap_alloc _ _ _ hb2,Nat.le_trans hz1.out hb1,fun e=>by have:=K1.out.own b e;have hb1':W1.heap.size≤b:=hb1;omega⟩)) (by omega) (by simp;omega) _ rfl ?_;intro g6 cap6 w6 K6 G6 _ hg6;have hown:=K5.out.own;have N6:=qh ((N5.out.alloc _).grown' G6 (fun e=>by have:=hown _ e.symm;omega));have R6:=qh ((R5.out.alloc _).grown' G6 (fun e=>by have:=hown _ e.symm;omega));obtain ⟨⟨d0,d1,d2⟩,z0,z1,z2⟩:=N6.out.cells))
    all_goals
     have hz6:nb+1≤w6.heap.size:=by have:=G6.size;simp at this;omega
     have M6:=Mv.later (Mv.trans HP.out M1.out hple hm5') ((((Below.refl w.heap.size w5).alloc (by omega) (.cells #[.int .i64 k2,.string s2,.slice a5 l2.length cap5] 24)).grown G6 (by simp;omega) (fun b hb=>by have:=hown b hb;omega)))
     obtain ⟨V,hV⟩:∃ V,w6.setCell ⟨nb,2,none⟩ (.slice (some ⟨g6,0,none⟩) (acc.length+1) cap6)=V:=⟨_,rfl⟩
     have M7:=qh (show Mv E p1 w V by rw [←hV];exact M6.later ((Below.refl w.heap.size w6).setCell (p:=⟨nb,2,none⟩) (by simp only;omega) _))
     have N7:=qh (show Row3 V nb (.int .i64 k) (.string s) (.slice (some ⟨g6,0,none⟩) (acc.length+1) cap6) by rw [←hV];exact N6.out.put2 _)
     have R7:=qh (show Row3 V w.heap.size (.int .i64 0) (.string ⟨#[]⟩) (.slice none 0 0) by rw [←hV];exact R6.out.other _ (by simp only;omega))
     have K7:=qh (show Kids (nb+1) V (.slice (some ⟨g6,0,none⟩) (acc.length+1) cap6) (acc++[.mk k2 s2 l2]) by rw [←hV];exact K6.keep fun b hb1 _=>Below.heap_setCell _ _ _ _ (by simp only;omega))
     have P7:=qh (M7.out.ps HP.out hq5)
     have z7:=qh (show nb+1≤V.heap.size by rw [←hV,setCell_size];exact hz6)
     have Hm7:=qh P7.out.nxt
     rw [hV]
     clear hV hn5 hm5 hm5' hq5 N5 R5 N6 R6 K6 G6 M6 c0 c1 c2 y0 y1 y2 d0 d1 d2 z0 z1 z2 n0 n1 n2 g0 g1 g2 l5 hg6 hown K5 DB
     go_wp2_with fail
     go_roundw
     case rel=>exact ⟨f2,p1,acc++[Nd.mk k2 s2 l2],_,by have:=Hp1.out;omega,by omega,by have:=Hp1.out;omega,by have:=Hp1.out;simp;omega,HA',M7,P7,R7,N7,K7,z7⟩
     case measure=>rw [Hm7.out,Hmeas.out];have:=Hp1.out;omega
end Go.Proofs.YtcimcjmdkjajfaaGreatDoor
namespace Go.Proofs.YtcimcjmdkjajfaaGreatDoor
open Go.RowKit
def KidsS (S:Nat→Prop) (w:World) (v:Value) (l:List Nd):Prop :=
 ∃ xs,w.ownsRow 0 24 3 v l.length xs∧(∀ g,v.ownBlock=some g→S g)∧∀ i (hi:i < l.length),∃ v0 v1 v2,xs[i*3]?=some v0∧xs[i*3+1]?=some v1∧xs[i*3+2]?=some v2∧NdS (fun b=>S b∧v.ownBlock≠some b) w l[i] v0 v1 v2
theorem Kids.toS {h:Nat} {w:World} {v:Value} {l:List Nd} (hk:Kids h w v l):KidsS (fun b=>h≤b∧b < w.heap.size) w v l:=by
 have ho:=hk.own
 obtain ⟨xs,h1,h2⟩:=hk
 refine ⟨xs,ownsRow_base h1 (Nat.zero_le _),ho,fun i hi=>?_⟩
 obtain ⟨v0,v1,v2,e0,e1,e2,hn⟩:=h2 i hi
 exact ⟨v0,v1,v2,e0,e1,e2,hn.mono fun b hb hl=>⟨⟨hb.1,hl⟩,hb.2⟩⟩
theorem KidsS.keep {S S':Nat→Prop} {w w':World} {v:Value} {l:List Nd} (hk:KidsS S w v l) (he:∀ b,S b→b < w.heap.size→w'.heap[b]?=w.heap[b]?∧S' b):KidsS S' w' v l:=by
 obtain ⟨xs,h1,h2,h3⟩:=hk
 refine ⟨xs,ownsRow_blocks h1 fun k _ hl ho=>(he k (h2 k ho) hl).1,fun g hg=>(he g (h2 g hg) (h1.lt g hg).2).2,fun i hi=>?_⟩
 obtain ⟨v0,v1,v2,e0,e1,e2,hn⟩:=h3 i hi
 exact ⟨v0,v1,v2,e0,e1,e2,hn.keep fun b hb hl=>⟨(he b hb.1 hl).1,(he b hb.1 hl).2,hb.2⟩⟩
theorem KidsS.base0 {S:Nat→Prop} {w:World} {v:Value} {l:List Nd} (hk:KidsS S w v l):Kids 0 w v l:=by
 obtain ⟨xs,h1,h2,h3⟩:=hk
 refine ⟨xs,h1,fun i hi=>?_⟩
 obtain ⟨v0,v1,v2,e0,e1,e2,hn⟩:=h3 i hi
 exact ⟨v0,v1,v2,e0,e1,e2,hn.mono fun b hb _=>⟨Nat.zero_le _,hb.2⟩⟩
theorem KidsS.node {S:Nat→Prop} {w:World} {v:Value} {l:List Nd} (hk:KidsS S w v l) (k:Int) (s:ByteArray) (hs:s.size≤maxLen) (hl:l.length≤maxLen):NdS S w (.mk k s l) (.int .i64 k) (.string s) v:=by
 obtain ⟨xs,h1,hS,h2⟩:=hk
 rcases h1.2 with ⟨rfl,h0⟩ | ⟨g,cap,cur,rfl,hg,hh,hle,_,_,htake⟩
 ·obtain rfl:l=[]:=List.eq_nil_of_length_eq_zero h0
  exact .leaf _ _ _ _ hs _ _
 ·have hx:∀ j u,xs[j]?=some u→w.cell? ⟨g,j,none⟩=some u:=fun j u hj=>by
   have:=h1.cells (g:=g) rfl j u hj
   have hadd:(⟨g,0,none⟩:Addr).add j=⟨g,j,none⟩:=by unfold Addr.add;split <;> simp_all
   rwa [hadd] at this
  refine .mk k s l (some ⟨g,0,none⟩) cap g 0 (fun i=>(xs[i*3]?).getD undef) (fun i=>(xs[i*3+1]?).getD undef) (fun i=>(xs[i*3+2]?).getD undef) hs hl hle (fun _=>rfl) (fun _=>hS g rfl) ?_ ?_ ?_ ?_
  ·intro i hi
   obtain ⟨v0,v1,v2,e0,e1,e2,hn⟩:=h2 i hi
   rw [Nat.zero_add,e0]
   exact hx _ _ e0
  ·intro i hi
   obtain ⟨v0,v1,v2,e0,e1,e2,hn⟩:=h2 i hi
   rw [Nat.zero_add,e1]
   exact hx _ _ e1
  ·intro i hi
   obtain ⟨v0,v1,v2,e0,e1,e2,hn⟩:=h2 i hi
   rw [Nat.zero_add,e2]
   exact hx _ _ e2
  ·intro i hi
   obtain ⟨v0,v1,v2,e0,e1,e2,hn⟩:=h2 i hi
   simp only [e0,e1,e2,Option.getD_some]
   exact hn.mono fun b hb _=>hb.1
theorem KidsS.snoc {S:Nat→Prop} {w w':World} {v:Value} {l:List Nd} {xs:List Value} {v0 v1 v2:Value} {x:Nd} {g cap:Nat}
  (h1:w.ownsRow 0 24 3 v l.length xs) (h2:∀ i (hi:i < l.length),∃ v0 v1 v2,xs[i*3]?=some v0∧xs[i*3+1]?=some v1∧xs[i*3+2]?=some v2∧NdS (fun b=>S b∧v.ownBlock≠some b) w l[i] v0 v1 v2)
  (hS:∀ g,v.ownBlock=some g→S g) (hx:NdS (fun b=>S b∧v.ownBlock≠some b) w x v0 v1 v2)
  (ho:w'.ownsRow 0 24 3 (.slice (some ⟨g,0,none⟩) (l.length+1) cap) (l.length+1) (xs++[v0,v1,v2])) (hg:w.grownBy w' v.ownBlock) (hw:v.ownBlock=some g∨g=w.heap.size) (hSn:S w.heap.size) :
  KidsS S w' (.slice (some ⟨g,0,none⟩) (l.length+1) cap) (l++[x]):=by
 have hk:∀ b,(S b∧v.ownBlock≠some b)→b < w.heap.size→w'.heap[b]?=w.heap[b]?∧(S b∧(Value.slice (some ⟨g,0,none⟩) (l.length+1) cap).ownBlock≠some b):=by
  rintro b ⟨hb1,hb2⟩ hb3
  refine ⟨hg.block b hb3 (fun e=>hb2 e.symm),hb1,?_⟩
  intro e
  have e':g=b:=by simpa [Value.ownBlock] using e
  rcases hw with hw | hw
  ·exact hb2 (by rw [hw,e'])
  ·omega
 have hxl:xs.length=l.length*3:=h1.1
 refine ⟨xs++[v0,v1,v2],by rw [List.length_append];exact ho,fun g' hg'=>?_,fun i hi=>?_⟩
 ·have e':g=g':=by simpa [Value.ownBlock] using hg'
  rcases hw with hw | hw
  ·exact hS g' (by rw [hw,e'])
  ·rw [←e',hw];exact hSn
 by_cases hlt:i < l.length
 ·obtain ⟨u0,u1,u2,e0,e1,e2,hn⟩:=h2 i hlt
  refine ⟨u0,u1,u2,?_,?_,?_,?_⟩
  ·rw [List.getElem?_append_left (by omega)];exact e0
  ·rw [List.getElem?_append_left (by omega)];exact e1
  ·rw [List.getElem?_append_left (by omega)];exact e2
  ·rw [List.getElem_append_left hlt]
   exact hn.keep hk
 ·have hi':i=l.length:=by simp only [List.length_append,List.length_singleton] at hi;omega
  subst hi'
  refine ⟨v0,v1,v2,?_,?_,?_,?_⟩
  ·rw [List.getElem?_append_right (by omega),show l.length*3 - xs.length=0 from by omega];rfl
  ·rw [List.getElem?_append_right (by omega),show l.length*3+1 - xs.length=1 from by omega];rfl
  ·rw [List.getElem?_append_right (by omega),show l.length*3+2 - xs.length=2 from by omega];rfl
  ·simp only [List.getElem_append_right (Nat.le_refl _),Nat.sub_self,List.getElem_cons_zero]
   exact hx.keep hk
section
variable {ops:Array Oper} {rest:List Oper} {o:Oper} {a:Act} {Q:Exit→Act→World→Prop} {w:World}
theorem step_append_kidS {K:Act→World→Prop} {Ex:Prop} (hgd:o.guard=none) (s x:Operand)
  (ho:o.op = .call { callee:=.builtin .append,args:=#[s,x],argTypes:=#[22,22] })
  (S:Nat→Prop) (v:Value) (l:List Nd) (hs:a.eval s=v) (hk:KidsS S w v l) (ad:Addr) (c:Nat) (hx:a.eval x = .slice (some ad) 1 c) (t:Nd) (v0 v1 v2:Value)
  (hnews:∀ j u,[v0,v1,v2][j]?=some u→w.cell? (ad.add j)=some u) (hn:NdS (fun b=>S b∧v.ownBlock≠some b) w t v0 v1 v2) (hlen:l.length≤1000000) (hSn:S w.heap.size)
  (hK:∀ g cap w',KidsS S w' (.slice (some ⟨g,0,none⟩) (l.length+1) cap) (l++[t])→w.grownBy w' v.ownBlock→g < w'.heap.size→K (a.put o.dst (.slice (some ⟨g,0,none⟩) (l.length+1) cap)) w') :
  if Region.wanted o (yielded ops a.tmps)=true then Oper.wp Tryz.prog o a w K Q else Ex:=by
 obtain ⟨i0,hi0,hz0,hz1,hz2⟩:=info_parts infoNode
 obtain ⟨xs,h1,hS,h2⟩:=hk
 refine step_append_lies w hgd s x 22 ho 0 24 i0 _ 3 48 Tryz.underlying22 hi0 hz0 hz1 hz2 rfl (by decide) v l.length xs hs h1 ad 1 c [v0,v1,v2] hx rfl hnews hn.ones (by decide) (by unfold maxLen;omega) (by omega) (Nat.zero_le _) _ rfl ?_
 intro g cap w' h3 h4 h5 h6
 exact hK g cap w' (KidsS.snoc h1 h2 hS hn h3 h4 h5 hSn) h4 h6
end
end Go.Proofs.YtcimcjmdkjajfaaGreatDoor
namespace Go.Proofs.YtcimcjmdkjajfaaGreatDoor
open Go.RowKit
set_option maxRecDepth 100000 in
set_option maxHeartbeats 2000000 in
theorem clause_no (E:PE) (q:Nat) (w:World) (h:PS E q w) (k:Int) (hk:Sx.knd E.ts q=1) (hc:Sx.txt E.ts (q+1)≠[58]) :
  Calls Tryz.prog 178 #[.pointer (some ⟨E.pb,0,none⟩),.int .i64 k] w (Gr E w (.bad (q+1))):=by
 have HP:=qh h
 have hpl:=h.lt
 have hfew:=h.g.few
 have T2:=qh (fun w h=>need_no E (q+1) ⟨#[58]⟩ w h hc)
 have T1:=qh (fun w h=>named_ok E q w h k hk)
 have Hsz:=qh (txt_max E h.g q)
 generalize Sx.str (Sx.txt E.ts q)=s at *
 have B0:=qh ((Below.refl w.heap.size w).alloc (Nat.le_refl _) (.cells #[.int .i64 0,.string ⟨#[]⟩,.slice none 0 0] 24))
 have R0:=qh (Row3.new w (.int .i64 0) (.string ⟨#[]⟩) (.slice none 0 0))
 clear h hk hc
 obtain ⟨R,hR⟩:∃ R,Gr E w (.bad (q+1))=R:=⟨_,rfl⟩
 have HR:=qh hR
 rw [hR]
 clear hR
 go_enter Tryz.func178,Tryz.ntmps178
 go_wp2_with fail
 refine (T1.out _ (HP.out.later B0.out)).mono ?_
 rintro e u1 ⟨rfl,hm,hp⟩
 have KS0:KidsS (fun b=>w.heap.size < b∧b < u1.heap.size) u1 (.slice none 0 0) []:=⟨[],World.ownsRow_nil _ _ _ _,fun g hg=>(by cases hg),fun i hi=>absurd hi (Nat.not_lt_zero i)⟩
 have hp1:=hp
 obtain ⟨nb,hnb⟩:∃ nb,u1.heap.size=nb:=⟨_,rfl⟩
 have hwn:w.heap.size < nb:=by rw [←hnb];exact (R0.out.mv hm (by omega)).lt
 have M:=qh ((Mv.before HP.out B0.out hm).alloc (.cells #[.int .i64 k,.string s,(.slice none 0 0)] 24))
 have P:=qh (hp1.later ((Below.refl _ u1).alloc (Nat.le_refl _) (.cells #[.int .i64 k,.string s,(.slice none 0 0)] 24)))
 have Rw:=qh ((R0.out.mv hm (by omega)).alloc (.cells #[.int .i64 k,.string s,(.slice none 0 0)] 24))
 have Nw:=qh (Row3.newAt (W:=u1) (n:=nb) (v0:=.int .i64 k) (v1:=.string s) (v2:=(.slice none 0 0)) hnb.symm)
 have KS:=qh (KS0.keep (S':=fun b=>w.heap.size < b∧b≠nb) (w':=u1.alloc (.cells #[.int .i64 k,.string s,(.slice none 0 0)] 24)) fun b h1 h2=>⟨Below.heap_alloc _ _ _ h2,h1.1,by have:=h1.2;omega⟩)
 have hz:nb+1≤(u1.alloc (.cells #[.int .i64 k,.string s,(.slice none 0 0)] 24)).heap.size:=by simp;omega
 have Hz:=qh hz
 clear hm hp1 KS0 hz hp
 go_wp2_with fail
 refine (T2.out _ P.out).mono ?_
 rintro e u4 ⟨rfl,hb⟩
 have M4:=M.out.later (hb.mono M.out.size)
 go_wp2
 rw [←HR.out]
 exact ⟨rfl,rfl,M4,P.out.le⟩
set_option maxRecDepth 100000 in
set_option maxHeartbeats 2000000 in
theorem clause_bb (E:PE) (q:Nat) (w:World) (h:PS E q w) (k:Int) (hk:Sx.knd E.ts q=1) (hc:Sx.txt E.ts (q+1)=[58]) (qb:Nat) (CB:∀ w0,PS E ((q+1)+1) w0→Calls Tryz.prog 95 #[.pointer (some ⟨E.pb,0,none⟩)] w0 (Gr E w0 (.bad qb))) :
  Calls Tryz.prog 178 #[.pointer (some ⟨E.pb,0,none⟩),.int .i64 k] w (Gr E w (.bad qb)):=by
 have HP:=qh h
 have hpl:=h.lt
 have hfew:=h.g.few
 have T2:=qh (fun w h=>need_yes E (q+1) ⟨#[58]⟩ w h hc (by decide))
 have D2:=qh CB
 have T1:=qh (fun w h=>named_ok E q w h k hk)
 have Hsz:=qh (txt_max E h.g q)
 generalize Sx.str (Sx.txt E.ts q)=s at *
 have B0:=qh ((Below.refl w.heap.size w).alloc (Nat.le_refl _) (.cells #[.int .i64 0,.string ⟨#[]⟩,.slice none 0 0] 24))
 have R0:=qh (Row3.new w (.int .i64 0) (.string ⟨#[]⟩) (.slice none 0 0))
 clear h hk hc CB
 obtain ⟨R,hR⟩:∃ R,Gr E w (.bad qb)=R:=⟨_,rfl⟩
 have HR:=qh hR
 rw [hR]
 clear hR
 go_enter Tryz.func178,Tryz.ntmps178
 go_wp2_with fail
 refine (T1.out _ (HP.out.later B0.out)).mono ?_
 rintro e u1 ⟨rfl,hm,hp⟩
 have KS0:KidsS (fun b=>w.heap.size < b∧b < u1.heap.size) u1 (.slice none 0 0) []:=⟨[],World.ownsRow_nil _ _ _ _,fun g hg=>(by cases hg),fun i hi=>absurd hi (Nat.not_lt_zero i)⟩
 have hp1:=hp
 obtain ⟨nb,hnb⟩:∃ nb,u1.heap.size=nb:=⟨_,rfl⟩
 have hwn:w.heap.size < nb:=by rw [←hnb];exact (R0.out.mv hm (by omega)).lt
 have M:=qh ((Mv.before HP.out B0.out hm).alloc (.cells #[.int .i64 k,.string s,(.slice none 0 0)] 24))
 have P:=qh (hp1.later ((Below.refl _ u1).alloc (Nat.le_refl _) (.cells #[.int .i64 k,.string s,(.slice none 0 0)] 24)))
 have Rw:=qh ((R0.out.mv hm (by omega)).alloc (.cells #[.int .i64 k,.string s,(.slice none 0 0)] 24))
 have Nw:=qh (Row3.newAt (W:=u1) (n:=nb) (v0:=.int .i64 k) (v1:=.string s) (v2:=(.slice none 0 0)) hnb.symm)
 have KS:=qh (KS0.keep (S':=fun b=>w.heap.size < b∧b≠nb) (w':=u1.alloc (.cells #[.int .i64 k,.string s,(.slice none 0 0)] 24)) fun b h1 h2=>⟨Below.heap_alloc _ _ _ h2,h1.1,by have:=h1.2;omega⟩)
 have hz:nb+1≤(u1.alloc (.cells #[.int .i64 k,.string s,(.slice none 0 0)] 24)).heap.size:=by simp;omega
 have Hz:=qh hz
 clear hm hp1 KS0 hz hp
 go_wp2_with fail
 refine (T2.out _ P.out).mono ?_
 rintro e u4 ⟨rfl,hm,hp⟩
 have hz4:nb+1≤u4.heap.size:=Nat.le_trans Hz.out hm.size
 have M4:=qh (Mv.trans HP.out M.out P.out.le hm)
 have P4:=qh hp
 have R4:=qh (Rw.out.mv hm (by omega))
 have N4:=qh (Nw.out.mv hm (by omega))
 have K4:=qh (KS.out.keep (S':=fun b=>w.heap.size < b∧b≠nb) (w':=u4) fun b h1 h2=>⟨hm.blk b h2 (by omega),h1⟩)
 obtain ⟨⟨m0,m1,m2⟩,f0,f1,f2⟩:=N4.out.cells
 have ln:=N4.out.lt
 clear hm hp
 have F:Hid (∀ w5,Mv E qb u4.drew w5→qb≤E.ts.length→R (.panicked [{ v:=misfit E qb,recovered:=false }]) w5):=qh fun w5 hm5 hq5=>by
  rw [←HR.out]
  exact ⟨rfl,Mv.trans HP.out (M4.out.later (below_drewN (Below.refl _ _) 1)) P4.out.le hm5,hq5⟩
 go_wp2_with fail
 go_region_dies
 all_goals refine (D2.out _ (P4.out.later (Below.refl _ _).drew)).mono ?_
 all_goals rintro e w5 ⟨rfl,hm5,hq5⟩
 all_goals exact ⟨rfl,F.out w5 hm5 hq5⟩
set_option maxRecDepth 100000 in
set_option maxHeartbeats 2000000 in
theorem clause_ok (E:PE) (q:Nat) (w:World) (h:PS E q w) (k:Int) (hk:Sx.knd E.ts q=1) (hc:Sx.txt E.ts (q+1)=[58]) (k2:Int) (s2:ByteArray) (l2:List Nd) (qb:Nat) (CB:∀ w0,PS E ((q+1)+1) w0→Calls Tryz.prog 95 #[.pointer (some ⟨E.pb,0,none⟩)] w0 (Gr E w0 (.ok (.mk k2 s2 l2) qb))) :
  Calls Tryz.prog 178 #[.pointer (some ⟨E.pb,0,none⟩),.int .i64 k] w (Gr E w (.ok (.mk k (Sx.str (Sx.txt E.ts q)) (([]:List Nd)++[.mk k2 s2 l2])) qb)):=by
 have HP:=qh h
 have hpl:=h.lt
 have hfew:=h.g.few
 have T2:=qh (fun w h=>need_yes E (q+1) ⟨#[58]⟩ w h hc (by decide))
 have D2:=qh CB
 have T1:=qh (fun w h=>named_ok E q w h k hk)
 have Hsz:=qh (txt_max E h.g q)
 generalize Sx.str (Sx.txt E.ts q)=s at *
 have B0:=qh ((Below.refl w.heap.size w).alloc (Nat.le_refl _) (.cells #[.int .i64 0,.string ⟨#[]⟩,.slice none 0 0] 24))
 have R0:=qh (Row3.new w (.int .i64 0) (.string ⟨#[]⟩) (.slice none 0 0))
 clear h hk hc CB
 obtain ⟨R,hR⟩:∃ R,Gr E w (.ok (.mk k s (([]:List Nd)++[.mk k2 s2 l2])) qb)=R:=⟨_,rfl⟩
 have HR:=qh hR
 rw [hR]
 clear hR
 go_enter Tryz.func178,Tryz.ntmps178
 go_wp2_with fail
 refine (T1.out _ (HP.out.later B0.out)).mono ?_
 rintro e u1 ⟨rfl,hm,hp⟩
 have KS0:KidsS (fun b=>w.heap.size < b∧b < u1.heap.size) u1 (.slice none 0 0) []:=⟨[],World.ownsRow_nil _ _ _ _,fun g hg=>(by cases hg),fun i hi=>absurd hi (Nat.not_lt_zero i)⟩
 have hp1:=hp
 obtain ⟨nb,hnb⟩:∃ nb,u1.heap.size=nb:=⟨_,rfl⟩
 have hwn:w.heap.size < nb:=by rw [←hnb];exact (R0.out.mv hm (by omega)).lt
 have M:=qh ((Mv.before HP.out B0.out hm).alloc (.cells #[.int .i64 k,.string s,(.slice none 0 0)] 24))
 have P:=qh (hp1.later ((Below.refl _ u1).alloc (Nat.le_refl _) (.cells #[.int .i64 k,.string s,(.slice none 0 0)] 24)))
 have Rw:=qh ((R0.out.mv hm (by omega)).alloc (.cells #[.int .i64 k,.string s,(.slice none 0 0)] 24))
 have Nw:=qh (Row3.newAt (W:=u1) (n:=nb) (v0:=.int .i64 k) (v1:=.string s) (v2:=(.slice none 0 0)) hnb.symm)
 have KS:=qh (KS0.keep (S':=fun b=>w.heap.size < b∧b≠nb) (w':=u1.alloc (.cells #[.int .i64 k,.string s,(.slice none 0 0)] 24)) fun b h1 h2=>⟨Below.heap_alloc _ _ _ h2,h1.1,by have:=h1.2;omega⟩)
 have hz:nb+1≤(u1.alloc (.cells #[.int .i64 k,.string s,(.slice none 0 0)] 24)).heap.size:=by simp;omega
 have Hz:=qh hz
 clear hm hp1 KS0 hz hp
 go_wp2_with fail
 refine (T2.out _ P.out).mono ?_
 rintro e u4 ⟨rfl,hm,hp⟩
 have hz4:nb+1≤u4.heap.size:=Nat.le_trans Hz.out hm.size
 have M4:=qh (Mv.trans HP.out M.out P.out.le hm)
 have P4:=qh hp
 have R4:=qh (Rw.out.mv hm (by omega))
 have N4:=qh (Nw.out.mv hm (by omega))
 have K4:=qh (KS.out.keep (S':=fun b=>w.heap.size < b∧b≠nb) (w':=u4) fun b h1 h2=>⟨hm.blk b h2 (by omega),h1⟩)
 obtain ⟨⟨m0,m1,m2⟩,f0,f1,f2⟩:=N4.out.cells
 have ln:=N4.out.lt
 clear hm hp
 go_wp2_with fail
 go_region_law (first
  | (go_simp;go_at_call 95;refine (D2.out _ (P4.out.later (Below.refl _ _).drew)).mono ?_;rintro e w5 ⟨⟨a5,cap5,rfl,hn5⟩,hm5,hq5⟩;have hm5':=Mv.before P4.out (Below.refl _ _).drew hm5;have N5:=qh (N4.out.mv hm5' (by omega));have R5:=qh (R4.out.mv hm5' (by omega));have K5:=qh (K4.out.keep (S':=fun b=>w.heap.size < b∧b≠nb) (w':=w5) fun b h1 h2=>⟨hm5'.blk b h2 (by omega),h1⟩);have hz5:nb+1≤w5.heap.size:=Nat.le_trans hz4 hm5'.size;obtain ⟨⟨c0,c1,c2⟩,y0,y1,y2⟩:=N5.out.cells;have l5:=N5.out.lt)
  | (refine step_append_kidS rfl _ _ rfl (fun b=>w.heap.size < b∧b≠nb) (.slice none 0 0) ([]:List Nd) rfl (K5.out.keep fun b h1 hb2=>⟨Below.heap_alloc _ _ _ hb2,h1⟩) ⟨w5.heap.size,0,none⟩ 1 (by rfl) (.mk k2 s2 l2) (.int .i64 k2) (.string s2) (.slice a5 l2.length cap5) (cells3 w5 _ _ _ _ _ rfl) (hn5.keep (fun b hb1 hb2=>by have hb1':u4.heap.size≤b:=hb1;exact ⟨Below.heap_alloc _ _ _ hb2,⟨by omega,by omega⟩,fun e=>by have:=(K4.out.base0).own b e;omega⟩)) (by first | omega | simp) (by simp;omega) ?_;intro g6 cap6 w6 K6 G6 hg6;have hown:∀ g,(Value.slice none 0 0).ownBlock=some g∨((.slice none 0 0):Value).ownBlock=some g→w.heap.size < g∧g≠nb:=(fun g hg=>by obtain ⟨_,_,hS,_⟩:=K5.out;rcases hg with hg | hg <;> first | exact hS g hg | cases hg);have N6:=qh ((N5.out.alloc _).grown' G6 (fun e=>by have:=(hown _ (.inr e.symm)).2;omega));have R6:=qh ((R5.out.alloc _).grown' G6 (fun e=>by have:=(hown _ (.inr e.symm)).1;omega));obtain ⟨⟨d0,d1,d2⟩,z0,z1,z2⟩:=N6.out.cells))
 all_goals
  have hz6:nb+1≤w6.heap.size:=by have:=G6.size;simp at this;omega
  have M6:=Mv.later (Mv.trans HP.out M4.out P4.out.le hm5') ((((Below.refl w.heap.size w5).alloc (by omega) (.cells #[.int .i64 k2,.string s2,.slice a5 l2.length cap5] 24)).grown G6 (by simp;omega) (fun b hb=>by have:=(hown b (.inr hb)).1;omega)))
  obtain ⟨V,hV⟩:∃ V,w6.setCell ⟨nb,2,none⟩ (.slice (some ⟨g6,0,none⟩) (([]:List Nd).length+1) cap6)=V:=⟨_,rfl⟩
  have M7:=qh (show Mv E qb w V by rw [←hV];exact M6.later ((Below.refl w.heap.size w6).setCell (p:=⟨nb,2,none⟩) (by simp only;omega) _))
  have N7:=qh (show Row3 V nb (.int .i64 k) (.string s) (.slice (some ⟨g6,0,none⟩) (([]:List Nd).length+1) cap6) by rw [←hV];exact N6.out.put2 _)
  have R7:=qh (show Row3 V w.heap.size (.int .i64 0) (.string ⟨#[]⟩) (.slice none 0 0) by rw [←hV];exact R6.out.other _ (by simp only;omega))
  have ND:=qh ((K6.node k s Hsz.out (by unfold maxLen;simp;try omega)).keep (S':=fun b=>w.heap.size≤b) (w':=((V.setCell ⟨w.heap.size,0,none⟩ (.int .i64 k)).setCell ⟨w.heap.size,1,none⟩ (.string s)).setCell ⟨w.heap.size,2,none⟩ (.slice (some ⟨g6,0,none⟩) (([]:List Nd).length+1) cap6)) fun b h1 h2=>⟨(((Kp.refl (w.heap.size+1) V).put3 (b:=w.heap.size) _ _ _ (by omega)).blk b (by omega) (by rw [←hV,setCell_size];exact h2)).trans (by rw [←hV];exact Below.heap_setCell _ _ _ _ h1.2),by omega⟩)
  have Q7:=qh hq5
  try simp only [List.length_nil,Nat.zero_add] at hV N7 ND
  rw [hV]
  clear hV hn5 hm5 hm5' hq5 N5 R5 N6 R6 K6 G6 M6 c0 c1 c2 y0 y1 y2 l5 d0 d1 d2 z0 z1 z2 m0 m1 m2 f0 f1 f2 ln hg6 hown K5
  obtain ⟨⟨n0,n1,n2⟩,_⟩:=N7.out.cells
  obtain ⟨⟨r0,r1,r2⟩,g0,g1,g2⟩:=R7.out.cells
  have ln:=N7.out.lt
  have lr:=R7.out.lt
  go_wp2
  refine ret_node (R7.out.put _ _ _) Tryz.results178 rfl rfl ?_
  rw [←HR.out]
  exact ⟨⟨_,_,rfl,ND.out⟩,M7.out.put3 (Nat.le_refl _) _ _ _,Q7.out⟩
set_option maxRecDepth 100000 in
set_option maxHeartbeats 2000000 in
theorem constants_no (E:PE) (q:Nat) (w:World) (h:PS E q w) (k:Int) (f:Nat) (hf:16*(E.ts.length - q)+1≤f) (l:List Nd) (q1:Nat) (hnm:Sx.names E.ts f q = .ok l q1) (hc:Sx.txt E.ts q1≠[58]) :
  Calls Tryz.prog 175 #[.pointer (some ⟨E.pb,0,none⟩),.int .i64 k] w (Gr E w (.bad q1)):=by
 have HP:=qh h
 have hpl:=h.lt
 have hfew:=h.g.few
 have T2:=qh (fun w h=>need_no E q1 ⟨#[58]⟩ w h hc)
 have T1:=qh (fun w h=>names_walk E q w h k f hf)
 rw [hnm] at T1
 have Hsz:Hid (Sx.noS.size≤maxLen):=qh (by unfold maxLen;decide)
 have B0:=qh ((Below.refl w.heap.size w).alloc (Nat.le_refl _) (.cells #[.int .i64 0,.string ⟨#[]⟩,.slice none 0 0] 24))
 have R0:=qh (Row3.new w (.int .i64 0) (.string ⟨#[]⟩) (.slice none 0 0))
 clear h hf hnm hc
 obtain ⟨R,hR⟩:∃ R,Gr E w (.bad q1)=R:=⟨_,rfl⟩
 have HR:=qh hR
 rw [hR]
 clear hR
 go_enter Tryz.func175,Tryz.ntmps175
 go_wp2_with fail
 refine (T1.out _ (HP.out.later B0.out)).mono ?_
 rintro e u1 ⟨⟨v1,rfl,hk1⟩,hm,hq1,hl1⟩
 obtain ⟨va,vcap,rfl,_⟩:=hk1.shape
 have KS0:KidsS (fun b=>w.heap.size < b∧b < u1.heap.size) u1 (.slice va l.length vcap) l:=hk1.toS.keep fun b h1 _=>⟨rfl,by have:=h1.1;simp at this;omega,h1.2⟩
 have hp1:=(Mv.before HP.out B0.out hm).ps HP.out hq1
 obtain ⟨nb,hnb⟩:∃ nb,u1.heap.size=nb:=⟨_,rfl⟩
 have hwn:w.heap.size < nb:=by rw [←hnb];exact (R0.out.mv hm (by omega)).lt
 have M:=qh ((Mv.before HP.out B0.out hm).alloc (.cells #[.int .i64 k,.string ⟨#[]⟩,(.slice va l.length vcap)] 24))
 have P:=qh (hp1.later ((Below.refl _ u1).alloc (Nat.le_refl _) (.cells #[.int .i64 k,.string ⟨#[]⟩,(.slice va l.length vcap)] 24)))
 have Rw:=qh ((R0.out.mv hm (by omega)).alloc (.cells #[.int .i64 k,.string ⟨#[]⟩,(.slice va l.length vcap)] 24))
 have Nw:=qh (Row3.newAt (W:=u1) (n:=nb) (v0:=.int .i64 k) (v1:=.string ⟨#[]⟩) (v2:=(.slice va l.length vcap)) hnb.symm)
 have KS:=qh (KS0.keep (S':=fun b=>w.heap.size < b∧b≠nb) (w':=u1.alloc (.cells #[.int .i64 k,.string ⟨#[]⟩,(.slice va l.length vcap)] 24)) fun b h1 h2=>⟨Below.heap_alloc _ _ _ h2,h1.1,by have:=h1.2;omega⟩)
 have hz:nb+1≤(u1.alloc (.cells #[.int .i64 k,.string ⟨#[]⟩,(.slice va l.length vcap)] 24)).heap.size:=by simp;omega
 have Hz:=qh hz
 clear hm hp1 KS0 hz hk1
 go_wp2_with fail
 refine (T2.out _ P.out).mono ?_
 rintro e u4 ⟨rfl,hb⟩
 have M4:=M.out.later (hb.mono M.out.size)
 go_wp2
 rw [←HR.out]
 exact ⟨rfl,rfl,M4,P.out.le⟩
set_option maxRecDepth 100000 in
set_option maxHeartbeats 2000000 in
theorem constants_bb (E:PE) (q:Nat) (w:World) (h:PS E q w) (k:Int) (f:Nat) (hf:16*(E.ts.length - q)+1≤f) (l:List Nd) (q1:Nat) (hnm:Sx.names E.ts f q = .ok l q1) (hc:Sx.txt E.ts q1=[58]) (qb:Nat) (CB:∀ w0,PS E (q1+1) w0→Calls Tryz.prog 97 #[.pointer (some ⟨E.pb,0,none⟩)] w0 (Gr E w0 (.bad qb))) :
  Calls Tryz.prog 175 #[.pointer (some ⟨E.pb,0,none⟩),.int .i64 k] w (Gr E w (.bad qb)):=by
 have HP:=qh h
 have hpl:=h.lt
 have hfew:=h.g.few
 have T2:=qh (fun w h=>need_yes E q1 ⟨#[58]⟩ w h hc (by decide))
 have D2:=qh CB
 have T1:=qh (fun w h=>names_walk E q w h k f hf)
 rw [hnm] at T1
 have Hsz:Hid (Sx.noS.size≤maxLen):=qh (by unfold maxLen;decide)
 have B0:=qh ((Below.refl w.heap.size w).alloc (Nat.le_refl _) (.cells #[.int .i64 0,.string ⟨#[]⟩,.slice none 0 0] 24))
 have R0:=qh (Row3.new w (.int .i64 0) (.string ⟨#[]⟩) (.slice none 0 0))
 clear h hf hnm hc CB
 obtain ⟨R,hR⟩:∃ R,Gr E w (.bad qb)=R:=⟨_,rfl⟩
 have HR:=qh hR
 rw [hR]
 clear hR
 go_enter Tryz.func175,Tryz.ntmps175
 go_wp2_with fail
 refine (T1.out _ (HP.out.later B0.out)).mono ?_
 rintro e u1 ⟨⟨v1,rfl,hk1⟩,hm,hq1,hl1⟩
 obtain ⟨va,vcap,rfl,_⟩:=hk1.shape
 have KS0:KidsS (fun b=>w.heap.size < b∧b < u1.heap.size) u1 (.slice va l.length vcap) l:=hk1.toS.keep fun b h1 _=>⟨rfl,by have:=h1.1;simp at this;omega,h1.2⟩
 have hp1:=(Mv.before HP.out B0.out hm).ps HP.out hq1
 obtain ⟨nb,hnb⟩:∃ nb,u1.heap.size=nb:=⟨_,rfl⟩
 have hwn:w.heap.size < nb:=by rw [←hnb];exact (R0.out.mv hm (by omega)).lt
 have M:=qh ((Mv.before HP.out B0.out hm).alloc (.cells #[.int .i64 k,.string ⟨#[]⟩,(.slice va l.length vcap)] 24))
 have P:=qh (hp1.later ((Below.refl _ u1).alloc (Nat.le_refl _) (.cells #[.int .i64 k,.string ⟨#[]⟩,(.slice va l.length vcap)] 24)))
 have Rw:=qh ((R0.out.mv hm (by omega)).alloc (.cells #[.int .i64 k,.string ⟨#[]⟩,(.slice va l.length vcap)] 24))
 have Nw:=qh (Row3.newAt (W:=u1) (n:=nb) (v0:=.int .i64 k) (v1:=.string ⟨#[]⟩) (v2:=(.slice va l.length vcap)) hnb.symm)
 have KS:=qh (KS0.keep (S':=fun b=>w.heap.size < b∧b≠nb) (w':=u1.alloc (.cells #[.int .i64 k,.string ⟨#[]⟩,(.slice va l.length vcap)] 24)) fun b h1 h2=>⟨Below.heap_alloc _ _ _ h2,h1.1,by have:=h1.2;omega⟩)
 have hz:nb+1≤(u1.alloc (.cells #[.int .i64 k,.string ⟨#[]⟩,(.slice va l.length vcap)] 24)).heap.size:=by simp;omega
 have Hz:=qh hz
 clear hm hp1 KS0 hz hk1
 go_wp2_with fail
 refine (T2.out _ P.out).mono ?_
 rintro e u4 ⟨rfl,hm,hp⟩
 have hz4:nb+1≤u4.heap.size:=Nat.le_trans Hz.out hm.size
 have M4:=qh (Mv.trans HP.out M.out P.out.le hm)
 have P4:=qh hp
 have R4:=qh (Rw.out.mv hm (by omega))
 have N4:=qh (Nw.out.mv hm (by omega))
 have K4:=qh (KS.out.keep (S':=fun b=>w.heap.size < b∧b≠nb) (w':=u4) fun b h1 h2=>⟨hm.blk b h2 (by omega),h1⟩)
 obtain ⟨⟨m0,m1,m2⟩,f0,f1,f2⟩:=N4.out.cells
 have ln:=N4.out.lt
 clear hm hp
 have F:Hid (∀ w5,Mv E qb u4.drew w5→qb≤E.ts.length→R (.panicked [{ v:=misfit E qb,recovered:=false }]) w5):=qh fun w5 hm5 hq5=>by
  rw [←HR.out]
  exact ⟨rfl,Mv.trans HP.out (M4.out.later (below_drewN (Below.refl _ _) 1)) P4.out.le hm5,hq5⟩
 go_wp2_with fail
 go_region_dies
 all_goals refine (D2.out _ (P4.out.later (Below.refl _ _).drew)).mono ?_
 all_goals rintro e w5 ⟨rfl,hm5,hq5⟩
 all_goals exact ⟨rfl,F.out w5 hm5 hq5⟩
set_option maxRecDepth 100000 in
set_option maxHeartbeats 2000000 in
theorem constants_ok (E:PE) (q:Nat) (w:World) (h:PS E q w) (k:Int) (f:Nat) (hf:16*(E.ts.length - q)+1≤f) (l:List Nd) (q1:Nat) (hnm:Sx.names E.ts f q = .ok l q1) (hc:Sx.txt E.ts q1=[58]) (k2:Int) (s2:ByteArray) (l2:List Nd) (qb:Nat) (CB:∀ w0,PS E (q1+1) w0→Calls Tryz.prog 97 #[.pointer (some ⟨E.pb,0,none⟩)] w0 (Gr E w0 (.ok (.mk k2 s2 l2) qb))) :
  Calls Tryz.prog 175 #[.pointer (some ⟨E.pb,0,none⟩),.int .i64 k] w (Gr E w (.ok (.mk k Sx.noS (l++[.mk k2 s2 l2])) qb)):=by
 have HP:=qh h
 have hpl:=h.lt
 have hfew:=h.g.few
 have T2:=qh (fun w h=>need_yes E q1 ⟨#[58]⟩ w h hc (by decide))
 have D2:=qh CB
 have T1:=qh (fun w h=>names_walk E q w h k f hf)
 rw [hnm] at T1
 have Hsz:Hid (Sx.noS.size≤maxLen):=qh (by unfold maxLen;decide)
 have B0:=qh ((Below.refl w.heap.size w).alloc (Nat.le_refl _) (.cells #[.int .i64 0,.string ⟨#[]⟩,.slice none 0 0] 24))
 have R0:=qh (Row3.new w (.int .i64 0) (.string ⟨#[]⟩) (.slice none 0 0))
 clear h hf hnm hc CB
 obtain ⟨R,hR⟩:∃ R,Gr E w (.ok (.mk k Sx.noS (l++[.mk k2 s2 l2])) qb)=R:=⟨_,rfl⟩
 have HR:=qh hR
 rw [hR]
 clear hR
 go_enter Tryz.func175,Tryz.ntmps175
 go_wp2_with fail
 refine (T1.out _ (HP.out.later B0.out)).mono ?_
 rintro e u1 ⟨⟨v1,rfl,hk1⟩,hm,hq1,hl1⟩
 obtain ⟨va,vcap,rfl,_⟩:=hk1.shape
 have KS0:KidsS (fun b=>w.heap.size < b∧b < u1.heap.size) u1 (.slice va l.length vcap) l:=hk1.toS.keep fun b h1 _=>⟨rfl,by have:=h1.1;simp at this;omega,h1.2⟩
 have hp1:=(Mv.before HP.out B0.out hm).ps HP.out hq1
 obtain ⟨nb,hnb⟩:∃ nb,u1.heap.size=nb:=⟨_,rfl⟩
 have hwn:w.heap.size < nb:=by rw [←hnb];exact (R0.out.mv hm (by omega)).lt
 have M:=qh ((Mv.before HP.out B0.out hm).alloc (.cells #[.int .i64 k,.string ⟨#[]⟩,(.slice va l.length vcap)] 24))
 have P:=qh (hp1.later ((Below.refl _ u1).alloc (Nat.le_refl _) (.cells #[.int .i64 k,.string ⟨#[]⟩,(.slice va l.length vcap)] 24)))
 have Rw:=qh ((R0.out.mv hm (by omega)).alloc (.cells #[.int .i64 k,.string ⟨#[]⟩,(.slice va l.length vcap)] 24))
 have Nw:=qh (Row3.newAt (W:=u1) (n:=nb) (v0:=.int .i64 k) (v1:=.string ⟨#[]⟩) (v2:=(.slice va l.length vcap)) hnb.symm)
 have KS:=qh (KS0.keep (S':=fun b=>w.heap.size < b∧b≠nb) (w':=u1.alloc (.cells #[.int .i64 k,.string ⟨#[]⟩,(.slice va l.length vcap)] 24)) fun b h1 h2=>⟨Below.heap_alloc _ _ _ h2,h1.1,by have:=h1.2;omega⟩)
 have hz:nb+1≤(u1.alloc (.cells #[.int .i64 k,.string ⟨#[]⟩,(.slice va l.length vcap)] 24)).heap.size:=by simp;omega
 have Hz:=qh hz
 clear hm hp1 KS0 hz hk1
 go_wp2_with fail
 refine (T2.out _ P.out).mono ?_
 rintro e u4 ⟨rfl,hm,hp⟩
 have hz4:nb+1≤u4.heap.size:=Nat.le_trans Hz.out hm.size
 have M4:=qh (Mv.trans HP.out M.out P.out.le hm)
 have P4:=qh hp
 have R4:=qh (Rw.out.mv hm (by omega))
 have N4:=qh (Nw.out.mv hm (by omega))
 have K4:=qh (KS.out.keep (S':=fun b=>w.heap.size < b∧b≠nb) (w':=u4) fun b h1 h2=>⟨hm.blk b h2 (by omega),h1⟩)
 obtain ⟨⟨m0,m1,m2⟩,f0,f1,f2⟩:=N4.out.cells
 have ln:=N4.out.lt
 clear hm hp
 go_wp2_with fail
 go_region_law (first
  | (go_simp;go_at_call 97;refine (D2.out _ (P4.out.later (Below.refl _ _).drew)).mono ?_;rintro e w5 ⟨⟨a5,cap5,rfl,hn5⟩,hm5,hq5⟩;have hm5':=Mv.before P4.out (Below.refl _ _).drew hm5;have N5:=qh (N4.out.mv hm5' (by omega));have R5:=qh (R4.out.mv hm5' (by omega));have K5:=qh (K4.out.keep (S':=fun b=>w.heap.size < b∧b≠nb) (w':=w5) fun b h1 h2=>⟨hm5'.blk b h2 (by omega),h1⟩);have hz5:nb+1≤w5.heap.size:=Nat.le_trans hz4 hm5'.size;obtain ⟨⟨c0,c1,c2⟩,y0,y1,y2⟩:=N5.out.cells;have l5:=N5.out.lt)
  | (refine step_append_kidS rfl _ _ rfl (fun b=>w.heap.size < b∧b≠nb) (.slice va l.length vcap) l rfl (K5.out.keep fun b h1 hb2=>⟨Below.heap_alloc _ _ _ hb2,h1⟩) ⟨w5.heap.size,0,none⟩ 1 (by rfl) (.mk k2 s2 l2) (.int .i64 k2) (.string s2) (.slice a5 l2.length cap5) (cells3 w5 _ _ _ _ _ rfl) (hn5.keep (fun b hb1 hb2=>by have hb1':u4.heap.size≤b:=hb1;exact ⟨Below.heap_alloc _ _ _ hb2,⟨by omega,by omega⟩,fun e=>by have:=(K4.out.base0).own b e;omega⟩)) (by first | omega | simp) (by simp;omega) ?_;intro g6 cap6 w6 K6 G6 hg6;have hown:∀ g,(Value.slice none 0 0).ownBlock=some g∨((.slice va l.length vcap):Value).ownBlock=some g→w.heap.size < g∧g≠nb:=(fun g hg=>by obtain ⟨_,_,hS,_⟩:=K5.out;rcases hg with hg | hg <;> first | exact hS g hg | cases hg);have N6:=qh ((N5.out.alloc _).grown' G6 (fun e=>by have:=(hown _ (.inr e.symm)).2;omega));have R6:=qh ((R5.out.alloc _).grown' G6 (fun e=>by have:=(hown _ (.inr e.symm)).1;omega));obtain ⟨⟨d0,d1,d2⟩,z0,z1,z2⟩:=N6.out.cells))
 all_goals
  have hz6:nb+1≤w6.heap.size:=by have:=G6.size;simp at this;omega
  have M6:=Mv.later (Mv.trans HP.out M4.out P4.out.le hm5') ((((Below.refl w.heap.size w5).alloc (by omega) (.cells #[.int .i64 k2,.string s2,.slice a5 l2.length cap5] 24)).grown G6 (by simp;omega) (fun b hb=>by have:=(hown b (.inr hb)).1;omega)))
  obtain ⟨V,hV⟩:∃ V,w6.setCell ⟨nb,2,none⟩ (.slice (some ⟨g6,0,none⟩) (l.length+1) cap6)=V:=⟨_,rfl⟩
  have M7:=qh (show Mv E qb w V by rw [←hV];exact M6.later ((Below.refl w.heap.size w6).setCell (p:=⟨nb,2,none⟩) (by simp only;omega) _))
  have N7:=qh (show Row3 V nb (.int .i64 k) (.string ⟨#[]⟩) (.slice (some ⟨g6,0,none⟩) (l.length+1) cap6) by rw [←hV];exact N6.out.put2 _)
  have R7:=qh (show Row3 V w.heap.size (.int .i64 0) (.string ⟨#[]⟩) (.slice none 0 0) by rw [←hV];exact R6.out.other _ (by simp only;omega))
  have ND:=qh ((K6.node k ⟨#[]⟩ Hsz.out (by unfold maxLen;simp;try omega)).keep (S':=fun b=>w.heap.size≤b) (w':=((V.setCell ⟨w.heap.size,0,none⟩ (.int .i64 k)).setCell ⟨w.heap.size,1,none⟩ (.string ⟨#[]⟩)).setCell ⟨w.heap.size,2,none⟩ (.slice (some ⟨g6,0,none⟩) (l.length+1) cap6)) fun b h1 h2=>⟨(((Kp.refl (w.heap.size+1) V).put3 (b:=w.heap.size) _ _ _ (by omega)).blk b (by omega) (by rw [←hV,setCell_size];exact h2)).trans (by rw [←hV];exact Below.heap_setCell _ _ _ _ h1.2),by omega⟩)
  have Q7:=qh hq5
  try simp only [List.length_nil,List.length_cons,Nat.zero_add,Nat.reduceAdd] at hV N7 ND
  rw [hV]
  clear hV hn5 hm5 hm5' hq5 N5 R5 N6 R6 K6 G6 M6 c0 c1 c2 y0 y1 y2 l5 d0 d1 d2 z0 z1 z2 m0 m1 m2 f0 f1 f2 ln hg6 hown K5
  obtain ⟨⟨n0,n1,n2⟩,_⟩:=N7.out.cells
  obtain ⟨⟨r0,r1,r2⟩,g0,g1,g2⟩:=R7.out.cells
  have ln:=N7.out.lt
  have lr:=R7.out.lt
  go_wp2
  refine ret_node (R7.out.put _ _ _) Tryz.results175 rfl rfl ?_
  rw [←HR.out]
  exact ⟨⟨_,_,by simp only [List.length_append,List.length_singleton];rfl,by simp only [List.length_append,List.length_singleton];exact ND.out⟩,M7.out.put3 (Nat.le_refl _) _ _ _,Q7.out⟩
end Go.Proofs.YtcimcjmdkjajfaaGreatDoor
namespace Go.Proofs.YtcimcjmdkjajfaaGreatDoor
open Go.RowKit
attribute [local go_sem] fieldTok0 fieldTok1 fieldTok2
set_option maxRecDepth 100000 in
set_option maxHeartbeats 1000000 in
theorem pred_wrap (E:PE) (q:Nat) (w:World) (h:PS E q w) (r:Sx.PR Nd) (k:Int) (C:∀ w0,PS E q w0→Calls Tryz.prog 213 #[.pointer (some ⟨E.pb,0,none⟩),.int .i64 k,.func (.func 191) #[.pointer (some ⟨E.pb,0,none⟩)] #[]] w0 (Gr E w0 r)) :
  Calls Tryz.prog 176 #[.pointer (some ⟨E.pb,0,none⟩),.int .i64 k] w (Gr E w r):=by
 have HP:=qh h
 have hpl:=h.lt
 have D:=qh C
 have B0:=qh ((Below.refl w.heap.size w).alloc (Nat.le_refl _) (.cells #[.int .i64 0,.string ⟨#[]⟩,.slice none 0 0] 24))
 have R0:=qh (Row3.new w (.int .i64 0) (.string ⟨#[]⟩) (.slice none 0 0))
 have hmf:∀ (fn:Fn) (first cap:Array Value) (w:World),(Instr.makeFunc fn first cap).run Tryz.prog w = .ok (.func fn first cap) w:=fun _ _ _ _=>rfl
 clear h C
 obtain ⟨R,hR⟩:∃ R,Gr E w r=R:=⟨_,rfl⟩
 have HR:=qh hR
 rw [hR]
 clear hR
 cases r with
 | bad q' =>
  go_enter Tryz.func176,Tryz.ntmps176
  go_wp2_with fail
  refine (D.out _ (HP.out.later B0.out)).mono ?_
  rintro e w1 ⟨rfl,hm,hq⟩
  go_wp2
  rw [←HR.out]
  exact ⟨rfl,rfl,Mv.before HP.out B0.out hm,hq⟩
 | ok t q1 =>
  obtain ⟨k1,s1,l1⟩:=t
  go_enter Tryz.func176,Tryz.ntmps176
  go_wp2_with fail
  refine (D.out _ (HP.out.later B0.out)).mono ?_
  rintro e w1 ⟨⟨a,cap,rfl,hn⟩,hm,hq⟩
  have M1:=qh (Mv.before HP.out B0.out hm)
  have N1:=qh hn
  have R1:=qh (R0.out.mv hm (by omega))
  have Hq:=qh hq
  obtain ⟨⟨n0,n1,n2⟩,g0,g1,g2⟩:=R1.out.cells
  have lr:=R1.out.lt
  clear hm hn hq
  go_wp2
  refine ret_node (R1.out.put _ _ _) Tryz.results176 rfl rfl ?_
  rw [←HR.out]
  exact ⟨⟨a,cap,rfl,N1.out.fin (by simp) (by simpa using (Kp.refl (w.heap.size+1) w1).put3 (b:=w.heap.size) _ _ _ (by omega))⟩,M1.out.put3 (Nat.le_refl _) _ _ _,Hq.out⟩
set_option maxRecDepth 100000 in
set_option maxHeartbeats 1000000 in
theorem modes_wrap (E:PE) (q:Nat) (w:World) (h:PS E q w) (r:Sx.PR Nd) (k:Int) (C:∀ w0,PS E q w0→Calls Tryz.prog 213 #[.pointer (some ⟨E.pb,0,none⟩),.int .i64 k,.func (.func 212) #[.pointer (some ⟨E.pb,0,none⟩)] #[]] w0 (Gr E w0 r)) :
  Calls Tryz.prog 177 #[.pointer (some ⟨E.pb,0,none⟩),.int .i64 k] w (Gr E w r):=by
 have HP:=qh h
 have hpl:=h.lt
 have D:=qh C
 have B0:=qh ((Below.refl w.heap.size w).alloc (Nat.le_refl _) (.cells #[.int .i64 0,.string ⟨#[]⟩,.slice none 0 0] 24))
 have R0:=qh (Row3.new w (.int .i64 0) (.string ⟨#[]⟩) (.slice none 0 0))
 have hmf:∀ (fn:Fn) (first cap:Array Value) (w:World),(Instr.makeFunc fn first cap).run Tryz.prog w = .ok (.func fn first cap) w:=fun _ _ _ _=>rfl
 clear h C
 obtain ⟨R,hR⟩:∃ R,Gr E w r=R:=⟨_,rfl⟩
 have HR:=qh hR
 rw [hR]
 clear hR
 cases r with
 | bad q' =>
  go_enter Tryz.func177,Tryz.ntmps177
  go_wp2_with fail
  refine (D.out _ (HP.out.later B0.out)).mono ?_
  rintro e w1 ⟨rfl,hm,hq⟩
  go_wp2
  rw [←HR.out]
  exact ⟨rfl,rfl,Mv.before HP.out B0.out hm,hq⟩
 | ok t q1 =>
  obtain ⟨k1,s1,l1⟩:=t
  go_enter Tryz.func177,Tryz.ntmps177
  go_wp2_with fail
  refine (D.out _ (HP.out.later B0.out)).mono ?_
  rintro e w1 ⟨⟨a,cap,rfl,hn⟩,hm,hq⟩
  have M1:=qh (Mv.before HP.out B0.out hm)
  have N1:=qh hn
  have R1:=qh (R0.out.mv hm (by omega))
  have Hq:=qh hq
  obtain ⟨⟨n0,n1,n2⟩,g0,g1,g2⟩:=R1.out.cells
  have lr:=R1.out.lt
  clear hm hn hq
  go_wp2
  refine ret_node (R1.out.put _ _ _) Tryz.results177 rfl rfl ?_
  rw [←HR.out]
  exact ⟨⟨a,cap,rfl,N1.out.fin (by simp) (by simpa using (Kp.refl (w.heap.size+1) w1).put3 (b:=w.heap.size) _ _ _ (by omega))⟩,M1.out.put3 (Nat.le_refl _) _ _ _,Hq.out⟩
theorem egSimple:∀ args w,(callFunc 191 args).run Tryz.prog w = .ok (.enter 191 args) w:=enters_of Tryz.func191 (by kernel_rfl) rfl
theorem egSmall:∀ args w,(callFunc 212 args).run Tryz.prog w = .ok (.enter 212 args) w:=enters_of Tryz.func212 (by kernel_rfl) rfl
theorem egNames:∀ args w,(callFunc 174 args).run Tryz.prog w = .ok (.enter 174 args) w:=enters_of Tryz.func174 (by kernel_rfl) rfl
theorem egConsts:∀ args w,(callFunc 175 args).run Tryz.prog w = .ok (.enter 175 args) w:=enters_of Tryz.func175 (by kernel_rfl) rfl
theorem egPred:∀ args w,(callFunc 176 args).run Tryz.prog w = .ok (.enter 176 args) w:=enters_of Tryz.func176 (by kernel_rfl) rfl
theorem egModes:∀ args w,(callFunc 177 args).run Tryz.prog w = .ok (.enter 177 args) w:=enters_of Tryz.func177 (by kernel_rfl) rfl
theorem egClause:∀ args w,(callFunc 178 args).run Tryz.prog w = .ok (.enter 178 args) w:=enters_of Tryz.func178 (by kernel_rfl) rfl
theorem egNamed:∀ args w,(callFunc 179 args).run Tryz.prog w = .ok (.enter 179 args) w:=enters_of Tryz.func179 (by kernel_rfl) rfl
def rdSimple (ts:List Lx.Tok):Nat→Nat→Sx.PR Nd:=fun f p=>Sx.simple ts f p
def rdSmall (ts:List Lx.Tok):Nat→Nat→Sx.PR Nd:=fun _ p=>Sx.small ts p
def constR (ts:List Lx.Tok) (f:Nat) (k:Int) (p:Nat):Sx.PR Nd :=
 match Sx.names ts f p with
 | .bad q=>.bad q
 | .ok l q=>if Sx.txt ts q=[58] then (match Sx.typed ts f (q+1) with
  | .bad r=>.bad r
  | .ok t r=>.ok (.mk k Sx.noS (l++[t])) r) else .bad q
def clauseR (ts:List Lx.Tok) (f:Nat) (k:Int) (p:Nat):Sx.PR Nd :=
 if Sx.knd ts p=1 then (if Sx.txt ts (p+1)=[58] then (match Sx.form ts f (p+1+1) with
  | .bad r=>.bad r
  | .ok t r=>.ok (.mk k (Sx.str (Sx.txt ts p)) ([]++[t])) r) else .bad (p+1)) else .bad p
def listR (rd:Nat→Nat→Sx.PR Nd) (ts:List Lx.Tok) (f:Nat) (k:Int) (p:Nat):Sx.PR Nd :=
 if Sx.knd ts p=1 then appR k (Sx.str (Sx.txt ts p)) (listL rd ts f [] (p+1)) else .bad p
def itemO (ts:List Lx.Tok) (f:Nat) (q:Nat):Sx.PR Nd :=
 if Sx.kindOf (Sx.txt ts q)=2∨Sx.kindOf (Sx.txt ts q)=14 then appR (Sx.kindOf (Sx.txt ts q)) Sx.noS (Sx.names ts f (q+1))
 else if Sx.kindOf (Sx.txt ts q)=3 then constR ts f 3 (q+1)
 else if Sx.kindOf (Sx.txt ts q)=4∨Sx.kindOf (Sx.txt ts q)=5∨Sx.kindOf (Sx.txt ts q)=6 then listR (rdSimple ts) ts f (Sx.kindOf (Sx.txt ts q)) (q+1)
 else if Sx.kindOf (Sx.txt ts q)=7 then listR (rdSmall ts) ts f (Sx.kindOf (Sx.txt ts q)) (q+1)
 else if Sx.kindOf (Sx.txt ts q)=8∨Sx.kindOf (Sx.txt ts q)=9∨Sx.kindOf (Sx.txt ts q)=10∨Sx.kindOf (Sx.txt ts q)=11 then clauseR ts f (Sx.kindOf (Sx.txt ts q)) (q+1)
 else if Sx.kindOf (Sx.txt ts q)=12∨Sx.kindOf (Sx.txt ts q)=13 then namedR (Sx.kindOf (Sx.txt ts q)) (Sx.small ts (q+1))
 else .bad q
theorem named_bad (E:PE) (q:Nat) (w:World) (h:PS E q w) (k:Int) (hk:Sx.knd E.ts q≠1):Calls Tryz.prog 179 #[.pointer (some ⟨E.pb,0,none⟩),.int .i64 k] w (Gr E w (.bad q)):=by
 have:=named_walk E q w h k
 rw [show namedR k (Sx.small E.ts q) = .bad q from by unfold Sx.small;rw [if_neg hk];rfl] at this
 exact this
set_option maxRecDepth 100000 in
set_option maxHeartbeats 1000000 in
theorem clause_none (E:PE) (q:Nat) (w:World) (h:PS E q w) (k:Int) (hk:Sx.knd E.ts q≠1):Calls Tryz.prog 178 #[.pointer (some ⟨E.pb,0,none⟩),.int .i64 k] w (Gr E w (.bad q)):=by
 have HP:=qh h
 have D:=qh (fun w h=>named_bad E q w h k hk)
 have B0:=qh ((Below.refl w.heap.size w).alloc (Nat.le_refl _) (.cells #[.int .i64 0,.string ⟨#[]⟩,.slice none 0 0] 24))
 clear h hk
 go_enter Tryz.func178,Tryz.ntmps178
 go_wp2_with fail
 refine (D.out _ (HP.out.later B0.out)).mono ?_
 rintro e w1 ⟨rfl,hm,hq⟩
 go_wp2
 exact ⟨rfl,rfl,Mv.before HP.out B0.out hm,hq⟩
set_option maxRecDepth 100000 in
set_option maxHeartbeats 1000000 in
theorem listed_none (E:PE) (q:Nat) (w:World) (h:PS E q w) (k:Int) (g:Nat) (hk:Sx.knd E.ts q≠1):Calls Tryz.prog 213 #[.pointer (some ⟨E.pb,0,none⟩),.int .i64 k,.func (.func g) #[.pointer (some ⟨E.pb,0,none⟩)] #[]] w (Gr E w (.bad q)):=by
 have HP:=qh h
 have D:=qh (fun w h=>named_bad E q w h k hk)
 have B0:=qh ((Below.refl w.heap.size w).alloc (Nat.le_refl _) (.cells #[.int .i64 0,.string ⟨#[]⟩,.slice none 0 0] 24))
 clear h hk
 go_enter Tryz.func213,Tryz.ntmps213
 go_wp2_with fail
 refine (D.out _ (HP.out.later B0.out)).mono ?_
 rintro e w1 ⟨rfl,hm,hq⟩
 go_wp2
 exact ⟨rfl,rfl,Mv.before HP.out B0.out hm,hq⟩
set_option maxRecDepth 100000 in
set_option maxHeartbeats 1000000 in
theorem consts_none (E:PE) (q:Nat) (w:World) (h:PS E q w) (k:Int) (f:Nat) (hf:16*(E.ts.length - q)+1≤f) (qb:Nat) (hn:Sx.names E.ts f q = .bad qb):Calls Tryz.prog 175 #[.pointer (some ⟨E.pb,0,none⟩),.int .i64 k] w (Gr E w (.bad qb)):=by
 have HP:=qh h
 have D:=qh (fun w h=>names_walk E q w h k f hf)
 rw [hn] at D
 have B0:=qh ((Below.refl w.heap.size w).alloc (Nat.le_refl _) (.cells #[.int .i64 0,.string ⟨#[]⟩,.slice none 0 0] 24))
 clear h hf hn
 go_enter Tryz.func175,Tryz.ntmps175
 go_wp2_with fail
 refine (D.out _ (HP.out.later B0.out)).mono ?_
 rintro e w1 ⟨rfl,hm,hq⟩
 go_wp2
 exact ⟨rfl,rfl,Mv.before HP.out B0.out hm,hq⟩
theorem namesR_goes (ts:List Lx.Tok):∀ f acc p,p≤ts.length→∀ l q,Sx.namesR ts f acc p = .ok l q→p≤q∧q≤ts.length
 | 0,acc,p,_,l,q,h=>by simp only [Sx.namesR] at h;cases h
 | f+1,acc,p,hp,l,q,h=>by
  simp only [Sx.namesR] at h
  split at h
  ·split at h
   ·cases h
   ·rename_i a q1 e1
    have g1:=Sx.small_ok e1
    have:=namesR_goes ts f _ q1 (by omega) _ _ h
    omega
  ·cases h
   omega
theorem names_goes {ts:List Lx.Tok} {f p q:Nat} {l:List Nd} (h:Sx.names ts f p = .ok l q):p < q∧q≤ts.length:=by
 unfold Sx.names at h
 split at h
 ·cases h
 ·rename_i a q1 e1
  have g1:=Sx.small_ok e1
  have:=namesR_goes ts f _ q1 (by omega) _ _ h
  omega
theorem const_any (E:PE) (f q:Nat) (w:World) (h:PS E q w) (k:Int) (hf:16*(E.ts.length - q)+2≤f):Calls Tryz.prog 175 #[.pointer (some ⟨E.pb,0,none⟩),.int .i64 k] w (Gr E w (constR E.ts f k q)):=by
 unfold constR
 cases hn:Sx.names E.ts f q with
 | bad qb=>exact consts_none E q w h k f (by omega) qb hn
 | ok l q1 =>
  have hgo:=names_goes hn
  simp only
  by_cases hc:Sx.txt E.ts q1=[58]
  ·rw [if_pos hc]
   have CB:=fun w0 (h0:PS E (q1+1) w0)=>typed_any E f (q1+1) w0 h0 (by omega)
   cases ht:Sx.typed E.ts f (q1+1) with
   | bad r=>rw [ht] at CB;exact constants_bb E q w h k f (by omega) l q1 hn hc r CB
   | ok t r=>obtain ⟨k2,s2,l2⟩:=t;rw [ht] at CB;exact constants_ok E q w h k f (by omega) l q1 hn hc k2 s2 l2 r CB
  ·rw [if_neg hc]
   exact constants_no E q w h k f (by omega) l q1 hn hc
theorem clause_any (E:PE) (hsn:SaneT E.ts) (f q:Nat) (w:World) (h:PS E q w) (k:Int) (hf:16*(E.ts.length - (q+2))+10≤f):Calls Tryz.prog 178 #[.pointer (some ⟨E.pb,0,none⟩),.int .i64 k] w (Gr E w (clauseR E.ts f k q)):=by
 unfold clauseR
 by_cases hk:Sx.knd E.ts q=1
 ·rw [if_pos hk]
  by_cases hc:Sx.txt E.ts (q+1)=[58]
  ·rw [if_pos hc]
   have CB:=fun w0 (h0:PS E (q+1+1) w0)=>form_any E hsn f (q+1+1) w0 h0 hf
   cases ht:Sx.form E.ts f (q+1+1) with
   | bad r=>rw [ht] at CB;exact clause_bb E q w h k hk hc r CB
   | ok t r=>obtain ⟨k2,s2,l2⟩:=t;rw [ht] at CB;exact clause_ok E q w h k hk hc k2 s2 l2 r CB
  ·rw [if_neg hc]
   exact clause_no E q w h k hk hc
 ·rw [if_neg hk]
  exact clause_none E q w h k hk
theorem list_any (E:PE) (f q:Nat) (w:World) (h:PS E q w) (k:Int) (hf:16*(E.ts.length - (q+1))+2≤f) (g:Nat) (eg:∀ args w,(callFunc g args).run Tryz.prog w = .ok (.enter g args) w) (rd:Nat→Nat→Sx.PR Nd) (hgo:∀ f1 p,Sx.Goes E.ts p (rd f1 p))
  (CR:∀ f1 p w0,f1 < f→q < p→16*(E.ts.length - p)+1≤f1→PS E p w0→Calls Tryz.prog g #[.pointer (some ⟨E.pb,0,none⟩)] w0 (Gr E w0 (rd f1 p))) :
  Calls Tryz.prog 213 #[.pointer (some ⟨E.pb,0,none⟩),.int .i64 k,.func (.func g) #[.pointer (some ⟨E.pb,0,none⟩)] #[]] w (Gr E w (listR rd E.ts f k q)):=by
 unfold listR
 by_cases hk:Sx.knd E.ts q=1
 ·rw [if_pos hk]
  exact listed_walk E q w h k hk f hf g eg rd hgo CR
 ·rw [if_neg hk]
  exact listed_none E q w h k g hk
end Go.Proofs.YtcimcjmdkjajfaaGreatDoor
namespace Go.Proofs.YtcimcjmdkjajfaaGreatDoor
open Go.RowKit
theorem items_none {t:Lx.Bs} (h0:t≠[116,121,112,101]) (h1:t≠[101,120,112,111,114,116]) (h2:t≠[99,111,110,115,116]) (h3:t≠[112,114,101,100]) (h4:t≠[102,97,99,116]) (h5:t≠[108,97,115,116,105,110,103]) (h6:t≠[109,111,100,101]) (h7:t≠[114,117,108,101]) (h8:t≠[111,110,99,101]) (h9:t≠[109,111,115,116]) (h10:t≠[113,117,101,114,121]) (h11:t≠[109,111,100,117,108,101]) (h12:t≠[117,115,101]):found itemsL t=none:=by
 unfold found itemsL
 have f:∀ s:List UInt8,t≠s→(s==t)=false:=fun s h=>by rw [beq_eq_false_iff_ne];exact fun e=>h e.symm
 simp [f _ h0,f _ h1,f _ h2,f _ h3,f _ h4,f _ h5,f _ h6,f _ h7,f _ h8,f _ h9,f _ h10,f _ h11,f _ h12]
theorem kindOf_none {t:Lx.Bs} (h0:t≠[116,121,112,101]) (h1:t≠[101,120,112,111,114,116]) (h2:t≠[99,111,110,115,116]) (h3:t≠[112,114,101,100]) (h4:t≠[102,97,99,116]) (h5:t≠[108,97,115,116,105,110,103]) (h6:t≠[109,111,100,101]) (h7:t≠[114,117,108,101]) (h8:t≠[111,110,99,101]) (h9:t≠[109,111,115,116]) (h10:t≠[113,117,101,114,121]) (h11:t≠[109,111,100,117,108,101]) (h12:t≠[117,115,101]):Sx.kindOf t=0:=by
 unfold Sx.kindOf
 simp [h0,h1,h2,h3,h4,h5,h6,h7,h8,h9,h10,h11,h12]
theorem rdSimple_goes (ts:List Lx.Tok) (f1 p:Nat):Sx.Goes ts p (rdSimple ts f1 p):=(Sx.typed_goes ts f1).2 p
theorem rdSmall_goes (ts:List Lx.Tok) (f1 p:Nat):Sx.Goes ts p (rdSmall ts f1 p):=fun a q h=>by
 have:=Sx.small_ok h
 omega
theorem item_any (E:PE) (hsn:SaneT E.ts) (f q:Nat) (w:World) (h:PS E q w) (hf:16*(E.ts.length - q)+10≤f):Calls Tryz.prog 138 #[.pointer (some ⟨E.pb,0,none⟩),.map (some E.mi)] w (Gr E w (itemO E.ts f q)):=by
 have HM:∀ W,PS E q W→StrMap W E.mi itemsL:=fun W hW=>hW.g.mi
 have hfew:=h.g.few
 by_cases h0:Sx.txt E.ts q=[116,121,112,101]
 ·have hq:=Sx.txt_at h0
  have e:itemO E.ts f q=appR 2 Sx.noS (Sx.names E.ts f (q+1)):=by unfold itemO;rw [h0];rfl
  rw [e]
  exact opened_walk E q w h E.mi itemsL HM _ egNames (by rw [h0];rfl) hq 2 (by rw [h0];rfl) _ fun w1 h1=>(names_walk E (q+1) w1 h1 2 f (by omega)).mono fun e w' he=>GrK.gr (by unfold maxLen;decide) hfew he
 by_cases h1:Sx.txt E.ts q=[101,120,112,111,114,116]
 ·have hq:=Sx.txt_at h1
  have e:itemO E.ts f q=appR 14 Sx.noS (Sx.names E.ts f (q+1)):=by unfold itemO;rw [h1];rfl
  rw [e]
  exact opened_walk E q w h E.mi itemsL HM _ egNames (by rw [h1];rfl) hq 14 (by rw [h1];rfl) _ fun w1 h1=>(names_walk E (q+1) w1 h1 14 f (by omega)).mono fun e w' he=>GrK.gr (by unfold maxLen;decide) hfew he
 by_cases h2:Sx.txt E.ts q=[99,111,110,115,116]
 ·have hq:=Sx.txt_at h2
  have e:itemO E.ts f q=constR E.ts f 3 (q+1):=by unfold itemO;rw [h2];rfl
  rw [e]
  exact opened_walk E q w h E.mi itemsL HM _ egConsts (by rw [h2];rfl) hq 3 (by rw [h2];rfl) _ fun w1 h1=>const_any E f (q+1) w1 h1 3 (by omega)
 by_cases h3:Sx.txt E.ts q=[112,114,101,100]
 ·have hq:=Sx.txt_at h3
  have e:itemO E.ts f q=listR (rdSimple E.ts) E.ts f 4 (q+1):=by unfold itemO;rw [h3];rfl
  rw [e]
  exact opened_walk E q w h E.mi itemsL HM _ egPred (by rw [h3];rfl) hq 4 (by rw [h3];rfl) _ fun w1 h1=>pred_wrap E (q+1) w1 h1 _ 4 fun w2 h2=>list_any E f (q+1) w2 h2 4 (by omega) _ egSimple _ (rdSimple_goes E.ts) fun f1 p w3 hf1 hp hm h3=>simple_any E f1 p w3 h3 hm
 by_cases h4:Sx.txt E.ts q=[102,97,99,116]
 ·have hq:=Sx.txt_at h4
  have e:itemO E.ts f q=listR (rdSimple E.ts) E.ts f 5 (q+1):=by unfold itemO;rw [h4];rfl
  rw [e]
  exact opened_walk E q w h E.mi itemsL HM _ egPred (by rw [h4];rfl) hq 5 (by rw [h4];rfl) _ fun w1 h1=>pred_wrap E (q+1) w1 h1 _ 5 fun w2 h2=>list_any E f (q+1) w2 h2 5 (by omega) _ egSimple _ (rdSimple_goes E.ts) fun f1 p w3 hf1 hp hm h3=>simple_any E f1 p w3 h3 hm
 by_cases h5:Sx.txt E.ts q=[108,97,115,116,105,110,103]
 ·have hq:=Sx.txt_at h5
  have e:itemO E.ts f q=listR (rdSimple E.ts) E.ts f 6 (q+1):=by unfold itemO;rw [h5];rfl
  rw [e]
  exact opened_walk E q w h E.mi itemsL HM _ egPred (by rw [h5];rfl) hq 6 (by rw [h5];rfl) _ fun w1 h1=>pred_wrap E (q+1) w1 h1 _ 6 fun w2 h2=>list_any E f (q+1) w2 h2 6 (by omega) _ egSimple _ (rdSimple_goes E.ts) fun f1 p w3 hf1 hp hm h3=>simple_any E f1 p w3 h3 hm
 by_cases h6:Sx.txt E.ts q=[109,111,100,101]
 ·have hq:=Sx.txt_at h6
  have e:itemO E.ts f q=listR (rdSmall E.ts) E.ts f 7 (q+1):=by unfold itemO;rw [h6];rfl
  rw [e]
  exact opened_walk E q w h E.mi itemsL HM _ egModes (by rw [h6];rfl) hq 7 (by rw [h6];rfl) _ fun w1 h1=>modes_wrap E (q+1) w1 h1 _ 7 fun w2 h2=>list_any E f (q+1) w2 h2 7 (by omega) _ egSmall _ (rdSmall_goes E.ts) fun f1 p w3 hf1 hp hm h3=>small_gr E p w3 h3
 by_cases h7:Sx.txt E.ts q=[114,117,108,101]
 ·have hq:=Sx.txt_at h7
  have e:itemO E.ts f q=clauseR E.ts f 8 (q+1):=by unfold itemO;rw [h7];rfl
  rw [e]
  exact opened_walk E q w h E.mi itemsL HM _ egClause (by rw [h7];rfl) hq 8 (by rw [h7];rfl) _ fun w1 h1=>clause_any E hsn f (q+1) w1 h1 8 (by omega)
 by_cases h8:Sx.txt E.ts q=[111,110,99,101]
 ·have hq:=Sx.txt_at h8
  have e:itemO E.ts f q=clauseR E.ts f 9 (q+1):=by unfold itemO;rw [h8];rfl
  rw [e]
  exact opened_walk E q w h E.mi itemsL HM _ egClause (by rw [h8];rfl) hq 9 (by rw [h8];rfl) _ fun w1 h1=>clause_any E hsn f (q+1) w1 h1 9 (by omega)
 by_cases h9:Sx.txt E.ts q=[109,111,115,116]
 ·have hq:=Sx.txt_at h9
  have e:itemO E.ts f q=clauseR E.ts f 10 (q+1):=by unfold itemO;rw [h9];rfl
  rw [e]
  exact opened_walk E q w h E.mi itemsL HM _ egClause (by rw [h9];rfl) hq 10 (by rw [h9];rfl) _ fun w1 h1=>clause_any E hsn f (q+1) w1 h1 10 (by omega)
 by_cases h10:Sx.txt E.ts q=[113,117,101,114,121]
 ·have hq:=Sx.txt_at h10
  have e:itemO E.ts f q=clauseR E.ts f 11 (q+1):=by unfold itemO;rw [h10];rfl
  rw [e]
  exact opened_walk E q w h E.mi itemsL HM _ egClause (by rw [h10];rfl) hq 11 (by rw [h10];rfl) _ fun w1 h1=>clause_any E hsn f (q+1) w1 h1 11 (by omega)
 by_cases h11:Sx.txt E.ts q=[109,111,100,117,108,101]
 ·have hq:=Sx.txt_at h11
  have e:itemO E.ts f q=namedR 12 (Sx.small E.ts (q+1)):=by unfold itemO;rw [h11];rfl
  rw [e]
  exact opened_walk E q w h E.mi itemsL HM _ egNamed (by rw [h11];rfl) hq 12 (by rw [h11];rfl) _ fun w1 h1=>named_walk E (q+1) w1 h1 12
 by_cases h12:Sx.txt E.ts q=[117,115,101]
 ·have hq:=Sx.txt_at h12
  have e:itemO E.ts f q=namedR 13 (Sx.small E.ts (q+1)):=by unfold itemO;rw [h12];rfl
  rw [e]
  exact opened_walk E q w h E.mi itemsL HM _ egNamed (by rw [h12];rfl) hq 13 (by rw [h12];rfl) _ fun w1 h1=>named_walk E (q+1) w1 h1 13
 have e:itemO E.ts f q = .bad q:=by unfold itemO;rw [kindOf_none h0 h1 h2 h3 h4 h5 h6 h7 h8 h9 h10 h11 h12];rfl
 rw [e]
 refine (opened_none E q w h E.mi itemsL HM (items_none h0 h1 h2 h3 h4 h5 h6 h7 h8 h9 h10 h11 h12)).mono ?_
 rintro e w' ⟨rfl,hb⟩
 exact ⟨rfl,Mv.below h hb,h.le⟩
end Go.Proofs.YtcimcjmdkjajfaaGreatDoor
namespace Go.Proofs.YtcimcjmdkjajfaaGreatDoor
open Go.RowKit
def dotR (ts:List Lx.Tok) (r:Sx.PR (List Nd)):Sx.PR (List Nd) :=
 match r with
 | .bad q=>.bad q
 | .ok l q=>if Sx.txt ts q=[46] then .ok l q else .bad q
theorem simples_dot {ts:List Lx.Tok} (hsn:SaneT ts):∀ f acc p,dotR ts (listL (rdSimple ts) ts f acc p)=dotR ts (Sx.simples ts f acc p)
 | 0,acc,p=>by simp only [listL,Sx.simples]
 | f+1,acc,p=>by
  by_cases hd:Sx.txt ts p=[46]
  ·have h1:Sx.knd ts p≠1:=fun e=>hsn p (.inl e) [46] (by decide) hd
   have h2:¬ (Sx.txt ts p=[40]∨Sx.knd ts p=1):=by
    rintro (e | e)
    ·rw [hd] at e;cases e
    ·exact h1 e
   simp only [Sx.simples]
   rw [listL_end hd,if_neg h2]
  ·by_cases hc:Sx.txt ts p=[40]∨Sx.knd ts p=1
   ·simp only [Sx.simples]
    rw [if_pos hc]
    cases hs:Sx.simple ts f p with
    | bad q=>rw [listL_bad hd (show rdSimple ts f p = .bad q from hs)]
    | ok a q=>rw [listL_ok hd (show rdSimple ts f p = .ok a q from hs)];exact simples_dot hsn f _ q
   ·simp only [Sx.simples]
    rw [if_neg hc]
    have hs:rdSimple ts f p = .bad p:=by
     unfold rdSimple
     cases f with
     | zero=>rfl
     | succ f =>
      simp only [Sx.simple]
      rw [if_neg (fun e=>hc (.inl e))]
      unfold Sx.small
      rw [if_neg (fun e=>hc (.inr e))]
    rw [listL_bad hd hs]
    simp only [dotR]
    rw [if_neg hd]
theorem smalls_dot {ts:List Lx.Tok} (hsn:SaneT ts):∀ f acc p,dotR ts (listL (rdSmall ts) ts f acc p)=dotR ts (Sx.smalls ts f acc p)
 | 0,acc,p=>by simp only [listL,Sx.smalls]
 | f+1,acc,p=>by
  by_cases hk:Sx.knd ts p=1
  ·have hd:Sx.txt ts p≠[46]:=hsn p (.inl hk) [46] (by decide)
   have hs:rdSmall ts f p = .ok (Sx.leaf 15 (Sx.txt ts p)) (p+1):=by unfold rdSmall Sx.small;rw [if_pos hk]
   simp only [Sx.smalls]
   rw [listL_ok hd hs,if_pos hk]
   exact smalls_dot hsn f _ _
  ·simp only [Sx.smalls]
   rw [if_neg hk]
   by_cases hd:Sx.txt ts p=[46]
   ·rw [listL_end hd]
   ·have hs:rdSmall ts f p = .bad p:=by unfold rdSmall Sx.small;rw [if_neg hk]
    rw [listL_bad hd hs]
    simp only [dotR]
    rw [if_neg hd]
theorem need_app (E:PE) (k:Int) (s:ByteArray) (r:Sx.PR (List Nd)):needR E [46] (appR k s r)=needR E [46] (appR k s (dotR E.ts r)):=by
 cases r with
 | bad q=>rfl
 | ok l q =>
  simp only [appR,dotR,needR]
  by_cases hd:Sx.txt E.ts q=[46]
  ·rw [if_pos hd,if_pos hd];simp only;rw [if_pos hd]
  ·rw [if_neg hd,if_neg hd]
theorem kindOf_range (t:Lx.Bs):Sx.kindOf t=0∨Sx.kindOf t=2∨Sx.kindOf t=3∨Sx.kindOf t=4∨Sx.kindOf t=5∨Sx.kindOf t=6∨Sx.kindOf t=7∨Sx.kindOf t=8∨Sx.kindOf t=9∨Sx.kindOf t=10∨Sx.kindOf t=11∨Sx.kindOf t=12∨Sx.kindOf t=13∨Sx.kindOf t=14:=by
 unfold Sx.kindOf
 by_cases h0:t=[116,121,112,101]
 ·subst h0;decide
 rw [if_neg h0]
 by_cases h1:t=[99,111,110,115,116]
 ·subst h1;decide
 rw [if_neg h1]
 by_cases h2:t=[112,114,101,100]
 ·subst h2;decide
 rw [if_neg h2]
 by_cases h3:t=[102,97,99,116]
 ·subst h3;decide
 rw [if_neg h3]
 by_cases h4:t=[108,97,115,116,105,110,103]
 ·subst h4;decide
 rw [if_neg h4]
 by_cases h5:t=[109,111,100,101]
 ·subst h5;decide
 rw [if_neg h5]
 by_cases h6:t=[114,117,108,101]
 ·subst h6;decide
 rw [if_neg h6]
 by_cases h7:t=[111,110,99,101]
 ·subst h7;decide
 rw [if_neg h7]
 by_cases h8:t=[109,111,115,116]
 ·subst h8;decide
 rw [if_neg h8]
 by_cases h9:t=[113,117,101,114,121]
 ·subst h9;decide
 rw [if_neg h9]
 by_cases h10:t=[109,111,100,117,108,101]
 ·subst h10;decide
 rw [if_neg h10]
 by_cases h11:t=[117,115,101]
 ·subst h11;decide
 rw [if_neg h11]
 by_cases h12:t=[101,120,112,111,114,116]
 ·subst h12;decide
 rw [if_neg h12]
 exact .inl rfl
theorem item_eq (E:PE) (f q:Nat):Sx.item E.ts f q=if Sx.kindOf (Sx.txt E.ts q)=0 then .bad q else needR E [46] (Sx.itemB E.ts f (Sx.kindOf (Sx.txt E.ts q)) (q+1)):=by
 unfold Sx.item
 by_cases h:Sx.kindOf (Sx.txt E.ts q)=0
 ·rw [if_pos h,if_pos h]
 ·rw [if_neg h,if_neg h]
  cases Sx.itemB E.ts f (Sx.kindOf (Sx.txt E.ts q)) (q+1) <;> rfl
theorem itemO_item (E:PE) (hsn:SaneT E.ts) (f q:Nat):needR E [46] (itemO E.ts f q)=Sx.item E.ts f q:=by
 rw [item_eq]
 unfold itemO
 have hr:=kindOf_range (Sx.txt E.ts q)
 generalize Sx.kindOf (Sx.txt E.ts q)=k at *
 have hnames:∀ k:Int,(k=2∨k=14)→appR k Sx.noS (Sx.names E.ts f (q+1))=Sx.itemB E.ts f k (q+1):=fun k hk=>by
  unfold Sx.itemB
  rw [if_pos hk]
  cases Sx.names E.ts f (q+1) <;> rfl
 have hlist:∀ k:Int,(k=4∨k=5∨k=6)→needR E [46] (listR (rdSimple E.ts) E.ts f k (q+1))=needR E [46] (Sx.itemB E.ts f k (q+1)):=fun k hk=>by
  unfold listR Sx.itemB
  rw [if_neg (show ¬ ((k:Int)=2∨(k:Int)=14) by omega),if_neg (show ¬ ((k:Int)=3) by omega)]
  unfold Sx.small
  by_cases h1:Sx.knd E.ts (q+1)=1
  ·rw [if_pos h1,if_pos h1,need_app,simples_dot hsn,←need_app]
   simp only [Sx.leaf,Sx.behind]
   rw [if_pos hk]
   cases Sx.simples E.ts f [] (q+1+1) <;> rfl
  ·rw [if_neg h1,if_neg h1]
 have hmode:needR E [46] (listR (rdSmall E.ts) E.ts f 7 (q+1))=needR E [46] (Sx.itemB E.ts f 7 (q+1)):=by
  unfold listR Sx.itemB
  rw [if_neg (show ¬ ((7:Int)=2∨(7:Int)=14) by omega),if_neg (show ¬ ((7:Int)=3) by omega)]
  unfold Sx.small
  by_cases h1:Sx.knd E.ts (q+1)=1
  ·rw [if_pos h1,if_pos h1,need_app,smalls_dot hsn,←need_app]
   simp only [Sx.leaf,Sx.behind]
   rw [if_neg (show ¬ ((7:Int)=4∨(7:Int)=5∨(7:Int)=6) by omega),if_pos trivial]
   cases Sx.smalls E.ts f [] (q+1+1) <;> rfl
  ·rw [if_neg h1,if_neg h1]
 have hcl:∀ k:Int,(k=8∨k=9∨k=10∨k=11)→clauseR E.ts f k (q+1)=Sx.itemB E.ts f k (q+1):=fun k hk=>by
  unfold clauseR Sx.itemB
  rw [if_neg (show ¬ ((k:Int)=2∨(k:Int)=14) by omega),if_neg (show ¬ ((k:Int)=3) by omega)]
  unfold Sx.small
  by_cases h1:Sx.knd E.ts (q+1)=1
  ·rw [if_pos h1,if_pos h1]
   simp only [Sx.leaf,Sx.behind]
   rw [if_neg (show ¬ (k=4∨k=5∨k=6) by omega),if_neg (show ¬ (k=7) by omega),if_pos hk]
   by_cases hc:Sx.txt E.ts (q+1+1)=[58]
   ·rw [if_pos hc,if_pos hc]
    cases Sx.form E.ts f (q+1+1+1) <;> rfl
   ·rw [if_neg hc,if_neg hc]
  ·rw [if_neg h1,if_neg h1]
 have hus:∀ k:Int,(k=12∨k=13)→namedR k (Sx.small E.ts (q+1))=Sx.itemB E.ts f k (q+1):=fun k hk=>by
  unfold Sx.itemB
  rw [if_neg (show ¬ ((k:Int)=2∨(k:Int)=14) by omega),if_neg (show ¬ ((k:Int)=3) by omega)]
  unfold Sx.small
  by_cases h1:Sx.knd E.ts (q+1)=1
  ·rw [if_pos h1]
   simp only [Sx.leaf,Sx.behind,namedR]
   rw [if_neg (show ¬ (k=4∨k=5∨k=6) by omega),if_neg (show ¬ (k=7) by omega),if_neg (show ¬ (k=8∨k=9∨k=10∨k=11) by omega)]
  ·rw [if_neg h1];rfl
 have hcon:constR E.ts f 3 (q+1)=Sx.itemB E.ts f 3 (q+1):=by
  unfold constR Sx.itemB
  rw [if_neg (show ¬ ((3:Int)=2∨(3:Int)=14) by omega),if_pos rfl]
  cases Sx.names E.ts f (q+1) with
  | bad _=>rfl
  | ok l q1 =>
   simp only
   by_cases hc:Sx.txt E.ts q1=[58]
   ·rw [if_pos hc,if_pos hc]
    cases Sx.typed E.ts f (q1+1) <;> rfl
   ·rw [if_neg hc,if_neg hc]
 by_cases h0:k=0
 ·subst h0;rfl
 rw [if_neg h0]
 by_cases h1:k=2∨k=14
 ·rw [if_pos h1,hnames k h1]
 rw [if_neg h1]
 by_cases h2:k=3
 ·subst h2;rw [if_pos rfl,hcon]
 rw [if_neg h2]
 by_cases h3:k=4∨k=5∨k=6
 ·rw [if_pos h3,hlist k h3]
 rw [if_neg h3]
 by_cases h4:k=7
 ·subst h4;rw [if_pos rfl,hmode]
 rw [if_neg h4]
 by_cases h5:k=8∨k=9∨k=10∨k=11
 ·rw [if_pos h5,hcl k h5]
 rw [if_neg h5]
 by_cases h6:k=12∨k=13
 ·rw [if_pos h6,hus k h6]
 ·omega
end Go.Proofs.YtcimcjmdkjajfaaGreatDoor
namespace Go.Proofs.YtcimcjmdkjajfaaGreatDoor
open Go.RowKit
theorem items_end {ts:List Lx.Tok} {f:Nat} {acc:List Nd} {p:Nat} (h:¬ p < ts.length):Sx.items ts (f+1) acc p = .ok acc p:=by simp only [Sx.items];rw [if_neg h]
theorem items_bad {ts:List Lx.Tok} {f:Nat} {acc:List Nd} {p q:Nat} (h:p < ts.length) (h2:Sx.item ts f p = .bad q):Sx.items ts (f+1) acc p = .bad q:=by simp only [Sx.items];rw [if_pos h,h2]
theorem items_ok {ts:List Lx.Tok} {f:Nat} {acc:List Nd} {p q:Nat} {a:Nd} (h:p < ts.length) (h2:Sx.item ts f p = .ok a q):Sx.items ts (f+1) acc p=Sx.items ts f (acc++[a]) q:=by simp only [Sx.items];rw [if_pos h,h2]
theorem itemO_goes (E:PE) (f q:Nat):Sx.Goes E.ts q (itemO E.ts f q):=by
 intro a p h
 have hs:∀ q1 a p,Sx.small E.ts q1 = .ok a p→p=q1+1∧p≤E.ts.length:=fun q1 a p h=>⟨(Sx.small_ok h).1,(Sx.small_ok h).2.1⟩
 have hl:∀ rd:Nat→Nat→Sx.PR Nd,(∀ f p,Sx.Goes E.ts p (rd f p))→∀ f acc p,p≤E.ts.length→∀ l q,listL rd E.ts f acc p = .ok l q→p≤q∧q≤E.ts.length:=by
  intro rd hrd f
  induction f with
  | zero=>intro acc p _ l q h;simp only [listL] at h;cases h
  | succ f ih =>
   intro acc p hp l q h
   simp only [listL] at h
   split at h
   ·cases h;omega
   ·split at h
    ·cases h
    ·rename_i a q1 e1
     have g1:=hrd f p _ _ e1
     have:=ih _ q1 g1.2 _ _ h
     omega
 have hlr:∀ rd:Nat→Nat→Sx.PR Nd,(∀ f p,Sx.Goes E.ts p (rd f p))→∀ k q1 a p,listR rd E.ts f k q1 = .ok a p→q1 < p∧p≤E.ts.length:=by
  intro rd hrd k q1 a p h
  unfold listR at h
  split at h
  ·rename_i hk
   have hk2:=Sx.knd_lt (ts:=E.ts) (p:=q1) (by omega)
   cases hL:listL rd E.ts f [] (q1+1) with
   | bad _=>rw [hL] at h;cases h
   | ok l q2 =>
    rw [hL] at h
    have:=hl rd hrd f [] (q1+1) (by omega) _ _ hL
    cases h
    omega
  ·cases h
 unfold itemO at h
 repeat' (split at h)
 ·cases hn:Sx.names E.ts f (q+1) with
  | bad _=>rw [hn] at h;cases h
  | ok l q1=>rw [hn] at h;have:=names_goes hn;cases h;omega
 ·unfold constR at h
  split at h
  ·cases h
  ·rename_i l q1 hn
   have:=names_goes hn
   split at h
   ·split at h
    ·cases h
    ·rename_i t r ht
     have:=(Sx.typed_goes E.ts f).1 _ _ _ ht
     cases h;omega
   ·cases h
 ·have:=hlr _ (rdSimple_goes E.ts) _ _ _ _ h;omega
 ·have:=hlr _ (rdSmall_goes E.ts) _ _ _ _ h;omega
 ·unfold clauseR at h
  split at h
  ·split at h
   ·split at h
    ·cases h
    ·rename_i t r ht
     have:=(Sx.form_goes E.ts f).2.2.1 _ _ _ ht
     cases h;omega
   ·cases h
  ·cases h
 ·cases hn:Sx.small E.ts (q+1) with
  | bad _=>rw [hn] at h;cases h
  | ok x q1=>obtain ⟨k1,s1,l1⟩:=x;rw [hn] at h;have:=hs _ _ _ hn;cases h;omega
 ·cases h
set_option maxRecDepth 100000 in
set_option maxHeartbeats 4000000 in
theorem text_walk (E:PE) (hsn:SaneT E.ts) (q:Nat) (w:World) (h:PS E q w) (f:Nat) (hf:16*(E.ts.length - q)+11≤f) :
  Calls Tryz.prog 93 #[.pointer (some ⟨E.pb,0,none⟩)] w (Gr E w (appR 1 Sx.noS (Sx.items E.ts f [] q))):=by
 have HP:=qh h
 have hpl:=h.lt
 have hfew:=h.g.few
 have Hf:=qh hf
 have D:=qh (fun f p w h hf=>item_any E hsn f p w h hf)
 have Hsn:=qh hsn
 have B0:=qh ((Below.refl w.heap.size w).alloc (Nat.le_refl _) (.cells #[.int .i64 0,.string ⟨#[]⟩,.slice none 0 0] 24))
 obtain ⟨A,hA⟩:∃ A,Sx.items E.ts f [] q=A:=⟨_,rfl⟩
 have HA:=qh hA
 obtain ⟨R,hR⟩:∃ R,Gr E w (appR 1 Sx.noS A)=R:=⟨_,rfl⟩
 have HR:=qh hR
 rw [hA,hR]
 clear h hA hR hf hsn
 go_enter Tryz.func93,Tryz.ntmps93
 go_wp2_with fail
 obtain ⟨W0,hW0⟩:∃ W,(w.alloc (.cells #[.int .i64 0,.string ⟨#[]⟩,.slice none 0 0] 24)).alloc (.cells #[.int .i64 1,.string ⟨#[]⟩,.slice none 0 0] 24)=W:=⟨_,rfl⟩
 have M0:=qh (show Mv E q w W0 by rw [←hW0];exact Mv.below HP.out (B0.out.alloc (by simp) _))
 have P0:=qh (M0.out.ps HP.out HP.out.le)
 have R0:=qh (show Row3 W0 w.heap.size (.int .i64 0) (.string ⟨#[]⟩) (.slice none 0 0) by rw [←hW0];exact (Row3.new w _ _ _).alloc _)
 have N0:=qh (show Row3 W0 (w.heap.size+1) (.int .i64 1) (.string ⟨#[]⟩) (.slice none 0 0) by rw [←hW0];exact Row3.newAt (by simp))
 have z0:w.heap.size+1+1≤W0.heap.size:=by rw [←hW0];simp
 have Hz0:=qh z0
 rw [hW0]
 clear hW0 z0
 go_loopw [] (fun W=>∃ (f1 p:Nat) (acc:List Nd) (v:Value),q≤p∧16*(E.ts.length - p)+11≤f1∧acc.length≤p∧Hid (Sx.items E.ts f1 acc p=A)∧Hid (Mv E p w W)∧Hid (PS E p W)∧Hid (Row3 W w.heap.size (.int .i64 0) (.string ⟨#[]⟩) (.slice none 0 0))∧Hid (Row3 W (w.heap.size+1) (.int .i64 1) (.string ⟨#[]⟩) v)∧Hid (Kids (w.heap.size+1+1) W v acc)∧Hid (w.heap.size+1+1≤W.heap.size)) (fun W=>E.ts.length+1 - nxt E W)
 case atStart =>
  exact ⟨f,q,[],.slice none 0 0,Nat.le_refl _,Hf.out,Nat.zero_le _,HA,M0,P0,R0,N0,Kids.nil _ _,Hz0⟩
 case round =>
  obtain ⟨f1,p,acc,v,hqp,hf1,hacc,hrun,hM,hP,hRw,hN,hK,hz⟩:=hrel
  clear M0 P0 R0 N0 Hz0 HA
  obtain ⟨va,vcap,rfl,_⟩:=hK.out.shape
  obtain ⟨f2,rfl⟩:∃ f2,f1=f2+1:=⟨f1 - 1,by omega⟩
  have hple:=hP.out.le
  have hnl:=hN.out.lt
  have hrl:=hRw.out.lt
  have Hmeas:=qh hP.out.nxt
  obtain ⟨pc0,pc1,_,pc3,_⟩:=hP.out.cells
  have hpw:=hP.out.lt
  obtain ⟨nt,hnt⟩:∃ nt,E.ts.length=nt:=⟨_,rfl⟩
  have Hnt:=qh hnt
  by_cases hlt:p < E.ts.length
  ·have hlt2:(p:Int) < (nt:Int):=by omega
   have DB:=qh (fun w0 h0=>D.out f2 p w0 h0 (by omega))
   obtain ⟨⟨n0,n1,n2⟩,g0,g1,g2⟩:=hN.out.cells
   have hit:=itemO_item E Hsn.out f2 p
   rw [hnt] at pc0
   clear hnt
   cases hs:itemO E.ts f2 p with
   | bad qb =>
    have HA':=qh (hrun.out.symm.trans (items_bad hlt (by rw [←hit,hs];rfl)))
    rw [hs] at DB
    clear hs D hrun hit hlt
    go_wp2_with fail
    go_quiet (fail)
    have F:Hid (∀ u w5,Below wr.heap.size wr u→Mv E qb u w5→qb≤E.ts.length→R (.panicked [{ v:=misfit E qb,recovered:=false }]) w5):=qh fun u w5 hu hm5 hq5=>by
     rw [←HR.out,HA'.out]
     exact ⟨rfl,Mv.trans HP.out (hM.out.later (hu.mono hM.out.size)) hple hm5,hq5⟩
    go_wp2_with fail
    go_region_dies
    all_goals refine (DB.out _ (hP.out.later (below_drewN (Below.refl _ _) _))).mono ?_
    all_goals rintro e w5 ⟨rfl,hm5,hq5⟩
    all_goals exact ⟨rfl,F.out _ w5 (below_drewN (Below.refl _ _) _) hm5 hq5⟩
   | ok x p1 =>
    obtain ⟨k2,s2,l2⟩:=x
    have hgo:=itemO_goes E f2 p _ _ hs
    rw [hs] at DB
    have Hgo:=qh hgo
    have Hlt:=qh hlt
    have hP2:=qh (show ∀ hd:Sx.txt E.ts p1=[46],Sx.items E.ts f2 (acc++[.mk k2 s2 l2]) (p1+1)=A from fun hd=>(items_ok hlt (by rw [←hit,hs];simp only [needR];rw [if_pos hd])).symm.trans hrun.out)
    have hP3:=qh (show ∀ hd:Sx.txt E.ts p1≠[46],A = .bad p1 from fun hd=>hrun.out.symm.trans (items_bad hlt (by rw [←hit,hs];simp only [needR];rw [if_neg hd])))
    clear hs D hrun hit hlt hgo
    go_wp2_with fail
    go_quiet (fail)
    generalize hW1:wr.drewN _=W1
    have hb1:Below wr.heap.size wr W1:=by rw [←hW1];exact below_drewN (Below.refl _ _) _
    clear hW1 n0 n1 n2 g0 g1 g2 pc0 pc1 pc3 hlt2
    have M1:=qh (hM.out.later (hb1.mono hM.out.size))
    have P1:=qh (hP.out.later hb1)
    have R1:=qh (hRw.out.below hb1 hrl)
    have N1:=qh (hN.out.below hb1 hnl)
    have K1:=qh (hK.out.keep fun b _ h2=>hb1.block b h2)
    have hz1:=qh (Nat.le_trans hz.out hb1.size)
    obtain ⟨⟨n0,n1,n2⟩,g0,g1,g2⟩:=N1.out.cells
    obtain ⟨_,_,_,pc3,_⟩:=P1.out.cells
    have hpw1:=P1.out.lt
    have ln1:=N1.out.lt
    clear hb1
    go_wp2_with fail
    go_region_law (first
     | (go_simp;go_at_call 138;refine (DB.out _ (P1.out.later (Below.refl _ _).drew)).mono ?_;rintro e w5 ⟨⟨a5,cap5,rfl,hn5⟩,hm5,hq5⟩;have hm5':=Mv.before P1.out (Below.refl _ _).drew hm5;have N5:=qh (N1.out.mv hm5' (by omega));have R5:=qh (R1.out.mv hm5' (by omega));have K5:=qh (Kids.step hm5' (by omega) K1.out);have hz5:w.heap.size+1+1≤w5.heap.size:=Nat.le_trans hz1.out hm5'.size;obtain ⟨⟨c0,c1,c2⟩,y0,y1,y2⟩:=N5.out.cells;have l5:=N5.out.lt)
     | (refine step_append_kid rfl _ _ rfl (w.heap.size+1+1) (.slice va acc.length vcap) acc rfl (Kids.keep K5.out fun b _ hb2=>Below.heap_alloc _ _ _ hb2) ⟨w5.heap.size,0,none⟩ 1 (by rfl) (.mk k2 s2 l2) (.int .i64 k2) (.string s2) (.slice a5 l2.length cap5) (cells3 w5 _ _ _ _ _ rfl) (hn5.keep (fun b hb1 hb2=>⟨Below.heap_alloc _ _ _ hb2,Nat.le_trans hz1.out hb1,fun e=>by have:=K1.out.own b e;have hb1':W1.heap.size≤b:=hb1;omega⟩)) (by omega) (by simp;omega) _ rfl ?_;intro g6 cap6 w6 K6 G6 _ hg6;have hown:=K5.out.own;have N6:=qh ((N5.out.alloc _).grown' G6 (fun e=>by have:=hown _ e.symm;omega));have R6:=qh ((R5.out.alloc _).grown' G6 (fun e=>by have:=hown _ e.symm;omega));obtain ⟨⟨d0,d1,d2⟩,z0,z1,z2⟩:=N6.out.cells))
    all_goals
     have hz6:w.heap.size+1+1≤w6.heap.size:=by have:=G6.size;simp at this;omega
     have M6:=Mv.later (Mv.trans HP.out M1.out hple hm5') ((((Below.refl w.heap.size w5).alloc (by omega) (.cells #[.int .i64 k2,.string s2,.slice a5 l2.length cap5] 24)).grown G6 (by simp;omega) (fun b hb=>by have:=hown b hb;omega)))
     obtain ⟨V,hV⟩:∃ V,w6.setCell ⟨w.heap.size+1,2,none⟩ (.slice (some ⟨g6,0,none⟩) (acc.length+1) cap6)=V:=⟨_,rfl⟩
     have M7:=qh (show Mv E p1 w V by rw [←hV];exact M6.later ((Below.refl w.heap.size w6).setCell (p:=⟨w.heap.size+1,2,none⟩) (by simp only;omega) _))
     have N7:=qh (show Row3 V (w.heap.size+1) (.int .i64 1) (.string ⟨#[]⟩) (.slice (some ⟨g6,0,none⟩) (acc.length+1) cap6) by rw [←hV];exact N6.out.put2 _)
     have R7:=qh (show Row3 V w.heap.size (.int .i64 0) (.string ⟨#[]⟩) (.slice none 0 0) by rw [←hV];exact R6.out.other _ (by simp only;omega))
     have K7:=qh (show Kids (w.heap.size+1+1) V (.slice (some ⟨g6,0,none⟩) (acc.length+1) cap6) (acc++[.mk k2 s2 l2]) by rw [←hV];exact K6.keep fun b hb1 _=>Below.heap_setCell _ _ _ _ (by simp only;omega))
     have P7:=qh (M7.out.ps HP.out hq5)
     have z7:w.heap.size+1+1≤V.heap.size:=by rw [←hV,setCell_size];exact hz6
     rw [hV]
     clear hV hn5 hm5 hm5' hq5 N5 R5 N6 R6 K6 G6 M6 c0 c1 c2 y0 y1 y2 d0 d1 d2 z0 z1 z2 n0 n1 n2 g0 g1 g2 l5 hg6 hown K5 DB pc3 hpw1 ln1
     by_cases hc:Sx.txt E.ts p1=[46]
     ·have HA2:=qh (hP2.out hc)
      have T:=qh (fun w h=>need_yes E p1 ⟨#[46]⟩ w h hc (by decide))
      have hlt1:=Sx.txt_at hc
      clear hc
      go_wp2_with fail
      refine (T.out _ P7.out).mono ?_
      rintro e w8 ⟨rfl,hm8,hp8⟩
      have M8:=qh (Mv.trans HP.out M7.out P7.out.le hm8)
      have P8:=qh hp8
      have N8:=qh (N7.out.mv hm8 (by omega))
      have R8:=qh (R7.out.mv hm8 (by omega))
      have K8:=qh (Kids.step hm8 (by omega) K7.out)
      have z8:=qh (Nat.le_trans z7 hm8.size)
      have Hm8:=qh hp8.nxt
      clear hm8 hp8 T
      go_wp2_with fail
      go_roundw
      case rel=>exact ⟨f2,p1+1,acc++[Nd.mk k2 s2 l2],_,by have:=Hgo.out;omega,by have:=Hgo.out;have:=Hlt.out;omega,by have:=Hgo.out;simp;omega,HA2,M8,P8,R8,N8,K8,z8⟩
      case measure=>rw [Hm8.out,Hmeas.out];have:=Hgo.out;have:=Hlt.out;omega
     ·have HA2:=qh (hP3.out hc)
      have T:=qh (fun w h=>need_no E p1 ⟨#[46]⟩ w h hc)
      clear hc
      go_wp2_with fail
      refine (T.out _ P7.out).mono ?_
      rintro e w8 ⟨rfl,hb8⟩
      have M8:=M7.out.later (hb8.mono M7.out.size)
      go_wp2
      rw [←HR.out,HA2.out]
      exact ⟨rfl,rfl,M8,P7.out.le⟩
  ·have hlt2:¬ ((p:Int) < (nt:Int)):=by omega
   have hlt3:decide ((p:Int) < (nt:Int))=false:=decide_eq_false hlt2
   have HA':=qh (hrun.out.symm.trans (items_end hlt))
   rw [hnt] at pc0
   clear hnt D hrun hlt
   obtain ⟨⟨n0,n1,n2⟩,_⟩:=hN.out.cells
   obtain ⟨⟨r0,r1,r2⟩,g0,g1,g2⟩:=hRw.out.cells
   have Hple:=qh hple
   go_wp2_with fail
   go_quiet (fail)
   generalize hW1:wr.drewN _=W1
   have hb1:Below wr.heap.size wr W1:=by rw [←hW1];exact below_drewN (Below.refl _ _) _
   clear hW1 n0 n1 n2 g0 g1 g2 pc0 pc1 pc3 r0 r1 r2
   have M1:=qh (hM.out.later (hb1.mono hM.out.size))
   have R1:=qh (hRw.out.below hb1 hrl)
   have N1:=qh (hN.out.below hb1 hnl)
   have K1:=qh (hK.out.keep fun b _ h2=>hb1.block b h2)
   obtain ⟨⟨n0,n1,n2⟩,_⟩:=N1.out.cells
   obtain ⟨⟨r0,r1,r2⟩,g0,g1,g2⟩:=R1.out.cells
   have ln:=N1.out.lt
   have lr:=R1.out.lt
   have ND:=qh (((K1.out.kp ((Kp.refl (w.heap.size+1+1) W1).put3 (b:=w.heap.size) (.int .i64 1) (.string Sx.noS) (.slice va acc.length vcap) (by omega))).node 1 Sx.noS (by unfold maxLen;decide) (by unfold maxLen;have:=Hple.out;omega)).from (h':=w.heap.size) (by omega))
   clear hb1
   go_wp2
   refine ret_node (R1.out.put _ _ _) Tryz.results93 rfl rfl ?_
   rw [←HR.out,HA'.out]
   exact ⟨⟨va,vcap,rfl,ND.out⟩,M1.out.put3 (Nat.le_refl _) _ _ _,Hple.out⟩
end Go.Proofs.YtcimcjmdkjajfaaGreatDoor
namespace Go.Proofs.YtcimcjmdkjajfaaGreatDoor
open Go.RowKit Go.Shelf
end Go.Proofs.YtcimcjmdkjajfaaGreatDoor
namespace Go.Proofs.YtcimcjmdkjajfaaGreatDoor
open Go.RowKit Go.Shelf
attribute [local go_sem] Oper.semAt_some
end Go.Proofs.YtcimcjmdkjajfaaGreatDoor
namespace Go.Proofs.YtcimcjmdkjajfaaGreatDoor
open Go.RowKit
def NdL (w:World) (l:List Nd) (v:Value):Prop:=∃ k s v0 v1,NdR w (.mk k s l) v0 v1 v
theorem NdL.later {w w':World} (hb:Below w.heap.size w w') {l:List Nd} {v:Value} (h:NdL w l v):NdL w' l v:=by
 obtain ⟨k,s,v0,v1,h⟩:=h
 exact ⟨k,s,v0,v1,h.later hb⟩
theorem termL_iff:∀ (l:List Nd),termL l=true↔∀ i,(h:i < l.length)→termB l[i]=true
 | []=>by simp [termL]
 | a :: l=>by
  simp only [termL,Bool.and_eq_true,termL_iff l]
  constructor
  ·rintro ⟨h1,h2⟩ i hi
   cases i with
   | zero=>exact h1
   | succ i=>exact h2 i (by simpa using hi)
  ·intro h
   exact ⟨h 0 (by simp),fun i hi=>h (i+1) (by simpa using hi)⟩
end Go.Proofs.YtcimcjmdkjajfaaGreatDoor
namespace Go.Proofs.YtcimcjmdkjajfaaGreatDoor
open Go.RowKit
theorem termE_get:∀ {l:List Nd} (h:0 < l.length),termE l=termB (l[l.length - 1]'(by omega))
 | [a],_=>by simp [termE]
 | a :: b :: l,_=>by
  simp only [termE]
  rw [if_neg (by simp)]
  have:=termE_get (l:=b :: l) (by simp)
  rw [termE] at this
  rw [this]
  simp
end Go.Proofs.YtcimcjmdkjajfaaGreatDoor
namespace Go.Proofs.YtcimcjmdkjajfaaGreatDoor
open Go.RowKit
theorem formE_get:∀ {l:List Nd} (h:0 < l.length),formE l=formB (l[l.length - 1]'(by omega))
 | [a],_=>by simp [formE]
 | a :: b :: l,_=>by
  simp only [formE]
  rw [if_neg (by simp)]
  have:=formE_get (l:=b :: l) (by simp)
  rw [formE] at this
  rw [this]
  simp
end Go.Proofs.YtcimcjmdkjajfaaGreatDoor
namespace Go.Proofs.YtcimcjmdkjajfaaGreatDoor
open Go.RowKit
theorem typL_iff:∀ (l:List Nd),typL l=true↔∀ i,(h:i < l.length)→typB l[i]=true
 | []=>by simp [typL]
 | a :: l=>by
  simp only [typL,Bool.and_eq_true,typL_iff l]
  constructor
  ·rintro ⟨h1,h2⟩ i hi
   cases i with
   | zero=>exact h1
   | succ i=>exact h2 i (by simpa using hi)
  ·intro h
   exact ⟨h 0 (by simp),fun i hi=>h (i+1) (by simpa using hi)⟩
end Go.Proofs.YtcimcjmdkjajfaaGreatDoor
namespace Go.Proofs.YtcimcjmdkjajfaaGreatDoor
open Go.RowKit
theorem szL_take:∀ (l:List Nd) (i:Nat) (h:i < l.length),Nd.szL (l.take (i+1))=Nd.szL (l.take i)+(l[i]).sz
 | a :: l,0,_=>by simp [Nd.szL]
 | a :: l,i+1,h=>by
  have:=szL_take l i (by simpa using h)
  simp only [List.take_succ_cons,Nd.szL,List.getElem_cons_succ] at this ⊢
  omega
end Go.Proofs.YtcimcjmdkjajfaaGreatDoor
namespace Go.Proofs.YtcimcjmdkjajfaaGreatDoor
open Go.RowKit
def nameL:List Nd→Bool
 | []=>true
 | a :: l=>loneB a && nameL l
theorem nameL_iff:∀ (l:List Nd),nameL l=true↔∀ i,(h:i < l.length)→loneB l[i]=true
 | []=>by simp [nameL]
 | a :: l=>by
  simp only [nameL,Bool.and_eq_true,nameL_iff l]
  constructor
  ·rintro ⟨h1,h2⟩ i hi
   cases i with
   | zero=>exact h1
   | succ i=>exact h2 i (by simpa using hi)
  ·intro h
   exact ⟨h 0 (by simp),fun i hi=>h (i+1) (by simpa using hi)⟩
theorem NdL.take {w:World} {l:List Nd} {a:Option Addr} {n cap:Nat} (h:NdL w l (.slice a n cap)) (m:Nat) (hm:m≤l.length) (c:Nat) (hc:m≤c):NdL w (l.take m) (.slice a m c):=by
 obtain ⟨k,s,v0,v1,h⟩:=h
 cases h with
 | mk _ _ _ _ _ b o f0 f1 f2 hs hl hc0 ha h0 h1 h2 hr =>
  have e:(l.take m).length=m:=by rw [List.length_take];omega
  have:=NdR.mk (w:=w) k s (l.take m) a c b o f0 f1 f2 hs (by omega) (by omega) (fun hne=>ha (by rintro rfl;simp at hne))
   (fun i hi=>h0 i (by omega)) (fun i hi=>h1 i (by omega)) (fun i hi=>h2 i (by omega))
   (fun i hi=>by rw [List.getElem_take];exact hr i (by omega))
  rw [e] at this
  exact ⟨k,s,_,_,this⟩
end Go.Proofs.YtcimcjmdkjajfaaGreatDoor
namespace Go.Proofs.YtcimcjmdkjajfaaGreatDoor
open Go.RowKit
def modeB:Nd→Bool
 | .mk k s l=>decide (k=15) && (decide (l.length=0) && (decide (s=⟨#[105,110]⟩) || (decide (s=⟨#[111,117,116]⟩) || decide (s=⟨#[97,110,121]⟩))))
def modeL:List Nd→Bool
 | []=>true
 | a :: l=>modeB a && modeL l
theorem modeL_iff:∀ (l:List Nd),modeL l=true↔∀ i,(h:i < l.length)→modeB l[i]=true
 | []=>by simp [modeL]
 | a :: l=>by
  simp only [modeL,Bool.and_eq_true,modeL_iff l]
  constructor
  ·rintro ⟨h1,h2⟩ i hi
   cases i with
   | zero=>exact h1
   | succ i=>exact h2 i (by simpa using hi)
  ·intro h
   exact ⟨h 0 (by simp),fun i hi=>h (i+1) (by simpa using hi)⟩
end Go.Proofs.YtcimcjmdkjajfaaGreatDoor
namespace Go.Proofs.YtcimcjmdkjajfaaGreatDoor
open Go.RowKit
def typE:List Nd→Bool
 | []=>false
 | a :: l=>if l.isEmpty then typB a else typE l
theorem typE_get:∀ {l:List Nd} (h:0 < l.length),typE l=typB (l[l.length - 1]'(by omega))
 | [a],_=>by simp [typE]
 | a :: b :: l,_=>by
  simp only [typE]
  rw [if_neg (by simp)]
  have:=typE_get (l:=b :: l) (by simp)
  rw [typE] at this
  rw [this]
  simp
def itemB:Nd→Bool
 | .mk k s l =>
  if k=2∨k=14 then noneB s && (decide (1≤l.length) && nameL l)
  else if k=3 then noneB s && (decide (2≤l.length) && (nameL (l.take (l.length - 1)) && typE l))
  else nameB s && (if k=4∨k=5∨k=6 then typL l && decide (l.length≤8)
   else if k=7 then modeL l && decide (l.length≤8)
   else if k=8∨k=9∨k=10∨k=11 then decide (l.length=1) && formL l
   else if k=12∨k=13 then decide (l.length=0) else false)
end Go.Proofs.YtcimcjmdkjajfaaGreatDoor
namespace Go.Proofs.YtcimcjmdkjajfaaGreatDoor
open Go.RowKit
def itemL:List Nd→Bool
 | []=>true
 | a :: l=>itemB a && itemL l
theorem itemL_iff:∀ (l:List Nd),itemL l=true↔∀ i,(h:i < l.length)→itemB l[i]=true
 | []=>by simp [itemL]
 | a :: l=>by
  simp only [itemL,Bool.and_eq_true,itemL_iff l]
  constructor
  ·rintro ⟨h1,h2⟩ i hi
   cases i with
   | zero=>exact h1
   | succ i=>exact h2 i (by simpa using hi)
  ·intro h
   exact ⟨h 0 (by simp),fun i hi=>h (i+1) (by simpa using hi)⟩
def textB:Nd→Bool
 | .mk k s l=>decide (k=1) && (noneB s && itemL l)
def chkN (t:Nd):Int:=if 4000 < t.sz then 2 else if 100 < t.dp then 5 else if typB t || (termB t || (formB t || (itemB t || textB t))) then 0 else 21
end Go.Proofs.YtcimcjmdkjajfaaGreatDoor
namespace Go.Proofs.YtcimcjmdkjajfaaGreatDoor
open Go.RowKit Go.Shelf
attribute [local go_sem] Oper.semAt_some
set_option maxRecDepth 100000 in
set_option maxHeartbeats 400000 in
theorem walk_any (k:Int) (s:ByteArray) (a:Option Addr) (n cap:Nat) (w:World) :
  Calls Tryz.prog 74 #[.agg #[.int .i64 k,.string s,.slice a n cap]] w fun e w'=>e = .returned (.func (.func 127) #[] #[.pointer (some ⟨w.heap.size,0,none⟩)])∧w'=w.alloc (.cells #[.int .i64 k,.string s,.slice a n cap] 24):=by
 have hmf:∀ (fn:Fn) (first cap:Array Value) (w:World),(Instr.makeFunc fn first cap).run Tryz.prog w = .ok (.func fn first cap) w:=fun _ _ _ _=>rfl
 go_enter Tryz.func74,Tryz.ntmps74
 go_wp2
 go_ret
 exact ⟨rfl,rfl⟩
set_option maxRecDepth 100000 in
set_option maxHeartbeats 2000000 in
theorem walkI_any (O:World→Nat→Prop) (l nb:Nat) (w₀ W:World) (J Jx:List It→World→Prop) (k:Int) (s:ByteArray) (kids:List Nd) (a:Option Addr) (cap:Nat)
  (hJN:∀ pre W,J pre W→pre.length≤90000)
  (hJ:∀ pre A B,J pre A→Below W.heap.size A B→(∀ b,O A b→B.heap[b]?=A.heap[b]?)→J pre B)
  (hO:∀ A B,Below W.heap.size A B→∀ b,O B b→O A b)
  (hJO:∀ pre A,J pre A→∀ b,O A b→b < A.heap.size)
  (hY:∀ m pre it A vp vi v0 v1 v2 n₁ ps,W.heap.size≤n₁→J pre A→pre++[it] <+: preN 0 [] false (.mk k s kids)→ps.length≤pre.length→Given n₁ A it vp vi v0 v1 v2 ps→YieldAt Fence.wide m Tryz.prog l #[.agg #[vp,vi,.bool it.wd],.agg #[v0,v1,v2]] A
   (fun e W'=>(e = .returned (.bool true)∧J (pre++[it]) W'∧Kc O A W')∨(e = .returned (.bool false)∧Jx (pre++[it]) W'∧Kc O A W')))
  (ht:NdR w₀ (.mk k s kids) (.int .i64 k) (.string s) (.slice a kids.length cap)) (hn:Row3 W nb (.int .i64 k) (.string s) (.slice a kids.length cap)) (hs:Sup w₀ W) (hz:w₀.heap.size≤W.heap.size) (hx0:∀ b,O W b→w₀.heap.size≤b) (h0:J [] W) :
  Calls Tryz.prog 127 #[.func (.yield l) #[] #[],.pointer (some ⟨nb,0,none⟩)] W fun e w'=>(∃ v,e = .returned v)∧((J (preN 0 [] false (.mk k s kids)) w')∨∃ q,q <+: preN 0 [] false (.mk k s kids)∧Jx q w'):=by
 have hmf:∀ (fn:Fn) (first cap:Array Value) (w:World),(Instr.makeFunc fn first cap).run Tryz.prog w = .ok (.func fn first cap) w:=fun _ _ _ _=>rfl
 obtain ⟨h,hh⟩:∃ h,W.heap.size=h:=⟨_,rfl⟩
 rw [hh] at hz hJ hO hY
 obtain ⟨W3,hW3⟩:∃ W3,(W.alloc (.cells #[yieldV l] 124)).alloc (.cells #[visitV h (h+1)] 124)=W3:=⟨_,rfl⟩
 have z3:W3.heap.size=h+1+1:=by rw [←hW3];simp [hh]
 have old:∀ b,b < h→W3.heap[b]?=W.heap[b]?:=fun b hb=>by rw [←hW3];exact (Below.heap_alloc _ _ _ (by simp only [World.size_alloc];omega)).trans (Below.heap_alloc _ _ _ (by omega))
 have B3:Below h W W3:=by rw [←hW3];exact ((Below.refl _ W).alloc (by omega) _).alloc (by simp only [World.size_alloc];omega) _
 have O3:∀ b,O W3 b→O W b:=hO _ _ B3
 have hx1:∀ b,O W b→b < h:=fun b hb=>by rw [←hh];exact hJO [] W h0 b hb
 have E3:Env O (h+1+1) h (h+1) l w₀ W3:=by
  refine ⟨?_,?_,by omega,by omega,fun hx=>by have:=hx1 _ (O3 _ hx);omega,fun hx=>by have:=hx1 _ (O3 _ hx);omega,fun b c t z e=>(old b (by have:=heap_lt e;omega)).trans (hs b c t z e),by omega,fun b hx=>hx0 b (O3 b hx),by omega⟩
  ·rw [←hW3,←hh];exact (Below.heap_alloc _ _ _ (by simp only [World.size_alloc];omega)).trans (World.alloc_heap_new _ _)
  ·rw [←hW3];exact alloc_at (by simp [hh])
 have C:=visit_any (preN 0 [] false (.mk k s kids)) O (h+1+1) h (h+1) l w₀ J Jx hJN (fun pre A B hj hb hk=>hJ pre A B hj (hb.mono (by omega)) hk) (fun A B hb=>hO A B (hb.mono (by omega))) hJO (fun m pre it A vp vi v0 v1 v2 ps hj hal hd hg=>hY m pre it A vp vi v0 v1 v2 _ ps (by omega) hj hal hd hg) _ (.mk k s kids) W3 (.slice none 0 0) (.slice none 0 0) _ _ _ [] [] false [] (Nat.le_refl _) ht E3 (World.ownsRow_nil _ _ _ _) (World.ownsRow_nil _ _ _ _) (Nat.le_refl _) (Nat.le_refl _) (hJ [] W W3 h0 B3 (fun b hb=>old b (hx1 b hb))) (fun g e=>by cases e) (fun g e=>by cases e) (List.prefix_refl _)
 have HC:=qh C
 have N3:=(show Row3 W3 nb _ _ _ from (old nb (by have:=hn.lt;omega)).trans hn)
 have n00:=hn.lt
 rw [hh] at n00
 clear C hJN hJ hO hJO hY ht hs hx0 hx1 h0 O3
 obtain ⟨⟨n0,n1,n2⟩,_⟩:=N3.cells
 have v3:W3.cell? ⟨h+1,0,none⟩=some (.func (.func 128) #[] #[.pointer (some ⟨h,0,none⟩),.pointer (some ⟨h+1,0,none⟩)]):=cell_of_row _ _ _ _ _ _ E3.v
 have Z3:=qh z3
 clear E3 B3 old z3 hn N3
 go_enter Tryz.func127,Tryz.ntmps127
 go_upto_region 3 with fail
 have hW3':(W.alloc (.cells #[.func (.yield l) #[] #[]] 124)).alloc (.cells #[.func (.func 128) #[] #[.pointer (some ⟨h,0,none⟩),.pointer (some ⟨h+1,0,none⟩)]] 124)=W3:=hW3
 rw [hW3']
 clear hW3 hW3'
 go_wp2_with fail
 refine HC.out.mono ?_
 rintro e w7 ⟨B,rfl,_,_,_,h7⟩
 have H7:=qh h7
 clear h7 HC n0 n1 n2 v3
 go_wp2
 go_end0
 refine ⟨⟨_,rfl⟩,?_⟩
 have h7:=H7.out
 simp only [List.nil_append,List.length_nil] at h7
 cases B
 ·rw [if_neg (by simp)] at h7;exact .inr h7
 ·rw [if_pos rfl] at h7;exact .inl h7
end Go.Proofs.YtcimcjmdkjajfaaGreatDoor
namespace Go.Proofs.YtcimcjmdkjajfaaGreatDoor
open Go.RowKit Go.Shelf
attribute [local go_sem] Oper.semAt_some
structure JM (h T:Nat) (w:World) (nn lv:Nat) (rl:Loop) (W:World):Prop where
 b:Below h w W
 z:T+1+1 < W.heap.size
 d:W.heap[T+1]?=some (.deferred (some []))
 l:W.heap[T+1+1]?=some (.loop rl)
 n:W.heap[h+1]?=some (.cells #[.int .i64 nn] 3 (0,0))
 v:W.heap[h+1+1]?=some (.cells #[.int .i64 lv] 3 (0,0))
theorem JM.below {h T:Nat} {w A B:World} {nn lv:Nat} {rl:Loop} {N:Nat} (j:JM h T w nn lv rl A) (hb:Below N A B) (hN:T+1+1 < N) (hT:h+1+1 < T):JM h T w nn lv rl B :=
 ⟨j.b.trans (hb.mono (by omega)),Nat.lt_of_lt_of_le j.z hb.size,(hb.block _ (by omega)).trans j.d,(hb.block _ (by omega)).trans j.l,(hb.block _ (by omega)).trans j.n,(hb.block _ (by omega)).trans j.v⟩
set_option maxRecDepth 100000 in
set_option maxHeartbeats 2000000 in
theorem measure_any (t:Nd) (w:World) (v0 v1 v2:Value) (ht:NdR w t v0 v1 v2) :
  Calls Tryz.prog 56 #[.agg #[v0,v1,v2]] w fun e w'=>∃ lv:Nat,e = .returned (.tuple #[.int .i64 ((min t.sz 4001:Nat):Int),.int .i64 (lv:Int)])∧(t.sz≤4000→lv=t.dp)∧Below w.heap.size w w':=by
 obtain ⟨k,s,kids,a,cap,rfl,rfl,rfl,rfl,hs,hl⟩:=ht.form
 have eg:∀ args w,(callFunc 127 args).run Tryz.prog w = .ok (.enter 127 args) w:=enters_of Tryz.func127 (by kernel_rfl) rfl
 refine (callsIn_wide (n:=6)).1 ?_
 refine callsIn_of_wpAt Tryz.func56 rfl ?_
 simp only [Tryz.ntmps56,List.size_toArray,List.length_cons,List.length_nil,Nat.reduceAdd,Nat.reduceSub,Array.replicate_succ,Array.replicate_zero,List.push_toArray,List.append_toArray,List.nil_append,List.cons_append]
 refine wpAt_seq (wpAt_of_wpIn ?_)
 gi_wp2
 refine wpAt_seq (wpAt_seq (wpAt_of_wpIn ?_))
 gi_wp2_with fail
 refine ⟨trivial,((callsIn_wide (n:=5)).2 (walk_any k s a kids.length cap _)).mono ?_⟩
 rintro e w2 ⟨rfl,rfl⟩
 gi_wp2
 refine wpAt_block (wpAt_rangeFunc_fn (gf:=127) (lb:=#[.pointer (some ⟨w.heap.size+1+1+1,0,none⟩)]) rfl eg ?_)
 intro r hr
 have hr1:r.state = .ready:=by rw [hr]
 have hr2:r.pending=none:=by rw [hr]
 have hr3:r.params=#[7,8]:=by rw [hr]
 obtain ⟨h,hh⟩:∃ h,w.heap.size=h:=⟨_,rfl⟩
 rw [hh] at hr
 obtain ⟨w3,hw3⟩:∃ w3,(((w.alloc (Obj.cells #[Value.int IntKind.i64 k,Value.string s,Value.slice a kids.length cap] 24)).alloc (Obj.cells #[Value.int IntKind.i64 0] 3)).alloc (Obj.cells #[Value.int IntKind.i64 0] 3)).alloc (Obj.cells #[Value.int IntKind.i64 k,Value.string s,Value.slice a kids.length cap] 24)=w3:=⟨_,rfl⟩
 have z3:w3.heap.size=h+1+1+1+1:=by rw [←hw3];simp [hh]
 have hB3:Below h w w3:=by
  rw [←hw3,←hh];exact ((((Below.refl _ w).alloc (Nat.le_refl _) _).alloc (by simp) _).alloc (by simp only [World.size_alloc];omega) _).alloc (by simp only [World.size_alloc];omega) _
 have b1:w3.heap[h+1]?=some (.cells #[.int .i64 0] 3 (0,0)):=by
  rw [←hw3];exact (Below.heap_alloc _ _ _ (by simp only [World.size_alloc];omega)).trans ((Below.heap_alloc _ _ _ (by simp only [World.size_alloc];omega)).trans (alloc_at (by simp [hh])))
 have b2:w3.heap[h+1+1]?=some (.cells #[.int .i64 0] 3 (0,0)):=by
  rw [←hw3];exact (Below.heap_alloc _ _ _ (by simp only [World.size_alloc];omega)).trans (alloc_at (by simp [hh]))
 obtain ⟨T,hT⟩:∃ T,h+1+1+1=T:=⟨_,rfl⟩
 have b3:Row3 w3 T (.int .i64 k) (.string s) (.slice a kids.length cap):=by
  rw [←hw3,←hT];exact alloc_at (by simp [hh])
 rw [hw3,hh]
 rw [hT] at z3 ⊢
 have HT:=qh hT
 clear hw3
 obtain ⟨W1,hW1⟩:∃ W1,(w3.alloc (.deferred (some []))).alloc (.loop r)=W1:=⟨_,rfl⟩
 have old:∀ b,b < w3.heap.size→W1.heap[b]?=w3.heap[b]?:=fun b hb=>by rw [←hW1];exact (Below.heap_alloc _ _ _ (by simp only [World.size_alloc];omega)).trans (Below.heap_alloc _ _ _ hb)
 have zW1:W1.heap.size=T+1+1+1:=by rw [←hW1];simp [z3]
 have hd1:W1.heap[T+1]?=some (.deferred (some [])):=by rw [←hW1];exact (Below.heap_alloc _ _ _ (by simp only [World.size_alloc];omega)).trans (alloc_at (by omega))
 have hl1:W1.heap[T+1+1]?=some (.loop r):=by rw [←hW1];exact alloc_at (by simp only [World.size_alloc];omega)
 have hB1:Below h w W1:=by rw [←hW1];exact (hB3.alloc (by omega) _).alloc (by simp only [World.size_alloc];omega) _
 have j0:JM h T w 0 0 r W1:=⟨hB1,by omega,hd1,hl1,(old _ (by omega)).trans b1,(old _ (by omega)).trans b2⟩
 have hsup:Sup w W1:=fun b c t z e=>by
  have hb:=heap_lt e
  rw [hh] at hb
  exact (hB1.block b hb).trans e
 have hcall:CallsIn Fence.wide 5 Tryz.prog 127 #[.func (.yield (T+1+1)) #[] #[],.pointer (some ⟨T,0,none⟩)] W1
   (fun e w'=>(∃ v,e = .returned v)∧((((preN 0 [] false (.mk k s kids)).length≤4000∧lvs (preN 0 [] false (.mk k s kids))≤(preN 0 [] false (.mk k s kids)).length)∧JM h T w (preN 0 [] false (.mk k s kids)).length (lvs (preN 0 [] false (.mk k s kids))) r w')∨∃ q,q <+: preN 0 [] false (.mk k s kids)∧q.length=4001∧JM h T w 4001 (lvs q) { r with state:=.done,pending:=some (.exit 0) } w')):=by
  refine (callsIn_wide (n:=5)).2 ?_
  refine walkI_any (fun _ b=>b=h+1∨b=h+1+1) (T+1+1) T w W1 (fun pre W=>(pre.length≤4000∧lvs pre≤pre.length)∧JM h T w pre.length (lvs pre) r W) (fun q W=>q.length=4001∧JM h T w 4001 (lvs q) { r with state:=.done,pending:=some (.exit 0) } W) k s kids a cap
   (fun pre W hj=>by have:=hj.1.1;omega) (fun pre A B hj hb _=>⟨hj.1,hj.2.below hb (by omega) (by omega)⟩) (fun _ _ _ b hb=>hb) (fun pre A hj b hb=>by have:=hj.2.z;omega) ?_ ht ((old T (by omega)).trans b3) hsup (by omega) (fun b hb=>by omega) ⟨⟨by simp,by simp [lvs]⟩,j0⟩
  intro m pre it A vp vi u0 u1 u2 n₁ ps hn1 hj _ hpd hg
  obtain ⟨R,hR⟩:∃ R:Ending→World→Prop,(fun e W'=>(e = .returned (.bool true)∧((((pre++[it]).length≤4000∧lvs (pre++[it])≤(pre++[it]).length)∧JM h T w (pre++[it]).length (lvs (pre++[it])) r W'))∧Kc (fun _ b=>b=h+1∨b=h+1+1) A W')∨(e = .returned (.bool false)∧((pre++[it]).length=4001∧JM h T w 4001 (lvs (pre++[it])) { r with state:=.done,pending:=some (.exit 0) } W')∧Kc (fun _ b=>b=h+1∨b=h+1+1) A W'))=R:=⟨_,rfl⟩
  show YieldAt Fence.wide m Tryz.prog (T+1+1) _ A (fun e W'=>(e = .returned (.bool true)∧((((pre++[it]).length≤4000∧lvs (pre++[it])≤(pre++[it]).length)∧JM h T w (pre++[it]).length (lvs (pre++[it])) r W'))∧Kc (fun _ b=>b=h+1∨b=h+1+1) A W')∨(e = .returned (.bool false)∧((pre++[it]).length=4001∧JM h T w 4001 (lvs (pre++[it])) { r with state:=.done,pending:=some (.exit 0) } W')∧Kc (fun _ b=>b=h+1∨b=h+1+1) A W'))
  rw [hR]
  have HR:=qh hR;clear hR
  obtain ⟨⟨hpl,hlvp⟩,hjm⟩:=hj
  obtain ⟨hgd,hgp,hgi,hgt⟩:=hg
  obtain ⟨ap,cp,rfl⟩:=row_shape hgp
  obtain ⟨ai,ci,rfl⟩:=row_shape hgi
  obtain ⟨k1,s1,l1,a1,c1,ht1,rfl,rfl,rfl,_,_⟩:=hgt.form
  refine ⟨_,_,_,_,run_yield (P:=Tryz.prog) hjm.l (by rw [hr3];rfl),?_⟩
  have hr4:r.fn=56:=by rw [hr]
  rw [hr4]
  refine roundIn_of_wpIn_p trivial Tryz.func56 ?_
  have hrs:=hr1
  have HJ:=qh hjm
  have HRR:=qh hr
  have HGD:=qh hgd
  simp only [hr]
  clear hgp hgi hgt hjm hr hr1 hr2 hr3 hr4
  gi_wp2
  refine ⟨_,run_beginRound (r:=r) ((Below.heap_alloc _ _ _ (heap_lt HJ.out.l)).trans HJ.out.l) hrs,?_⟩
  obtain ⟨N,hN⟩:∃ N,A.heap.size=N:=⟨_,rfl⟩
  obtain ⟨W2,hW2⟩:∃ W2,(A.alloc (.cells #[.slice ap ps.length cp,.slice ai it.ins.length ci,.bool it.wd] 88)).putObj (T+1+1) (.loop { r with state:=.busy })=W2:=⟨_,rfl⟩
  have hTN:T+1+1 < N:=by have:=HJ.out.z;omega
  have ko:∀ b,b < N→b≠T+1+1→W2.heap[b]?=A.heap[b]?:=fun b hb1 hb2=>by
   rw [←hW2];exact (World.putObj_heap_other hb2).trans (Below.heap_alloc _ _ _ (by omega))
  have mz:W2.heap.size=N+1:=by rw [←hW2,World.putObj_size,World.size_alloc,hN]
  have m5:W2.heap[T+1+1]?=some (.loop { r with state:=.busy }):=by rw [←hW2];exact World.putObj_heap_same (by rw [World.size_alloc];omega)
  have mt:RowP W2 N (.slice ap ps.length cp) (.slice ai it.ins.length ci) (.bool it.wd):=by
   rw [←hW2,←hN];exact (World.putObj_heap_other (by omega)).trans (World.alloc_heap_new _ _)
  have mb:Below h w W2:=by rw [←hW2];exact below_put (HJ.out.b.alloc (by omega) _) _ _ (by omega)
  have mn:=(ko (h+1) (by omega) (by omega)).trans HJ.out.n
  have mv:=(ko (h+1+1) (by omega) (by omega)).trans HJ.out.v
  have md:=(ko (T+1) (by omega) (by omega)).trans HJ.out.d
  have mk:Kc (fun _ b=>b=h+1∨b=h+1+1) A W2:=⟨by omega,fun b c t z _ e=>(ko b (by have:=heap_lt e;omega) (by rintro rfl;rw [HJ.out.l] at e;cases e)).trans e,fun b hb=>.inl hb⟩
  rw [hW2,hN]
  have c1:W2.cell? ⟨h+1,0,none⟩=some (.int .i64 pre.length):=cell_of_row _ _ _ _ _ _ mn
  have c2:W2.cell? ⟨h+1+1,0,none⟩=some (.int .i64 (lvs pre)):=cell_of_row _ _ _ _ _ _ mv
  have g1:W2.frozen? ⟨h+1,0,none⟩=false:=frozen_of_row _ _ _ _ _ mn
  have g2:W2.frozen? ⟨h+1+1,0,none⟩=false:=frozen_of_row _ _ _ _ _ mv
  obtain ⟨⟨p0,p1,p2⟩,_⟩:=mt.cells
  have HM:=qh (show (Below h w W2∧W2.heap.size=N+1∧W2.heap[T+1+1]?=some (.loop { r with state:=.busy })∧W2.heap[T+1]?=some (.deferred (some []))∧W2.heap[h+1]?=some (.cells #[.int .i64 pre.length] 3 (0,0))∧W2.heap[h+1+1]?=some (.cells #[.int .i64 (lvs pre)] 3 (0,0))) from ⟨mb,mz,m5,md,mn,mv⟩)
  have HK:=qh mk
  have HN:=qh hN
  obtain ⟨LV,hLV⟩:∃ LV,lvs pre=LV:=⟨_,rfl⟩
  obtain ⟨PL,hPL⟩:∃ PL,pre.length=PL:=⟨_,rfl⟩
  obtain ⟨D,hD⟩:∃ D,ps.length=D:=⟨_,rfl⟩
  have hlv:LV≤PL:=by omega
  have hdd:D≤PL:=by omega
  rw [hLV] at c2 HM
  rw [hPL] at c1 hpl HM
  clear hlvp hpd
  rw [hD] at p0
  have HLV:=qh hLV
  have HPL:=qh hPL
  have HDD:=qh hD
  clear ko mz m5 mb mn mv md mk hW2 hN hLV hPL hD mt
  have eM:((max LV (D+1):Nat):Int)=max (LV:Int) ((D:Int)+1):=by omega
  have EM:=qh eM
  have fin:∀ rl:Loop,JM h T w (PL+1) (max LV (D+1)) rl (((W2.setCell ⟨h+1,0,none⟩ (.int .i64 ((PL:Int)+1))).setCell ⟨h+1+1,0,none⟩ (.int .i64 (max (LV:Int) ((D:Int)+1)))).putObj (T+1+1) (.loop rl)) ∧
    Kc (fun _ b=>b=h+1∨b=h+1+1) A (((W2.setCell ⟨h+1,0,none⟩ (.int .i64 ((PL:Int)+1))).setCell ⟨h+1+1,0,none⟩ (.int .i64 (max (LV:Int) ((D:Int)+1)))).putObj (T+1+1) (.loop rl)) ∧
    ((W2.setCell ⟨h+1,0,none⟩ (.int .i64 ((PL:Int)+1))).setCell ⟨h+1+1,0,none⟩ (.int .i64 (max (LV:Int) ((D:Int)+1)))).heap[T+1+1]?=some (.loop { r with state:=.busy }):=by
   intro rl
   obtain ⟨mb,mz,m5,md,mn,mv⟩:=HM.out
   have hT0:=HT.out
   obtain ⟨W5,hW5⟩:∃ W5,(W2.setCell ⟨h+1,0,none⟩ (.int .i64 ((PL:Int)+1))).setCell ⟨h+1+1,0,none⟩ (.int .i64 (max (LV:Int) ((D:Int)+1)))=W5:=⟨_,rfl⟩
   have far:∀ b,b≠h+1→b≠h+1+1→W5.heap[b]?=W2.heap[b]?:=fun b h1 h2=>by
    rw [←hW5];exact (Below.heap_setCell _ _ _ _ (by simp only;exact h2)).trans (Below.heap_setCell _ _ _ _ (by simp only;exact h1))
   have s1:W5.heap[h+1]?=some (.cells #[.int .i64 ((PL+1:Nat):Int)] 3 (0,0)):=by
    rw [←hW5];exact (Below.heap_setCell _ _ _ _ (by simp only;omega)).trans (heap_setCell_same _ _ 0 _ _ _ mn)
   have s2:W5.heap[h+1+1]?=some (.cells #[.int .i64 ((max LV (D+1):Nat):Int)] 3 (0,0)):=by
    rw [←hW5,EM.out];exact heap_setCell_same _ _ 0 _ _ _ ((Below.heap_setCell _ _ _ _ (by simp only;omega)).trans mv)
   have sz:W5.heap.size=W2.heap.size:=by rw [←hW5];simp
   have sb:Below h w W5:=by
    rw [←hW5];exact (mb.setCell (p:=⟨h+1,0,none⟩) (by simp only;omega) _).setCell (p:=⟨h+1+1,0,none⟩) (by simp only;omega) _
   have l5:W5.heap[T+1+1]?=some (.loop { r with state:=.busy }):=(far _ (by omega) (by omega)).trans m5
   have po:∀ b,b≠T+1+1→(W5.putObj (T+1+1) (.loop rl)).heap[b]?=W5.heap[b]?:=fun b hb=>World.putObj_heap_other hb
   rw [hW5]
   refine ⟨⟨below_put sb _ _ (by omega),by rw [World.putObj_size];omega,(po _ (by omega)).trans ((far _ (by omega) (by omega)).trans md),World.putObj_heap_same (by omega),(po _ (by omega)).trans s1,(po _ (by omega)).trans s2⟩,⟨by rw [World.putObj_size,sz];exact HK.out.1,fun b c t z hb e=>?_,fun b hb=>.inl hb⟩,l5⟩
   have hb1:b≠T+1+1:=by rintro rfl;rw [HJ.out.l] at e;cases e
   exact (po b hb1).trans ((far b (fun h1=>hb (.inl h1)) (fun h1=>hb (.inr h1))).trans (HK.out.2.1 b c t z hb e))
  have HF:=qh fin
  have e0:({ ({ r with state:=.busy }:Loop) with state:=.ready,pending:=none }:Loop)=r:=by rw [HRR.out]
  have E0:=qh e0
  have HLS:Hid (lvs (pre++[it])=max LV (D+1)):=qh (by rw [lvs_snoc,HLV.out,HGD.out,HDD.out])
  have HPS:Hid ((pre++[it]).length=PL+1):=qh (by rw [List.length_append,HPL.out];rfl)
  clear fin e0 eM
  by_cases hc:PL < 4000
  ·have hc':¬ (4000 < (PL:Int)+1):=by omega
   gi_wp2
   refine ⟨_,_,run_endRound none (HF.out r).2.2,?_⟩
   simp only [Option.isNone_none,if_true]
   rw [E0.out,←HR.out]
   exact .inl ⟨rfl,⟨⟨by rw [HPS.out];omega,by rw [HPS.out,HLS.out];omega⟩,by rw [HPS.out,HLS.out];exact (HF.out r).1⟩,(HF.out r).2.1⟩
  ·have hc':(4000 < (PL:Int)+1):=by omega
   gi_wp2
   refine ⟨_,_,run_endRound (some (.exit 0)) (HF.out r).2.2,?_⟩
   simp only [Option.isNone_some,Bool.false_eq_true,if_false]
   rw [←HR.out]
   have hp4:PL+1=4001:=by omega
   have hj:=(HF.out { r with state:=.done,pending:=some (.exit 0) }).1
   rw [hp4] at hj
   exact .inr ⟨rfl,⟨by rw [HPS.out];omega,by rw [HLS.out];exact hj⟩,(HF.out _).2.1⟩
 rw [z3,hW1]
 refine hcall.mono ?_
 clear hcall j0 hsup hd1 hl1 old b1 b2 b3 hB3 hB1
 have HSZ:=qh (preN_len 0 [] false (.mk k s kids))
 have HDP:=qh (lvs_preN 0 [] false (.mk k s kids))
 rintro e w' ⟨⟨v0,rfl⟩,⟨⟨hp4,_⟩,j⟩ | ⟨q,hq,hql,j⟩⟩
 ·refine ⟨none,w'.putObj (T+1+1) (.loop { r with state:=.exhausted }),?_,?_⟩
  ·refine (run_endLoop (P:=Tryz.prog) j.l (by rw [hr1];simp)).trans ?_
   rw [hr2]
  ·rw [HSZ.out] at hp4 j
   rw [HDP.out,Nat.zero_add] at j
   obtain ⟨NN,hNN⟩:∃ NN,(Nd.mk k s kids).sz=NN:=⟨_,rfl⟩
   obtain ⟨LL,hLL⟩:∃ LL,(Nd.mk k s kids).dp=LL:=⟨_,rfl⟩
   rw [hNN] at hp4 j
   rw [hLL] at j
   have HNN:=qh hNN
   have HLL:=qh hLL
   have HP4:=qh hp4
   clear hNN hLL hp4
   obtain ⟨W4,hW4⟩:∃ W4,w'.putObj (T+1+1) (.loop { r with state:=.exhausted })=W4:=⟨_,rfl⟩
   rw [hW4]
   dsimp only [Exit.inBlock,Exit.then]
   have n4:W4.heap[h+1]?=some (.cells #[.int .i64 (NN:Nat)] 3 (0,0)):=by rw [←hW4];exact (World.putObj_heap_other (by have:=HT.out;omega)).trans j.n
   have v4:W4.heap[h+1+1]?=some (.cells #[.int .i64 (LL:Nat)] 3 (0,0)):=by rw [←hW4];exact (World.putObj_heap_other (by have:=HT.out;omega)).trans j.v
   have d4:W4.heap[T+1]?=some (.deferred (some [])):=by rw [←hW4];exact (World.putObj_heap_other (by omega)).trans j.d
   have b4:Below h w W4:=by rw [←hW4];exact below_put j.b _ _ (by have:=HT.out;omega)
   have q1:W4.cell? ⟨h+1,0,none⟩=some (.int .i64 (NN:Nat)):=cell_of_row _ _ _ _ _ _ n4
   have q2:W4.cell? ⟨h+1+1,0,none⟩=some (.int .i64 (LL:Nat)):=cell_of_row _ _ _ _ _ _ v4
   have q3:W4.frozen? ⟨h+1,0,none⟩=false:=frozen_of_row _ _ _ _ _ n4
   have q4:W4.frozen? ⟨h+1+1,0,none⟩=false:=frozen_of_row _ _ _ _ _ v4
   have N4:=qh n4
   have V4:=qh v4
   have D4:=qh d4
   have B4:=qh b4
   clear n4 v4 d4 b4 hW4 j
   refine wpAt_of_wpIn (n:=6) ?_
   refine wpIn_wide.2 ?_
   go_wp2_with fail
   go_region
   all_goals go_wp2
   obtain ⟨W5,hW5⟩:∃ W5,((W4.setCell ⟨h+1,0,none⟩ (.int .i64 (NN:Nat))).setCell ⟨h+1+1,0,none⟩ (.int .i64 (LL:Nat))).drew=W5:=⟨_,rfl⟩
   have hT0:=HT.out
   have far:∀ b,b≠h+1→b≠h+1+1→W5.heap[b]?=W4.heap[b]?:=fun b h1 h2=>by
    rw [←hW5];exact (show ((W4.setCell ⟨h+1,0,none⟩ (.int .i64 (NN:Nat))).setCell ⟨h+1+1,0,none⟩ (.int .i64 (LL:Nat))).heap[b]?=W4.heap[b]? from (Below.heap_setCell _ _ _ _ (by simp only;exact h2)).trans (Below.heap_setCell _ _ _ _ (by simp only;exact h1)))
   have n5:W5.heap[h+1]?=some (.cells #[.int .i64 (NN:Nat)] 3 (0,0)):=by
    rw [←hW5];exact (show ((W4.setCell ⟨h+1,0,none⟩ (.int .i64 (NN:Nat))).setCell ⟨h+1+1,0,none⟩ (.int .i64 (LL:Nat))).heap[h+1]?=_ from (Below.heap_setCell _ _ _ _ (by simp only;omega)).trans (heap_setCell_same _ _ 0 _ _ _ N4.out))
   have v5:W5.heap[h+1+1]?=some (.cells #[.int .i64 (LL:Nat)] 3 (0,0)):=by
    rw [←hW5];exact (show ((W4.setCell ⟨h+1,0,none⟩ (.int .i64 (NN:Nat))).setCell ⟨h+1+1,0,none⟩ (.int .i64 (LL:Nat))).heap[h+1+1]?=_ from heap_setCell_same _ _ 0 _ _ _ ((Below.heap_setCell _ _ _ _ (by simp only;omega)).trans V4.out))
   have d5:W5.heap[T+1]?=some (.deferred (some [])):=(far _ (by omega) (by omega)).trans D4.out
   have b5:Below h w W5:=by
    rw [←hW5];exact ((B4.out.setCell (p:=⟨h+1,0,none⟩) (by simp only;omega) _).setCell (p:=⟨h+1+1,0,none⟩) (by simp only;omega) _).drew
   rw [hW5]
   refine ⟨by simp,.inl ⟨_,_,rfl,run_takeDeferred d5,?_⟩⟩
   have r1:(W5.putObj (T+1) (.deferred none)).cell? ⟨h+1,0,none⟩=some (.int .i64 (NN:Nat)):=cell_of_row _ _ _ _ _ _ ((World.putObj_heap_other (by omega)).trans n5)
   have r2:(W5.putObj (T+1) (.deferred none)).cell? ⟨h+1+1,0,none⟩=some (.int .i64 (LL:Nat)):=cell_of_row _ _ _ _ _ _ ((World.putObj_heap_other (by omega)).trans v5)
   refine ⟨.tuple #[.int .i64 (NN:Nat),.int .i64 (LL:Nat)],by simp [results,Tryz.results56,go_sem,r1,r2],LL,?_,?_,below_put b5 _ _ (by omega)⟩
   ·rw [HNN.out,Nat.min_eq_left (by have:=HP4.out;omega)]
   ·intro _;exact HLL.out.symm
 ·refine ⟨some (.exit 0),w'.putObj (T+1+1) (.loop { ({ r with state:=.done,pending:=some (.exit 0) }:Loop) with state:=.exhausted }),?_,?_⟩
  ·exact run_endLoop (P:=Tryz.prog) j.l (by simp)
  ·have h4001:4001≤(Nd.mk k s kids).sz:=by
    have:=hq.length_le
    rw [HSZ.out,hql] at this
    exact this
   obtain ⟨W4,hW4⟩:∃ W4,w'.putObj (T+1+1) (.loop { ({ r with state:=.done,pending:=some (.exit 0) }:Loop) with state:=.exhausted })=W4:=⟨_,rfl⟩
   rw [hW4]
   obtain ⟨NN,hNN⟩:∃ NN,4001=NN:=⟨_,rfl⟩
   obtain ⟨LL,hLL⟩:∃ LL,lvs q=LL:=⟨_,rfl⟩
   rw [hNN,hLL] at j
   have HNN:=qh hNN
   have H41:=qh h4001
   clear hLL hNN h4001 hq hql
   have n4:W4.heap[h+1]?=some (.cells #[.int .i64 (NN:Nat)] 3 (0,0)):=by rw [←hW4];exact (World.putObj_heap_other (by have:=HT.out;omega)).trans j.n
   have v4:W4.heap[h+1+1]?=some (.cells #[.int .i64 (LL:Nat)] 3 (0,0)):=by rw [←hW4];exact (World.putObj_heap_other (by have:=HT.out;omega)).trans j.v
   have d4:W4.heap[T+1]?=some (.deferred (some [])):=by rw [←hW4];exact (World.putObj_heap_other (by omega)).trans j.d
   have b4:Below h w W4:=by rw [←hW4];exact below_put j.b _ _ (by have:=HT.out;omega)
   have q1:W4.cell? ⟨h+1,0,none⟩=some (.int .i64 (NN:Nat)):=cell_of_row _ _ _ _ _ _ n4
   have q2:W4.cell? ⟨h+1+1,0,none⟩=some (.int .i64 (LL:Nat)):=cell_of_row _ _ _ _ _ _ v4
   have q3:W4.frozen? ⟨h+1,0,none⟩=false:=frozen_of_row _ _ _ _ _ n4
   have q4:W4.frozen? ⟨h+1+1,0,none⟩=false:=frozen_of_row _ _ _ _ _ v4
   clear hr hr1 hr2 hr3
   have N4:=qh n4
   have V4:=qh v4
   have D4:=qh d4
   have B4:=qh b4
   clear n4 v4 d4 b4 hW4 j
   gi_wp2
   refine wpAt_of_wpIn (n:=6) ?_
   refine wpIn_wide.2 ?_
   go_wp2_with fail
   go_region
   all_goals go_wp2
   obtain ⟨W5,hW5⟩:∃ W5,((W4.setCell ⟨h+1,0,none⟩ (.int .i64 (NN:Nat))).setCell ⟨h+1+1,0,none⟩ (.int .i64 (LL:Nat))).drew=W5:=⟨_,rfl⟩
   have hT0:=HT.out
   have far:∀ b,b≠h+1→b≠h+1+1→W5.heap[b]?=W4.heap[b]?:=fun b h1 h2=>by
    rw [←hW5];exact (show ((W4.setCell ⟨h+1,0,none⟩ (.int .i64 (NN:Nat))).setCell ⟨h+1+1,0,none⟩ (.int .i64 (LL:Nat))).heap[b]?=W4.heap[b]? from (Below.heap_setCell _ _ _ _ (by simp only;exact h2)).trans (Below.heap_setCell _ _ _ _ (by simp only;exact h1)))
   have n5:W5.heap[h+1]?=some (.cells #[.int .i64 (NN:Nat)] 3 (0,0)):=by
    rw [←hW5];exact (show ((W4.setCell ⟨h+1,0,none⟩ (.int .i64 (NN:Nat))).setCell ⟨h+1+1,0,none⟩ (.int .i64 (LL:Nat))).heap[h+1]?=_ from (Below.heap_setCell _ _ _ _ (by simp only;omega)).trans (heap_setCell_same _ _ 0 _ _ _ N4.out))
   have v5:W5.heap[h+1+1]?=some (.cells #[.int .i64 (LL:Nat)] 3 (0,0)):=by
    rw [←hW5];exact (show ((W4.setCell ⟨h+1,0,none⟩ (.int .i64 (NN:Nat))).setCell ⟨h+1+1,0,none⟩ (.int .i64 (LL:Nat))).heap[h+1+1]?=_ from heap_setCell_same _ _ 0 _ _ _ ((Below.heap_setCell _ _ _ _ (by simp only;omega)).trans V4.out))
   have d5:W5.heap[T+1]?=some (.deferred (some [])):=(far _ (by omega) (by omega)).trans D4.out
   have b5:Below h w W5:=by
    rw [←hW5];exact ((B4.out.setCell (p:=⟨h+1,0,none⟩) (by simp only;omega) _).setCell (p:=⟨h+1+1,0,none⟩) (by simp only;omega) _).drew
   rw [hW5]
   refine ⟨by simp,.inl ⟨_,_,rfl,run_takeDeferred d5,?_⟩⟩
   have r1:(W5.putObj (T+1) (.deferred none)).cell? ⟨h+1,0,none⟩=some (.int .i64 (NN:Nat)):=cell_of_row _ _ _ _ _ _ ((World.putObj_heap_other (by omega)).trans n5)
   have r2:(W5.putObj (T+1) (.deferred none)).cell? ⟨h+1+1,0,none⟩=some (.int .i64 (LL:Nat)):=cell_of_row _ _ _ _ _ _ ((World.putObj_heap_other (by omega)).trans v5)
   refine ⟨.tuple #[.int .i64 (NN:Nat),.int .i64 (LL:Nat)],by simp [results,Tryz.results56,go_sem,r1,r2],LL,?_,?_,below_put b5 _ _ (by omega)⟩
   ·rw [Nat.min_eq_right H41.out,HNN.out]
   ·intro hle;have:=H41.out;omega
end Go.Proofs.YtcimcjmdkjajfaaGreatDoor
namespace Go.Proofs.YtcimcjmdkjajfaaGreatDoor
namespace Lx
def headP (P:UInt8→Bool) (l:Bs):Bool:=(l[0]?.map P).getD false
theorem runLen_eq (l:Bs):runLen l=l.length↔l.all part=true:=by
 induction l with
 | nil=>simp [runLen]
 | cons c r ih =>
  rw [runLen_cons,List.all_cons]
  cases hc:part c
  ·simp
  ·simp only [if_true,List.length_cons,Bool.true_and]
   rw [←ih];omega
theorem runTo_zero (l:Bs):runTo l 0=runLen l:=by unfold runTo;rw [List.drop_zero,Nat.zero_add]
theorem part64:part 64=false:=by decide
theorem runLen_halt:∀ (l:Bs) (i:Nat) (c:UInt8),l[i]?=some c→part c=false→runLen l≤i
 | [],i,c,h,_=>by simp at h
 | a :: r,0,c,h,hp=>by
  simp at h;subst h;rw [runLen_cons,hp];simp
 | a :: r,i+1,c,h,hp=>by
  have:=runLen_halt r i c (by simpa using h) hp
  rw [runLen_cons];split <;> omega
theorem runLen_cut:∀ (l:Bs) (i:Nat) (c:UInt8),l[i]?=some c→part c=false→(runLen l=i↔(l.take i).all part=true)
 | [],i,c,h,_=>by simp at h
 | a :: r,0,c,h,hp=>by
  simp at h;subst h;rw [runLen_cons,hp];simp
 | a :: r,i+1,c,h,hp=>by
  have ih:=runLen_cut r i c (by simpa using h) hp
  rw [runLen_cons,List.take_succ_cons,List.all_cons]
  cases hc:part a
  ·simp
  ·simp only [if_true,Bool.true_and]
   rw [←ih];omega
theorem slice_all (l:Bs):slice l 0 l.length=l:=by unfold slice;simp
theorem tok_name (l:Bs):tokAt l 0=some (1,l.length)↔(headP small l=true∧nameTo l 0=l.length∧words.contains l=false):=by
 unfold headP tokAt
 cases hl:l[0]? with
 | none=>simp
 | some c =>
  simp only [Option.map_some,Option.getD_some]
  cases hs:small c
  ·simp only [Bool.false_eq_true,if_false,false_and,iff_false]
   split
   ·simp
   ·split
    ·simp
    ·split <;> simp
  ·simp only [if_true,true_and]
   by_cases hn:nameTo l 0=l.length
   ·rw [hn,slice_all]
    have h45:¬ (l=[111]∧l[l.length]?=some 45):=by
     rintro ⟨_,h⟩;rw [List.getElem?_eq_none (Nat.le_refl _)] at h;cases h
    rw [if_neg h45]
    cases words.contains l <;> simp
   ·constructor
    ·intro h
     split at h
     ·simp at h
     ·split at h
      ·simp at h
      ·simp at h;exact absurd h hn
    ·intro h;exact absurd h.1 hn
theorem tok_var (l:Bs):tokAt l 0=some (2,l.length)↔(headP capital l=true∧l.all part=true):=by
 unfold headP tokAt
 cases hl:l[0]? with
 | none=>simp
 | some c =>
  simp only [Option.map_some,Option.getD_some]
  cases hs:small c
  ·simp only [Bool.false_eq_true,if_false]
   cases hc:capital c
   ·simp only [Bool.false_eq_true,if_false,false_and,iff_false]
    split
    ·simp
    ·split <;> simp
   ·simp only [if_true,true_and]
    rw [runTo_zero,←runLen_eq];simp
  ·have hc:capital c=false:=by
    have:=(show small c=true from hs)
    simp only [small,Bool.and_eq_true,decide_eq_true_eq] at this
    simp only [capital,Bool.and_eq_false_iff,decide_eq_false_iff_not]
    omega
   simp only [if_true,hc,Bool.false_eq_true,false_and,iff_false]
   split
   ·simp
   ·split <;> simp
theorem name_miss {l:Bs} (h:Lib.indexByte l 64 = -1):nameTo l 0=l.length↔l.all part=true:=by
 have hn:=Lib.indexByte_none h
 unfold nameTo
 simp only
 rw [if_neg (fun hc=>hn _ hc.1),runTo_zero,runLen_eq]
theorem name_hit {l:Bs} {i:Nat} (h:Lib.indexByte l 64=i):nameTo l 0=l.length↔((l.take i).all part=true∧headP small (l.drop (i+1))=true∧(l.drop (i+1)).all part=true):=by
 obtain ⟨h64,hlow⟩:=Lib.indexByte_some h
 have hi:i < l.length:=(List.getElem?_eq_some_iff.1 h64).1
 have hst:=runLen_halt l i 64 h64 part64
 have hh:headP small (l.drop (i+1))=(l[i+1]?.map small).getD false:=by
  unfold headP;rw [List.getElem?_drop,Nat.add_zero]
 rw [hh,←runLen_cut l i 64 h64 part64,←runLen_eq]
 unfold nameTo
 simp only [runTo_zero]
 by_cases hr:runLen l=i
 ·rw [hr]
  cases hq:(l[i+1]?.map small) with
  | none=>simp [h64];omega
  | some b =>
   cases b
   ·simp [h64];omega
   ·have:runTo l (i+1)=i+1+runLen (l.drop (i+1)):=rfl
    simp [h64,this,List.length_drop]
    omega
 ·have hlt:runLen l < i:=by omega
  rw [if_neg (fun hc=>hlow _ hlt hc.1)]
  simp [hr];omega
theorem head_take {P:UInt8→Bool} {l:Bs} {i:Nat} (h:Lib.indexByte l 64=i) (hP:P 64=false):headP P (l.take i)=headP P l:=by
 obtain ⟨h64,hlow⟩:=Lib.indexByte_some h
 unfold headP
 cases i with
 | zero=>rw [h64];simp [hP]
 | succ i=>simp
end Lx
end Go.Proofs.YtcimcjmdkjajfaaGreatDoor
namespace Go.Proofs.YtcimcjmdkjajfaaGreatDoor
open Go.RowKit
theorem byte_forall {P:UInt8→Bool} (h:(List.range 256).all (fun n=>P n.toUInt8)=true) (c:UInt8):P c=true:=by
 have:=List.all_eq_true.1 h c.toNat (List.mem_range.2 c.toNat_lt)
 rwa [show c.toNat.toUInt8=c from by simp] at this
theorem first_byte {l:Lx.Bs} {c:UInt8} {k j:Nat} (hc:l[0]?=some c) (h:Lx.tokAt l 0=some (k,j)):Lx.blank c=false∧c.toNat≠37:=by
 have key:(Lx.small c || Lx.capital c || Lx.signB c || (c==45 || c==61 || c==60))=true:=by
  unfold Lx.tokAt at h
  rw [hc] at h
  simp only at h
  cases hs:Lx.small c
  ·cases hp:Lx.capital c
   ·cases hg:Lx.signB c
    ·rw [hs,hp,hg] at h
     simp only [Bool.false_eq_true,if_false] at h
     split at h
     ·rename_i hl
      have h0:∀ a b,Lx.pre l 0 [a,b]=true→c=a:=fun a b hab=>by
       have:=(Lx.pre_two hab).1
       rw [hc] at this;exact Option.some.inj this
      simp only [Lx.isLong,Bool.or_eq_true,Bool.and_eq_true] at hl
      rcases hl with ((⟨h1,_⟩ | h1) | h1) | h1 <;> (rw [h0 _ _ h1];decide)
     ·cases h
    ·simp
   ·simp
  ·simp
 have:=byte_forall (P:=fun c=>!(Lx.small c || Lx.capital c || Lx.signB c || (c==45 || c==61 || c==60)) || (!Lx.blank c && !decide (c.toNat=37))) (by decide +kernel) c
 simp only [key,Bool.not_true,Bool.false_or,Bool.and_eq_true,Bool.not_eq_true',decide_eq_false_iff_not] at this
 exact this
theorem refTok_iff (k:Nat) (s:ByteArray) (p:Int):refTok ⟨k,s,p⟩=true↔Lx.tokAt (bs s) 0=some (k,(bs s).length):=by
 unfold refTok
 simp only
 cases Lx.tokAt (bs s) 0 with
 | none=>simp
 | some x =>
  obtain ⟨k',j⟩:=x
  simp only [Bool.and_eq_true,decide_eq_true_eq,Option.some.injEq,Prod.mk.injEq,bs_len]
  omega
theorem check_iff (k:Nat) (s:ByteArray) (p:Int):checkB ⟨k,s,p⟩=true↔(s.size≤40∧Lx.tokAt (bs s) 0=some (k,(bs s).length)):=by
 rw [check_ref,←refTok_iff k s p]
 unfold refB
 simp only
 cases hc:(bs s)[0]? with
 | none =>
  constructor
  ·intro h;cases h
  ·rintro ⟨_,h⟩
   rw [refTok_iff] at h
   simp [Lx.tokAt,hc] at h
 | some c =>
  simp only [Bool.and_eq_true,decide_eq_true_eq]
  constructor
  ·rintro ⟨⟨⟨h1,_⟩,_⟩,h2⟩;exact ⟨h1,h2⟩
  ·rintro ⟨h1,h2⟩
   have:=first_byte hc ((refTok_iff k s p).1 h2)
   exact ⟨⟨⟨h1,by rw [this.1];rfl⟩,by simpa using this.2⟩,h2⟩
theorem check_name (s:ByteArray) (p:Int):checkB ⟨1,s,p⟩=(decide (s.size≤40) && (Lx.headP Lx.small (bs s) && (decide (Lx.nameTo (bs s) 0=(bs s).length) && !Lx.words.contains (bs s)))):=by
 rw [Bool.eq_iff_iff,show checkB ⟨1,s,p⟩=checkB ⟨((1:Nat):Int),s,p⟩ from rfl,check_iff,Lx.tok_name]
 simp only [Bool.and_eq_true,decide_eq_true_eq,Bool.not_eq_true']
theorem check_var (s:ByteArray) (p:Int):checkB ⟨2,s,p⟩=(decide (s.size≤40) && (Lx.headP Lx.capital (bs s) && (bs s).all Lx.part)):=by
 rw [Bool.eq_iff_iff,show checkB ⟨2,s,p⟩=checkB ⟨((2:Nat):Int),s,p⟩ from rfl,check_iff,Lx.tok_var]
 simp only [Bool.and_eq_true,decide_eq_true_eq]
theorem cut_cases (s:ByteArray):Lib.indexByte s.data.toList 64 = -1∨∃ i:Nat,i < s.size∧Lib.indexByte s.data.toList 64=i:=by
 have hge:=Lib.indexByte_ge s.data.toList 64
 by_cases h:Lib.indexByte s.data.toList 64 = -1
 ·exact .inl h
 ·obtain ⟨i,hi⟩:=Int.eq_ofNat_of_zero_le (show 0≤Lib.indexByte s.data.toList 64 from by omega)
  have:=(List.getElem?_eq_some_iff.1 (Lib.indexByte_some hi).1).1
  exact .inr ⟨i,this,hi⟩
theorem name_plain (s:ByteArray) (h:Lib.indexByte s.data.toList 64 = -1):checkB ⟨1,s,0⟩=(decide (s.size≤40) && (Lx.headP Lx.small (bs s) && ((bs s).all Lx.part && !Lx.words.contains (bs s)))):=by
 rw [check_name]
 congr 3
 rw [Bool.eq_iff_iff,decide_eq_true_eq]
 exact Lx.name_miss h
theorem name_linked (s:ByteArray) (i:Nat) (h:Lib.indexByte s.data.toList 64=i) :
  checkB ⟨1,s,0⟩=(decide (s.size≤40) && (Lx.headP Lx.small (bs (s.extract 0 i)) && ((bs (s.extract 0 i)).all Lx.part && (Lx.headP Lx.small (bs (s.extract (i+1) s.size)) && ((bs (s.extract (i+1) s.size)).all Lx.part && !Lx.words.contains (bs s)))))):=by
 have e1:bs (s.extract 0 i)=(bs s).take i:=by rw [bs_extract];unfold Lx.slice;simp
 have e2:bs (s.extract (i+1) s.size)=(bs s).drop (i+1):=by
  rw [bs_extract];unfold Lx.slice
  rw [List.take_of_length_le (by rw [List.length_drop,bs_len];omega)]
 rw [check_name,e1,e2,Lx.head_take (l:=bs s) h (by decide)]
 have:=Lx.name_hit (l:=bs s) h
 rw [Bool.eq_iff_iff]
 simp only [Bool.and_eq_true,decide_eq_true_eq,this]
 constructor
 ·rintro ⟨a,b,⟨c,d,e⟩,f⟩;exact ⟨a,b,c,d,e,f⟩
 ·rintro ⟨a,b,c,d,e,f⟩;exact ⟨a,b,⟨c,d,e⟩,f⟩
end Go.Proofs.YtcimcjmdkjajfaaGreatDoor
namespace Go.Proofs.YtcimcjmdkjajfaaGreatDoor
open Go.RowKit
def smallS:ByteArray:=⟨#[97,98,99,100,101,102,103,104,105,106,107,108,109,110,111,112,113,114,115,116,117,118,119,120,121,122]⟩
def capS:ByteArray:=⟨#[65,66,67,68,69,70,71,72,73,74,75,76,77,78,79,80,81,82,83,84,85,86,87,88,89,90]⟩
def partS:ByteArray:=⟨#[97,98,99,100,101,102,103,104,105,106,107,108,109,110,111,112,113,114,115,116,117,118,119,120,121,122,65,66,67,68,69,70,71,72,73,74,75,76,77,78,79,80,81,82,83,84,85,86,87,88,89,90,48,49,50,51,52,53,54,55,56,57,95,39]⟩
theorem in_small (c:UInt8):decide (0≤Lib.indexByte smallS.data.toList c)=Lx.small c:=by
 have:=byte_forall (P:=fun c=>decide (0≤Lib.indexByte smallS.data.toList c)==Lx.small c) (by decide +kernel) c
 exact beq_iff_eq.1 this
theorem in_cap (c:UInt8):decide (0≤Lib.indexByte capS.data.toList c)=Lx.capital c:=by
 have:=byte_forall (P:=fun c=>decide (0≤Lib.indexByte capS.data.toList c)==Lx.capital c) (by decide +kernel) c
 exact beq_iff_eq.1 this
theorem in_part (c:UInt8):decide (0≤Lib.indexByte partS.data.toList c)=Lx.part c:=by
 have:=byte_forall (P:=fun c=>decide (0≤Lib.indexByte partS.data.toList c)==Lx.part c) (by decide +kernel) c
 exact beq_iff_eq.1 this
set_option maxRecDepth 100000 in
set_option maxHeartbeats 400000 in
theorem nWords (w:World):Calls Tryz.prog 168 #[] w fun e w'=>e = .returned (.slice (some ⟨w.heap.size,0,none⟩) 17 17)∧w'=w.alloc (.cells (wordsB.map Value.string).toArray 9):=by
 go_enter Tryz.func168,Tryz.ntmps168
 go_wp2
 go_ret
 exact ⟨rfl,rfl⟩
set_option maxRecDepth 100000 in
set_option maxHeartbeats 400000 in
theorem begins_v (P:UInt8→Bool) (V:Bool) (s L:ByteArray) (w:World) (hP:∀ c,decide (0≤Lib.indexByte L.data.toList c)=P c) (hV:Lx.headP P (bs s)=V) :
  Calls Tryz.prog 125 #[.string s,.string L] w fun e w'=>e = .returned (.bool V)∧w'=w:=by
 by_cases h0:s.size=0
 ·obtain rfl:s=⟨#[]⟩:=by
   obtain ⟨⟨l⟩⟩:=s
   have:l=[]:=List.eq_nil_of_length_eq_zero (by simpa [ByteArray.size] using h0)
   rw [this]
  have hVf:V=false:=by rw [←hV];rfl
  subst hVf
  clear hV hP h0
  go_enter Tryz.func125,Tryz.ntmps125
  go_wp2
  go_ret
  exact ⟨rfl,rfl⟩
 ·have hpos:0 < s.size:=by omega
  have hne2:(s.toList==[])=false:=by
   rw [ByteArray.toList_eq,beq_eq_false_iff_ne]
   intro e
   have h1:s.data.toList.length=s.size:=rfl
   have h2:s.size=([]:List UInt8).length:=h1.symm.trans (congrArg List.length e)
   simp only [List.length_nil] at h2
   omega
  have hne:(!(s.toList==[]))=true:=by rw [hne2];rfl
  have hg:(bs s)[0]?=some s[0]:=by rw [List.getElem?_eq_getElem (by rw [bs_len];exact hpos),bs_get hpos]
  have hv:decide ((0:Int)≤Lib.indexByte L.data.toList s[0])=V:=by rw [←hV,hP];unfold Lx.headP;rw [hg];rfl
  have hlt:s[0].toNat < 256:=s[0].toNat_lt
  have C:=fun w=>Tryz.strings_IndexByte L (s[0].toNat:Int) w
  rw [show ((s[0].toNat:Int)).toNat.toUInt8=s[0] from by simp] at C
  obtain ⟨I,hI⟩:∃ I,Lib.indexByte L.data.toList s[0]=I:=⟨_,rfl⟩
  rw [hI] at C hv
  have HC:=qh C
  have HV:=qh hv
  clear C hV hP hg hI h0 hv
  go_enter Tryz.func125,Tryz.ntmps125
  go_wp2_with fail
  refine (HC.out _).mono ?_
  rintro e w1 ⟨rfl,rfl⟩
  go_wp2
  go_ret
  exact ⟨by rw [←HV.out];rfl,rfl⟩
theorem all_step {l:Lx.Bs} {k:Nat} (h:k < l.length):(l.drop k).all Lx.part=(Lx.part l[k] && (l.drop (k+1)).all Lx.part):=by
 rw [List.drop_eq_getElem_cons h,List.all_cons]
set_option maxRecDepth 100000 in
set_option maxHeartbeats 400000 in
theorem inName_v (V:Bool) (s:ByteArray) (w:World) (hs:s.size≤maxLen) (hV:(bs s).all Lx.part=V) :
  Calls Tryz.prog 126 #[.string s] w fun e w'=>e = .returned (.bool V)∧w'=w:=by
 unfold maxLen at hs
 have HV:=qh hV
 have HL:=qh (bs_len s)
 have hby:=byte_lt
 have HC:=qh (fun (c:UInt8) w=>Tryz.strings_IndexByte partS (c.toNat:Int) w)
 clear hV
 go_enter Tryz.func126,Tryz.ntmps126
 go_wp2
 go_loopw [6] (fun v wr=>∃ k:Nat,k≤s.size∧v = .int .i64 k∧Hid (((bs s).drop k).all Lx.part=V)∧wr=w) (fun v _=>s.size - (intOf v).toNat)
 case atStart=>exact ⟨0,Nat.zero_le _,rfl,qh (by rw [List.drop_zero];exact HV.out),rfl⟩
 case round =>
  obtain ⟨k,hk,rfl,hall,rfl⟩:=hrel
  by_cases hlt:k < s.size
  ·have hlt':(k:Int) < (s.size:Int):=by omega
   have hst:=all_step (l:=bs s) (k:=k) (by rw [bs_len];exact hlt)
   rw [bs_get hlt] at hst
   have C:=fun w=>HC.out s[k] w
   rw [show ((s[k].toNat:Int)).toNat.toUInt8=s[k] from by simp] at C
   have hin:=in_part s[k]
   obtain ⟨I,hI⟩:∃ I,Lib.indexByte partS.data.toList s[k]=I:=⟨_,rfl⟩
   rw [hI] at C hin
   have Hst:=qh hst
   have CC:=qh C
   have Hin:=qh hin
   clear hst C hI hin
   unfold partS at CC
   go_wp2_with fail
   refine (CC.out _).mono ?_
   rintro e w1 ⟨rfl,rfl⟩
   by_cases hi:I < 0
   ·go_wp2
    go_ret
    exact ⟨by rw [←hall.out,Hst.out,←Hin.out,decide_eq_false (by omega)];rfl,rfl⟩
   ·go_wp2
    go_roundw
    case rel=>exact ⟨k+1,by omega,by push_cast;rfl,qh (by rw [←hall.out,Hst.out,←Hin.out,decide_eq_true (by omega)];rfl),trivial⟩
    case measure=>simp [intOf];omega
  ·have hlt':¬ (k:Int) < (s.size:Int):=by omega
   have hVt:V=true:=by rw [←hall.out,List.drop_of_length_le (by rw [bs_len];omega)];rfl
   subst hVt
   go_wp2
   go_ret
   exact ⟨rfl,rfl⟩
set_option maxRecDepth 100000 in
set_option maxHeartbeats 400000 in
theorem liteCut_any (s:ByteArray) (w:World) (hs:s.size≤maxLen) :
  Calls Tryz.prog 207 #[.string s,.string ⟨#[64]⟩] w fun e w'=>Below w.heap.size w w' ∧
   ((Lib.indexByte s.data.toList 64 = -1∧e = .returned (.tuple #[.string s,.string ⟨#[]⟩,.bool false])) ∨
    ∃ i:Nat,i < s.size∧Lib.indexByte s.data.toList 64=i∧e = .returned (.tuple #[.string (s.extract 0 i),.string (s.extract (i+1) s.size),.bool true])):=by
 have hc:=cut_cases s
 unfold maxLen at hs
 have HC:=fun w=>Tryz.stringslite_Index_one s 64 w
 rcases hc with hm | ⟨i,hi,he⟩
 ·rw [hm] at HC
  have HM:=qh hm
  have C:=qh HC
  clear hm HC
  go_enter Tryz.func207,Tryz.ntmps207
  go_wp2_with fail
  refine (C.out _).mono ?_
  rintro e w1 ⟨rfl,rfl⟩
  go_wp2
  go_ret3
  exact ⟨Below.refl _ _,.inl ⟨HM.out,rfl⟩⟩
 ·rw [he] at HC
  have HM:=qh he
  have C:=qh HC
  clear he HC
  have c1:(0:Int)≤(i:Int):=by omega
  have c2:(i:Int)≤(s.size:Int):=by omega
  have c3:(0:Int)≤(i:Int)+1:=by omega
  have c4:(i:Int)+1≤(s.size:Int):=by omega
  go_enter Tryz.func207,Tryz.ntmps207
  go_wp2_with fail
  refine (C.out _).mono ?_
  rintro e w1 ⟨rfl,rfl⟩
  go_wp2_with fail
  go_quiet (fail)
  go_wp2
  go_ret3
  exact ⟨⟨rfl,rfl,rfl,Nat.le_refl _,fun _ _=>rfl⟩,.inr ⟨i,hi,HM.out,rfl⟩⟩
set_option maxRecDepth 100000 in
set_option maxHeartbeats 400000 in
theorem cut_any (s:ByteArray) (w:World) (hs:s.size≤maxLen) :
  Calls Tryz.prog 167 #[.string s,.string ⟨#[64]⟩] w fun e w'=>Below w.heap.size w w' ∧
   ((Lib.indexByte s.data.toList 64 = -1∧e = .returned (.tuple #[.string s,.string ⟨#[]⟩,.bool false])) ∨
    ∃ i:Nat,i < s.size∧Lib.indexByte s.data.toList 64=i∧e = .returned (.tuple #[.string (s.extract 0 i),.string (s.extract (i+1) s.size),.bool true])):=by
 have C:=qh (fun w=>liteCut_any s w hs)
 go_enter Tryz.func167,Tryz.ntmps167
 go_wp2_with fail
 refine (C.out _).mono ?_
 rintro e w1 ⟨hb,⟨hm,rfl⟩ | ⟨i,hi,he,rfl⟩⟩
 ·have HM:=qh hm
  clear hm
  go_wp2
  go_ret3
  exact ⟨hb,.inl ⟨HM.out,rfl⟩⟩
 ·have HM:=qh he
  clear he
  go_wp2
  go_ret3
  exact ⟨hb,.inr ⟨i,hi,HM.out,rfl⟩⟩
theorem words_in (x:ByteArray) (w:World) (b:Nat) (hb:∀ k,k < wordsB.length→w.cell? ⟨b,0+k,none⟩=some (.string (wordsB.getD k ByteArray.empty))) :
  Calls Tryz.prog 76 #[.slice (some ⟨b,0,none⟩) 17 17,.string x] w fun e w'=>e = .returned (.bool (Lx.words.contains (bs x)))∧w'=w:=by
 have:=Tryz.slices_Contains_string b 0 17 17 wordsB x w (by decide) (by omega) hb
 rwa [contains_words] at this
theorem lit_cells (w:World) (L:List ByteArray) (t:TypeId) (k:Nat) (hk:k < L.length):(w.alloc (.cells (L.map Value.string).toArray t)).cell? ⟨w.heap.size,0+k,none⟩=some (.string (L.getD k ByteArray.empty)):=by
 rw [World.cell?_alloc_at _ _ _ _ rfl]
 simp only [Nat.zero_add,List.getElem?_toArray,List.getElem?_map,List.getD_eq_getElem?_getD]
 rw [List.getElem?_eq_getElem hk]
 rfl
set_option maxRecDepth 100000 in
set_option maxHeartbeats 1000000 in
theorem isName_plain (V:Bool) (s:ByteArray) (w:World) (hs:s.size≤maxLen) (hm:Lib.indexByte s.data.toList 64 = -1) (hV:checkB ⟨1,s,0⟩=V) :
  Calls Tryz.prog 114 #[.string s] w fun e w'=>e = .returned (.bool V)∧Below w.heap.size w w':=by
 rw [name_plain s hm] at hV
 have C0:=qh (fun w=>cut_any s w hs)
 obtain ⟨p,hp⟩:∃ p,s=p:=⟨_,rfl⟩
 have hx1:p.size≤maxLen:=by rw [←hp];exact hs
 have CW:Hid (∀ w,Calls Tryz.prog 168 #[] w fun e w'=>e = .returned (.slice (some ⟨w.heap.size,0,none⟩) 17 17)∧w'=w.alloc (.cells (wordsB.map Value.string).toArray 9)):=qh nWords
 obtain ⟨VW,hW⟩:∃ v,Lx.words.contains (bs s)=v:=⟨_,rfl⟩
 have CC:=fun w b hb=>words_in s w b hb
 rw [hW] at CC
 rw [hp] at hV
 have hV:=hV
 rw [←hp] at hV
 rw [hW] at hV
 obtain ⟨B1,hB1⟩:∃ v,Lx.headP Lx.small (bs s)=v:=⟨_,rfl⟩
 obtain ⟨P1,hP1⟩:∃ v,(bs s).all Lx.part=v:=⟨_,rfl⟩
 rw [hB1,hP1] at hV
 have CB1:=qh (fun w=>begins_v Lx.small B1 s smallS w in_small hB1)
 have CP1:=qh (fun w=>inName_v P1 s w hs hP1)
 unfold smallS at CB1
 have CH:=qh CC
 have HM:=qh hm
 have HV:=qh hV
 have HPQ:=qh hp
 by_cases h40:(s.size:Int)≤40
 ·have HD:=qh (decide_eq_true (show s.size≤40 by omega))
  clear CC hW hm hV hp  hB1 hP1 hx1
  go_enter Tryz.func114,Tryz.ntmps114
  go_wp2_with fail
  refine (C0.out _).mono ?_
  rintro e w1 ⟨hb,⟨_,rfl⟩ | ⟨i,_,he,_⟩⟩
  case inr=>rw [HM.out] at he;omega
  clear C0
  have Hb:=qh hb
  clear hb
  go_wp2_with fail
  refine (CB1.out _).mono ?_
  rintro e w2 ⟨rfl,hw⟩
  obtain rfl:=hw.symm
  clear CB1
  cases B1
  ·go_wp2
   go_ret
   exact ⟨by rw [←HV.out,HD.out];rfl,Hb.out⟩
  ·skip
   go_wp2_with fail
   refine (CP1.out _).mono ?_
   rintro e w2 ⟨rfl,hw⟩
   obtain rfl:=hw.symm
   clear CP1
   cases P1
   ·go_wp2
    go_ret
    exact ⟨by rw [←HV.out,HD.out];rfl,Hb.out⟩
   ·skip
    go_wp2_with fail
    refine (CW.out _).mono ?_
    rintro e w2 ⟨rfl,rfl⟩
    have CI:=qh (CH.out _ _ (fun k hk=>lit_cells w1 wordsB 9 k hk))
    clear CW CH
    go_wp2_with fail
    refine CI.out.mono ?_
    rintro e w2 ⟨rfl,rfl⟩
    clear CI
    cases VW
    ·go_wp2
     go_ret
     exact ⟨by rw [←HV.out,HD.out];rfl,Hb.out.trans ((Below.refl _ _).alloc Hb.out.size _)⟩
    ·go_wp2
     go_ret
     exact ⟨by rw [←HV.out,HD.out];rfl,Hb.out.trans ((Below.refl _ _).alloc Hb.out.size _)⟩
 ·have HD:=qh (decide_eq_false (show ¬ s.size≤40 by omega))
  clear CC hW hm hV hp  hB1 hP1 hx1
  go_enter Tryz.func114,Tryz.ntmps114
  go_wp2_with fail
  refine (C0.out _).mono ?_
  rintro e w1 ⟨hb,⟨_,rfl⟩ | ⟨i,_,he,_⟩⟩
  case inr=>rw [HM.out] at he;omega
  clear C0
  have Hb:=qh hb
  clear hb
  go_wp2
  go_ret
  exact ⟨by rw [←HV.out,HD.out];rfl,Hb.out⟩
set_option maxRecDepth 100000 in
set_option maxHeartbeats 1000000 in
theorem isName_linked (V:Bool) (s:ByteArray) (w:World) (hs:s.size≤maxLen) (i:Nat) (hi:i < s.size) (hm:Lib.indexByte s.data.toList 64=i) (hV:checkB ⟨1,s,0⟩=V) :
  Calls Tryz.prog 114 #[.string s] w fun e w'=>e = .returned (.bool V)∧Below w.heap.size w w':=by
 rw [name_linked s i hm] at hV
 have hx1:(s.extract 0 i).size≤maxLen:=by rw [ByteArray.size_extract];unfold maxLen at *;omega
 have hx2:(s.extract (i+1) s.size).size≤maxLen:=by rw [ByteArray.size_extract];unfold maxLen at *;omega
 have C0:=qh (fun w=>cut_any s w hs)
 obtain ⟨p,hp⟩:∃ p,s.extract 0 i=p:=⟨_,rfl⟩
 obtain ⟨q,hq⟩:∃ q,s.extract (i+1) s.size=q:=⟨_,rfl⟩
 rw [hp] at hx1
 rw [hq] at hx2
 rw [hp,hq] at hV
 have CW:Hid (∀ w,Calls Tryz.prog 168 #[] w fun e w'=>e = .returned (.slice (some ⟨w.heap.size,0,none⟩) 17 17)∧w'=w.alloc (.cells (wordsB.map Value.string).toArray 9)):=qh nWords
 obtain ⟨VW,hW⟩:∃ v,Lx.words.contains (bs s)=v:=⟨_,rfl⟩
 have CC:=fun w b hb=>words_in s w b hb
 rw [hW] at CC
 rw [hW] at hV
 obtain ⟨B1,hB1⟩:∃ v,Lx.headP Lx.small (bs p)=v:=⟨_,rfl⟩
 obtain ⟨P1,hP1⟩:∃ v,(bs p).all Lx.part=v:=⟨_,rfl⟩
 rw [hB1,hP1] at hV
 obtain ⟨B2,hB2⟩:∃ v,Lx.headP Lx.small (bs q)=v:=⟨_,rfl⟩
 obtain ⟨P2,hP2⟩:∃ v,(bs q).all Lx.part=v:=⟨_,rfl⟩
 rw [hB2,hP2] at hV
 have CB1:=qh (fun w=>begins_v Lx.small B1 p smallS w in_small hB1)
 have CP1:=qh (fun w=>inName_v P1 p w hx1 hP1)
 unfold smallS at CB1
 have CB2:=qh (fun w=>begins_v Lx.small B2 q smallS w in_small hB2)
 have CP2:=qh (fun w=>inName_v P2 q w hx2 hP2)
 unfold smallS at CB2
 have CH:=qh CC
 have HM:=qh hm
 have HV:=qh hV
 have HPQ:=qh hp
 have HQQ:=qh hq
 by_cases h40:(s.size:Int)≤40
 ·have HD:=qh (decide_eq_true (show s.size≤40 by omega))
  clear CC hW hm hV hp hq hB2 hP2 hx2 hi  hB1 hP1 hx1
  go_enter Tryz.func114,Tryz.ntmps114
  go_wp2_with fail
  refine (C0.out _).mono ?_
  rintro e w1 ⟨hb,⟨hm,_⟩ | ⟨i',_,he,rfl⟩⟩
  ·rw [HM.out] at hm;omega
  obtain rfl:i'=i:=by rw [HM.out] at he;omega
  rw [HPQ.out,HQQ.out]
  clear C0
  have Hb:=qh hb
  clear hb
  go_wp2_with fail
  refine (CB1.out _).mono ?_
  rintro e w2 ⟨rfl,hw⟩
  obtain rfl:=hw.symm
  clear CB1
  cases B1
  ·go_wp2
   go_ret
   exact ⟨by rw [←HV.out,HD.out];rfl,Hb.out⟩
  ·skip
   go_wp2_with fail
   refine (CP1.out _).mono ?_
   rintro e w2 ⟨rfl,hw⟩
   obtain rfl:=hw.symm
   clear CP1
   cases P1
   ·go_wp2
    go_ret
    exact ⟨by rw [←HV.out,HD.out];rfl,Hb.out⟩
   ·skip
    go_wp2_with fail
    refine (CB2.out _).mono ?_
    rintro e w2 ⟨rfl,hw⟩
    obtain rfl:=hw.symm
    clear CB2
    cases B2
    ·go_wp2
     go_ret
     exact ⟨by rw [←HV.out,HD.out];rfl,Hb.out⟩
    ·skip
     go_wp2_with fail
     refine (CP2.out _).mono ?_
     rintro e w2 ⟨rfl,hw⟩
     obtain rfl:=hw.symm
     clear CP2
     cases P2
     ·go_wp2
      go_ret
      exact ⟨by rw [←HV.out,HD.out];rfl,Hb.out⟩
     ·skip
      go_wp2_with fail
      refine (CW.out _).mono ?_
      rintro e w2 ⟨rfl,rfl⟩
      have CI:=qh (CH.out _ _ (fun k hk=>lit_cells w1 wordsB 9 k hk))
      clear CW CH
      go_wp2_with fail
      refine CI.out.mono ?_
      rintro e w2 ⟨rfl,rfl⟩
      clear CI
      cases VW
      ·go_wp2
       go_ret
       exact ⟨by rw [←HV.out,HD.out];rfl,Hb.out.trans ((Below.refl _ _).alloc Hb.out.size _)⟩
      ·go_wp2
       go_ret
       exact ⟨by rw [←HV.out,HD.out];rfl,Hb.out.trans ((Below.refl _ _).alloc Hb.out.size _)⟩
 ·have HD:=qh (decide_eq_false (show ¬ s.size≤40 by omega))
  clear CC hW hm hV hp hq hB2 hP2 hx2 hi  hB1 hP1 hx1
  go_enter Tryz.func114,Tryz.ntmps114
  go_wp2_with fail
  refine (C0.out _).mono ?_
  rintro e w1 ⟨hb,⟨hm,_⟩ | ⟨i',_,he,rfl⟩⟩
  ·rw [HM.out] at hm;omega
  obtain rfl:i'=i:=by rw [HM.out] at he;omega
  rw [HPQ.out,HQQ.out]
  clear C0
  have Hb:=qh hb
  clear hb
  go_wp2
  go_ret
  exact ⟨by rw [←HV.out,HD.out];rfl,Hb.out⟩
theorem isName_v (V:Bool) (s:ByteArray) (w:World) (hs:s.size≤maxLen) (hV:checkB ⟨1,s,0⟩=V) :
  Calls Tryz.prog 114 #[.string s] w fun e w'=>e = .returned (.bool V)∧Below w.heap.size w w':=by
 rcases cut_cases s with hm | ⟨i,hi,he⟩
 ·exact isName_plain V s w hs hm hV
 ·exact isName_linked V s w hs i hi he hV
theorem isName_any (s:ByteArray) (w:World) (hs:s.size≤maxLen) :
  Calls Tryz.prog 114 #[.string s] w fun e w'=>e = .returned (.bool (checkB ⟨1,s,0⟩))∧Below w.heap.size w w':=isName_v _ s w hs rfl
set_option maxRecDepth 100000 in
set_option maxHeartbeats 400000 in
theorem isVar_v (V:Bool) (s:ByteArray) (w:World) (hs:s.size≤maxLen) (hV:checkB ⟨2,s,0⟩=V) :
  Calls Tryz.prog 73 #[.string s] w fun e w'=>e = .returned (.bool V)∧Below w.heap.size w w':=by
 rw [check_var] at hV
 obtain ⟨B1,hB1⟩:∃ v,Lx.headP Lx.capital (bs s)=v:=⟨_,rfl⟩
 obtain ⟨P1,hP1⟩:∃ v,(bs s).all Lx.part=v:=⟨_,rfl⟩
 rw [hB1,hP1] at hV
 have CB1:=qh (fun w=>begins_v Lx.capital B1 s capS w in_cap hB1)
 have CP1:=qh (fun w=>inName_v P1 s w hs hP1)
 unfold capS at CB1
 have HV:=qh hV
 by_cases h40:(s.size:Int)≤40
 ·have HD:=qh (decide_eq_true (show s.size≤40 by omega))
  clear hV hB1 hP1
  go_enter Tryz.func73,Tryz.ntmps73
  go_wp2_with fail
  refine (CB1.out _).mono ?_
  rintro e w1 ⟨rfl,rfl⟩
  clear CB1
  cases B1
  ·go_wp2
   go_ret
   exact ⟨by rw [←HV.out,HD.out];rfl,Below.refl _ _⟩
  ·go_wp2_with fail
   refine (CP1.out _).mono ?_
   rintro e w2 ⟨rfl,rfl⟩
   clear CP1
   cases P1
   ·go_wp2
    go_ret
    exact ⟨by rw [←HV.out,HD.out];rfl,Below.refl _ _⟩
   ·go_wp2
    go_ret
    exact ⟨by rw [←HV.out,HD.out];rfl,Below.refl _ _⟩
 ·have HD:=qh (decide_eq_false (show ¬ s.size≤40 by omega))
  clear hV hB1 hP1
  go_enter Tryz.func73,Tryz.ntmps73
  go_wp2
  go_ret
  exact ⟨by rw [←HV.out,HD.out];rfl,Below.refl _ _⟩
theorem isVar_any (s:ByteArray) (w:World) (hs:s.size≤maxLen) :
  Calls Tryz.prog 73 #[.string s] w fun e w'=>e = .returned (.bool (checkB ⟨2,s,0⟩))∧Below w.heap.size w w':=isVar_v _ s w hs rfl
end Go.Proofs.YtcimcjmdkjajfaaGreatDoor
