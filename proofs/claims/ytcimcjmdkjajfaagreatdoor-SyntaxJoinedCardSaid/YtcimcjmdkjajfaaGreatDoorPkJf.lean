/- A part of the proof, packed: see the last text of this claim. -/
import Derived.Test.YtcimcjmdkjajfaaGreatDoorPkJa
import Derived.Test.YtcimcjmdkjajfaaGreatDoorPkJc
import Derived.Test.YtcimcjmdkjajfaaGreatDoorPkJd
import Derived.Test.YtcimcjmdkjajfaaGreatDoorPkJe
import Derived.Deep.RegionHeld3
import Derived.Test.YtcimcjmdkjajfaaGreatDoorRows
import Derived.Test.YtcimcjmdkjajfaaGreatDoorChecked
import Derived.ProofKit
import Derived.LaidMore
import Derived.OpenShut
import Derived.Stop.Joined
import Derived.Lib.BufferRead
import Derived.StillTailTactics
namespace Go.Proofs.YtcimcjmdkjajfaaGreatDoor
open Go.RowKit
theorem bs_joined (a b:ByteArray):bs (a++⟨#[10]⟩++b)=bs a++10 :: bs b:=by
 unfold bs
 rw [ByteArray.data_append,ByteArray.data_append,Array.toList_append,Array.toList_append]
 simp
theorem parse_says {s:ByteArray} {o:Option Nd} {p er:Nat} (hp:parseP (bs s) 1=(o,p,er)) (hs:s.size≤maxLen) (w:World) (hw:2≤w.heap.size) (gl:GLw w) :
  Calls Tryz.prog 39 #[.string s] w fun e w'=>∃ k sx a n c,e = .returned (.tuple #[.agg #[.int .i64 k,.string sx,.slice a n c],.int .i64 (p:Nat),.int .i64 (er:Nat)])∧Below w.heap.size w w'∧NodeIs w.heap.size w' k sx a n c o:=by
 have:=Parse_any s w hw gl hs
 rw [hp] at this
 exact this
theorem parse_tree {s:ByteArray} {l:List Nd} (hp:parseP (bs s) 1=(some (.mk 1 Sx.noS l),0,0)) (hs:s.size≤maxLen) (w:World) (hw:2≤w.heap.size) (gl:GLw w) :
  Calls Tryz.prog 39 #[.string s] w fun e w'=>∃ a c,e = .returned (.tuple #[.agg #[.int .i64 1,.string Sx.noS,.slice a l.length c],.int .i64 0,.int .i64 0])∧Below w.heap.size w w'∧NdR w' (.mk 1 Sx.noS l) (.int .i64 1) (.string Sx.noS) (.slice a l.length c):=by
 refine (parse_says hp hs w hw gl).mono ?_
 rintro e w' ⟨k,sx,a,n,c,rfl,hb,hn⟩
 have hr:NdR w' (.mk 1 Sx.noS l) (.int .i64 k) (.string sx) (.slice a n c):=NdS.toR hn
 obtain ⟨k1,s1,l1,a1,c1,e0,e1,e2,e3,_,_⟩:=hr.form
 cases e0
 cases e1
 cases e2
 cases e3
 exact ⟨_,_,rfl,hb,hr⟩
theorem parse_some {s:ByteArray} {o:Option Nd} {p er:Nat} (hp:parseP (bs s) 1=(o,p,er)) (hs:s.size≤maxLen) (w:World) (hw:2≤w.heap.size) (gl:GLw w) :
  Calls Tryz.prog 39 #[.string s] w fun e w'=>NodeAny e (p:Nat) (er:Nat)∧Below w.heap.size w w' :=
 (parse_says hp hs w hw gl).mono fun _ _ ⟨k,sx,a,n,c,he,hb,_⟩=>⟨⟨k,sx,a,n,c,he⟩,hb⟩
set_option maxRecDepth 100000 in
set_option maxHeartbeats 1000000 in
theorem joined_bad1 (s t:ByteArray) (w:World) (hw:2≤w.heap.size) (gl:GLw w) (hs:s.size≤140737488355328) (ht:t.size≤140737488355328) {o:Option Nd} {p er:Nat} (hp:parseP (bs s) 1=(o,p,er)) {o2:Option Nd} {p2 er2:Nat} (hp2:parseP (bs t) 1=(o2,p2,er2))
  (hne:¬ er=0) :
  Calls Tryz.prog 11 #[.string s,.string t] w fun e w'=>e = .returned (.bool true)∧Below w.heap.size w w':=by
 have CS:=qh (saneS_any w hw gl)
 have CA:=qh (fun W hw gl=>parse_some hp (by unfold maxLen;omega) W hw gl)
 have CB:=qh (fun W hw gl=>parse_some hp2 (by unfold maxLen;omega) W hw gl)
 have HG:=qh gl
 clear hp hp2 gl
 go_enter Tryz.func11,Tryz.ntmps11
 go_wp2_with fail
 refine CS.out.mono ?_
 rintro e w1 ⟨rfl,hb1⟩
 have G1:=qh (HG.out.keep fun b hb _=>hb1.block b (by omega))
 have z1:2≤w1.heap.size:=by have:=hb1.size;omega
 have B1:=qh hb1
 clear CS hb1 HG
 go_wp2_with fail
 refine (CA.out _ z1 G1.out).mono ?_
 rintro e w2 ⟨⟨k,sx,a,n,c,rfl⟩,hb2⟩
 have hb2':=hb2.alloc hb2.size (.cells #[.int .i64 k,.string sx,.slice a n c] 24)
 have G2:=qh (G1.out.keep fun b hb _=>hb2'.block b (by omega))
 have z2:=Nat.le_trans z1 hb2'.size
 have B2:=qh (B1.out.trans (hb2'.mono B1.out.size))
 clear CA hb2 hb2' G1 B1
 go_wp2_with fail
 refine (CB.out _ z2 G2.out).mono ?_
 rintro e w3 ⟨⟨k',sx',a',n',c',rfl⟩,hb3⟩
 have B3:=qh (B2.out.trans (hb3.mono B2.out.size))
 clear CB hb3 G2 B2
 go_wp2
 all_goals (try go_ret)
 all_goals first
  | exact ⟨rfl,B3.out.alloc B3.out.size _⟩
  | (exfalso;omega)
set_option maxRecDepth 100000 in
set_option maxHeartbeats 1000000 in
theorem joined_bad2 (s t:ByteArray) (w:World) (hw:2≤w.heap.size) (gl:GLw w) (hs:s.size≤140737488355328) (ht:t.size≤140737488355328) {o:Option Nd} {p:Nat} (hp:parseP (bs s) 1=(o,p,0)) {o2:Option Nd} {p2 er2:Nat} (hp2:parseP (bs t) 1=(o2,p2,er2))
  (hne:¬ er2=0) :
  Calls Tryz.prog 11 #[.string s,.string t] w fun e w'=>e = .returned (.bool true)∧Below w.heap.size w w':=by
 have CS:=qh (saneS_any w hw gl)
 have CA:=qh (fun W hw gl=>parse_some hp (by unfold maxLen;omega) W hw gl)
 have CB:=qh (fun W hw gl=>parse_some hp2 (by unfold maxLen;omega) W hw gl)
 have HG:=qh gl
 clear hp hp2 gl
 go_enter Tryz.func11,Tryz.ntmps11
 go_wp2_with fail
 refine CS.out.mono ?_
 rintro e w1 ⟨rfl,hb1⟩
 have G1:=qh (HG.out.keep fun b hb _=>hb1.block b (by omega))
 have z1:2≤w1.heap.size:=by have:=hb1.size;omega
 have B1:=qh hb1
 clear CS hb1 HG
 go_wp2_with fail
 refine (CA.out _ z1 G1.out).mono ?_
 rintro e w2 ⟨⟨k,sx,a,n,c,rfl⟩,hb2⟩
 have hb2':=hb2.alloc hb2.size (.cells #[.int .i64 k,.string sx,.slice a n c] 24)
 have G2:=qh (G1.out.keep fun b hb _=>hb2'.block b (by omega))
 have z2:=Nat.le_trans z1 hb2'.size
 have B2:=qh (B1.out.trans (hb2'.mono B1.out.size))
 clear CA hb2 hb2' G1 B1
 go_wp2_with fail
 refine (CB.out _ z2 G2.out).mono ?_
 rintro e w3 ⟨⟨k',sx',a',n',c',rfl⟩,hb3⟩
 have B3:=qh (B2.out.trans (hb3.mono B2.out.size))
 clear CB hb3 G2 B2
 go_wp2
 all_goals (try go_ret)
 all_goals first
  | exact ⟨rfl,B3.out.alloc B3.out.size _⟩
  | (exfalso;omega)
set_option maxRecDepth 100000 in
set_option maxHeartbeats 1000000 in
theorem joined_long (s t:ByteArray) (w:World) (hw:2≤w.heap.size) (gl:GLw w) (hs:s.size≤140737488355328) (ht:t.size≤140737488355328) {o:Option Nd} {p:Nat} (hp:parseP (bs s) 1=(o,p,0)) {o2:Option Nd} {p2:Nat} (hp2:parseP (bs t) 1=(o2,p2,0))
  {o3:Option Nd} {p3:Nat} (hp3:parseP (bs s++10 :: bs t) 1=(o3,p3,2)) :
  Calls Tryz.prog 11 #[.string s,.string t] w fun e w'=>e = .returned (.bool true)∧Below w.heap.size w w':=by
 have hz:(s++⟨#[10]⟩++t).size=s.size+1+t.size:=by rw [ByteArray.size_append,ByteArray.size_append];rfl
 rw [←bs_joined] at hp3
 have CS:=qh (saneS_any w hw gl)
 have CA:=qh (fun W hw gl=>parse_some hp (by unfold maxLen;omega) W hw gl)
 have CB:=qh (fun W hw gl=>parse_some hp2 (by unfold maxLen;omega) W hw gl)
 have CC:=qh (fun W hw gl=>parse_some hp3 (by rw [hz];unfold maxLen;omega) W hw gl)
 have HG:=qh gl
 clear hp hp2 hp3 hz gl
 go_enter Tryz.func11,Tryz.ntmps11
 go_wp2_with fail
 refine CS.out.mono ?_
 rintro e w1 ⟨rfl,hb1⟩
 have G1:=qh (HG.out.keep fun b hb _=>hb1.block b (by omega))
 have z1:2≤w1.heap.size:=by have:=hb1.size;omega
 have B1:=qh hb1
 clear CS hb1 HG
 go_wp2_with fail
 refine (CA.out _ z1 G1.out).mono ?_
 rintro e w2 ⟨⟨k,sx,a,n,c,rfl⟩,hb2⟩
 have hb2':=hb2.alloc hb2.size (.cells #[.int .i64 k,.string sx,.slice a n c] 24)
 have G2:=qh (G1.out.keep fun b hb _=>hb2'.block b (by omega))
 have z2:=Nat.le_trans z1 hb2'.size
 have B2:=qh (B1.out.trans (hb2'.mono B1.out.size))
 clear CA hb2 hb2' G1 B1
 go_wp2_with fail
 refine (CB.out _ z2 G2.out).mono ?_
 rintro e w3 ⟨⟨k',sx',a',n',c',rfl⟩,hb3⟩
 have hb3':=hb3.alloc hb3.size (.cells #[.int .i64 k',.string sx',.slice a' n' c'] 24)
 have G3:=qh (G2.out.keep fun b hb _=>hb3'.block b (by omega))
 have z3:=Nat.le_trans z2 hb3'.size
 have B3:=qh (B2.out.trans (hb3'.mono B2.out.size))
 clear CB hb3 hb3' G2 B2
 go_wp2_with fail
 refine (CC.out _ z3 G3.out).mono ?_
 rintro e w4 ⟨⟨k2,sx2,a2,n2,c2,rfl⟩,hb4⟩
 have B4:=qh (B3.out.trans (hb4.mono B3.out.size))
 clear CC hb4 G3 B3
 go_wp2
 go_ret
 exact ⟨rfl,B4.out.alloc B4.out.size _⟩
abbrev Sj (h2 h3:Nat) (va vb:Value) (W w':World):Prop:=w'.cell? ⟨h2,2,none⟩=some va∧w'.cell? ⟨h3,2,none⟩=some vb∧Hid (Below W.heap.size W w')
theorem sj_of {h2 h3:Nat} {va vb:Value} {W w':World} (h:W.cell? ⟨h2,2,none⟩=some va) (h':W.cell? ⟨h3,2,none⟩=some vb) (hb:Below W.heap.size W w'):Sj h2 h3 va vb W w' :=
 ⟨(hb.cell (p:=⟨h2,2,none⟩) (World.block_lt_of_cell? W _ h)).trans h,(hb.cell (p:=⟨h3,2,none⟩) (World.block_lt_of_cell? W _ h')).trans h',qh hb⟩
set_option maxRecDepth 100000 in
set_option maxHeartbeats 2000000 in
theorem joined_good (s t:ByteArray) (w:World) (hw:2≤w.heap.size) (gl:GLw w) (hs:s.size≤140737488355328) (ht:t.size≤140737488355328) {l m:List Nd} (hp:parseP (bs s) 1=(some (.mk 1 Sx.noS l),0,0)) (hp2:parseP (bs t) 1=(some (.mk 1 Sx.noS m),0,0))
  (hp3:parseP (bs s++10 :: bs t) 1=(some (.mk 1 Sx.noS (l++m)),0,0)) (hlm:l.length+m.length≤1000000) :
  Calls Tryz.prog 11 #[.string s,.string t] w fun e w'=>e = .returned (.bool true)∧Below w.heap.size w w':=by
 have hz:(s++⟨#[10]⟩++t).size=s.size+1+t.size:=by rw [ByteArray.size_append,ByteArray.size_append];rfl
 rw [←bs_joined] at hp3
 have CS:=qh (saneS_any w hw gl)
 have CA:=qh (fun W hw gl=>parse_tree hp (by unfold maxLen;omega) W hw gl)
 have CB:=qh (fun W hw gl=>parse_tree hp2 (by unfold maxLen;omega) W hw gl)
 have CC:=qh (fun W hw gl=>parse_tree hp3 (by rw [hz];unfold maxLen;omega) W hw gl)
 have HG:=qh gl
 clear hp hp2 hp3 hz gl
 unfold Sx.noS at CA CB CC
 simp only [List.length_append] at CC
 go_enter Tryz.func11,Tryz.ntmps11
 go_wp2_with fail
 refine CS.out.mono ?_
 rintro e w1 ⟨rfl,hb1⟩
 have G1:=qh (HG.out.keep fun b hb _=>hb1.block b (by omega))
 have z1:2≤w1.heap.size:=by have:=hb1.size;omega
 have B1:=qh hb1
 clear CS hb1 HG
 go_wp2_with fail
 refine (CA.out _ z1 G1.out).mono ?_
 rintro e w2 ⟨a,c,rfl,hb2,ha⟩
 have hb2':=hb2.alloc hb2.size (.cells #[.int .i64 1,.string ⟨#[]⟩,.slice a l.length c] 24)
 have G2:=qh (G1.out.keep fun b hb _=>hb2'.block b (by omega))
 have z2:=Nat.le_trans z1 hb2'.size
 have B2:=qh (B1.out.trans (hb2'.mono B1.out.size))
 have R2:=qh (Row3.new w2 (.int .i64 1) (.string ⟨#[]⟩) (.slice a l.length c))
 have T2:=qh (ha.later ((Below.refl _ w2).alloc (Nat.le_refl _) (.cells #[.int .i64 1,.string ⟨#[]⟩,.slice a l.length c] 24)))
 clear CA hb2 hb2' G1 B1 ha
 go_wp2_with fail
 refine (CB.out _ z2 G2.out).mono ?_
 rintro e w3 ⟨b,d,rfl,hb3,hbn⟩
 have hb3':=hb3.alloc hb3.size (.cells #[.int .i64 1,.string ⟨#[]⟩,.slice b m.length d] 24)
 have G3:=qh (G2.out.keep fun b hb _=>hb3'.block b (by omega))
 have z3:=Nat.le_trans z2 hb3'.size
 have B3:=qh (B2.out.trans (hb3'.mono B2.out.size))
 have R3:=qh (Row3.new w3 (.int .i64 1) (.string ⟨#[]⟩) (.slice b m.length d))
 have R2':=qh (R2.out.below hb3' R2.out.lt)
 have T2':=qh (T2.out.later hb3')
 have T3:=qh (hbn.later ((Below.refl _ w3).alloc (Nat.le_refl _) (.cells #[.int .i64 1,.string ⟨#[]⟩,.slice b m.length d] 24)))
 have z23:w2.heap.size < w3.heap.size:=by have:=hb3.size;simp at this;omega
 clear CB hb3 hb3' G2 B2 R2 T2 hbn
 go_wp2_with fail
 refine (CC.out _ z3 G3.out).mono ?_
 rintro e w4 ⟨a4,c4,rfl,hb4,h4⟩
 obtain ⟨W,hW⟩:∃ W,w4.alloc (.cells #[.int .i64 1,.string ⟨#[]⟩,.slice a4 (l.length+m.length) c4] 24)=W:=⟨_,rfl⟩
 have hb4':=hb4.alloc hb4.size (.cells #[.int .i64 1,.string ⟨#[]⟩,.slice a4 (l.length+m.length) c4] 24)
 have B4:=qh (B3.out.trans (hb4'.mono B3.out.size))
 have R4:=qh (Row3.new w4 (.int .i64 1) (.string ⟨#[]⟩) (.slice a4 (l.length+m.length) c4))
 have R2'':=qh (R2'.out.below hb4' R2'.out.lt)
 have R3':=qh (R3.out.below hb4' R3.out.lt)
 have T2'':=qh (T2'.out.later hb4')
 have T3':=qh (T3.out.later hb4')
 have T4:=qh (h4.later ((Below.refl _ w4).alloc (Nat.le_refl _) (.cells #[.int .i64 1,.string ⟨#[]⟩,.slice a4 (l.length+m.length) c4] 24)))
 obtain ⟨h2,hh2⟩:∃ h2,w2.heap.size=h2:=⟨_,rfl⟩
 obtain ⟨h3,hh3⟩:∃ h3,w3.heap.size=h3:=⟨_,rfl⟩
 obtain ⟨h4',hh4⟩:∃ h4',w4.heap.size=h4':=⟨_,rfl⟩
 rw [hW] at B4 R4 R2'' R3' T2'' T3' T4 hb4'
 rw [hh2] at R2''
 rw [hh3] at R3'
 rw [hh4] at R4
 have HW:=qh hW
 have HH2:=qh hh2
 have HH3:=qh hh3
 have HH4:=qh hh4
 clear CC hb4 hb4' G3 B3 R3 R2' T2' T3 h4 hW hh2 hh3 hh4
 obtain ⟨⟨p0,p1,p2⟩,p3,p4,p5⟩:=R2''.out.cells
 obtain ⟨⟨q0,q1,q2⟩,q3,q4,q5⟩:=R3'.out.cells
 go_upto_region 9 with fail
 rw [HW.out,HH2.out,HH3.out,HH4.out]
 clear HW HH2 HH3 HH4
 have S0:Sj h2 h3 (.slice a l.length c) (.slice b m.length d) W W.drew:=sj_of p2 q2 (Below.refl _ _).drew
 have K1:OwnK W (W.drew.alloc (.cells #[] 24)) (.slice (some ⟨W.heap.size,0,none⟩) 0 0) []:=OwnK.start (Below.refl _ _).drew
 have K2:OwnK W (W.alloc (.cells #[] 24)).drew (.slice (some ⟨W.heap.size,0,none⟩) 0 0) []:=⟨((Below.refl _ W).alloc (Nat.le_refl _) _).drew,(OwnK.start (Below.refl _ W)).2⟩
 have S2:Sj h2 h3 (.slice a l.length c) (.slice b m.length d) W (W.alloc (.cells #[] 24)).drew:=sj_of p2 q2 K2.1
 have n1:(Value.slice (some ⟨W.heap.size,0,none⟩) 0 0)≠.slice none 0 0:=by simp
 have S1:Sj h2 h3 (.slice a l.length c) (.slice b m.length d) W (W.drew.alloc (.cells #[] 24)):=sj_of p2 q2 K1.1
 go_cut [15] (fun v wx=>Hid (OwnK W wx v (l++m)))
 case first =>
  go_region_held3 (fun w'=>w'.cell? ⟨h2,2,none⟩=some (.slice a l.length c)∧w'.cell? ⟨h3,2,none⟩=some (.slice b m.length d)∧Hid (Below W.heap.size W w'))
   (first | with_reducible exact S0 | with_reducible exact S1 | with_reducible exact S2 | with_reducible exact S6 | with_reducible exact S7)
   (first
    | (refine step_append_ownK rfl (.tmp 52) (.tmp 54) rfl (.slice (some ⟨W.heap.size,0,none⟩) 0 0) rfl rfl K1 n1 T2''.out (by simp only [List.length_nil];omega) ?_;intro v6 w6 k6 n6;have S6:Sj h2 h3 (.slice a l.length c) (.slice b m.length d) W w6:=sj_of p2 q2 k6.1)
    | (refine step_append_ownK rfl (.tmp 52) (.tmp 54) rfl (.slice (some ⟨W.heap.size,0,none⟩) 0 0) rfl rfl K2 n1 T2''.out (by simp only [List.length_nil];omega) ?_;intro v6 w6 k6 n6;have S6:Sj h2 h3 (.slice a l.length c) (.slice b m.length d) W w6:=sj_of p2 q2 k6.1)
    | (refine step_append_ownK rfl (.tmp 55) (.tmp 57) rfl v6 rfl rfl k6 n6 T3'.out (by simp only [List.nil_append];omega) ?_;intro v7 w7 k7 n7;have S7:Sj h2 h3 (.slice a l.length c) (.slice b m.length d) W w7:=sj_of p2 q2 k7.1))
  all_goals (try go_wp2)
  all_goals go_meet
  all_goals exact qh k7
 case rest =>
  rename World=>wx
  obtain ⟨a5,c5,rfl,h5⟩:=hcut.out.tree 1 ⟨#[]⟩ (by unfold maxLen;decide) (by rw [List.length_append];unfold maxLen;omega)
  have bx:=hcut.out.1
  obtain ⟨⟨x0,x1,x2⟩,_⟩:=(R4.out.below bx R4.out.lt).cells
  have T5:=T4.out.later bx
  have B5:=qh (B4.out.trans (bx.mono B4.out.size))
  have CM:=qh (rSameN _ (.mk 1 ⟨#[]⟩ (l++m)) (.mk 1 ⟨#[]⟩ (l++m)) wx _ _ _ _ _ _ (Nat.le_refl _) T5 h5)
  rw [sameN_self] at CM
  simp only [List.length_append] at CM ⊢
  clear p0 p1 p2 p3 p4 p5 q0 q1 q2 q3 q4 q5 S0 S1 S2 K1 K2 n1 R2'' R3' R4 T2'' T3' T4 B4 hcut h5 T5 bx
  go_wp2_with fail
  refine CM.out.mono ?_
  rintro e w8 ⟨rfl,b8⟩
  clear CM x0 x1 x2
  go_wp2
  go_ret
  exact ⟨rfl,B5.out.trans (b8.mono B5.out.size)⟩
theorem joined_any (s t:ByteArray) (w:World) (hw:2≤w.heap.size) (gl:GLw w) (hs:s.size≤140737488355328) (ht:t.size≤140737488355328) :
  Calls Tryz.prog 11 #[.string s,.string t] w fun e w'=>e = .returned (.bool true)∧Below w.heap.size w w':=by
 rcases hp:parseP (bs s) 1 with ⟨o,p,er⟩
 rcases hp2:parseP (bs t) 1 with ⟨o2,p2,er2⟩
 by_cases h1:er=0
 ·subst h1
  by_cases h2:er2=0
  ·subst h2
   obtain ⟨l,m,e1,e2,h⟩:=parse_joined (a:=bs s) (b:=bs t) (by rw [hp]) (by rw [hp2])
   rcases h with ⟨p3,h⟩ | h
   ·exact joined_long s t w hw gl hs ht hp hp2 h
   ·have hc:∀ {c:Lx.Bs} {l:List Nd},parseP c 1=(some (.mk 1 Sx.noS l),0,0)→l.length≤4000:=by
     intro c l hc
     obtain ⟨ts,l',_,_,h0,h1⟩:=parse_text_ok (a:=c) (by rw [hc])
     rw [hc] at h1
     cases h1
     rw [chkT_text] at h0
     have:=len_le_szL l
     by_cases hb:4000 < 1+Nd.szL l
     ·rw [if_pos hb] at h0;cases h0
     ·omega
    exact joined_good s t w hw gl hs ht e1 e2 h (by have:=hc e1;have:=hc e2;omega)
  ·exact joined_bad2 s t w hw gl hs ht hp hp2 h2
 ·exact joined_bad1 s t w hw gl hs ht hp hp2 h1
end Go.Proofs.YtcimcjmdkjajfaaGreatDoor
namespace Go.Proofs.YtcimcjmdkjajfaaGreatDoor
open Go.ChangeShapes Go.WideShapes Go.ChangeAt Go.RowKit
theorem cells_flat (k:Nat):∀ (L:List (List Value)) (cs:List Value),(∀ x∈L,x.length=k)→cs.length=L.length*k→(∀ i,(h:i < L.length)→(cs.drop (i*k)).take k=L[i])→cs=L.flatten
 | [],cs,_,hl,_=>by
  have:cs=[]:=List.eq_nil_of_length_eq_zero (by simpa using hl)
  rw [this]
  rfl
 | x :: L,cs,hk,hl,h=>by
  have h0:=h 0 (by simp)
  simp only [Nat.zero_mul,List.drop_zero,List.getElem_cons_zero] at h0
  have ih:=cells_flat k L (cs.drop k) (fun y hy=>hk y (by simp [hy])) (by
   rw [List.length_drop,hl,List.length_cons,Nat.succ_mul]
   omega) (fun i hi=>by
   have:=h (i+1) (by simpa using hi)
   rw [List.getElem_cons_succ] at this
   rw [List.drop_drop,←this,Nat.succ_mul,Nat.add_comm])
  rw [List.flatten_cons,←ih,←h0,List.take_append_drop]
section
variable {H:Type} {enc:TypeId×Value→H} {w:World} {base fuel:Nat} {sp:Nat→Bool} {hd:Bool} {cs:List Value} {x:DataW H×List MemPlace}
theorem lit_string {s:List UInt8} (h:DataW.trod enc Tryz.prog w base sp hd fuel 9 cs=some x) (hx:x.1 = .lit (.string s)):cs=[S_ s]:=by
 obtain ⟨s',rfl,rfl,_⟩:=DataW.trod_string Tryz.underlying9 h
 simp only [DataW.lit.injEq,Lit.string.injEq] at hx
 subst hx
 rfl
theorem lit_int {n:Int} (h:DataW.trod enc Tryz.prog w base sp hd fuel 3 cs=some x) (hx:x.1 = .lit (.int .i64 n)):cs=[.int .i64 n]:=by
 obtain ⟨m,rfl,rfl,_⟩:=DataW.trod_int Tryz.underlying3 h
 simp only [DataW.lit.injEq,Lit.int.injEq,true_and] at hx
 subst hx
 rfl
set_option maxRecDepth 100000 in
theorem open_opening {s:List UInt8} {n:Int} (h:DataW.trod enc Tryz.prog w base sp hd fuel 180 cs=some x) (hx:x.1 = .agg [.lit (.string s),.lit (.int .i64 n)]):cs=[S_ s,.int .i64 n]:=by
 obtain ⟨xs,m,_,rfl,hl,hxs,hf⟩:=DataW.trod_struct Tryz.underlying180 h
 have c:Tryz.prog.cellsOf 180=2:=by kernel_rfl
 have c9:Tryz.prog.cellsOf 9=1:=by kernel_rfl
 have c3:Tryz.prog.cellsOf 3=1:=by kernel_rfl
 rw [c] at hl
 have f0:DataW.trod enc Tryz.prog w base sp hd m 9 ((cs.drop 0).take (Tryz.prog.cellsOf 9))=xs[0]?:=hf 0 _ rfl
 have f1:DataW.trod enc Tryz.prog w base sp hd m 3 ((cs.drop 1).take (Tryz.prog.cellsOf 3))=xs[1]?:=hf 1 _ rfl
 rw [c9] at f0
 rw [c3] at f1
 match xs,hxs,hx,f0,f1 with
 | [x0,x1],_,hx,f0,f1 =>
  simp only [List.map_cons,List.map_nil,DataW.agg.injEq,List.cons.injEq,and_true] at hx
  have e0:=lit_string f0 hx.1
  have e1:=lit_int f1 hx.2
  match cs,hl,e0,e1 with
  | [a,b],_,e0,e1 =>
   simp at e0 e1
   rw [e0,e1]
set_option maxRecDepth 100000 in
theorem open_operator {s:List UInt8} {n b:Int} (h:DataW.trod enc Tryz.prog w base sp hd fuel 183 cs=some x) (hx:x.1 = .agg [.lit (.string s),.lit (.int .i64 n),.lit (.int .i64 b)]):cs=[S_ s,.int .i64 n,.int .i64 b]:=by
 obtain ⟨xs,m,_,rfl,hl,hxs,hf⟩:=DataW.trod_struct Tryz.underlying183 h
 have c:Tryz.prog.cellsOf 183=3:=by kernel_rfl
 have c9:Tryz.prog.cellsOf 9=1:=by kernel_rfl
 have c3:Tryz.prog.cellsOf 3=1:=by kernel_rfl
 rw [c] at hl
 have f0:DataW.trod enc Tryz.prog w base sp hd m 9 ((cs.drop 0).take (Tryz.prog.cellsOf 9))=xs[0]?:=hf 0 _ rfl
 have f1:DataW.trod enc Tryz.prog w base sp hd m 3 ((cs.drop 1).take (Tryz.prog.cellsOf 3))=xs[1]?:=hf 1 _ rfl
 have f2:DataW.trod enc Tryz.prog w base sp hd m 3 ((cs.drop 2).take (Tryz.prog.cellsOf 3))=xs[2]?:=hf 2 _ rfl
 rw [c9] at f0
 rw [c3] at f1 f2
 match xs,hxs,hx,f0,f1,f2 with
 | [x0,x1,x2],_,hx,f0,f1,f2 =>
  simp only [List.map_cons,List.map_nil,DataW.agg.injEq,List.cons.injEq,and_true] at hx
  have e0:=lit_string f0 hx.1
  have e1:=lit_int f1 hx.2.1
  have e2:=lit_int f2 hx.2.2
  match cs,hl,e0,e1,e2 with
  | [a,b,c],_,e0,e1,e2 =>
   simp at e0 e1 e2
   rw [e0,e1,e2]
theorem open_openings (h:DataW.trod enc Tryz.prog w base sp hd fuel 181 cs=some x) (hx:x.1 = .agg (openL.map fun o=>.agg [.lit (.string o.1),.lit (.int .i64 o.2)])):cs=openArr.toList:=by
 obtain ⟨xs,m,_,rfl,hl,hxs,hel⟩:=DataW.trod_array Tryz.underlying181 h
 have c:Tryz.prog.cellsOf 180=2:=by kernel_rfl
 have cA:Tryz.prog.cellsOf 181=40:=by kernel_rfl
 rw [cA] at hl
 simp only [DataW.agg.injEq] at hx
 have e:openArr.toList=(openL.map fun o=>[S_ o.1,Value.int .i64 o.2]).flatten:=by kernel_rfl
 have len:openL.length=20:=by kernel_rfl
 rw [e]
 refine cells_flat 2 _ cs (by intro y hy;obtain ⟨o,_,rfl⟩:=List.mem_map.1 hy;rfl) (by rw [hl,List.length_map,len]) (fun i hi=>?_)
 have hi':i < openL.length:=by simpa using hi
 have hE:=hel i (by omega)
 rw [c] at hE
 have hxi:xs[i]?=some (xs[i]'(by omega)):=List.getElem?_eq_getElem (by omega)
 rw [hxi] at hE
 rw [List.getElem_map]
 refine open_opening hE ?_
 have:=congrArg (fun l=>l[i]?) hx
 simp only [List.getElem?_map,hxi,List.getElem?_eq_getElem hi',Option.map_some,Option.some.injEq] at this
 exact this
theorem open_operators (h:DataW.trod enc Tryz.prog w base sp hd fuel 184 cs=some x) (hx:x.1 = .agg (opsL.map fun o=>.agg [.lit (.string o.1),.lit (.int .i64 o.2.1),.lit (.int .i64 (o.2.2:Nat))])):cs=opsArr.toList:=by
 obtain ⟨xs,m,_,rfl,hl,hxs,hel⟩:=DataW.trod_array Tryz.underlying184 h
 have c:Tryz.prog.cellsOf 183=3:=by kernel_rfl
 have cA:Tryz.prog.cellsOf 184=24:=by kernel_rfl
 rw [cA] at hl
 simp only [DataW.agg.injEq] at hx
 have e:opsArr.toList=(opsL.map fun o=>[S_ o.1,Value.int .i64 o.2.1,Value.int .i64 (o.2.2:Nat)]).flatten:=by kernel_rfl
 have len:opsL.length=8:=by kernel_rfl
 rw [e]
 refine cells_flat 3 _ cs (by intro y hy;obtain ⟨o,_,rfl⟩:=List.mem_map.1 hy;rfl) (by rw [hl,List.length_map,len]) (fun i hi=>?_)
 have hi':i < opsL.length:=by simpa using hi
 have hE:=hel i (by omega)
 rw [c] at hE
 have hxi:xs[i]?=some (xs[i]'(by omega)):=List.getElem?_eq_getElem (by omega)
 rw [hxi] at hE
 rw [List.getElem_map]
 refine open_operator hE ?_
 have:=congrArg (fun l=>l[i]?) hx
 simp only [List.getElem?_map,hxi,List.getElem?_eq_getElem hi',Option.map_some,Option.some.injEq] at this
 exact this
end
theorem ownAll:ownKnob Tryz.prog.godebug=none:=by kernel_rfl
theorem gOpen : Tryz.prog.globalNamed "peculium/syntax.openings" = some 0 := by kernel_rfl
theorem gOps : Tryz.prog.globalNamed "peculium/syntax.operators" = some 1 := by kernel_rfl
theorem tOpen:(Tryz.prog.globals[0]?).map (·.type)=some 181:=by kernel_rfl
theorem tOps:(Tryz.prog.globals[1]?).map (·.type)=some 184:=by kernel_rfl
def laidL : List (String × DataW Unit) := [("peculium/syntax.openings", Rows.laid_peculium_syntax_openings), ("peculium/syntax.operators", Rows.laid_peculium_syntax_operators)]
theorem row_of_var {W:World} {n:String} {g:Nat} {cs:Array Value} (hg:Tryz.prog.globalNamed n=some g) (h:W.var? Tryz.prog n=some cs):∃ t fr,W.heap[g]?=some (.cells cs t fr):=by
 simp only [World.var?,hg,Option.bind_some] at h
 split at h
 ·rename_i c t fr e
  cases h
  exact ⟨t,fr,e⟩
 ·cases h
set_option maxRecDepth 100000 in
theorem of_laid {W:World} (h:laidMetH Tryz.prog laidL W):GLw W∧2≤W.heap.size:=by
 rw [MakeChecks.laidMetH_plain _ _ _ (by kernel_rfl)] at h
 obtain ⟨ps,⟨g0,t0,cs0,f0,p0,q0,hg0,ht0,hv0,hd0,⟨g1,t1,cs1,f1,p1,q1,hg1,ht1,hv1,hd1,_,_⟩,_⟩,_,_⟩:=h
 obtain rfl:=Option.some.inj (gOpen.symm.trans hg0)
 obtain rfl:=Option.some.inj (gOps.symm.trans hg1)
 obtain rfl:=Option.some.inj (tOpen.symm.trans ht0)
 obtain rfl:=Option.some.inj (tOps.symm.trans ht1)
 have e0:=open_openings hd0 rfl
 have e1:=open_operators hd1 rfl
 obtain ⟨u0,r0,k0⟩:=row_of_var hg0 hv0
 obtain ⟨u1,r1,k1⟩:=row_of_var hg1 hv1
 rw [show cs0=openArr from Array.toList_inj.1 e0] at k0
 rw [show cs1=opsArr from Array.toList_inj.1 e1] at k1
 exact ⟨⟨⟨u0,r0,k0⟩,⟨u1,r1,k1⟩⟩,by have:=heap_lt k1;omega⟩
theorem door_met (os:Os) (args:Array Value):laidMetH Tryz.prog laidL ((World.doorLaid Tryz.prog 400 os).forCall (fun _ _=>0) ⟨#[],args,[]⟩).memory :=
 laidMetH_of_parts3 (fuel:=8) (laidMet_of_run' 8 (by kernel_rfl) (by kernel_rfl)) (by kernel_rfl) (by kernel_rfl)
end Go.Proofs.YtcimcjmdkjajfaaGreatDoor
namespace Go.Proofs.YtcimcjmdkjajfaaGreatDoor
namespace Sx
open Lx (Bs Tok)
theorem typed_succ (ts:List Tok) (f p:Nat):typed ts (f+1) p=match simple ts f p with
  | .bad q=>.bad q
  | .ok a q=>if txt ts q=[45,62] then (match typed ts f (q+1) with
   | .bad r=>.bad r
   | .ok b r=>.ok (.mk 31 noS [a,b]) r) else .ok a q:=by rw [typed];rfl
theorem simple_succ (ts:List Tok) (f p:Nat):simple ts (f+1) p=if txt ts p=[40] then (match typed ts f (p+1) with
   | .bad q=>.bad q
   | .ok a q=>if txt ts q=[41] then .ok a (q+1) else .bad q) else small ts p:=by rw [simple];rfl
theorem term_succ (ts:List Tok) (f p:Nat):term ts (f+1) p =
  if txt ts p=[92] then binder (typed ts f) (term ts f) ts 17 (p+1)
  else if txt ts p=[40] then (match term ts f (p+1) with
   | .bad q=>.bad q
   | .ok a q=>if txt ts q=[41] then .ok a (q+1) else .bad q)
  else (match nameA ts p with
   | .bad q=>.bad q
   | .ok (.mk k s _) q=>(match args ts f [] q with
    | .bad r=>.bad r
    | .ok l r=>.ok (.mk k s l) r)):=by rw [term];rfl
theorem args_succ (ts:List Tok) (f:Nat) (acc:List Nd) (p:Nat):args ts (f+1) acc p =
  if txt ts p=[40] then (match term ts f (p+1) with
   | .bad q=>.bad q
   | .ok a q=>if txt ts q=[41] then args ts f (acc++[a]) (q+1) else .bad q)
  else (match nameA ts p with
   | .bad _=>.ok acc p
   | .ok a q=>args ts f (acc++[a]) q):=by rw [args];rfl
theorem part_succ (ts:List Tok) (f p:Nat):part ts (f+1) p =
  if knd ts p=1 then applied ts f p
  else if txt ts p=[33] then (match part ts f (p+1) with
   | .bad q=>.bad q
   | .ok a q=>.ok (.mk 29 noS [a]) q)
  else if txt ts p=[97,108,108] then binder (typed ts f) (form ts f) ts 18 (p+1)
  else if txt ts p=[101,120] then binder (typed ts f) (form ts f) ts 19 (p+1)
  else if txt ts p=[111,110,101] then .ok (.mk 20 noS []) (p+1)
  else if txt ts p=[116,111,112] then .ok (.mk 21 noS []) (p+1)
  else if txt ts p=[123] then (match form ts f (p+1) with
   | .bad q=>.bad q
   | .ok a q=>if txt ts q=[125] then .ok (.mk 30 noS [a]) (q+1) else .bad q)
  else if txt ts p=[40] then (match form ts f (p+1) with
   | .bad q=>.bad q
   | .ok a q=>if txt ts q=[41] then .ok a (q+1) else .bad q)
  else .bad p:=by rw [part];rfl
theorem right_succ (ts:List Tok) (f b p:Nat):right ts (f+1) b p =
  if 5≤b then part ts f p
  else (match right ts f (b+1) p with
   | .bad q=>.bad q
   | .ok a q=>(match sgn ts b q with
    | none=>.ok a q
    | some k=>(match right ts f b (q+1) with
     | .bad r=>.bad r
     | .ok c r=>.ok (.mk k noS [a,c]) r))):=by rw [right];rfl
theorem form_succ (ts:List Tok) (f p:Nat):form ts (f+1) p=match right ts f 1 p with
  | .bad q=>.bad q
  | .ok a q=>formR ts f a q:=by rw [form];rfl
theorem formR_succ (ts:List Tok) (f:Nat) (a:Nd) (q:Nat):formR ts (f+1) a q=match sgn ts 0 q with
  | none=>.ok a q
  | some k=>(match right ts f 1 (q+1) with
   | .bad r=>.bad r
   | .ok c r=>formR ts f (.mk k noS [a,c]) r):=by rw [formR];rfl
theorem typed_more (ts:List Tok):∀ f,(∀ p,2*(ts.length - p)+2≤f→typed ts (f+1) p=typed ts f p)∧(∀ p,2*(ts.length - p)+1≤f→simple ts (f+1) p=simple ts f p)
 | 0=>⟨fun p h=>by omega,fun p h=>by omega⟩
 | f+1=>by
  obtain ⟨h1,h2⟩:=typed_more ts f
  refine ⟨fun p h=>?_,fun p h=>?_⟩
  ·rw [typed_succ ts (f+1) p,typed_succ ts f p,h2 p (by omega)]
   cases hs:simple ts f p with
   | bad q=>rfl
   | ok a q =>
    have g:=(typed_goes ts f).2 p _ _ hs
    simp only
    by_cases ht:txt ts q=[45,62]
    ·have:=txt_at ht
     rw [if_pos ht,if_pos ht,h1 (q+1) (by omega)]
    ·rw [if_neg ht,if_neg ht]
  ·rw [simple_succ ts (f+1) p,simple_succ ts f p]
   by_cases ht:txt ts p=[40]
   ·have:=txt_at ht
    rw [if_pos ht,if_pos ht,h1 (p+1) (by omega)]
   ·rw [if_neg ht,if_neg ht]
theorem binder_eq {ts:List Tok} {ty body ty' body':Nat→PR Nd} {k:Int} (p:Nat) (h0:∀ q,Goes ts q (ty q))
  (h1:∀ q,p < q→q≤ts.length→ty' q=ty q) (h2:∀ q,p < q→q≤ts.length→body' q=body q):binder ty' body' ts k p=binder ty body ts k p:=by
 unfold binder
 cases hn:nameA ts p with
 | bad q=>rfl
 | ok a q =>
  obtain ⟨k1,s1,l1⟩:=a
  have g:=nameA_ok hn
  simp only
  by_cases ht:txt ts q=[58]
  ·have hq:=txt_at ht
   rw [if_pos ht,if_pos ht,h1 (q+1) (by omega) (by omega)]
   cases hy:ty (q+1) with
   | bad r=>rfl
   | ok t r =>
    have g2:=h0 _ _ _ hy
    simp only
    by_cases hd:txt ts r=[46]
    ·have hr:=txt_at hd
     rw [if_pos hd,if_pos hd,h2 (r+1) (by omega) (by omega)]
    ·rw [if_neg hd,if_neg hd]
  ·rw [if_neg ht,if_neg ht]
   by_cases hd:txt ts q=[46]
   ·have hr:=txt_at hd
    rw [if_pos hd,if_pos hd,h2 (q+1) (by omega) (by omega)]
   ·rw [if_neg hd,if_neg hd]
theorem term_more (ts:List Tok):∀ f,(∀ p,2*(ts.length - p)+2≤f→term ts (f+1) p=term ts f p)∧(∀ acc p,2*(ts.length - p)+2≤f→args ts (f+1) acc p=args ts f acc p)
 | 0=>⟨fun p h=>by omega,fun acc p h=>by omega⟩
 | f+1=>by
  obtain ⟨h1,h2⟩:=term_more ts f
  refine ⟨fun p h=>?_,fun acc p h=>?_⟩
  ·rw [term_succ ts (f+1) p,term_succ ts f p]
   by_cases ht:txt ts p=[92]
   ·have:=txt_at ht
    rw [if_pos ht,if_pos ht]
    exact binder_eq (p+1) (typed_goes ts f).1 (fun q _ _=>(typed_more ts f).1 q (by omega)) (fun q _ _=>h1 q (by omega))
   ·rw [if_neg ht,if_neg ht]
    by_cases hp:txt ts p=[40]
    ·have:=txt_at hp
     rw [if_pos hp,if_pos hp,h1 (p+1) (by omega)]
    ·rw [if_neg hp,if_neg hp]
     cases hn:nameA ts p with
     | bad q=>rfl
     | ok a q =>
      obtain ⟨k1,s1,l1⟩:=a
      have g:=nameA_ok hn
      simp only
      rw [h2 [] q (by omega)]
  ·rw [args_succ ts (f+1) acc p,args_succ ts f acc p]
   by_cases hp:txt ts p=[40]
   ·have:=txt_at hp
    rw [if_pos hp,if_pos hp,h1 (p+1) (by omega)]
    cases hn:term ts f (p+1) with
    | bad q=>rfl
    | ok a q =>
     have g:=(term_goes ts f).1 _ _ _ hn
     simp only
     by_cases hc:txt ts q=[41]
     ·have:=txt_at hc
      rw [if_pos hc,if_pos hc,h2 _ (q+1) (by omega)]
     ·rw [if_neg hc,if_neg hc]
   ·rw [if_neg hp,if_neg hp]
    cases hn:nameA ts p with
    | bad q=>rfl
    | ok a q =>
     have g:=nameA_ok hn
     simp only
     rw [h2 _ q (by omega)]
theorem applied_more (ts:List Tok) (f p:Nat) (h:2*(ts.length - p)+1≤f):applied ts (f+1) p=applied ts f p:=by
 unfold applied
 cases hn:nameA ts p with
 | bad q=>rfl
 | ok a q =>
  obtain ⟨k1,s1,l1⟩:=a
  have g:=nameA_ok hn
  simp only
  rw [(term_more ts f).2 [] q (by omega)]
theorem form_more (ts:List Tok):∀ f,(∀ p,8*(ts.length - p)+1≤f→part ts (f+1) p=part ts f p)∧(∀ b p,8*(ts.length - p)+2+(5 - b)≤f→right ts (f+1) b p=right ts f b p)∧(∀ p,8*(ts.length - p)+7≤f→form ts (f+1) p=form ts f p)∧(∀ a p,8*(ts.length - p)+1≤f→formR ts (f+1) a p=formR ts f a p)
 | 0=>⟨fun p h=>by omega,fun b p h=>by omega,fun p h=>by omega,fun a p h=>by omega⟩
 | f+1=>by
  obtain ⟨h1,h2,h3,h4⟩:=form_more ts f
  obtain ⟨G1,G2,G3,G4⟩:=form_goes ts f
  refine ⟨fun p h=>?_,fun b p h=>?_,fun p h=>?_,fun a p h=>?_⟩
  ·rw [part_succ ts (f+1) p,part_succ ts f p]
   by_cases hk:knd ts p=1
   ·have:=knd_lt (ts:=ts) (p:=p) (by omega)
    rw [if_pos hk,if_pos hk,applied_more ts f p (by omega)]
   ·rw [if_neg hk,if_neg hk]
    by_cases e1:txt ts p=[33]
    ·have:=txt_at e1
     rw [if_pos e1,if_pos e1,h1 (p+1) (by omega)]
    ·rw [if_neg e1,if_neg e1]
     by_cases e2:txt ts p=[97,108,108]
     ·have:=txt_at e2
      rw [if_pos e2,if_pos e2]
      exact binder_eq (p+1) (typed_goes ts f).1 (fun q _ _=>(typed_more ts f).1 q (by omega)) (fun q _ _=>h3 q (by omega))
     ·rw [if_neg e2,if_neg e2]
      by_cases e3:txt ts p=[101,120]
      ·have:=txt_at e3
       rw [if_pos e3,if_pos e3]
       exact binder_eq (p+1) (typed_goes ts f).1 (fun q _ _=>(typed_more ts f).1 q (by omega)) (fun q _ _=>h3 q (by omega))
      ·rw [if_neg e3,if_neg e3]
       by_cases e4:txt ts p=[111,110,101]
       ·rw [if_pos e4,if_pos e4]
       ·rw [if_neg e4,if_neg e4]
        by_cases e5:txt ts p=[116,111,112]
        ·rw [if_pos e5,if_pos e5]
        ·rw [if_neg e5,if_neg e5]
         by_cases e6:txt ts p=[123]
         ·have:=txt_at e6
          rw [if_pos e6,if_pos e6,h3 (p+1) (by omega)]
         ·rw [if_neg e6,if_neg e6]
          by_cases e7:txt ts p=[40]
          ·have:=txt_at e7
           rw [if_pos e7,if_pos e7,h3 (p+1) (by omega)]
          ·rw [if_neg e7,if_neg e7]
  ·rw [right_succ ts (f+1) b p,right_succ ts f b p]
   by_cases hb:5≤b
   ·rw [if_pos hb,if_pos hb,h1 p (by omega)]
   ·rw [if_neg hb,if_neg hb,h2 (b+1) p (by omega)]
    cases hr:right ts f (b+1) p with
    | bad q=>rfl
    | ok a q =>
     have g:=G2 _ _ _ _ hr
     simp only
     cases hs:sgn ts b q with
     | none=>rfl
     | some k =>
      have:=sgn_lt hs
      simp only
      rw [h2 b (q+1) (by omega)]
  ·rw [form_succ ts (f+1) p,form_succ ts f p,h2 1 p (by omega)]
   cases hr:right ts f 1 p with
   | bad q=>rfl
   | ok a q =>
    have g:=G2 _ _ _ _ hr
    simp only
    rw [h4 a q (by omega)]
  ·rw [formR_succ ts (f+1) a p,formR_succ ts f a p]
   cases hs:sgn ts 0 p with
   | none=>rfl
   | some k =>
    have:=sgn_lt hs
    simp only
    rw [h2 1 (p+1) (by omega)]
    cases hr:right ts f 1 (p+1) with
    | bad q=>rfl
    | ok c r =>
     have g:=G2 _ _ _ _ hr
     simp only
     rw [h4 _ r (by omega)]
theorem typed_fuel (ts:List Tok) (p f:Nat) (h:2*(ts.length - p)+2≤f):∀ j,typed ts (f+j) p=typed ts f p
 | 0=>rfl
 | j+1=>by rw [←Nat.add_assoc,(typed_more ts (f+j)).1 p (by omega),typed_fuel ts p f h j]
theorem simple_fuel (ts:List Tok) (p f:Nat) (h:2*(ts.length - p)+1≤f):∀ j,simple ts (f+j) p=simple ts f p
 | 0=>rfl
 | j+1=>by rw [←Nat.add_assoc,(typed_more ts (f+j)).2 p (by omega),simple_fuel ts p f h j]
theorem term_fuel (ts:List Tok) (p f:Nat) (h:2*(ts.length - p)+2≤f):∀ j,term ts (f+j) p=term ts f p
 | 0=>rfl
 | j+1=>by rw [←Nat.add_assoc,(term_more ts (f+j)).1 p (by omega),term_fuel ts p f h j]
theorem form_fuel (ts:List Tok) (p f:Nat) (h:8*(ts.length - p)+7≤f):∀ j,form ts (f+j) p=form ts f p
 | 0=>rfl
 | j+1=>by rw [←Nat.add_assoc,(form_more ts (f+j)).2.2.1 p (by omega),form_fuel ts p f h j]
end Sx
end Go.Proofs.YtcimcjmdkjajfaaGreatDoor
namespace Go.Proofs.YtcimcjmdkjajfaaGreatDoor
inductive Cut:Nd→Nd→Prop
 | arg (k:Int) (s:ByteArray) (l:List Nd) (x:Nd) (hk:k=15∨k=16):Cut (.mk k s l) (.mk k s (l++[x]))
 | kid (k:Int) (s:ByteArray) (l:List Nd) (m n:Nd) (hk:17≤k∧k≤30) (h:Cut m n):Cut (.mk k s (l++[m])) (.mk k s (l++[n]))
namespace Sx
open Lx (Bs Tok)
structure Less (ts us:List Tok) (N:Nat):Prop where
 ag:∀ p,p < N→txt us p=txt ts p∧knd us p=knd ts p
 te:∀ p,N≤p→txt us p=[]
 ke:∀ p,N≤p→knd us p=0
 len:ts.length=N+1
 ulen:us.length=N
variable {ts us:List Tok} {N:Nat}
theorem Less.ne (L:Less ts us N) {p:Nat} {s:Bs} (hp:p≤N) (h:¬ txt ts p=s) (hs:s≠[]:=by decide):¬ txt us p=s:=by
 by_cases hN:p < N
 ·rw [(L.ag p hN).1];exact h
 ·rw [L.te p (by omega)];exact fun e=>hs e.symm
theorem Less.nk (L:Less ts us N) {p:Nat} {s:Nat} (hp:p≤N) (h:¬ knd ts p=s) (hs:s≠0:=by decide):¬ knd us p=s:=by
 by_cases hN:p < N
 ·rw [(L.ag p hN).2];exact h
 ·rw [L.ke p (by omega)];exact fun e=>hs e.symm
theorem Less.no (L:Less ts us N) {s:Bs} (hs:s≠[]:=by decide):¬ txt us N=s:=by
 rw [L.te N (Nat.le_refl _)];exact fun e=>hs e.symm
theorem Less.small0 (L:Less ts us N):small us N = .bad N:=by
 unfold small
 rw [L.ke N (Nat.le_refl _),if_neg (by decide)]
theorem Less.name0 (L:Less ts us N):nameA us N = .bad N:=by
 unfold nameA
 rw [L.ke N (Nat.le_refl _),if_neg (by decide),if_neg (by decide)]
theorem Less.sgn0 (L:Less ts us N) (b:Nat):sgn us b N=none:=by
 unfold sgn
 rw [L.te N (Nat.le_refl _)]
 repeat' split
 all_goals first
  | rfl
  | (rename_i h;exact absurd h (by decide))
theorem Less.smallS (L:Less ts us N) {p:Nat} (h:p < N):small us p=small ts p:=by
 unfold small
 rw [(L.ag p h).1,(L.ag p h).2]
theorem Less.nameS (L:Less ts us N) {p:Nat} (h:p < N):nameA us p=nameA ts p:=by
 unfold nameA
 rw [(L.ag p h).1,(L.ag p h).2]
theorem Less.sgnS (L:Less ts us N) {b p:Nat} (h:p < N):sgn us b p=sgn ts b p:=by
 unfold sgn
 rw [(L.ag p h).1]
theorem Less.sgn_no (L:Less ts us N) {b p:Nat} (hp:p≤N) (h:sgn ts b p=none):sgn us b p=none:=by
 by_cases hN:p < N
 ·rw [L.sgnS hN,h]
 ·obtain rfl:p=N:=by omega
  exact L.sgn0 b
theorem Less.name_bad (L:Less ts us N) {p q:Nat} (hp:p≤N) (h:nameA ts p = .bad q):nameA us p = .bad p:=by
 by_cases hN:p < N
 ·rw [L.nameS hN,h]
  unfold nameA at h
  split at h
  ·cases h
  ·split at h
   ·cases h
   ·cases h;rfl
 ·obtain rfl:p=N:=by omega
  exact L.name0
def Ends (N:Nat) {α:Type} (r r':PR α):Prop:=∀ a q,r = .ok a q→(q≤N→r' = .ok a q)∧(q=N+1→r' = .bad N)
def EndsC (N:Nat) (r r':PR Nd):Prop:=∀ a q,r = .ok a q→(q≤N→r' = .ok a q)∧(q=N+1→r' = .bad N∨∃ m,r' = .ok m N∧Cut m a)
def EndsL (N:Nat) (r r':PR (List Nd)):Prop:=∀ a q,r = .ok a q→(q≤N→r' = .ok a q)∧(q=N+1→r' = .bad N∨∃ l x,r' = .ok l N∧a=l++[x])
theorem typed_cut (L:Less ts us N):∀ f g,f≤g→(∀ p,Ends N (typed ts f p) (typed us g p))∧(∀ p,Ends N (simple ts f p) (simple us g p))
 | 0,g,_=>⟨fun p a q h=>(by simp only [typed] at h;cases h),fun p a q h=>(by simp only [simple] at h;cases h)⟩
 | f+1,g,hg=>by
  obtain ⟨g,rfl⟩:∃ g',g=g'+1:=⟨g - 1,by omega⟩
  obtain ⟨h1,h2⟩:=typed_cut L f g (by omega)
  have hL:=L.len
  refine ⟨fun p a q h=>?_,fun p a q h=>?_⟩
  ·rw [typed_succ] at h
   rw [typed_succ]
   split at h
   ·cases h
   ·rename_i a1 q1 e1
    have g1:=(typed_goes ts f).2 p _ _ e1
    obtain ⟨i1,i2⟩:=h2 p _ _ e1
    split at h
    ·rename_i ht
     split at h
     ·cases h
     ·rename_i a2 q2 e2
      have g2:=(typed_goes ts f).1 _ _ _ e2
      obtain ⟨j1,j2⟩:=h1 _ _ _ e2
      cases h
      rw [i1 (by omega)]
      simp only
      rw [(L.ag q1 (by omega)).1,if_pos ht]
      exact ⟨fun h=>by rw [j1 h],fun h=>by rw [j2 h]⟩
    ·rename_i ht
     cases h
     refine ⟨fun h=>?_,fun h=>by rw [i2 h]⟩
     rw [i1 h]
     simp only
     rw [if_neg (L.ne h ht)]
  ·have gg:=(typed_goes ts (f+1)).2 p _ _ h
   rw [simple_succ] at h
   rw [simple_succ]
   split at h
   ·rename_i hl
    split at h
    ·cases h
    ·rename_i a1 q1 e1
     have g1:=(typed_goes ts f).1 _ _ _ e1
     obtain ⟨i1,i2⟩:=h1 _ _ _ e1
     split at h
     ·rename_i ht
      have:=txt_at ht
      cases h
      rw [(L.ag p (by omega)).1,if_pos hl,i1 (by omega)]
      simp only
      refine ⟨fun h=>?_,fun h=>?_⟩
      ·rw [(L.ag q1 (by omega)).1,if_pos ht]
      ·obtain rfl:q1=N:=by omega
       rw [if_neg L.no]
     ·cases h
   ·rename_i hl
    have:=small_ok h
    refine ⟨fun hq=>?_,fun hq=>?_⟩
    ·rw [(L.ag p (by omega)).1,if_neg hl,L.smallS (by omega),h]
    ·obtain rfl:p=N:=by omega
     rw [if_neg L.no,L.small0]
theorem binder_cut (L:Less ts us N) {ty body ty' body':Nat→PR Nd} {kk:Int} (hk:17≤kk∧kk≤30) (g1:∀ p,Goes ts p (ty p)) (g2:∀ p,Goes ts p (body p))
  (h1:∀ p,Ends N (ty p) (ty' p)) (h2:∀ p,EndsC N (body p) (body' p)) (p:Nat):EndsC N (binder ty body ts kk p) (binder ty' body' us kk p):=by
 intro a q h
 have hL:=L.len
 unfold binder at h ⊢
 split at h
 ·cases h
 ·rename_i k1 s1 l1 q1 e1
  have n1:=nameA_ok e1
  split at h
  ·rename_i ht
   split at h
   ·cases h
   ·rename_i t r e2
    have n2:=g1 _ _ _ e2
    split at h
    ·rename_i ht2
     split at h
     ·cases h
     ·rename_i b u e3
      have n3:=g2 _ _ _ e3
      cases h
      rw [L.nameS (by omega),e1]
      simp only
      rw [(L.ag q1 (by omega)).1,if_pos ht,(h1 _ _ _ e2).1 (by omega)]
      simp only
      rw [(L.ag r (by omega)).1,if_pos ht2]
      obtain ⟨j1,j2⟩:=h2 _ _ _ e3
      refine ⟨fun h=>by rw [j1 h],fun h=>?_⟩
      rcases j2 h with j | ⟨m,j,c⟩
      ·rw [j];exact .inl rfl
      ·rw [j];exact .inr ⟨_,rfl,.kid kk s1 [t] m b hk c⟩
    ·cases h
  ·rename_i ht
   split at h
   ·rename_i ht2
    split at h
    ·cases h
    ·rename_i b u e3
     have n3:=g2 _ _ _ e3
     cases h
     rw [L.nameS (by omega),e1]
     simp only
     rw [(L.ag q1 (by omega)).1,if_neg ht,if_pos ht2]
     obtain ⟨j1,j2⟩:=h2 _ _ _ e3
     refine ⟨fun h=>by rw [j1 h],fun h=>?_⟩
     rcases j2 h with j | ⟨m,j,c⟩
     ·rw [j];exact .inl rfl
     ·rw [j];exact .inr ⟨_,rfl,.kid kk s1 [] m b hk c⟩
   ·cases h
theorem args_end {f:Nat} {acc:List Nd} {p:Nat} {l:List Nd} {q:Nat} (hp:ts.length≤p) (h:args ts f acc p = .ok l q):l=acc∧q=p:=by
 cases f with
 | zero=>simp only [args] at h;cases h
 | succ f =>
  rw [args_succ,if_neg (fun e=>by have:=txt_at e;omega)] at h
  split at h
  ·cases h;exact ⟨rfl,rfl⟩
  ·rename_i a q1 e
   have:=nameA_ok e
   omega
theorem apply_cut (L:Less ts us N) {f g:Nat} (ha:∀ acc p,p≤N→EndsL N (args ts f acc p) (args us g acc p)) (p:Nat):EndsC N (applied ts f p) (applied us g p):=by
 intro a q h
 have hL:=L.len
 unfold applied at h ⊢
 split at h
 ·cases h
 ·rename_i k1 s1 l1 q1 e1
  have n1:=nameA_ok e1
  have hkk:k1=15∨k1=16:=by
   unfold nameA at e1
   split at e1
   ·cases e1;exact .inl rfl
   ·split at e1
    ·cases e1;exact .inr rfl
    ·cases e1
  split at h
  ·cases h
  ·rename_i l r e2
   cases h
   by_cases hp:p < N
   ·rw [L.nameS hp,e1]
    simp only
    obtain ⟨j1,j2⟩:=ha _ q1 (by omega) _ _ e2
    refine ⟨fun h=>by rw [j1 h],fun h=>?_⟩
    rcases j2 h with j | ⟨l',x,j,c⟩
    ·rw [j];exact .inl rfl
    ·rw [j,c];exact .inr ⟨_,rfl,.arg k1 s1 l' x hkk⟩
   ·obtain rfl:p=N:=by omega
    have:=args_end (ts:=ts) (by omega) e2
    rw [L.name0]
    exact ⟨fun h=>by omega,fun _=>.inl rfl⟩
theorem term_cut (L:Less ts us N):∀ f g,f≤g→(∀ p,EndsC N (term ts f p) (term us g p))∧(∀ acc p,p≤N→EndsL N (args ts f acc p) (args us g acc p))
 | 0,g,_=>⟨fun p a q h=>(by simp only [term] at h;cases h),fun acc p _ a q h=>(by simp only [args] at h;cases h)⟩
 | f+1,g,hg=>by
  obtain ⟨g,rfl⟩:∃ g',g=g'+1:=⟨g - 1,by omega⟩
  obtain ⟨h1,h2⟩:=term_cut L f g (by omega)
  have hL:=L.len
  refine ⟨fun p a q h=>?_,fun acc p hp a q h=>?_⟩
  ·have gg:=(term_goes ts (f+1)).1 p _ _ h
   rw [term_succ] at h
   rw [term_succ]
   by_cases hN:p < N
   ·rw [(L.ag p hN).1]
    split at h
    ·rename_i ht
     rw [if_pos ht]
     exact binder_cut L (by decide) (typed_goes ts f).1 (term_goes ts f).1 (typed_cut L f g (by omega)).1 h1 (p+1) _ _ h
    ·rename_i ht
     rw [if_neg ht]
     split at h
     ·rename_i ht1
      rw [if_pos ht1]
      split at h
      ·cases h
      ·rename_i a1 q1 e1
       split at h
       ·rename_i e2
        have:=txt_at e2
        cases h
        rw [(h1 _ _ _ e1).1 (by omega)]
        simp only
        refine ⟨fun h=>?_,fun h=>?_⟩
        ·rw [(L.ag q1 (by omega)).1,if_pos e2]
        ·obtain rfl:q1=N:=by omega
         rw [if_neg L.no]
         exact .inl rfl
       ·cases h
     ·rename_i ht1
      rw [if_neg ht1]
      exact apply_cut L h2 p a q h
   ·obtain rfl:p=N:=by omega
    rw [if_neg L.no,if_neg L.no,L.name0]
    exact ⟨fun h=>by omega,fun _=>.inl rfl⟩
  ·have gg:=(term_goes ts (f+1)).2 acc p (by omega) _ _ h
   rw [args_succ] at h
   rw [args_succ]
   split at h
   ·rename_i ht
    split at h
    ·cases h
    ·rename_i a1 q1 e1
     have n1:=(term_goes ts f).1 _ _ _ e1
     split at h
     ·rename_i e2
      have:=txt_at e2
      rw [(L.ag p (by omega)).1,if_pos ht,(h1 _ _ _ e1).1 (by omega)]
      simp only
      by_cases hq:q1 < N
      ·rw [(L.ag q1 hq).1,if_pos e2]
       exact h2 _ (q1+1) (by omega) _ _ h
      ·obtain rfl:q1=N:=by omega
       rw [if_neg L.no]
       have n2:=(term_goes ts f).2 _ _ (by omega) _ _ h
       exact ⟨fun h=>by omega,fun _=>.inl rfl⟩
     ·cases h
   ·rename_i ht
    rw [if_neg (L.ne hp ht)]
    split at h
    ·rename_i q1 e1
     cases h
     rw [L.name_bad hp e1]
     exact ⟨fun _=>rfl,fun h=>by omega⟩
    ·rename_i a1 q1 e1
     have n1:=nameA_ok e1
     by_cases hN:p < N
     ·rw [L.nameS hN,e1]
      simp only
      exact h2 _ q1 (by omega) _ _ h
     ·obtain rfl:p=N:=by omega
      obtain ⟨rfl,rfl⟩:=args_end (ts:=ts) (by omega) h
      rw [L.name0]
      exact ⟨fun h=>by omega,fun _=>.inr ⟨acc,a1,rfl,rfl⟩⟩
theorem formR_end {f:Nat} {a:Nd} {p:Nat} {n:Nd} {q:Nat} (hp:ts.length≤p) (h:formR ts f a p = .ok n q):n=a∧q=p:=by
 cases f with
 | zero=>simp only [formR] at h;cases h
 | succ f =>
  rw [formR_succ] at h
  split at h
  ·cases h;exact ⟨rfl,rfl⟩
  ·rename_i k e
   have:=sgn_lt e
   omega
theorem formR_stop (L:Less ts us N) {g:Nat} (hg:0 < g) (a:Nd):formR us g a N = .ok a N:=by
 obtain ⟨g,rfl⟩:∃ g',g=g'+1:=⟨g - 1,by omega⟩
 rw [formR_succ,L.sgn0]
theorem formR_some {f:Nat} {a n:Nd} {p q:Nat} (h:formR ts f a p = .ok n q):0 < f:=by
 cases f with
 | zero=>simp only [formR] at h;cases h
 | succ f=>omega
theorem form_cut (L:Less ts us N):∀ f g,f≤g→(∀ p,EndsC N (part ts f p) (part us g p))∧(∀ b p,EndsC N (right ts f b p) (right us g b p))∧(∀ p,EndsC N (form ts f p) (form us g p))∧(∀ a p,p≤N→EndsC N (formR ts f a p) (formR us g a p))
 | 0,g,_=>⟨fun p a q h=>(by simp only [part] at h;cases h),fun b p a q h=>(by simp only [right] at h;cases h),fun p a q h=>(by simp only [form] at h;cases h),fun b p _ a q h=>(by simp only [formR] at h;cases h)⟩
 | f+1,g,hg=>by
  obtain ⟨g,rfl⟩:∃ g',g=g'+1:=⟨g - 1,by omega⟩
  obtain ⟨h1,h2,h3,h4⟩:=form_cut L f g (by omega)
  obtain ⟨G1,G2,G3,G4⟩:=form_goes ts f
  have hL:=L.len
  refine ⟨fun p a q h=>?_,fun b p a q h=>?_,fun p a q h=>?_,fun b p hp a q h=>?_⟩
  ·have gg:=(form_goes ts (f+1)).1 p _ _ h
   rw [part_succ] at h
   rw [part_succ]
   by_cases hN:p < N
   ·rw [(L.ag p hN).1,(L.ag p hN).2]
    split at h
    ·rename_i ht
     rw [if_pos ht]
     exact apply_cut L (term_cut L f g (by omega)).2 p _ _ h
    ·rename_i ht
     rw [if_neg ht]
     split at h
     ·rename_i ht1
      rw [if_pos ht1]
      split at h
      ·cases h
      ·rename_i a1 q1 e1
       cases h
       obtain ⟨j1,j2⟩:=h1 _ _ _ e1
       refine ⟨fun h=>by rw [j1 h],fun h=>?_⟩
       rcases j2 h with j | ⟨m,j,c⟩
       ·rw [j];exact .inl rfl
       ·rw [j];exact .inr ⟨_,rfl,.kid 29 noS [] m a1 (by decide) c⟩
     ·rename_i ht1
      rw [if_neg ht1]
      split at h
      ·rename_i ht2
       rw [if_pos ht2]
       exact binder_cut L (by decide) (typed_goes ts f).1 G3 (typed_cut L f g (by omega)).1 h3 (p+1) _ _ h
      ·rename_i ht2
       rw [if_neg ht2]
       split at h
       ·rename_i ht3
        rw [if_pos ht3]
        exact binder_cut L (by decide) (typed_goes ts f).1 G3 (typed_cut L f g (by omega)).1 h3 (p+1) _ _ h
       ·rename_i ht3
        rw [if_neg ht3]
        split at h
        ·rename_i ht4
         rw [if_pos ht4]
         cases h
         exact ⟨fun _=>rfl,fun h=>by omega⟩
        ·rename_i ht4
         rw [if_neg ht4]
         split at h
         ·rename_i ht5
          rw [if_pos ht5]
          cases h
          exact ⟨fun _=>rfl,fun h=>by omega⟩
         ·rename_i ht5
          rw [if_neg ht5]
          split at h
          ·rename_i ht6
           rw [if_pos ht6]
           split at h
           ·cases h
           ·rename_i a1 q1 e1
            split at h
            ·rename_i e2
             have:=txt_at e2
             cases h
             rw [(h3 _ _ _ e1).1 (by omega)]
             simp only
             refine ⟨fun h=>?_,fun h=>?_⟩
             ·rw [(L.ag q1 (by omega)).1,if_pos e2]
             ·obtain rfl:q1=N:=by omega
              rw [if_neg L.no]
              exact .inl rfl
            ·cases h
          ·rename_i ht6
           rw [if_neg ht6]
           split at h
           ·rename_i ht7
            rw [if_pos ht7]
            split at h
            ·cases h
            ·rename_i a1 q1 e1
             split at h
             ·rename_i e2
              have:=txt_at e2
              cases h
              rw [(h3 _ _ _ e1).1 (by omega)]
              simp only
              refine ⟨fun h=>?_,fun h=>?_⟩
              ·rw [(L.ag q1 (by omega)).1,if_pos e2]
              ·obtain rfl:q1=N:=by omega
               rw [if_neg L.no]
               exact .inl rfl
             ·cases h
           ·cases h
   ·obtain rfl:p=N:=by omega
    rw [L.ke p (Nat.le_refl _),if_neg (by decide),if_neg L.no,if_neg L.no,if_neg L.no,if_neg L.no,if_neg L.no,if_neg L.no,if_neg L.no]
    exact ⟨fun h=>by omega,fun _=>.inl rfl⟩
  ·rw [right_succ] at h
   rw [right_succ]
   split at h
   ·rename_i hb
    rw [if_pos hb]
    exact h1 p _ _ h
   ·rename_i hb
    rw [if_neg hb]
    split at h
    ·cases h
    ·rename_i a1 q1 e1
     have n1:=G2 _ _ _ _ e1
     obtain ⟨i1,i2⟩:=h2 _ _ _ _ e1
     split at h
     ·rename_i hs
      cases h
      refine ⟨fun h=>?_,fun h=>?_⟩
      ·rw [i1 h]
       simp only
       rw [L.sgn_no h hs]
      ·rcases i2 h with j | ⟨m,j,c⟩
       ·rw [j];exact .inl rfl
       ·rw [j]
        simp only
        rw [L.sgn0]
        exact .inr ⟨m,rfl,c⟩
     ·rename_i kk hs
      have hlt:=sgn_lt hs
      have hkk:17≤kk∧kk≤30:=by
       unfold sgn at hs
       repeat' (split at hs)
       all_goals first
        | (cases hs;done)
        | (cases hs;decide)
      split at h
      ·cases h
      ·rename_i a2 q2 e2
       have n2:=G2 _ _ _ _ e2
       cases h
       rw [i1 (by omega)]
       simp only
       rw [L.sgnS (by omega),hs]
       simp only
       obtain ⟨j1,j2⟩:=h2 _ _ _ _ e2
       refine ⟨fun h=>by rw [j1 h],fun h=>?_⟩
       rcases j2 h with j | ⟨m,j,c⟩
       ·rw [j];exact .inl rfl
       ·rw [j];exact .inr ⟨_,rfl,.kid kk noS [a1] m a2 hkk c⟩
  ·rw [form_succ] at h
   rw [form_succ]
   split at h
   ·cases h
   ·rename_i a1 q1 e1
    have n1:=G2 _ _ _ _ e1
    obtain ⟨i1,i2⟩:=h2 _ _ _ _ e1
    by_cases hq:q1≤N
    ·rw [i1 hq]
     exact h4 _ _ hq _ _ h
    ·have hf:=formR_some h
     obtain ⟨rfl,rfl⟩:=formR_end (ts:=ts) (by omega) h
     refine ⟨fun h=>by omega,fun h=>?_⟩
     rcases i2 h with j | ⟨m,j,c⟩
     ·rw [j];exact .inl rfl
     ·rw [j]
      simp only
      rw [formR_stop L (by omega)]
      exact .inr ⟨m,rfl,c⟩
  ·have gg:=(form_goes ts (f+1)).2.2.2 b p (by omega) _ _ h
   rw [formR_succ] at h
   rw [formR_succ]
   split at h
   ·rename_i hs
    cases h
    rw [L.sgn_no hp hs]
    exact ⟨fun _=>rfl,fun h=>by omega⟩
   ·rename_i kk hs
    have hlt:=sgn_lt hs
    have hkk:17≤kk∧kk≤30:=by
     unfold sgn at hs
     repeat' (split at hs)
     all_goals first
      | (cases hs;done)
      | (cases hs;decide)
    split at h
    ·cases h
    ·rename_i a2 q2 e2
     have n2:=G2 _ _ _ _ e2
     obtain ⟨j1,j2⟩:=h2 _ _ _ _ e2
     rw [L.sgnS (by omega),hs]
     simp only
     by_cases hq:q2≤N
     ·rw [j1 hq]
      exact h4 _ _ hq _ _ h
     ·have hf:=formR_some h
      obtain ⟨rfl,rfl⟩:=formR_end (ts:=ts) (by omega) h
      refine ⟨fun h=>by omega,fun h=>?_⟩
      rcases j2 h with j | ⟨m,j,c⟩
      ·rw [j];exact .inl rfl
      ·rw [j]
       simp only
       rw [formR_stop L (by omega)]
       exact .inr ⟨_,rfl,.kid kk noS [b] m a2 hkk c⟩
end Sx
end Go.Proofs.YtcimcjmdkjajfaaGreatDoor
namespace Go.Proofs.YtcimcjmdkjajfaaGreatDoor
namespace Sx
open Lx (Bs Tok)
variable {ts us:List Tok} {N:Nat}
theorem typed_at (L:Less ts us N) {f p:Nat} {a:Nd} {q:Nat} (h:typed ts f p = .ok a q) (hq:q≤N) (g:Nat) (hg:2*(N - p)+2≤g):typed us g p = .ok a q:=by
 have h1:=((typed_cut L f (g+f) (by omega)).1 p _ _ h).1 hq
 rw [typed_fuel us p g (by rw [L.ulen];exact hg) f] at h1
 exact h1
theorem simple_at (L:Less ts us N) {f p:Nat} {a:Nd} {q:Nat} (h:simple ts f p = .ok a q) (hq:q≤N) (g:Nat) (hg:2*(N - p)+1≤g):simple us g p = .ok a q:=by
 have h1:=((typed_cut L f (g+f) (by omega)).2 p _ _ h).1 hq
 rw [simple_fuel us p g (by rw [L.ulen];exact hg) f] at h1
 exact h1
theorem form_at (L:Less ts us N) {f p:Nat} {a:Nd} {q:Nat} (h:form ts f p = .ok a q) (hq:q≤N) (g:Nat) (hg:8*(N - p)+7≤g):form us g p = .ok a q:=by
 have h1:=((form_cut L f (g+f) (by omega)).2.2.1 p _ _ h).1 hq
 rw [form_fuel us p g (by rw [L.ulen];exact hg) f] at h1
 exact h1
theorem namesR_at (L:Less ts us N):∀ f g acc p l q,N - p+1≤g→namesR ts f acc p = .ok l q→q≤N→namesR us g acc p = .ok l q
 | 0,g,acc,p,l,q,_,h,_=>by simp only [namesR] at h;cases h
 | f+1,g,acc,p,l,q,hg,h,hq=>by
  obtain ⟨g,rfl⟩:∃ g',g=g'+1:=⟨g - 1,by omega⟩
  have gg:=namesR_goes ts _ _ _ _ _ h
  simp only [namesR] at h ⊢
  split at h
  ·rename_i ht
   split at h
   ·cases h
   ·rename_i a1 q1 e1
    have n1:=small_ok e1
    have n2:=namesR_goes ts _ _ _ _ _ h
    rw [(L.ag p (by omega)).1,if_pos ht,L.smallS (by omega),e1]
    simp only
    exact namesR_at L f g _ q1 _ _ (by omega) h hq
  ·rename_i ht
   cases h
   rw [if_neg (L.ne hq ht)]
theorem names_at (L:Less ts us N) {f g p:Nat} {l:List Nd} {q:Nat} (hg:N - p+1≤g) (h:names ts f p = .ok l q) (hq:q≤N):names us g p = .ok l q:=by
 unfold names at h ⊢
 split at h
 ·cases h
 ·rename_i a1 q1 e1
  have n1:=small_ok e1
  have n2:=namesR_goes ts _ _ _ _ _ h
  rw [L.smallS (by omega),e1]
  simp only
  exact namesR_at L f g _ q1 _ _ (by omega) h hq
theorem simples_at (L:Less ts us N):∀ f g acc p l q,2*(N - p)+2≤g→simples ts f acc p = .ok l q→q≤N→simples us g acc p = .ok l q
 | 0,g,acc,p,l,q,_,h,_=>by simp only [simples] at h;cases h
 | f+1,g,acc,p,l,q,hg,h,hq=>by
  obtain ⟨g,rfl⟩:∃ g',g=g'+1:=⟨g - 1,by omega⟩
  have gg:=simples_goes ts _ _ _ _ _ h
  simp only [simples] at h ⊢
  split at h
  ·rename_i ht
   split at h
   ·cases h
   ·rename_i a1 q1 e1
    have n1:=(typed_goes ts f).2 _ _ _ e1
    have n2:=simples_goes ts _ _ _ _ _ h
    rw [(L.ag p (by omega)).1,(L.ag p (by omega)).2,if_pos ht,simple_at L e1 (by omega) g (by omega)]
    simp only
    exact simples_at L f g _ q1 _ _ (by omega) h hq
  ·rename_i ht
   cases h
   rw [if_neg (fun e=>e.elim (L.ne hq (fun e'=>ht (.inl e'))) (L.nk hq (fun e'=>ht (.inr e'))))]
theorem smalls_at (L:Less ts us N):∀ f g acc p l q,N - p+1≤g→smalls ts f acc p = .ok l q→q≤N→smalls us g acc p = .ok l q
 | 0,g,acc,p,l,q,_,h,_=>by simp only [smalls] at h;cases h
 | f+1,g,acc,p,l,q,hg,h,hq=>by
  obtain ⟨g,rfl⟩:∃ g',g=g'+1:=⟨g - 1,by omega⟩
  have gg:=smalls_goes ts _ _ _ _ _ h
  simp only [smalls] at h ⊢
  split at h
  ·rename_i ht
   have n2:=smalls_goes ts _ _ _ _ _ h
   rw [(L.ag p (by omega)).1,(L.ag p (by omega)).2,if_pos ht]
   exact smalls_at L f g _ (p+1) _ _ (by omega) h hq
  ·rename_i ht
   cases h
   rw [if_neg (L.nk hq ht)]
theorem behind_at (L:Less ts us N) {f g:Nat} {kk:Int} {s:ByteArray} {p:Nat} {a:Nd} {q:Nat} (hg:8*(N - p)+7≤g) (h:behind ts f kk s p = .ok a q) (hq:q≤N):behind us g kk s p = .ok a q:=by
 have gg:=behind_goes h
 unfold behind at h ⊢
 split at h
 ·rename_i ht
  rw [if_pos ht]
  split at h
  ·cases h
  ·rename_i l q1 e1
   cases h
   rw [simples_at L f g _ p _ _ (by omega) e1 (by omega)]
 ·rename_i ht
  rw [if_neg ht]
  split at h
  ·rename_i ht1
   rw [if_pos ht1]
   split at h
   ·cases h
   ·rename_i l q1 e1
    cases h
    rw [smalls_at L f g _ p _ _ (by omega) e1 (by omega)]
  ·rename_i ht1
   rw [if_neg ht1]
   split at h
   ·rename_i ht2
    rw [if_pos ht2]
    split at h
    ·rename_i ht3
     split at h
     ·cases h
     ·rename_i l q1 e1
      have n1:=(form_goes ts f).2.2.1 _ _ _ e1
      cases h
      rw [(L.ag p (by omega)).1,if_pos ht3,form_at L e1 (by omega) g (by omega)]
    ·cases h
   ·rename_i ht2
    rw [if_neg ht2]
    cases h
    rfl
theorem itemB_at (L:Less ts us N) {f g:Nat} {kk:Int} {p:Nat} {a:Nd} {q:Nat} (hg:8*(N - p)+7≤g) (h:itemB ts f kk p = .ok a q) (hq:q≤N):itemB us g kk p = .ok a q:=by
 unfold itemB at h ⊢
 split at h
 ·rename_i ht
  rw [if_pos ht]
  split at h
  ·cases h
  ·rename_i l q1 e1
   cases h
   rw [names_at L (by omega) e1 (by omega)]
 ·rename_i ht
  rw [if_neg ht]
  split at h
  ·rename_i ht1
   rw [if_pos ht1]
   split at h
   ·cases h
   ·rename_i l q1 e1
    have n1:=names_goes e1
    split at h
    ·rename_i ht2
     split at h
     ·cases h
     ·rename_i t r e2
      have n2:=(typed_goes ts f).1 _ _ _ e2
      cases h
      rw [names_at L (by omega) e1 (by omega)]
      simp only
      rw [(L.ag q1 (by omega)).1,if_pos ht2,typed_at L e2 (by omega) g (by omega)]
    ·cases h
  ·rename_i ht1
   rw [if_neg ht1]
   split at h
   ·cases h
   ·rename_i k1 s1 l1 q1 e1
    have n1:=small_ok e1
    have n2:=behind_goes h
    rw [L.smallS (by omega),e1]
    simp only
    exact behind_at L (by omega) h hq
theorem item_at (L:Less ts us N) {f g p:Nat} {a:Nd} {q:Nat} (hg:8*(N - p)+7≤g) (h:item ts f p = .ok a q):(q≤N→item us g p = .ok a q)∧(q=N+1→item us g p = .bad N):=by
 have gg:=item_goes h
 have hL:=L.len
 unfold item at h ⊢
 split at h
 ·cases h
 ·rename_i hk
  split at h
  ·cases h
  ·rename_i a1 q1 e1
   have n1:=itemB_goes e1
   split at h
   ·rename_i ht
    have:=txt_at ht
    cases h
    rw [(L.ag p (by omega)).1,if_neg hk,itemB_at L (by omega) e1 (by omega)]
    simp only
    refine ⟨fun h=>?_,fun h=>?_⟩
    ·rw [(L.ag q1 (by omega)).1,if_pos ht]
    ·obtain rfl:q1=N:=by omega
     rw [if_neg L.no]
   ·cases h
theorem items_at (L:Less ts us N):∀ f g acc p l q,16*(N - p)+16≤g→p≤N→items ts f acc p = .ok l q→items us g acc p = .bad N
 | 0,_,_,_,_,_,_,_,h=>by simp only [items] at h;cases h
 | f+1,g,acc,p,l,q,hg,hp,h=>by
  obtain ⟨g,rfl⟩:∃ g',g=g'+1:=⟨g - 1,by omega⟩
  have hL:=L.len
  simp only [items] at h ⊢
  rw [if_pos (by omega)] at h
  split at h
  ·cases h
  ·rename_i a q1 e1
   have n1:=item_goes e1
   have n2:p+2 < q1∨p+2=q1:=by
    unfold item at e1
    split at e1
    ·cases e1
    ·split at e1
     ·cases e1
     ·rename_i a1 q2 e2
      have:=itemB_goes e2
      split at e1
      ·cases e1;omega
      ·cases e1
   rw [if_pos (by rw [L.ulen];omega)]
   obtain ⟨j1,j2⟩:=item_at L (g:=g) (by omega) e1
   by_cases hq:q1≤N
   ·rw [j1 hq]
    simp only
    exact items_at L f g _ q1 l q (by omega) hq h
   ·rw [j2 (by omega)]
theorem whole_cut (L:Less ts us N) (what:Int) {n:Nd} (h:whole ts (fuel ts) what = .ok n (N+1)) :
  whole us (fuel us) what = .bad N∨∃ m,whole us (fuel us) what = .ok m N∧Cut m n:=by
 have hL:=L.len
 have hU:=L.ulen
 have hfu:fuel us=16*N+16:=by unfold fuel;rw [hU]
 have hft:fuel ts=fuel us+16:=by unfold fuel;rw [hU,hL];omega
 unfold whole at h ⊢
 split at h
 ·rename_i h1
  rw [if_pos h1]
  have:=((form_cut L (fuel ts) (fuel us+16) (by omega)).2.2.1 0 _ _ h).2 rfl
  rw [form_fuel us 0 (fuel us) (by omega) 16] at this
  exact this
 ·rename_i h1
  rw [if_neg h1]
  split at h
  ·rename_i h2
   rw [if_pos h2]
   have:=((term_cut L (fuel ts) (fuel us+16) (by omega)).1 0 _ _ h).2 rfl
   rw [term_fuel us 0 (fuel us) (by omega) 16] at this
   exact this
  ·rename_i h2
   rw [if_neg h2]
   split at h
   ·rename_i h3
    rw [if_pos h3]
    have:=((typed_cut L (fuel ts) (fuel us+16) (by omega)).1 0 _ _ h).2 rfl
    rw [typed_fuel us 0 (fuel us) (by omega) 16] at this
    exact .inl this
   ·rename_i h3
    rw [if_neg h3]
    split at h
    ·cases h
    ·rename_i l q e
     rw [items_at L (fuel ts) (fuel us) [] 0 l q (by omega) (Nat.zero_le _) e]
     exact .inl rfl
end Sx
theorem szL_one (l:List Nd) (x:Nd):Nd.szL (l++[x])=Nd.szL l+x.sz:=by
 induction l with
 | nil=>simp [Nd.szL]
 | cons a l ih=>simp only [List.cons_append,Nd.szL,ih];omega
theorem dpL_one (l:List Nd) (x:Nd):Nd.dpL (l++[x])=max (Nd.dpL l) x.dp:=by
 induction l with
 | nil=>simp [Nd.dpL]
 | cons a l ih=>simp only [List.cons_append,Nd.dpL,ih];omega
theorem Cut.sz {m n:Nd} (h:Cut m n):m.sz≤n.sz:=by
 induction h with
 | arg k s l x hk=>simp only [Nd.sz,szL_one];omega
 | kid k s l m n hk h ih=>simp only [Nd.sz,szL_one];omega
theorem Cut.dp {m n:Nd} (h:Cut m n):m.dp≤n.dp:=by
 induction h with
 | arg k s l x hk=>simp only [Nd.dp,dpL_one];omega
 | kid k s l m n hk h ih=>simp only [Nd.dp,dpL_one];omega
theorem termL_snoc (l:List Nd) (x:Nd):termL (l++[x])=(termL l && termB x):=by
 induction l with
 | nil=>simp [termL]
 | cons a l ih=>simp only [List.cons_append,termL,ih,Bool.and_assoc]
theorem formL_snoc (l:List Nd) (x:Nd):formL (l++[x])=(formL l && formB x):=by
 induction l with
 | nil=>simp [formL]
 | cons a l ih=>simp only [List.cons_append,formL,ih,Bool.and_assoc]
theorem termE_snoc (l:List Nd) (x:Nd):termE (l++[x])=termB x:=by
 induction l with
 | nil=>simp [termE]
 | cons a l ih=>simp only [List.cons_append,termE,ih];rw [if_neg (by simp)]
theorem formE_snoc (l:List Nd) (x:Nd):formE (l++[x])=formB x:=by
 induction l with
 | nil=>simp [formE]
 | cons a l ih=>simp only [List.cons_append,formE,ih];rw [if_neg (by simp)]
theorem Cut.no_typ {m n:Nd} (h:Cut m n):typB n=false:=by
 induction h with
 | arg k s l x hk =>
  have h31:k≠31:=by omega
  simp [typB,h31]
 | kid k s l m n hk h ih =>
  have h31:k≠31:=by omega
  simp [typB,h31]
theorem headTyp_one (l:List Nd) (m n:Nd) (h:Cut m n) (h2:headTyp (l++[n])=true):headTyp (l++[m])=true:=by
 cases l with
 | nil=>simp only [List.nil_append,headTyp] at h2;rw [h.no_typ] at h2;cases h2
 | cons a l=>exact h2
theorem bindB_one (s:ByteArray) (l:List Nd) (m n:Nd) (h:Cut m n) (h2:bindB s (l++[n])=true):bindB s (l++[m])=true:=by
 unfold bindB at h2 ⊢
 rw [Bool.and_eq_true] at h2 ⊢
 refine ⟨h2.1,?_⟩
 have h3:=h2.2
 rw [Bool.or_eq_true,Bool.and_eq_true,decide_eq_true_eq,decide_eq_true_eq] at h3 ⊢
 rw [show (l++[m]).length=(l++[n]).length from by simp]
 rcases h3 with h3 | ⟨h3,h4⟩
 ·exact .inl h3
 ·exact .inr ⟨h3,headTyp_one l m n h h4⟩
theorem Cut.term {m n:Nd} (h:Cut m n):termB n=true→termB m=true:=by
 induction h with
 | arg k s l x hk =>
  intro h
  have hl:(l++[x]).length=l.length+1:=by simp
  simp only [termB,termL_snoc,hl] at h ⊢
  rcases hk with rfl | rfl
  ·rw [if_pos rfl,Bool.and_eq_true,Bool.and_eq_true,Bool.and_eq_true,decide_eq_true_eq] at h
   rw [if_pos rfl,Bool.and_eq_true,Bool.and_eq_true,decide_eq_true_eq]
   exact ⟨h.1,h.2.1.1,by have:=h.2.2;omega⟩
  ·rw [if_neg (by decide),if_pos rfl,Bool.and_eq_true,Bool.and_eq_true,Bool.and_eq_true,decide_eq_true_eq] at h
   rw [if_neg (by decide),if_pos rfl,Bool.and_eq_true,Bool.and_eq_true,decide_eq_true_eq]
   exact ⟨h.1,h.2.1.1,by have:=h.2.2;omega⟩
 | kid k s l m n hk h ih =>
  intro h1
  simp only [termB,termE_snoc] at h1 ⊢
  rw [if_neg (by omega),if_neg (by omega)] at h1 ⊢
  rw [Bool.and_eq_true,Bool.and_eq_true] at h1 ⊢
  exact ⟨h1.1,bindB_one s l m n h h1.2.1,ih h1.2.2⟩
theorem Cut.form {m n:Nd} (h:Cut m n):formB n=true→formB m=true:=by
 induction h with
 | arg k s l x hk =>
  intro h
  rcases hk with rfl | rfl
  ·simp only [formB,if_true] at h ⊢
   exact (Cut.arg 15 s l x (.inl rfl)).term h
  ·simp [formB,isBinary] at h
 | kid k s l m n hk h ih =>
  intro h1
  have hl:(l++[m]).length=(l++[n]).length:=by simp
  simp only [formB,formE_snoc,formL_snoc,hl] at h1 ⊢
  rw [if_neg (by omega)] at h1 ⊢
  split at h1
  ·rename_i hb
   rw [if_pos hb]
   rw [Bool.and_eq_true] at h1 ⊢
   exact ⟨bindB_one s l m n h h1.1,ih h1.2⟩
  ·rename_i hb
   rw [if_neg hb]
   split at h1
   ·rename_i hc
    rw [Bool.and_eq_true,decide_eq_true_eq] at h1
    have:=h1.2
    simp at this
   ·rename_i hc
    rw [if_neg hc]
    split at h1
    ·rename_i hd
     rw [if_pos hd]
     simp only [Bool.and_eq_true] at h1 ⊢
     exact ⟨h1.1,h1.2.1,h1.2.2.1,ih h1.2.2.2⟩
    ·rename_i hd
     rw [if_neg hd]
     simp only [Bool.and_eq_true] at h1 ⊢
     exact ⟨h1.1,h1.2.1,h1.2.2.1,h1.2.2.2.1,ih h1.2.2.2.2⟩
theorem Cut.kind {m n:Nd} (h:Cut m n):itemB n=false∧textB n=false:=by
 have key:∀ (k:Int) (s:ByteArray) (l:List Nd),15≤k→itemB (.mk k s l)=false∧textB (.mk k s l)=false:=by
  intro k s l hk
  refine ⟨?_,?_⟩
  ·simp only [itemB]
   rw [if_neg (by omega),if_neg (by omega),if_neg (by omega),if_neg (by omega),if_neg (by omega),if_neg (by omega),Bool.and_false]
  ·simp only [textB]
   rw [decide_eq_false (by omega),Bool.false_and]
 cases h with
 | arg k s l x hk=>exact key k s _ (by omega)
 | kid k s l m n hk h=>exact key k s _ (by omega)
theorem Cut.chk {m n:Nd} (h:Cut m n) (h0:chkN n=0):chkN m=0:=by
 unfold chkN at h0 ⊢
 have h1:=h.sz
 have h2:=h.dp
 split at h0
 ·cases h0
 ·split at h0
  ·cases h0
  ·rw [if_neg (by omega),if_neg (by omega)]
   split at h0
   ·rename_i hb
    rw [h.no_typ,h.kind.1,h.kind.2,Bool.false_or,Bool.or_false,Bool.or_false,Bool.or_eq_true] at hb
    rw [if_pos]
    rcases hb with hb | hb
    ·rw [h.term hb];simp
    ·rw [h.form hb];simp
   ·cases h0
end Go.Proofs.YtcimcjmdkjajfaaGreatDoor
namespace Go.Proofs.YtcimcjmdkjajfaaGreatDoor
namespace Lx
theorem runLen_app (x s:Bs):runLen (x++s)=if runLen x=x.length then x.length+runLen s else runLen x:=by
 induction x with
 | nil=>simp [runLen]
 | cons c x ih =>
  rw [List.cons_append,runLen_cons,runLen_cons,ih]
  by_cases hp:part c=true
  ·simp only [if_pos hp,List.length_cons]
   by_cases h:runLen x=x.length
   ·rw [if_pos h,if_pos (by omega)];omega
   ·rw [if_neg h,if_neg (by omega)]
  ·simp only [if_neg hp,List.length_cons]
   rw [if_neg (by omega)]
theorem runLen_stop (x:Bs) (c:UInt8) (y:Bs):runLen (x++c :: y)=x.length↔(runLen x=x.length∧part c=false):=by
 rw [runLen_app,runLen_cons]
 by_cases h:runLen x=x.length
 ·rw [if_pos h]
  by_cases hp:part c=true
  ·rw [if_pos hp];constructor
   ·intro e;omega
   ·intro e;rw [hp] at e;simp at e
  ·rw [if_neg hp];simp [h,hp]
 ·rw [if_neg h];simp [h]
theorem nameLen_stop (x:Bs) (c:UInt8) (y:Bs) (hc:c≠64):nameLen (x++c :: y)=x.length↔(nameLen x=x.length∧part c=false):=by
 have hle:=runLen_le x
 have happ:=runLen_app x (c :: y)
 by_cases h:runLen x=x.length
 ·rw [if_pos h] at happ
  have hx:nameLen x=x.length:=by
   unfold nameLen
   simp only [h]
   rw [if_neg (by rw [List.getElem?_eq_none (Nat.le_refl _)];simp)]
  by_cases hp:part c=true
  ·rw [runLen_cons,if_pos hp] at happ
   constructor
   ·intro e
    exfalso
    unfold nameLen at e
    simp only [happ] at e
    split at e <;> omega
   ·intro e;rw [hp] at e;simp at e
  ·rw [runLen_cons,if_neg hp,Nat.add_zero] at happ
   have:nameLen (x++c :: y)=x.length:=by
    unfold nameLen
    simp only [happ]
    rw [if_neg]
    intro e
    have e1:=e.1
    rw [List.getElem?_append_right (Nat.le_refl _),Nat.sub_self] at e1
    simp only [List.getElem?_cons_zero,Option.some.injEq] at e1
    exact hc e1
   simp [this,hx,hp]
 ·rw [if_neg h] at happ
  have hlt:runLen x < x.length:=by omega
  have h0:(x++c :: y)[runLen x]?=x[runLen x]?:=List.getElem?_append_left hlt
  unfold nameLen
  simp only [happ,h0]
  by_cases h64:x[runLen x]?=some 64
  ·by_cases h1:runLen x+1 < x.length
   ·rw [List.getElem?_append_left h1]
    by_cases hs:(x[runLen x+1]?.map small)=some true
    ·rw [if_pos ⟨h64,hs⟩,if_pos ⟨h64,hs⟩,List.drop_append_of_le_length (by omega)]
     have:=runLen_stop (x.drop (runLen x+1)) c y
     rw [List.length_drop] at this
     constructor
     ·intro e
      obtain ⟨a,b⟩:=this.1 (by omega)
      exact ⟨by omega,b⟩
     ·intro e
      have:=this.2 ⟨by omega,e.2⟩
      omega
    ·rw [if_neg (fun e=>hs e.2),if_neg (fun e=>hs e.2)]
     simp [h]
   ·have e1:runLen x+1=x.length:=by omega
    rw [e1,List.getElem?_append_right (Nat.le_refl _),Nat.sub_self,List.getElem?_eq_none (Nat.le_refl x.length)]
    simp only [List.getElem?_cons_zero,Option.map_some,Option.map_none,reduceCtorEq,and_false,if_false,h,false_and,iff_false]
    split
    ·rename_i hs
     have hsm:small c=true:=by simpa using hs.2
     rw [show (x++c :: y).drop x.length=c :: y from List.drop_left,runLen_cons,if_pos (small_part hsm)]
     omega
    ·omega
  ·rw [if_neg (fun e=>h64 e.1),if_neg (fun e=>h64 e.1)]
   simp [h]
def stopC (x:Bs) (c:UInt8):Bool:=match x with
 | []=>false
 | a :: _=>if small a then decide (x=[111,45]) || (!part c && !(decide (x=[111]) && decide (c=45))) else if capital a then !part c else if signB a then true else !(decide (x=[45,111]) && part c)
theorem tokR_oo (w:Bs):tokR (111 :: 45 :: w)=some (3,2):=by
 have h1:runLen (111 :: 45 :: w)=1:=by rw [runLen_cons,runLen_cons];rfl
 have h2:nameLen (111 :: 45 :: w)=1:=by unfold nameLen;simp only [h1];rfl
 unfold tokR
 simp only [h2]
 rfl
theorem tokR_small {a:UInt8} {x:Bs} (ha:small a=true) (k n:Nat) (hx:¬ ∃ w,a :: x=111 :: 45 :: w) :
  tokR (a :: x)=some (k,n)↔(nameLen (a :: x)=n∧k=if words.contains ((a :: x).take n) then 4 else 1):=by
 have hno:¬ ((a :: x).take (nameLen (a :: x))=[111]∧(a :: x)[nameLen (a :: x)]?=some 45):=by
  rintro ⟨h1,h2⟩
  apply hx
  generalize nameLen (a :: x)=j at h1 h2
  cases j with
  | zero=>simp at h1
  | succ j =>
   simp only [List.take_succ_cons,List.cons.injEq] at h1
   obtain ⟨rfl,h3⟩:=h1
   cases x with
   | nil=>simp at h2
   | cons b x =>
    cases j with
    | zero=>simp at h2;subst h2;exact ⟨x,rfl⟩
    | succ j=>simp at h3
 unfold tokR
 simp only [List.getElem?_cons_zero,ha,if_true,if_neg hno]
 constructor
 ·intro h
  split at h
  ·rename_i hw
   simp only [Option.some.injEq,Prod.mk.injEq] at h
   obtain ⟨rfl,rfl⟩:=h
   exact ⟨rfl,by rw [if_pos hw]⟩
  ·rename_i hw
   simp only [Option.some.injEq,Prod.mk.injEq] at h
   obtain ⟨rfl,rfl⟩:=h
   exact ⟨rfl,by rw [if_neg hw]⟩
 ·rintro ⟨rfl,rfl⟩
  split <;> rfl
theorem longR_two {a b c:UInt8} {y:Bs}:longR (a :: b :: c :: y)=(longR [a,b] && !(decide ([a,b]=([45,111]:Bs)) && part c)):=by
 have e1:runLen (b :: c :: y)=if part b then 1+(if part c then 1+runLen y else 0) else 0:=by rw [runLen_cons,runLen_cons]
 have e2:runLen [b]=if part b then 1 else 0:=by rw [runLen_cons];rfl
 unfold longR
 simp only [List.drop_succ_cons,List.drop_zero,e1,e2,List.isPrefixOf,Bool.and_true]
 by_cases h:[a,b]=([45,111]:Bs)
 ·simp only [List.cons.injEq,and_true] at h
  obtain ⟨rfl,rfl⟩:=h
  have hp:part 111=true:=by decide
  simp only [hp,if_true]
  cases hc:part c
  ·simp
  ·simp
 ·have h':((45:UInt8)==a && (111:UInt8)==b)=false:=by
   rw [Bool.eq_false_iff]
   intro e
   simp only [Bool.and_eq_true,beq_iff_eq] at e
   exact h (by rw [←e.1,←e.2])
  rw [h',decide_eq_false h]
  simp
theorem tokR_stop (x:Bs) (c:UInt8) (y:Bs) (k:Nat) (hc:c≠64) :
  tokR (x++c :: y)=some (k,x.length)↔(tokR x=some (k,x.length)∧stopC x c=true):=by
 cases x with
 | nil =>
  constructor
  ·intro h;have:=tokR_lt h;simp at this
  ·intro h;have:=tokR_lt h.1;simp at this
 | cons a x =>
  by_cases hs:small a=true
  ·by_cases hoo:∃ w,a :: x=111 :: 45 :: w
   ·obtain ⟨w,hw⟩:=hoo
    rw [hw,List.cons_append,List.cons_append,tokR_oo,tokR_oo]
    unfold stopC
    have:small 111=true:=by decide
    simp only [this,if_true,List.length_cons]
    cases w with
    | nil=>simp
    | cons d w=>simp
   ·have hoo':(x=[]∧a=111∧c=45)∨¬ ∃ w,a :: (x++c :: y)=111 :: 45 :: w:=by
     by_cases h:x=[]∧a=111∧c=45
     ·exact .inl h
     ·refine .inr ?_
      rintro ⟨w,hw⟩
      cases x with
      | nil=>simp at hw;exact h ⟨rfl,hw.1,hw.2.1⟩
      | cons b x=>simp at hw;exact hoo ⟨x,by rw [hw.1,hw.2.1]⟩
    rcases hoo' with ⟨rfl,rfl,rfl⟩ | hoo'
    ·rw [List.cons_append,List.nil_append,tokR_oo]
     have:stopC [111] 45=false:=by decide
     simp [this]
    ·rw [List.cons_append,tokR_small hs k _ hoo',tokR_small hs k _ hoo,←List.cons_append,nameLen_stop _ c y hc,List.take_append_of_le_length (Nat.le_refl _)]
     have hst:stopC (a :: x) c = !part c:=by
      unfold stopC
      simp only [hs,if_true]
      have h1:decide (a :: x=[111,45])=false:=decide_eq_false fun e=>hoo ⟨[],e⟩
      rw [h1,Bool.false_or]
      cases hp:part c
      ·have h2:(decide (a :: x=[111]) && decide (c=45))=false:=by
        rw [Bool.eq_false_iff]
        intro e
        simp only [Bool.and_eq_true,decide_eq_true_eq,List.cons.injEq] at e
        exact hoo' ⟨y,by rw [e.1.1,e.1.2,e.2];rfl⟩
       rw [h2];rfl
      ·rfl
     rw [hst]
     cases part c <;> simp
  ·by_cases hcap:capital a=true
   ·have hst:stopC (a :: x) c = !part c:=by unfold stopC;simp [hs,hcap]
    unfold tokR
    simp only [List.cons_append,List.getElem?_cons_zero,hs,hcap,if_true,hst,Bool.false_eq_true,if_false]
    have:=runLen_stop (a :: x) c y
    rw [List.cons_append] at this
    constructor
    ·intro e
     simp only [Option.some.injEq,Prod.mk.injEq] at e
     obtain ⟨rfl,e⟩:=e
     obtain ⟨h1,h2⟩:=this.1 e
     rw [h1,h2];exact ⟨rfl,rfl⟩
    ·rintro ⟨e,h2⟩
     simp only [Option.some.injEq,Prod.mk.injEq] at e
     obtain ⟨rfl,e⟩:=e
     rw [this.2 ⟨e,by simpa using h2⟩]
   ·by_cases hsg:signB a=true
    ·have hst:stopC (a :: x) c=true:=by unfold stopC;simp only [hs,hcap,hsg,if_true,Bool.false_eq_true,if_false]
     unfold tokR
     simp only [List.cons_append,List.getElem?_cons_zero,hs,hcap,hsg,if_true,Bool.false_eq_true,if_false,hst,and_true]
    ·have hst:stopC (a :: x) c = !(decide (a :: x=[45,111]) && part c):=by unfold stopC;simp only [hs,hcap,hsg,Bool.false_eq_true,if_false]
     rw [hst]
     unfold tokR
     simp only [List.cons_append,List.getElem?_cons_zero,hs,hcap,hsg,Bool.false_eq_true,if_false]
     match x with
     | []=>simp
     | [b] =>
      simp only [List.nil_append,List.cons_append,longR_two,List.length_cons,List.length_nil]
      cases longR [a,b] <;> cases (!(decide ([a,b]=([45,111]:Bs)) && part c)) <;> simp
     | b :: d :: x=>simp
abbrev tokC (c:UInt8):Prop:=blank c=false∧c.toNat≠37
theorem part_tokC {c:UInt8} (h:part c=true):tokC c:=by
 simp only [part,small,capital,Bool.or_eq_true,Bool.and_eq_true,decide_eq_true_eq] at h
 refine ⟨?_,by omega⟩
 simp only [blank,Bool.or_eq_false_iff,decide_eq_false_iff_not]
 omega
theorem part_ne64 {c:UInt8} (h:part c=true):c≠64:=by
 rintro rfl;revert h;decide
theorem signB_tokC {c:UInt8} (h:signB c=true):tokC c∧c≠64:=by
 simp only [signB,List.contains_eq_mem,List.mem_cons,List.not_mem_nil,or_false,decide_eq_true_eq] at h
 rcases h with rfl | rfl | rfl | rfl | rfl | rfl | rfl | rfl | rfl | rfl | rfl | rfl <;> decide
theorem longR_tokC {x:Bs} (h:longR x=true):∃ a b w,x=a :: b :: w∧tokC a∧tokC b∧a≠64:=by
 unfold longR at h
 simp only [Bool.or_eq_true,Bool.and_eq_true,List.isPrefixOf_iff_prefix] at h
 rcases h with ((⟨⟨w,rfl⟩,_⟩ | ⟨w,rfl⟩) | ⟨w,rfl⟩) | ⟨w,rfl⟩
 ·exact ⟨45,111,w,rfl,by decide,by decide,by decide⟩
 ·exact ⟨45,62,w,rfl,by decide,by decide,by decide⟩
 ·exact ⟨61,62,w,rfl,by decide,by decide,by decide⟩
 ·exact ⟨60,61,w,rfl,by decide,by decide,by decide⟩
theorem tokR_cons {r:Bs} {k n:Nat} (h:tokR r=some (k,n)):∃ a w,r=a :: w∧tokC a∧a≠64:=by
 cases r with
 | nil=>simp [tokR] at h
 | cons a w =>
  refine ⟨a,w,rfl,?_⟩
  unfold tokR at h
  simp only [List.getElem?_cons_zero] at h
  by_cases hs:small a=true
  ·exact ⟨part_tokC (small_part hs),part_ne64 (small_part hs)⟩
  ·by_cases hcap:capital a=true
   ·exact ⟨part_tokC (capital_part hcap),part_ne64 (capital_part hcap)⟩
   ·by_cases hsg:signB a=true
    ·exact signB_tokC hsg
    ·by_cases hl:longR (a :: w)=true
     ·obtain ⟨a',b',w',he,h1,_,h3⟩:=longR_tokC hl
      simp only [List.cons.injEq] at he
      obtain ⟨rfl,_⟩:=he
      exact ⟨h1,h3⟩
     ·simp [hs,hcap,hsg,hl] at h
theorem stopC_space {x:Bs} {k:Nat} (h:tokR x=some (k,x.length)):stopC x 32=true:=by
 cases x with
 | nil=>simp [tokR] at h
 | cons a x =>
  have hp:part 32=false:=by decide
  unfold stopC
  simp [hp]
theorem tokR_space {x:Bs} {k:Nat} (h:tokR x=some (k,x.length)) (y:Bs):tokR (x++32 :: y)=some (k,x.length) :=
 (tokR_stop x 32 y k (by decide)).2 ⟨h,stopC_space h⟩
structure KT where
 k:Nat
 x:Bs
 deriving DecidableEq
def Tok.kt (t:Tok):KT:=⟨t.kind,t.text⟩
def IsTok (a:KT):Prop:=tokR a.x=some (a.k,a.x.length)∧a.x.length≤40
def Runs:Bs→List KT→Prop
 | r,[]=>skipC false r=r.length
 | r,a :: l=>tokR (r.drop (skipC false r))=some (a.k,a.x.length)∧(r.drop (skipC false r)).take a.x.length=a.x∧a.x.length≤40∧Runs ((r.drop (skipC false r)).drop a.x.length) l
theorem scanP_runs:∀ (f:Nat) (pre l:List Tok) (o:Nat) (r:Bs),r.length < f→scanP f pre o r = .toks l→∃ ts,l=pre++ts∧Runs r (ts.map Tok.kt)
 | 0,_,_,_,_,h,_=>absurd h (Nat.not_lt_zero _)
 | f+1,pre,l,o,r,hf,h=>by
  unfold scanP at h
  have hle:=skipC_le false r
  rcases scanS_inv h with ⟨e,rfl⟩ | ⟨k,n,h0,ht,h6,h4,hs⟩
  ·refine ⟨[],by simp,?_⟩
   have:=congrArg List.length e
   simp at this
   show skipC false r=r.length
   omega
  ·have hn:=tokR_lt ht
   obtain ⟨ts,hl,hr⟩:=scanP_runs f _ l _ _ (by rw [List.length_drop,List.length_drop] at *;omega) hs
   refine ⟨⟨k,(r.drop (skipC false r)).take n,o+skipC false r⟩ :: ts,by rw [hl,List.append_assoc];rfl,?_⟩
   have hlen:((r.drop (skipC false r)).take n).length=n:=by rw [List.length_take];omega
   show tokR _=some (k,((r.drop (skipC false r)).take n).length)∧_
   refine ⟨by rw [hlen];exact ht,by show (r.drop (skipC false r)).take ((r.drop (skipC false r)).take n).length=_;rw [hlen];rfl,by show ((r.drop (skipC false r)).take n).length≤40;omega,?_⟩
   show Runs ((r.drop (skipC false r)).drop ((r.drop (skipC false r)).take n).length) _
   rw [hlen];exact hr
theorem runs_scanP:∀ (l:List KT) (f:Nat) (pre:List Tok) (o:Nat) (r:Bs),r.length < f→pre.length+l.length≤6000→Runs r l→∃ ts,scanP f pre o r = .toks (pre++ts)∧ts.map Tok.kt=l
 | [],0,_,_,_,h,_,_=>absurd h (Nat.not_lt_zero _)
 | _ :: _,0,_,_,_,h,_,_=>absurd h (Nat.not_lt_zero _)
 | [],f+1,pre,o,r,_,_,h=>by
  have h':skipC false r=r.length:=h
  refine ⟨[],?_,rfl⟩
  unfold scanP scanS
  rw [if_pos (by rw [h'];exact List.drop_of_length_le (Nat.le_refl _)),List.append_nil]
 | a :: l,f+1,pre,o,r,hf,h6,h=>by
  obtain ⟨ht,hx,h4,hr⟩:=h
  have hn:=tokR_lt ht
  have hne:r.drop (skipC false r)≠[]:=by intro e;rw [e] at ht;simp [tokR] at ht
  obtain ⟨ts,hs,hm⟩:=runs_scanP l f (pre++[⟨a.k,(r.drop (skipC false r)).take a.x.length,o+skipC false r⟩]) (o+skipC false r+a.x.length) _ (by rw [List.length_drop,List.length_drop] at *;omega) (by simp only [List.length_append,List.length_cons,List.length_nil] at h6 ⊢;omega) hr
  refine ⟨⟨a.k,(r.drop (skipC false r)).take a.x.length,o+skipC false r⟩ :: ts,?_,?_⟩
  ·unfold scanP
   rw [scanS_step hne ht (by simp only [List.length_cons] at h6;omega) (by omega),hs,List.append_assoc]
   rfl
  ·rw [List.map_cons,hm,hx];rfl
theorem scan_runs {r:Bs} {ts:List Tok} (h:scan r = .toks ts):Runs r (ts.map Tok.kt)∧r.length≤20000:=by
 rw [scan_rel] at h
 split at h
 ·cases h
 ·obtain ⟨ts',he,hr⟩:=scanP_runs _ _ _ _ _ (by omega) h
  rw [List.nil_append] at he
  subst he
  exact ⟨hr,by omega⟩
theorem runs_scan {r:Bs} {l:List KT} (h:Runs r l) (h2:r.length≤20000) (h6:l.length≤6000):∃ ts,scan r = .toks ts∧ts.map Tok.kt=l:=by
 rw [scan_rel,if_neg (by omega)]
 obtain ⟨ts,hs,hm⟩:=runs_scanP l (r.length+1) [] 0 r (by omega) (by simpa using h6) h
 exact ⟨ts,by simpa using hs,hm⟩
theorem tokR_alone {r:Bs} {k n:Nat} (h:tokR r=some (k,n)) (h64:r[n]?≠some 64):tokR (r.take n)=some (k,n):=by
 have hn:=tokR_lt h
 have hlen:(r.take n).length=n:=by rw [List.length_take];omega
 cases hd:r.drop n with
 | nil =>
  have:n=r.length:=by have:=congrArg List.length hd;simp at this;omega
  subst this
  rw [List.take_of_length_le (Nat.le_refl _)];exact h
 | cons c y =>
  have e:r=r.take n++c :: y:=by rw [←hd,List.take_append_drop]
  have hc:r[n]?=some c:=by
   have:(r.drop n)[0]?=some c:=by rw [hd];rfl
   rw [List.getElem?_drop] at this
   simpa using this
  have:=(tokR_stop (r.take n) c y k (by rintro rfl;exact h64 hc)).1 (by rw [←e,hlen];exact h)
  rw [hlen] at this
  exact this.1
theorem runs_head:∀ (l:List KT) (r:Bs),Runs r l→r[0]?≠some 64
 | [],r,h=>by
  intro e
  cases r with
  | nil=>simp at e
  | cons c r =>
   simp at e
   subst e
   have:skipC false (64 :: r)=0:=rfl
   have h':skipC false (64 :: r)=(64 :: r).length:=h
   rw [this] at h'
   simp at h'
 | a :: l,r,h=>by
  intro e
  cases r with
  | nil=>simp at e
  | cons c r =>
   simp at e
   subst e
   have hs:skipC false (64 :: r)=0:=rfl
   have h1:=h.1
   rw [hs,List.drop_zero] at h1
   obtain ⟨a',w,he,_,h3⟩:=tokR_cons h1
   simp at he
   exact h3 he.1.symm
theorem runs_tok:∀ (l:List KT) (r:Bs),Runs r l→∀ a∈l,IsTok a
 | [],_,_,_,h=>absurd h List.not_mem_nil
 | b :: l,r,h,a,ha=>by
  rcases List.mem_cons.1 ha with rfl | ha
  ·refine ⟨?_,h.2.2.1⟩
   have:=tokR_alone h.1 (by have:=runs_head _ _ h.2.2.2;rwa [List.getElem?_drop] at this)
   rw [h.2.1] at this
   exact this
  ·exact runs_tok l _ h.2.2.2 a ha
def G:List (Bool×KT)→Bs
 | []=>[]
 | (g,a) :: l=>(if g then [32] else [])++(a.x++G l)
theorem skip_tok {a:KT} (h:IsTok a) (y:Bs):skipC false (a.x++y)=0:=by
 obtain ⟨c,w,he,hc,_⟩:=tokR_cons h.1
 rw [he,List.cons_append]
 simp only [skipC]
 rw [if_neg (by rw [hc.1];simp),if_neg hc.2]
theorem skip_gap (g:Bool) {a:KT} (h:IsTok a) (y:Bs):skipC false ((if g then [32] else [])++(a.x++y))=(if g then 1 else 0):=by
 cases g
 ·exact skip_tok h y
 ·show skipC false (32 :: (a.x++y))=1
  simp only [skipC]
  rw [if_pos (by decide),skip_tok h y]
theorem drop_gap (g:Bool) (y:Bs):((if g then [32] else [])++y:Bs).drop (if g then 1 else 0)=y:=by cases g <;> rfl
def glued (a b:KT):Bool:=decide (tokR (a.x++b.x)=some (a.k,a.x.length))
theorem glued_iff {a b:KT} (hb:IsTok b) (y:Bs):tokR (a.x++(b.x++y))=some (a.k,a.x.length)↔glued a b=true:=by
 obtain ⟨c,w,he,hc,h64⟩:=tokR_cons hb.1
 unfold glued
 rw [decide_eq_true_eq,he,List.cons_append,tokR_stop _ _ _ _ h64,tokR_stop _ _ _ _ h64]
def Fits:List (Bool×KT)→Prop
 | (_,a) :: (g,b) :: l=>(g=false→glued a b=true)∧Fits ((g,b) :: l)
 | _=>True
theorem G_runs:∀ l:List (Bool×KT),(∀ a∈l,IsTok a.2)→Fits l→Runs (G l) (l.map (·.2))
 | [],_,_=>rfl
 | (g,a) :: l,h,hf=>by
  have ha:IsTok a:=h _ List.mem_cons_self
  have hrest:Runs (G l) (l.map (·.2)):=by
   refine G_runs l (fun b hb=>h b (List.mem_cons_of_mem _ hb)) ?_
   cases l with
   | nil=>trivial
   | cons b l=>obtain ⟨g',b⟩:=b;exact hf.2
  show Runs ((if g then [32] else [])++(a.x++G l)) (a :: l.map (·.2))
  unfold Runs
  rw [skip_gap g ha,drop_gap]
  refine ⟨?_,List.take_left,ha.2,by rw [List.drop_left];exact hrest⟩
  cases l with
  | nil=>simpa [G] using ha.1
  | cons b l =>
   obtain ⟨g',b⟩:=b
   have hb:IsTok b:=h _ (List.mem_cons_of_mem _ List.mem_cons_self)
   cases g'
   ·show tokR (a.x++(b.x++G l))=_
    exact (glued_iff hb _).2 (hf.1 rfl)
   ·exact tokR_space ha.1 _
theorem runs_fits:∀ l:List (Bool×KT),(∀ a∈l,IsTok a.2)→Runs (G l) (l.map (·.2))→Fits l
 | [],_,_=>trivial
 | [_],_,_=>trivial
 | (g,a) :: (g',b) :: l,h,hr=>by
  have ha:IsTok a:=h _ List.mem_cons_self
  have hb:IsTok b:=h _ (List.mem_cons_of_mem _ List.mem_cons_self)
  have hr':Runs ((if g then [32] else [])++(a.x++G ((g',b) :: l))) (a :: ((g',b) :: l).map (·.2)):=hr
  unfold Runs at hr'
  rw [skip_gap g ha,drop_gap] at hr'
  obtain ⟨h1,_,_,h4⟩:=hr'
  rw [List.drop_left] at h4
  refine ⟨?_,runs_fits _ (fun c hc=>h c (List.mem_cons_of_mem _ hc)) h4⟩
  rintro rfl
  exact (glued_iff hb _).1 h1
def gaps (sep:KT→KT→Bool):Option KT→List KT→List (Bool×KT)
 | _,[]=>[]
 | none,a :: l=>(false,a) :: gaps sep (some a) l
 | some p,a :: l=>(sep p a,a) :: gaps sep (some a) l
theorem gaps_snd (sep:KT→KT→Bool):∀ (p:Option KT) (l:List KT),(gaps sep p l).map (·.2)=l
 | none,[]=>rfl
 | some _,[]=>rfl
 | none,a :: l=>by simp only [gaps,List.map_cons,gaps_snd sep (some a) l]
 | some p,a :: l=>by simp only [gaps,List.map_cons,gaps_snd sep (some a) l]
theorem gaps_fits (sep:KT→KT→Bool) (h:∀ a b,sep a b=false→glued a b=true):∀ (p:Option KT) (l:List KT),Fits (gaps sep p l)
 | none,[]=>trivial
 | some _,[]=>trivial
 | none,[_]=>trivial
 | some _,[_]=>trivial
 | none,a :: b :: l=>⟨h a b,gaps_fits sep h (some a) (b :: l)⟩
 | some _,a :: b :: l=>⟨h a b,gaps_fits sep h (some a) (b :: l)⟩
def tightK (a b:KT):Bool:=!glued a b
def joinK (_ _:KT):Bool:=true
theorem gaps_runs (sep:KT→KT→Bool) (h:∀ a b,sep a b=false→glued a b=true) (l:List KT) (ht:∀ a∈l,IsTok a):Runs (G (gaps sep none l)) l:=by
 have:=G_runs (gaps sep none l) (fun a ha=>ht _ (by rw [←gaps_snd sep none l];exact List.mem_map_of_mem ha)) (gaps_fits sep h none l)
 rwa [gaps_snd] at this
end Lx
end Go.Proofs.YtcimcjmdkjajfaaGreatDoor
namespace Go.Proofs.YtcimcjmdkjajfaaGreatDoor
open Go.RowKit
def noAT:AT:=⟨0,⟨#[]⟩,0⟩
def gapB (sep:AT→AT→Bool) (l:List AT) (k:Nat):Bool:=decide (0 < k) && sep (l.getD (k - 1) noAT) (l.getD k noAT)
def outK (sep:AT→AT→Bool) (l:List AT):Nat→Lx.Bs
 | 0=>[]
 | k+1=>(outK sep l k++(if gapB sep l k then [32] else []))++bs (l.getD k noAT).t
def wroteB (sep:AT→AT→Bool) (l:List AT):Lx.Bs :=
 if 6000 < l.length then [] else if l.all checkB then (if 20000 < (outK sep l l.length).length then [] else outK sep l l.length) else []
theorem getD_in {l:List AT} {k:Nat} (h:k < l.length):l.getD k noAT=l[k]:=by simp [List.getD,List.getElem?_eq_getElem h]
theorem checkB_size {a:AT} (h:checkB a=true):a.t.size≤20000:=by
 unfold checkB scansB at h
 unfold Lx.scan at h
 rw [bs_len] at h
 by_cases hb:20000 < a.t.size
 ·rw [if_pos hb] at h;simp at h
 ·omega
theorem outK_len (sep:AT→AT→Bool) (l:List AT) (k:Nat) (hk:k≤l.length) (h:∀ i,(hi:i < l.length)→i < k→checkB l[i]=true):(outK sep l k).length≤k*20001:=by
 induction k with
 | zero=>simp [outK]
 | succ k ih =>
  have h1:=ih (by omega) fun i hi hik=>h i hi (by omega)
  have h2:=checkB_size (h k (by omega) (by omega))
  have e:l.getD k noAT=l[k]:=getD_in (by omega)
  simp only [outK,List.length_append,e,bs_len]
  split <;> simp <;> omega
theorem byteCells_append (a b:Lx.Bs):Lib.byteCells (a++b)=Lib.byteCells a++Lib.byteCells b:=List.map_append
def tightB (a b:AT):Bool:=!scansB (a.t++b.t) [a,b]
def joinB (l:List AT):Lx.Bs:=wroteB (fun _ _=>true) l
end Go.Proofs.YtcimcjmdkjajfaaGreatDoor
namespace Go.Proofs.YtcimcjmdkjajfaaGreatDoor
open Go.RowKit
def kt (a:AT):Lx.KT:=⟨a.k.toNat,bs a.t⟩
theorem kt_of (t:Lx.Tok):kt (ofTok t)=t.kt:=by
 unfold kt ofTok Lx.Tok.kt
 simp only [Int.toNat_natCast]
 rfl
theorem kt_map (ts:List Lx.Tok):(ts.map ofTok).map kt=ts.map Lx.Tok.kt:=by
 rw [List.map_map]
 exact List.map_congr_left fun t _=>kt_of t
theorem text_eq (a b:ByteArray):a.toList=b.toList↔bs a=bs b:=by
 rw [ByteArray.toList_eq,ByteArray.toList_eq];rfl
theorem sameB_iff:∀ (l m:List AT),sameB l m=true↔(l.map fun a=>(a.k,bs a.t))=m.map fun a=>(a.k,bs a.t)
 | [],[]=>by simp [sameB]
 | [],b :: m=>by simp [sameB]
 | a :: l,[]=>by simp [sameB]
 | a :: l,b :: m=>by
  simp only [sameB,List.map_cons,List.cons.injEq,Prod.mk.injEq,Bool.and_eq_true,sameB_iff l m,text_eq,beq_iff_eq]
theorem sameB_kt (l m:List AT) (h:sameB l m=true):l.map kt=m.map kt:=by
 have:=(sameB_iff l m).1 h
 have h2:=congrArg (List.map fun p:Int×Lx.Bs=>(⟨p.1.toNat,p.2⟩:Lx.KT)) this
 rw [List.map_map,List.map_map] at h2
 exact h2
theorem sameB_ts (ts:List Lx.Tok) (m:List AT):sameB (ts.map ofTok) m=true↔(ts.map Lx.Tok.kt=m.map kt∧∀ a∈m,0≤a.k):=by
 constructor
 ·intro h
  refine ⟨by rw [←kt_map];exact sameB_kt _ _ h,?_⟩
  have h1:=(sameB_iff _ _).1 h
  intro a ha
  have:(a.k,bs a.t)∈(ts.map ofTok).map fun a=>(a.k,bs a.t):=by rw [h1];exact List.mem_map_of_mem (f:=fun a:AT=>(a.k,bs a.t)) ha
  rw [List.map_map] at this
  obtain ⟨t,_,e⟩:=List.mem_map.1 this
  simp only [Function.comp,Prod.mk.injEq] at e
  rw [←e.1]
  exact Int.natCast_nonneg _
 ·rintro ⟨h1,h2⟩
  rw [sameB_iff]
  have h3:=congrArg (List.map fun p:Lx.KT=>((p.k:Int),p.x)) h1
  rw [List.map_map,List.map_map] at h3
  rw [List.map_map]
  refine h3.trans (List.map_congr_left fun a ha=>?_)
  simp only [Function.comp,kt,Prod.mk.injEq,and_true]
  exact Int.toNat_of_nonneg (h2 a ha)
theorem scansB_iff (s:ByteArray) (m:List AT):scansB s m=true↔∃ ts,Lx.scan (bs s) = .toks ts∧ts.map Lx.Tok.kt=m.map kt∧∀ a∈m,0≤a.k:=by
 unfold scansB
 cases Lx.scan (bs s) with
 | bad p e=>simp
 | toks ts=>simp only [sameB_ts,Lx.Res.toks.injEq,exists_eq_left']
theorem scansB_runs (s:ByteArray) (m:List AT) (h2:s.size≤20000) (h6:m.length≤6000) (h0:∀ a∈m,0≤a.k):scansB s m=true↔Lx.Runs (bs s) (m.map kt):=by
 rw [scansB_iff]
 constructor
 ·rintro ⟨ts,h,hm,_⟩
  rw [←hm];exact (Lx.scan_runs h).1
 ·intro h
  obtain ⟨ts,hs,hm⟩:=Lx.runs_scan h (by rw [bs_len];exact h2) (by simpa using h6)
  exact ⟨ts,hs,hm,h0⟩
theorem checkB_iff (a:AT):checkB a=true↔(0≤a.k∧Lx.IsTok (kt a)):=by
 unfold checkB
 constructor
 ·intro h
  obtain ⟨ts,hs,hm,h0⟩:=(scansB_iff _ _).1 h
  refine ⟨h0 a List.mem_cons_self,?_⟩
  have:=(Lx.scan_runs hs).1
  rw [hm] at this
  exact Lx.runs_tok _ _ this _ List.mem_cons_self
 ·rintro ⟨h0,ht⟩
  refine (scansB_runs a.t [a] ?_ (by simp) (by intro b hb;rw [List.mem_singleton] at hb;subst hb;exact h0)).2 ?_
  ·have:=ht.2
   have h2:(kt a).x.length=a.t.size:=bs_len a.t
   omega
  ·have:=Lx.G_runs [(false,kt a)] (by intro b hb;rw [List.mem_singleton] at hb;subst hb;exact ht) trivial
   simpa [Lx.G,kt] using this
theorem tightB_iff (a b:AT) (ha:checkB a=true) (hb:checkB b=true):tightB a b=Lx.tightK (kt a) (kt b):=by
 obtain ⟨ha0,ha⟩:=(checkB_iff a).1 ha
 obtain ⟨hb0,hb⟩:=(checkB_iff b).1 hb
 have hl:(kt a).x.length=a.t.size:=bs_len a.t
 have hl2:(kt b).x.length=b.t.size:=bs_len b.t
 have happ:bs (a.t++b.t)=(kt a).x++((kt b).x++[]):=by
  rw [List.append_nil]
  show (a.t++b.t).data.toList=a.t.data.toList++b.t.data.toList
  rw [ByteArray.data_append,Array.toList_append]
 unfold tightB Lx.tightK
 congr 1
 rw [Bool.eq_iff_iff,scansB_runs _ _ (by rw [ByteArray.size_append];have:=ha.2;have:=hb.2;omega) (by simp) (by
  intro c hc
  simp only [List.mem_cons,List.not_mem_nil,or_false] at hc
  rcases hc with rfl | rfl <;> assumption),happ]
 have hts:∀ c∈[(false,kt a),(false,kt b)],Lx.IsTok c.2:=by
  intro c hc
  simp only [List.mem_cons,List.not_mem_nil,or_false] at hc
  rcases hc with rfl | rfl <;> assumption
 constructor
 ·intro h
  exact (Lx.runs_fits [(false,kt a),(false,kt b)] hts h).1 rfl
 ·intro h
  exact Lx.G_runs [(false,kt a),(false,kt b)] hts ⟨fun _=>h,trivial⟩
theorem G_append:∀ (x y:List (Bool×Lx.KT)),Lx.G (x++y)=Lx.G x++Lx.G y
 | [],_=>rfl
 | (g,a) :: x,y=>by rw [List.cons_append];simp only [Lx.G];rw [G_append x y,List.append_assoc,List.append_assoc]
theorem gaps_snoc (sep:Lx.KT→Lx.KT→Bool):∀ (p:Option Lx.KT) (l:List Lx.KT) (b:Lx.KT),Lx.gaps sep p (l++[b])=Lx.gaps sep p l++[(match (l.getLast?).or p with | none=>false | some q=>sep q b,b)]
 | none,[],b=>rfl
 | some p,[],b=>rfl
 | none,a :: l,b=>by
  simp only [List.cons_append,Lx.gaps,gaps_snoc sep (some a) l b,List.getLast?_cons]
  cases l.getLast? <;> rfl
 | some p,a :: l,b=>by
  simp only [List.cons_append,Lx.gaps,gaps_snoc sep (some a) l b,List.getLast?_cons]
  cases l.getLast? <;> rfl
theorem outK_G (sep:AT→AT→Bool) (sepK:Lx.KT→Lx.KT→Bool) (l:List AT) (hl:∀ a∈l,checkB a=true) (hs:∀ a b,checkB a=true→checkB b=true→sep a b=sepK (kt a) (kt b)) :
  ∀ k,k≤l.length→outK sep l k=Lx.G (Lx.gaps sepK none ((l.take k).map kt)):=by
 intro k
 induction k with
 | zero=>intro _;rfl
 | succ k ih =>
  intro hk
  have hlt:k < l.length:=by omega
  simp only [outK]
  rw [ih (by omega),getD_in hlt,List.take_succ_eq_append_getElem hlt,List.map_append,List.map_cons,List.map_nil,gaps_snoc,G_append,List.append_assoc]
  congr 1
  simp only [Lx.G,List.append_nil]
  have hg:gapB sep l k=(match (((l.take k).map kt).getLast?).or none with | none=>false | some q=>sepK q (kt l[k])):=by
   unfold gapB
   cases k with
   | zero=>rfl
   | succ m =>
    have hm:m < l.length:=by omega
    rw [List.take_succ_eq_append_getElem hm,List.map_append,List.map_cons,List.map_nil,List.getLast?_concat,getD_in hlt,Nat.add_sub_cancel,getD_in hm]
    simp only [Nat.zero_lt_succ,decide_true,Bool.true_and]
    exact hs _ _ (hl _ (List.getElem_mem _)) (hl _ (List.getElem_mem _))
  rw [hg]
  rfl
theorem wroteB_G (sep:AT→AT→Bool) (sepK:Lx.KT→Lx.KT→Bool) (l:List AT) (hl:∀ a∈l,checkB a=true) (h6:l.length≤6000) (hs:∀ a b,checkB a=true→checkB b=true→sep a b=sepK (kt a) (kt b)) :
  wroteB sep l=if 20000 < (Lx.G (Lx.gaps sepK none (l.map kt))).length then [] else Lx.G (Lx.gaps sepK none (l.map kt)):=by
 unfold wroteB
 rw [if_neg (by omega),if_pos (List.all_eq_true.2 hl),outK_G sep sepK l hl hs l.length (Nat.le_refl _),List.take_of_length_le (Nat.le_refl _)]
theorem ofTok_check {t:Lx.Tok} (h:Lx.IsTok t.kt):checkB (ofTok t)=true:=by
 rw [checkB_iff,kt_of];exact ⟨Int.natCast_nonneg _,h⟩
def jG (ts:List Lx.Tok):Lx.Bs:=Lx.G (Lx.gaps Lx.joinK none (ts.map Lx.Tok.kt))
theorem scan_isTok {r:Lx.Bs} {ts:List Lx.Tok} (h:Lx.scan r = .toks ts):∀ a∈ts.map Lx.Tok.kt,Lx.IsTok a:=Lx.runs_tok _ _ (Lx.scan_runs h).1
end Go.Proofs.YtcimcjmdkjajfaaGreatDoor
namespace Go.Proofs.YtcimcjmdkjajfaaGreatDoor
open Go.RowKit
theorem kt_at {us ts:List Lx.Tok} (p:Nat) (h:(us[p]?).map Lx.Tok.kt=(ts[p]?).map Lx.Tok.kt):Sx.txt us p=Sx.txt ts p∧Sx.knd us p=Sx.knd ts p:=by
 unfold Sx.txt Sx.knd
 cases h1:us[p]? with
 | none =>
  cases h2:ts[p]? with
  | none=>exact ⟨rfl,rfl⟩
  | some t=>rw [h1,h2] at h;cases h
 | some u =>
  cases h2:ts[p]? with
  | none=>rw [h1,h2] at h;cases h
  | some t =>
   rw [h1,h2] at h
   simp only [Option.map_some,Option.some.injEq,Lx.Tok.kt,Lx.KT.mk.injEq] at h
   exact ⟨h.2,h.1⟩
theorem less_of {us ts:List Lx.Tok} (hne:ts≠[]) (hk:us.map Lx.Tok.kt=ts.dropLast.map Lx.Tok.kt):Sx.Less ts us us.length:=by
 have hl:us.length=ts.length - 1:=by
  have:=congrArg List.length hk
  simpa using this
 have hp:0 < ts.length:=List.length_pos_iff.2 hne
 refine ⟨fun p h=>kt_at p ?_,fun p h=>?_,fun p h=>?_,by omega,rfl⟩
 ·have h1:(us.map Lx.Tok.kt)[p]?=(ts.dropLast.map Lx.Tok.kt)[p]?:=by rw [hk]
  rw [List.getElem?_map,List.getElem?_map,List.dropLast_eq_take,List.getElem?_take_of_lt (by omega)] at h1
  exact h1
 ·unfold Sx.txt;rw [List.getElem?_eq_none h]
 ·unfold Sx.knd;rw [List.getElem?_eq_none h]
theorem parse_ends {a:Lx.Bs} {what:Int} {ts:List Lx.Tok} (hs:Lx.scan a = .toks ts) (h0:(parseP a what).2.2=0) (hne:ts≠[]) {s:Lx.Bs} {us:List Lx.Tok} (hu:Lx.scan s = .toks us)
  (hk:us.map Lx.Tok.kt=ts.dropLast.map Lx.Tok.kt):(∃ m,parseP s what=(some m,0,0))∨parseP s what=(none,s.length,20):=by
 have L:=less_of hne hk
 have hL:=L.len
 unfold parseP at h0
 rw [hs] at h0
 simp only at h0
 cases hw:Sx.whole ts (Sx.fuel ts) what with
 | bad q=>rw [hw] at h0;cases h0
 | ok nd q =>
  have hq:=whole_le hw
  rw [hw] at h0
  simp only at h0
  by_cases hlt:q < ts.length
  ·rw [if_pos hlt] at h0;cases h0
  rw [if_neg hlt] at h0
  have hc:chkT nd=0:=by
   by_cases hc:chkT nd=0
   ·exact hc
   ·rw [if_neg hc] at h0;exact absurd h0 hc
  obtain rfl:q=us.length+1:=by omega
  rcases Sx.whole_cut L what hw with h | ⟨m,h,c⟩
  ·right
   unfold parseP
   rw [hu]
   simp only [h]
   unfold posT
   rw [List.getElem?_eq_none (Nat.le_refl _)]
  ·left
   refine ⟨m,?_⟩
   have hcn:chkN nd=0:=by rw [←chkT_cast,hc];rfl
   have hm:chkT m=0:=by unfold chkT;rw [c.chk hcn];rfl
   unfold parseP
   rw [hu]
   simp only [h,Nat.lt_irrefl,if_false,hm,if_true]
theorem parse_empty (what:Int) (hw:what=1∨what=18∨what=17∨what=31):(∃ m,parseP [] what=(some m,0,0))∨parseP [] what=(none,0,20):=by
 have hs:Lx.scan [] = .toks []:=rfl
 rcases hw with rfl | rfl | rfl | rfl
 ·left
  refine ⟨.mk 1 Sx.noS [],?_⟩
  have hi:Sx.items [] (Sx.fuel []) [] 0 = .ok [] 0:=rfl
  unfold parseP
  rw [hs]
  simp only [whole_text,hi]
  rw [if_neg (by decide),if_pos (by rw [chkT_text];rfl)]
 ·right
  have hi:Sx.whole [] (Sx.fuel []) 18 = .bad 0:=by kernel_rfl
  unfold parseP
  rw [hs]
  simp only [hi]
  rfl
 ·right
  have hi:Sx.whole [] (Sx.fuel []) 17 = .bad 0:=by kernel_rfl
  unfold parseP
  rw [hs]
  simp only [hi]
  rfl
 ·right
  have hi:Sx.whole [] (Sx.fuel []) 31 = .bad 0:=by kernel_rfl
  unfold parseP
  rw [hs]
  simp only [hi]
  rfl
theorem joinB_any (l:List Lx.Tok) (ht:∀ a∈l.map Lx.Tok.kt,Lx.IsTok a) (h6:l.length≤6000):joinB (l.map ofTok)=if 20000 < (jG l).length then [] else jG l:=by
 unfold joinB
 rw [wroteB_G (fun _ _=>true) Lx.joinK (l.map ofTok) (fun a ha=>by
  obtain ⟨t,h1,rfl⟩:=List.mem_map.1 ha
  exact ofTok_check (ht _ (List.mem_map.2 ⟨t,h1,rfl⟩))) (by simpa using h6) (fun _ _ _ _=>rfl),kt_map]
 rfl
theorem jG_scan (l:List Lx.Tok) (ht:∀ a∈l.map Lx.Tok.kt,Lx.IsTok a) (h6:l.length≤6000) (h2:(jG l).length≤20000):∃ us,Lx.scan (jG l) = .toks us∧us.map Lx.Tok.kt=l.map Lx.Tok.kt :=
 Lx.runs_scan (Lx.gaps_runs Lx.joinK (fun _ _ h=>by cases h) _ ht) h2 (by simpa using h6)
theorem parse_less {a:Lx.Bs} {what:Int} (hw:what=1∨what=18∨what=17∨what=31) {ts:List Lx.Tok} (hs:Lx.scan a = .toks ts) (h0:(parseP a what).2.2=0) (hne:ts≠[]) :
  (∃ m,parseP (joinB (ts.dropLast.map ofTok)) what=(some m,0,0))∨parseP (joinB (ts.dropLast.map ofTok)) what=(none,(joinB (ts.dropLast.map ofTok)).length,20):=by
 have ht:∀ b∈ts.dropLast.map Lx.Tok.kt,Lx.IsTok b:=fun b hb=>scan_isTok hs b (by
  obtain ⟨t,h1,rfl⟩:=List.mem_map.1 hb
  exact List.mem_map.2 ⟨t,List.dropLast_subset _ h1,rfl⟩)
 have h6:ts.dropLast.length≤6000:=by have:=scan_len hs;simp;omega
 rw [joinB_any _ ht h6]
 by_cases hb:20000 < (jG ts.dropLast).length
 ·rw [if_pos hb]
  exact parse_empty what hw
 ·rw [if_neg hb]
  obtain ⟨us,hu,hk⟩:=jG_scan _ ht h6 (by omega)
  exact parse_ends hs h0 hne hu hk
end Go.Proofs.YtcimcjmdkjajfaaGreatDoor
namespace Go.Proofs.YtcimcjmdkjajfaaGreatDoor
open Go.RowKit
def RScanOut (s:ByteArray) (w:World) (e:Ending) (w':World):Prop :=
 Below w.heap.size w w'∧match Lx.scan (bs s) with
  | .toks l=>∃ v,e = .returned (.agg #[v,.int .i64 0,.int .i64 0])∧Toks w.heap.size v l w'
  | .bad i er=>e = .returned (.agg #[.slice none 0 0,.int .i64 i,.int .i64 er])
theorem tokAt_kind {l:Lx.Bs} {i k j:Nat} (h:Lx.tokAt l i=some (k,j)):k=1∨k=2∨k=3∨k=4:=by
 unfold Lx.tokAt at h
 split at h
 ·cases h
 ·split at h
  ·simp only at h
   split at h
   ·cases h;simp
   ·split at h <;> (cases h;simp)
  ·split at h
   ·cases h;simp
   ·split at h
    ·cases h;simp
    ·split at h
     ·cases h;simp
     ·cases h
set_option maxRecDepth 100000 in
set_option maxHeartbeats 400000 in
theorem rScan_big (s:ByteArray) (w:World) (hs:s.size≤maxLen) (hb:20000 < s.size):Calls Tryz.prog 52 #[.string s] w (RScanOut s w):=by
 have Hsc:Lx.scan (bs s) = .bad 0 2:=by unfold Lx.scan;rw [if_pos (by rw [bs_len];exact hb)]
 have HS:=qh Hsc;clear Hsc
 unfold maxLen at hs
 have hb':(20000:Int) < (s.size:Int):=by omega
 go_enter Tryz.func52,Tryz.ntmps52
 go_wp2
 refine bodyPost_ret (v:=.agg #[.slice none 0 0,.int .i64 0,.int .i64 2]) (by simp [results,Tryz.results52,go_sem]) rfl ⟨?_,?_⟩
 ·exact (Below.refl _ w).alloc (Nat.le_refl _) _
 ·rw [HS.out];rfl
theorem below_set3 {h:Nat} {w w':World} (hb:Below h w w') (a b c:Value):Below h w (((w'.setCell ⟨h,0,none⟩ a).setCell ⟨h,1,none⟩ b).setCell ⟨h,2,none⟩ c) :=
 ((hb.setCell (p:=⟨h,0,none⟩) (Nat.le_refl _) a).setCell (p:=⟨h,1,none⟩) (Nat.le_refl _) b).setCell (p:=⟨h,2,none⟩) (Nat.le_refl _) c
theorem set3_heap {h k:Nat} {w:World} (hk:k≠h) (a b c:Value):(((w.setCell ⟨h,0,none⟩ a).setCell ⟨h,1,none⟩ b).setCell ⟨h,2,none⟩ c).heap[k]?=w.heap[k]? :=
 (Below.heap_setCell _ _ _ _ hk).trans ((Below.heap_setCell _ _ _ _ hk).trans (Below.heap_setCell _ _ _ _ hk))
set_option maxRecDepth 100000 in
set_option maxHeartbeats 4000000 in
theorem rScan_small (s:ByteArray) (w:World) (hs:s.size≤20000):Calls Tryz.prog 52 #[.string s] w (RScanOut s w):=by
 have hb':¬ ((20000:Int) < (s.size:Int)):=by omega
 have Hsc:Hid (Lx.scan (bs s)=Lx.scanT (bs s) (s.size+1) [] (Lx.skipTo (bs s) 0)):=qh (by
  unfold Lx.scan;rw [if_neg (by rw [bs_len];omega),bs_len])
 obtain ⟨i0,hi0,hz0,hz1,hz2⟩:=info_parts infoTok
 obtain ⟨Rs,hRs⟩:∃ Rs,Lx.scan (bs s)=Rs:=⟨_,rfl⟩
 have HPost:∀ e w',(Below w.heap.size w w'∧match Rs with
  | .toks l=>∃ v,e = .returned (.agg #[v,.int .i64 0,.int .i64 0])∧Toks w.heap.size v l w'
  | .bad i er=>e = .returned (.agg #[.slice none 0 0,.int .i64 i,.int .i64 er]))→RScanOut s w e w':=by
  intro e w' h;unfold RScanOut;rw [hRs];exact h
 rw [hRs] at Hsc
 have HP:=qh HPost
 clear HPost hRs
 obtain ⟨h,hh⟩:∃ h,w.heap.size=h:=⟨_,rfl⟩
 rw [hh] at HP
 have Hh:=qh hh
 go_enter Tryz.func52,Tryz.ntmps52
 go_wp2
 go_loopw [3,4] (fun v3 v4 wr=>∃ (f:Nat) (pre:List Lx.Tok) (i:Nat),v4 = .int .i64 i∧i≤s.size∧s.size+1≤i+f∧pre.length≤6000∧Hid (Rs=Lx.scanT (bs s) f pre (Lx.skipTo (bs s) i))∧Hid (Below h w wr)∧Hid (wr.heap[h]?=some (.cells #[.slice none 0 0,.int .i64 0,.int .i64 0] 72 (0,0)))∧Hid (Toks (h+1) v3 pre wr)) (fun _ v4 _=>s.size - (intOf v4).toNat)
 case atStart =>
  refine ⟨s.size+1,[],0,rfl,Nat.zero_le _,by omega,by simp,Hsc,?_,?_,qh (World.ownsRow_nil _ _ _ _)⟩
  ·rw [←Hh.out];exact qh ((Below.refl _ w).alloc (Nat.le_refl _) _)
  ·rw [←Hh.out];exact qh (World.alloc_heap_new _ _)
 case round =>
  obtain ⟨f,pre,i,rfl,hi,hf,hpl,hsc,hbl,hrow,hown⟩:=hrel
  have hhr:h < wr.heap.size:=heap_lt hrow.out
  have r0:wr.cell? ⟨h,0,none⟩=some (.slice none 0 0):=cell_of_row _ _ _ _ _ _ hrow.out
  have r1:wr.cell? ⟨h,1,none⟩=some (.int .i64 0):=cell_of_row _ _ _ _ _ _ hrow.out
  have r2:wr.cell? ⟨h,2,none⟩=some (.int .i64 0):=cell_of_row _ _ _ _ _ _ hrow.out
  have f0:wr.frozen? ⟨h,0,none⟩=false:=frozen_of_row _ _ _ _ _ hrow.out
  have f1:wr.frozen? ⟨h,1,none⟩=false:=frozen_of_row _ _ _ _ _ hrow.out
  have f2:wr.frozen? ⟨h,2,none⟩=false:=frozen_of_row _ _ _ _ _ hrow.out
  by_cases hlt:i < s.size
  ·have hlt':(i:Int) < (s.size:Int):=by omega
   have hil:i < (bs s).length:=by rw [bs_len];exact hlt
   have hby:=byte_lt s[i]
   have hg:=bs_get hlt
   have CB:=qh (rBlank s[i] wr)
   cases hbk:Lx.blank s[i] with
   | true =>
    have hst:=Lx.skipTo_blank hil (by rw [hg];exact hbk)
    have HS:Hid (Rs=Lx.scanT (bs s) f pre (Lx.skipTo (bs s) (i+1))):=qh (by rw [hsc.out,hst])
    rw [hbk] at CB
    clear hst hbk hg hsc r0 r1 r2 f0 f1 f2
    go_wp2_with fail
    refine (CB.out).mono ?_
    clear CB
    rintro e w' ⟨rfl,rfl⟩
    go_wp2
    go_roundw
    case rel=>exact ⟨f,pre,i+1,by push_cast;rfl,by omega,by omega,hpl,HS,hbl,hrow,hown⟩
    case measure=>simp [intOf];omega
   | false =>
    rw [hbk] at CB
    by_cases h37:s[i]=37
    ·have h37':((s[i].toNat:Int)==37)=true:=by rw [h37];rfl
     have hst:=Lx.skipTo_comment hil (by rw [hg];exact congrArg UInt8.toNat h37)
     have hle:=(Lx.lineTo_le (l:=bs s) (i:=i) (by omega)).2
     rw [bs_len] at hle
     have hlo:=hst.2
     have CL:=qh (rLineEnd s i wr (by unfold maxLen;omega) (by omega))
     have HS:Hid (Rs=Lx.scanT (bs s) f pre (Lx.skipTo (bs s) (Lx.lineTo (bs s) i))):=qh (by rw [hsc.out,hst.1])
     obtain ⟨E,hE⟩:∃ E,Lx.lineTo (bs s) i=E:=⟨_,rfl⟩
     rw [hE] at hle hlo HS CL
     clear hst hE hbk hg h37 hsc r0 r1 r2 f0 f1 f2
     go_wp2_with fail
     refine (CB.out).mono ?_
     clear CB
     rintro e w' ⟨rfl,rfl⟩
     go_wp2_with fail
     refine (CL.out).mono ?_
     clear CL
     rintro e w' ⟨rfl,rfl⟩
     go_wp2
     go_roundw
     case rel=>exact ⟨f,pre,E,rfl,by omega,by omega,hpl,HS,hbl,hrow,hown⟩
     case measure=>simp [intOf];omega
    ·have h37':((s[i].toNat:Int)==37)=false:=by
      rw [beq_eq_false_iff_ne];intro e;exact h37 (by rw [←UInt8.toNat_inj];exact Int.ofNat_inj.1 e)
     have hst:Lx.skipTo (bs s) i=i:=Lx.skipTo_stop hil (by rw [hg];exact hbk) (by rw [hg];intro e;exact h37 (by rw [←UInt8.toNat_inj];exact e))
     obtain ⟨f,rfl⟩:∃ f',f=f'+1:=⟨f - 1,by omega⟩
     have CT:=qh (rToken s i wr (by omega) hlt)
     have hsc2:=hsc.out
     rw [hst] at hsc2
     simp only [Lx.scanT] at hsc2
     rw [if_neg (by omega)] at hsc2
     clear hst hbk hg h37 hsc
     cases htok:Lx.tokAt (bs s) i with
     | none =>
      rw [htok] at CT hsc2
      have HS:=qh hsc2
      unfold kindJ at CT
      clear htok hsc2
      go_wp2_with fail
      refine (CB.out).mono ?_
      clear CB
      rintro e w' ⟨rfl,rfl⟩
      go_wp2_with fail
      refine (CT.out).mono ?_
      clear CT
      rintro e w1 ⟨rfl,hb1⟩
      have HB1:=qh hb1
      have s0:=(hb1.cell (p:=⟨h,0,none⟩) hhr).trans r0
      have s1:=(hb1.cell (p:=⟨h,1,none⟩) hhr).trans r1
      have s2:=(hb1.cell (p:=⟨h,2,none⟩) hhr).trans r2
      have g0:=(hb1.frozen (p:=⟨h,0,none⟩) hhr).trans f0
      have g1:=(hb1.frozen (p:=⟨h,1,none⟩) hhr).trans f1
      have g2:=(hb1.frozen (p:=⟨h,2,none⟩) hhr).trans f2
      clear hb1 r0 r1 r2 f0 f1 f2
      go_wp2
      refine bodyPost_ret (v:=.agg #[.slice none 0 0,.int .i64 i,.int .i64 10]) (by simp [results,Tryz.results52,go_sem,s0,s1,s2]) rfl (HP.out _ _ ⟨?_,?_⟩)
      ·exact below_set3 (hbl.out.trans (HB1.out.mono (by omega:h≤wr.heap.size))) _ _ _
      ·rw [HS.out];rfl
     | some p =>
      obtain ⟨k,j⟩:=p
      rw [htok] at CT hsc2
      unfold kindJ at CT
      obtain ⟨hij,hjl⟩:=Lx.tokAt_lt htok
      rw [bs_len] at hjl
      have hk0:((k:Int)==0)=false:=by have:=tokAt_kind htok;rw [beq_eq_false_iff_ne];omega
      obtain ⟨a,cap,rfl⟩:=ownsRow_shape hown.out
      simp only at hsc2
      clear htok
      by_cases h6:pre.length=6000
      ·have h6':((pre.length:Int)==6000)=true:=by rw [h6];rfl
       rw [if_pos h6] at hsc2
       have HS:=qh hsc2
       clear hsc2 h6
       go_wp2_with fail
       refine (CB.out).mono ?_
       clear CB
       rintro e w' ⟨rfl,rfl⟩
       go_wp2_with fail
       refine (CT.out).mono ?_
       clear CT
       rintro e w1 ⟨rfl,hb1⟩
       have HB1:=qh hb1
       have s0:=(hb1.cell (p:=⟨h,0,none⟩) hhr).trans r0
       have s1:=(hb1.cell (p:=⟨h,1,none⟩) hhr).trans r1
       have s2:=(hb1.cell (p:=⟨h,2,none⟩) hhr).trans r2
       have g0:=(hb1.frozen (p:=⟨h,0,none⟩) hhr).trans f0
       have g1:=(hb1.frozen (p:=⟨h,1,none⟩) hhr).trans f1
       have g2:=(hb1.frozen (p:=⟨h,2,none⟩) hhr).trans f2
       clear hb1 r0 r1 r2 f0 f1 f2
       go_wp2
       refine bodyPost_ret (v:=.agg #[.slice none 0 0,.int .i64 i,.int .i64 2]) (by simp [results,Tryz.results52,go_sem,s0,s1,s2]) rfl (HP.out _ _ ⟨?_,?_⟩)
       ·exact below_set3 (hbl.out.trans (HB1.out.mono (by omega:h≤wr.heap.size))) _ _ _
       ·rw [HS.out];rfl
      ·have h6':((pre.length:Int)==6000)=false:=by rw [beq_eq_false_iff_ne];omega
       rw [if_neg h6] at hsc2
       by_cases h40:40 < j - i
       ·have h40':(40:Int) < (j:Int) - (i:Int):=by omega
        rw [if_pos h40] at hsc2
        have HS:=qh hsc2
        clear hsc2 h6 h40
        go_wp2_with fail
        refine (CB.out).mono ?_
        clear CB
        rintro e w' ⟨rfl,rfl⟩
        go_wp2_with fail
        refine (CT.out).mono ?_
        clear CT
        rintro e w1 ⟨rfl,hb1⟩
        have HB1:=qh hb1
        have s0:=(hb1.cell (p:=⟨h,0,none⟩) hhr).trans r0
        have s1:=(hb1.cell (p:=⟨h,1,none⟩) hhr).trans r1
        have s2:=(hb1.cell (p:=⟨h,2,none⟩) hhr).trans r2
        have g0:=(hb1.frozen (p:=⟨h,0,none⟩) hhr).trans f0
        have g1:=(hb1.frozen (p:=⟨h,1,none⟩) hhr).trans f1
        have g2:=(hb1.frozen (p:=⟨h,2,none⟩) hhr).trans f2
        clear hb1 r0 r1 r2 f0 f1 f2
        go_wp2
        refine bodyPost_ret (v:=.agg #[.slice none 0 0,.int .i64 i,.int .i64 11]) (by simp [results,Tryz.results52,go_sem,s0,s1,s2]) rfl (HP.out _ _ ⟨?_,?_⟩)
        ·exact below_set3 (hbl.out.trans (HB1.out.mono (by omega:h≤wr.heap.size))) _ _ _
        ·rw [HS.out];rfl
       ·have h40':¬ ((40:Int) < (j:Int) - (i:Int)):=by omega
        rw [if_neg h40] at hsc2
        have HS:=qh hsc2
        have hi1:(0:Int)≤(i:Int):=by omega
        have hi2:(i:Int)≤(j:Int):=by omega
        have hi3:(j:Int)≤(s.size:Int):=by omega
        have hrow0:=ownBlock_lt hown.out
        have Hrow0:=qh hrow0
        clear hsc2 r0 r1 r2 f0 f1 f2 hrow0
        go_wp2_with fail
        refine (CB.out).mono ?_
        clear CB
        rintro e w' ⟨rfl,rfl⟩
        go_wp2_with fail
        refine (CT.out).mono ?_
        clear CT
        rintro e w1 ⟨rfl,hb1⟩
        have HB1:Hid (Below h w w1):=hbl.out.trans (hb1.mono (by omega:h≤wr.heap.size))
        have Hrow1:Hid (w1.heap[h]?=some (.cells #[.slice none 0 0,.int .i64 0,.int .i64 0] 72 (0,0))):=qh ((hb1.block h hhr).trans hrow.out)
        have Hown1:Hid (w1.ownsRow (h+1) 114 3 (.slice a pre.length cap) pre.length (flat pre)):=qh (ownsRow_below' hown.out hb1)
        have hw1:h < w1.heap.size:=Nat.lt_of_lt_of_le hhr hb1.size
        clear hb1 hown hrow hbl
        go_wp2_with (at_builtin;refine wpList_append_own _ rfl _ _ 70 rfl (h+1) 114 i0 _ 3 32 Tryz.underlying70 hi0 hz0 hz1 hz2 rfl (by decide) _ _ _ rfl (Hown1.out.alloc _) ⟨w1.heap.size,0,none⟩ 1 1 [.int .i64 k,.string (s.extract i j),.int .i64 i] rfl rfl (cells3 w1 _ _ _ _ _ rfl) (by simp [Value.oneCell']) (by unfold maxLen;omega) (by omega) (by simp only [World.size_alloc];omega) ?_;intro v' w3 hown' hgrow _)
        have H1:=qh hown'
        have H2:=qh hgrow
        clear hown' hgrow
        go_wp2
        go_roundw
        case rel =>
         refine ⟨f,pre++[⟨k,Lx.slice (bs s) i j,i⟩],j,rfl,by omega,by omega,by rw [List.length_append,List.length_singleton];omega,HS,?_,?_,?_⟩
         ·exact (HB1.out.alloc (by omega) _).grown H2.out (by simp only [World.size_alloc];omega) (fun b hb=>by have:=(Hrow0.out b hb).1;omega)
         ·refine qh ((H2.out.block h (by simp only [World.size_alloc];omega) ?_).trans ((Below.heap_alloc _ _ _ hw1).trans Hrow1.out))
          intro e
          have:=(Hrow0.out h e.symm).1
          omega
         ·have ht:flat (pre++[⟨k,Lx.slice (bs s) i j,i⟩])=flat pre++[.int .i64 k,.string (s.extract i j),.int .i64 i]:=flat_snoc s pre k i j
          unfold Toks
          rw [ht,List.length_append]
          exact H1
        case measure=>simp [intOf];omega
  ·have hlt':¬ ((i:Int) < (s.size:Int)):=by omega
   have HS:Hid (Rs = .toks pre):=qh (by
    rw [hsc.out,Lx.skipTo_end (by rw [bs_len];omega)]
    cases f with
    | zero=>rfl
    | succ f=>simp only [Lx.scanT];rw [if_pos (by rw [bs_len];omega)])
   obtain ⟨a,cap,rfl⟩:=ownsRow_shape hown.out
   clear hsc
   go_wp2
   refine bodyPost_ret (v:=.agg #[.slice a pre.length cap,.int .i64 0,.int .i64 0]) (by simp [results,Tryz.results52,go_sem,r0,r1,r2]) rfl (HP.out _ _ ⟨?_,?_⟩)
   ·exact below_set3 hbl.out _ _ _
   ·rw [HS.out]
    refine ⟨_,rfl,?_⟩
    refine ownsRow_base (ownsRow_blocks hown.out fun k hk _ _=>set3_heap (by omega) _ _ _) (by omega)
theorem rScan_any (s:ByteArray) (w:World) (hs:s.size≤maxLen):Calls Tryz.prog 52 #[.string s] w (RScanOut s w):=by
 by_cases h:20000 < s.size
 ·exact rScan_big s w hs h
 ·exact rScan_small s w (by omega)
end Go.Proofs.YtcimcjmdkjajfaaGreatDoor
namespace Go.Proofs.YtcimcjmdkjajfaaGreatDoor
open Go.RowKit
theorem bs_append (a b:ByteArray):bs (a++b)=bs a++bs b:=by
 unfold bs;rw [ByteArray.data_append,Array.toList_append]
theorem apart_facts (a b:AT) (ha:checkB a=true) (hb:checkB b=true) :
  ∃ ka kb:Nat,a.k=ka∧b.k=kb∧0 < a.t.size∧a.t.size≤40∧0 < b.t.size∧b.t.size≤40∧0 < ka ∧
   Lx.tokAt (bs (a.t++b.t)) a.t.size=some (kb,a.t.size+b.t.size) ∧
   (tightB a b = !decide (Lx.tokAt (bs (a.t++b.t)) 0=some (ka,a.t.size))):=by
 obtain ⟨ha0,ha1⟩:=(checkB_iff a).1 ha
 obtain ⟨hb0,hb1⟩:=(checkB_iff b).1 hb
 have hla:(kt a).x.length=a.t.size:=bs_len a.t
 have hlb:(kt b).x.length=b.t.size:=bs_len b.t
 have h1:=ha1.1
 have h2:=hb1.1
 have l1:=Lx.tokR_lt h1
 have l2:=Lx.tokR_lt h2
 have k1:Lx.tokAt (bs a.t) 0=some ((kt a).k,a.t.size):=by
  rw [Lx.tokAt_rel,List.drop_zero]
  show (Lx.tokR (kt a).x).map _=_
  rw [h1,hla]
  simp
 have k2:=tokAt_kind k1
 refine ⟨(kt a).k,(kt b).k,(Int.toNat_of_nonneg ha0).symm,(Int.toNat_of_nonneg hb0).symm,by omega,by have:=ha1.2;omega,by omega,by have:=hb1.2;omega,by omega,?_,?_⟩
 ·rw [Lx.tokAt_rel,bs_append,List.drop_append_of_le_length (by rw [bs_len];exact Nat.le_refl _),List.drop_of_length_le (by rw [bs_len];exact Nat.le_refl _),List.nil_append]
  show (Lx.tokR (kt b).x).map _=_
  rw [h2,hlb]
  rfl
 ·rw [tightB_iff a b ha hb]
  unfold Lx.tightK
  congr 1
  rw [Bool.eq_iff_iff,decide_eq_true_eq,Lx.tokAt_rel,List.drop_zero,bs_append]
  unfold Lx.glued
  show _↔(Lx.tokR ((kt a).x++(kt b).x)).map _=_
  rw [decide_eq_true_eq,hla]
  cases Lx.tokR ((kt a).x++(kt b).x) with
  | none=>simp
  | some p=>obtain ⟨x,y⟩:=p;simp
set_option maxRecDepth 100000 in
set_option maxHeartbeats 1000000 in
theorem rApart_v (V:Bool) (a b:AT) (w:World) (ha:checkB a=true) (hb:checkB b=true) (hV:tightB a b=V) :
  Calls Tryz.prog 164 #[.agg #[.int .i64 a.k,.string a.t,.int .i64 a.p],.agg #[.int .i64 b.k,.string b.t,.int .i64 b.p]] w fun e w'=>e = .returned (.bool V)∧Below w.heap.size w w':=by
 obtain ⟨ka,kb,e1,e2,l1,l2,l3,l4,l5,f2,f1⟩:=apart_facts a b ha hb
 obtain ⟨ak,X,ap⟩:=a
 obtain ⟨bk,Y,bp⟩:=b
 simp only at e1 e2 l1 l2 l3 l4 f1 f2 ⊢
 subst e1 e2
 have hsz:(X++Y).size=X.size+Y.size:=ByteArray.size_append
 have C1:=qh (fun w=>rToken (X++Y) 0 w (by omega) (by omega))
 have C2:=qh (fun w=>rToken (X++Y) X.size w (by omega) (by omega))
 rw [f2] at C2
 unfold kindJ at C2
 simp only at C2
 have hlim:(9223372036854775807 < X.size+Y.size)=False:=eq_false (by omega)
 have hkb:((kb:Int) != (kb:Int))=false:=by simp
 have hsz2:(((X.size+Y.size:Nat):Int) != (((X++Y).size:Nat):Int))=false:=by rw [hsz];simp
 have hsz3:((X.size:Int)+(Y.size:Int) != (((X++Y).size:Nat):Int))=false:=by rw [hsz];push_cast;simp
 have hsz4:((X.size:Int)+(Y.size:Int) != (X.size:Int)+(Y.size:Int))=false:=by simp
 have hka:((0:Int) != (ka:Int))=true:=by rw [bne_iff_ne];omega
 have HV:=qh hV
 clear ha hb hV f2 hsz
 rw [f1] at HV
 clear f1
 rcases hT:Lx.tokAt (bs (X++Y)) 0 with _ | ⟨k,j⟩
 ·rw [hT] at C1 HV
  have hVt:V=true:=by rw [←HV.out];simp
  subst hVt
  unfold kindJ at C1
  simp only at C1
  clear hT HV C2
  go_enter Tryz.func164,Tryz.ntmps164
  go_wp2_with fail
  obtain ⟨h,hh⟩:∃ h,w.heap.size=h:=⟨_,rfl⟩
  have hz:((w.alloc (.cells #[.int .i64 ka,.string X,.int .i64 ap] 114)).alloc (.cells #[.int .i64 kb,.string Y,.int .i64 bp] 114)).heap.size=h+1+1:=by simp [hh]
  have rA:((w.alloc (.cells #[.int .i64 ka,.string X,.int .i64 ap] 114)).alloc (.cells #[.int .i64 kb,.string Y,.int .i64 bp] 114)).heap[h]?=some (.cells #[.int .i64 ka,.string X,.int .i64 ap] 114 (0,0)):=by
   rw [←hh];exact (Below.heap_alloc _ _ _ (by simp)).trans (World.alloc_heap_new _ _)
  have rB:((w.alloc (.cells #[.int .i64 ka,.string X,.int .i64 ap] 114)).alloc (.cells #[.int .i64 kb,.string Y,.int .i64 bp] 114)).heap[h+1]?=some (.cells #[.int .i64 kb,.string Y,.int .i64 bp] 114 (0,0)):=by
   have:=World.alloc_heap_new (w.alloc (.cells #[.int .i64 ka,.string X,.int .i64 ap] 114)) (.cells #[.int .i64 kb,.string Y,.int .i64 bp] 114)
   rw [World.size_alloc,hh] at this
   exact this
  have B0:Below h w ((w.alloc (.cells #[.int .i64 ka,.string X,.int .i64 ap] 114)).alloc (.cells #[.int .i64 kb,.string Y,.int .i64 bp] 114)):=by
   rw [←hh];exact ((Below.refl _ w).alloc (Nat.le_refl _) _).alloc (by simp) _
  refine (C1.out _).mono ?_
  rintro e w1 ⟨rfl,hb1⟩
  rw [hh]
  rw [hz] at hb1
  have HH:=qh hh
  have HB1:Hid (Below h w w1):=qh (B0.trans (hb1.mono (by omega)))
  clear hh
  have sA:=(hb1.block h (by omega)).trans rA
  have sB:=(hb1.block (h+1) (by omega)).trans rB
  have SB:=qh sB
  have hz1:=hb1.size
  rw [hz] at hz1
  have a0:w1.cell? ⟨h,0,none⟩=some (.int .i64 ka):=cell_of_row _ _ _ _ _ _ sA
  have a1:w1.cell? ⟨h,1,none⟩=some (.string X):=cell_of_row _ _ _ _ _ _ sA
  clear rA rB B0 hz hb1 sA sB C1
  go_wp2
  go_ret
  exact ⟨rfl,by rw [HH.out];exact HB1.out⟩
 ·rw [hT] at C1 HV
  unfold kindJ at C1
  simp only at C1
  clear hT
  by_cases hk:k=ka
  ·subst hk
   by_cases hj:j=X.size
   ·subst hj
    have hVt:V=false:=by rw [←HV.out];simp
    subst hVt
    have hj2:((X.size:Int) != (X.size:Int))=false:=by simp
    clear HV
    go_enter Tryz.func164,Tryz.ntmps164
    go_wp2_with fail
    obtain ⟨h,hh⟩:∃ h,w.heap.size=h:=⟨_,rfl⟩
    have hz:((w.alloc (.cells #[.int .i64 k,.string X,.int .i64 ap] 114)).alloc (.cells #[.int .i64 kb,.string Y,.int .i64 bp] 114)).heap.size=h+1+1:=by simp [hh]
    have rA:((w.alloc (.cells #[.int .i64 k,.string X,.int .i64 ap] 114)).alloc (.cells #[.int .i64 kb,.string Y,.int .i64 bp] 114)).heap[h]?=some (.cells #[.int .i64 k,.string X,.int .i64 ap] 114 (0,0)):=by
     rw [←hh];exact (Below.heap_alloc _ _ _ (by simp)).trans (World.alloc_heap_new _ _)
    have rB:((w.alloc (.cells #[.int .i64 k,.string X,.int .i64 ap] 114)).alloc (.cells #[.int .i64 kb,.string Y,.int .i64 bp] 114)).heap[h+1]?=some (.cells #[.int .i64 kb,.string Y,.int .i64 bp] 114 (0,0)):=by
     have:=World.alloc_heap_new (w.alloc (.cells #[.int .i64 k,.string X,.int .i64 ap] 114)) (.cells #[.int .i64 kb,.string Y,.int .i64 bp] 114)
     rw [World.size_alloc,hh] at this
     exact this
    have B0:Below h w ((w.alloc (.cells #[.int .i64 k,.string X,.int .i64 ap] 114)).alloc (.cells #[.int .i64 kb,.string Y,.int .i64 bp] 114)):=by
     rw [←hh];exact ((Below.refl _ w).alloc (Nat.le_refl _) _).alloc (by simp) _
    refine (C1.out _).mono ?_
    rintro e w1 ⟨rfl,hb1⟩
    rw [hh]
    rw [hz] at hb1
    have HH:=qh hh
    have HB1:Hid (Below h w w1):=qh (B0.trans (hb1.mono (by omega)))
    clear hh
    have sA:=(hb1.block h (by omega)).trans rA
    have sB:=(hb1.block (h+1) (by omega)).trans rB
    have SB:=qh sB
    have hz1:=hb1.size
    rw [hz] at hz1
    have a0:w1.cell? ⟨h,0,none⟩=some (.int .i64 k):=cell_of_row _ _ _ _ _ _ sA
    have a1:w1.cell? ⟨h,1,none⟩=some (.string X):=cell_of_row _ _ _ _ _ _ sA
    clear rA rB B0 hz hb1 sA sB C1
    go_wp2_with fail
    refine (C2.out _).mono ?_
    rintro e w2 ⟨rfl,hb2⟩
    have HB2:Hid (Below h w w2):=qh (HB1.out.trans (hb2.mono (by omega)))
    have b0:w2.cell? ⟨h+1,0,none⟩=some (.int .i64 kb):=cell_of_row _ _ _ _ _ _ ((hb2.block (h+1) (by omega)).trans SB.out)
    clear hb2 C2 a0 a1
    go_wp2
    go_ret
    exact ⟨rfl,by rw [HH.out];exact HB2.out⟩
   ·have hVt:V=true:=by rw [←HV.out];simp [hj]
    subst hVt
    have hj2:((j:Int) != (X.size:Int))=true:=by rw [bne_iff_ne];omega
    clear HV C2
    go_enter Tryz.func164,Tryz.ntmps164
    go_wp2_with fail
    obtain ⟨h,hh⟩:∃ h,w.heap.size=h:=⟨_,rfl⟩
    have hz:((w.alloc (.cells #[.int .i64 k,.string X,.int .i64 ap] 114)).alloc (.cells #[.int .i64 kb,.string Y,.int .i64 bp] 114)).heap.size=h+1+1:=by simp [hh]
    have rA:((w.alloc (.cells #[.int .i64 k,.string X,.int .i64 ap] 114)).alloc (.cells #[.int .i64 kb,.string Y,.int .i64 bp] 114)).heap[h]?=some (.cells #[.int .i64 k,.string X,.int .i64 ap] 114 (0,0)):=by
     rw [←hh];exact (Below.heap_alloc _ _ _ (by simp)).trans (World.alloc_heap_new _ _)
    have rB:((w.alloc (.cells #[.int .i64 k,.string X,.int .i64 ap] 114)).alloc (.cells #[.int .i64 kb,.string Y,.int .i64 bp] 114)).heap[h+1]?=some (.cells #[.int .i64 kb,.string Y,.int .i64 bp] 114 (0,0)):=by
     have:=World.alloc_heap_new (w.alloc (.cells #[.int .i64 k,.string X,.int .i64 ap] 114)) (.cells #[.int .i64 kb,.string Y,.int .i64 bp] 114)
     rw [World.size_alloc,hh] at this
     exact this
    have B0:Below h w ((w.alloc (.cells #[.int .i64 k,.string X,.int .i64 ap] 114)).alloc (.cells #[.int .i64 kb,.string Y,.int .i64 bp] 114)):=by
     rw [←hh];exact ((Below.refl _ w).alloc (Nat.le_refl _) _).alloc (by simp) _
    refine (C1.out _).mono ?_
    rintro e w1 ⟨rfl,hb1⟩
    rw [hh]
    rw [hz] at hb1
    have HH:=qh hh
    have HB1:Hid (Below h w w1):=qh (B0.trans (hb1.mono (by omega)))
    clear hh
    have sA:=(hb1.block h (by omega)).trans rA
    have sB:=(hb1.block (h+1) (by omega)).trans rB
    have SB:=qh sB
    have hz1:=hb1.size
    rw [hz] at hz1
    have a0:w1.cell? ⟨h,0,none⟩=some (.int .i64 k):=cell_of_row _ _ _ _ _ _ sA
    have a1:w1.cell? ⟨h,1,none⟩=some (.string X):=cell_of_row _ _ _ _ _ _ sA
    clear rA rB B0 hz hb1 sA sB C1
    go_wp2
    go_ret
    exact ⟨rfl,by rw [HH.out];exact HB1.out⟩
  ·have hVt:V=true:=by rw [←HV.out];simp [hk]
   subst hVt
   have hk2:((k:Int) != (ka:Int))=true:=by rw [bne_iff_ne];omega
   clear HV C2
   go_enter Tryz.func164,Tryz.ntmps164
   go_wp2_with fail
   obtain ⟨h,hh⟩:∃ h,w.heap.size=h:=⟨_,rfl⟩
   have hz:((w.alloc (.cells #[.int .i64 ka,.string X,.int .i64 ap] 114)).alloc (.cells #[.int .i64 kb,.string Y,.int .i64 bp] 114)).heap.size=h+1+1:=by simp [hh]
   have rA:((w.alloc (.cells #[.int .i64 ka,.string X,.int .i64 ap] 114)).alloc (.cells #[.int .i64 kb,.string Y,.int .i64 bp] 114)).heap[h]?=some (.cells #[.int .i64 ka,.string X,.int .i64 ap] 114 (0,0)):=by
    rw [←hh];exact (Below.heap_alloc _ _ _ (by simp)).trans (World.alloc_heap_new _ _)
   have rB:((w.alloc (.cells #[.int .i64 ka,.string X,.int .i64 ap] 114)).alloc (.cells #[.int .i64 kb,.string Y,.int .i64 bp] 114)).heap[h+1]?=some (.cells #[.int .i64 kb,.string Y,.int .i64 bp] 114 (0,0)):=by
    have:=World.alloc_heap_new (w.alloc (.cells #[.int .i64 ka,.string X,.int .i64 ap] 114)) (.cells #[.int .i64 kb,.string Y,.int .i64 bp] 114)
    rw [World.size_alloc,hh] at this
    exact this
   have B0:Below h w ((w.alloc (.cells #[.int .i64 ka,.string X,.int .i64 ap] 114)).alloc (.cells #[.int .i64 kb,.string Y,.int .i64 bp] 114)):=by
    rw [←hh];exact ((Below.refl _ w).alloc (Nat.le_refl _) _).alloc (by simp) _
   refine (C1.out _).mono ?_
   rintro e w1 ⟨rfl,hb1⟩
   rw [hh]
   rw [hz] at hb1
   have HH:=qh hh
   have HB1:Hid (Below h w w1):=qh (B0.trans (hb1.mono (by omega)))
   clear hh
   have sA:=(hb1.block h (by omega)).trans rA
   have sB:=(hb1.block (h+1) (by omega)).trans rB
   have SB:=qh sB
   have hz1:=hb1.size
   rw [hz] at hz1
   have a0:w1.cell? ⟨h,0,none⟩=some (.int .i64 ka):=cell_of_row _ _ _ _ _ _ sA
   have a1:w1.cell? ⟨h,1,none⟩=some (.string X):=cell_of_row _ _ _ _ _ _ sA
   clear rA rB B0 hz hb1 sA sB C1
   go_wp2
   go_ret
   exact ⟨rfl,by rw [HH.out];exact HB1.out⟩
end Go.Proofs.YtcimcjmdkjajfaaGreatDoor
namespace Go.Proofs.YtcimcjmdkjajfaaGreatDoor
open Go.RowKit
theorem byte_row (l:Lx.Bs) (j:Nat) (h:j < l.length):(Lib.byteCells l)[j]?=some (.int .u8 (l[j].toNat:Int)):=by
 unfold Lib.byteCells
 rw [List.getElem?_map,List.getElem?_eq_getElem h];rfl
set_option maxRecDepth 100000 in
set_option maxHeartbeats 2000000 in
theorem rWritten (all:Bool) (sep:AT→AT→Bool) (hsep:∀ a b,checkB a=true→checkB b=true→sep a b=(all || tightB a b))
  (v:Value) (l:List AT) (w:World) (hv:TokSl w v l) (hm:l.length≤maxLen) :
  Calls Tryz.prog 109 #[v,.bool all] w fun e w'=>e = .returned (.string ⟨(wroteB sep l).toArray⟩)∧Below w.heap.size w w':=by
 obtain ⟨a,ca,rfl,hca⟩:=hv
 unfold maxLen at hm
 by_cases h6:6000 < l.length
 ·have h6':(6000:Int) < (l.length:Int):=by omega
  have HS:=qh (show wroteB sep l=[] from if_pos h6)
  clear hca
  go_enter Tryz.func109,Tryz.ntmps109
  go_wp2
  go_ret
  exact ⟨by rw [HS.out];rfl,Below.refl _ _⟩
 have h6':¬ ((6000:Int) < (l.length:Int)):=by omega
 obtain ⟨i0,hi0,hz0,hz1,hz2⟩:=info_parts infoByte
 have Hsep:=qh hsep
 clear hsep
 go_enter Tryz.func109,Tryz.ntmps109
 go_wp2
 go_loopw [5,6] (fun v5 v6 wr=>∃ k:Nat,k≤l.length∧v6 = .int .i64 k∧Hid (∀ i,(hi:i < l.length)→i < k→checkB l[i]=true)∧Hid (wr.ownsRow w.heap.size 5 1 v5 (outK sep l k).length (Lib.byteCells (outK sep l k)))∧Hid (Below w.heap.size w wr)) (fun _ v6 _=>l.length - (intOf v6).toNat)
 case atStart =>
  exact ⟨0,Nat.zero_le _,rfl,qh (fun i _ h=>absurd h (Nat.not_lt_zero _)),qh (World.ownsRow_nil _ _ _ _),Below.refl _ w⟩
 case round =>
  obtain ⟨k,hk,rfl,hall,hown,hbl⟩:=hrel
  have hsz:=hbl.out.size
  obtain ⟨oa,oc,rfl⟩:=ownsRow_shape hown.out
  by_cases hlt:k < l.length
  ·obtain ⟨ba,oa',rfl,hA⟩:=hca (by rintro rfl;simp at hlt)
   clear hca
   obtain ⟨x0,x1,x2⟩:=(hA k hlt).below hbl.out
   have n0:=block_lt_of_cell x0
   simp only at n0
   have HA:=qh hA
   clear hA
   have Hout:=qh (show outK sep l (k+1)=(outK sep l k++(if gapB sep l k then [32] else []))++bs l[k].t from by simp only [outK];rw [getD_in hlt])
   have HLen:=qh (outK_len sep l k hk hall.out)
   obtain ⟨A,hAk⟩:∃ A,l[k]=A:=⟨_,rfl⟩
   rw [hAk] at x0 x1 x2 Hout
   have HAk:=qh hAk
   clear hAk
   have C:=qh (fun w=>rCheck_v (checkB A) A w rfl)
   cases hc:checkB A with
   | false =>
    rw [hc] at C
    have HR:Hid (wroteB sep l=[]):=by
     refine (if_neg h6).trans (if_neg ?_)
     intro h
     have:=List.all_eq_true.1 h A (by rw [←HAk.out];exact List.getElem_mem _)
     rw [hc] at this
     cases this
    clear hc
    go_wp2_with fail
    refine (C.out _).mono ?_
    clear C
    rintro e w1 ⟨rfl,hb1⟩
    have Hb1:=qh hb1
    clear hb1
    go_wp2
    go_ret
    exact ⟨by rw [HR.out];rfl,hbl.out.trans (Hb1.out.mono hsz)⟩
   | true =>
    rw [hc] at C
    have HC:=qh hc
    have HAs:=checkB_size hc
    clear hc
    go_wp2_with fail
    refine (C.out _).mono ?_
    clear C
    rintro e w1 ⟨rfl,hb1⟩
    have Hb1:Hid (Below w.heap.size w w1):=hbl.out.trans (hb1.mono hsz)
    have Ho1:Hid (w1.ownsRow w.heap.size 5 1 (.slice oa (outK sep l k).length oc) (outK sep l k).length (Lib.byteCells (outK sep l k))):=qh (ownsRow_below' hown.out hb1)
    have hs1:=hb1.size
    clear hb1 x0 x1 x2 hown
    obtain ⟨G,hG⟩:∃ G,gapB sep l k=G:=⟨_,rfl⟩
    have HG:=qh hG
    rw [hG] at Hout
    clear hG
    go_upto_region 9 with fail
    go_cut [38] (fun v wx=>v = .bool G∧Hid (Below w1.heap.size w1 wx))
    case first =>
     obtain ⟨x0,x1,x2⟩:=(HA.out k hlt).below Hb1.out
     have n0:=block_lt_of_cell x0
     simp only at n0
     rw [HAk.out] at x0 x1 x2
     by_cases h0:k=0
     ·subst h0
      have hG:G=false:=by rw [←HG.out];rfl
      subst hG
      clear HG
      go_region
      all_goals go_wp2
      all_goals go_meet
      all_goals exact ⟨by simp,(Below.refl _ _).drew⟩
     ·obtain ⟨m,rfl⟩:∃ m,k=m+1:=⟨k - 1,by omega⟩
      have hg:G=(all || tightB (l[m]'(by omega)) A):=by
       rw [←HG.out]
       unfold gapB
       rw [getD_in hlt,HAk.out,show m+1 - 1=m from rfl,getD_in (by omega)]
       simp only [Nat.zero_lt_succ,decide_true,Bool.true_and]
       exact Hsep.out _ _ (hall.out m (by omega) (by omega)) HC.out
      have hkp:(0:Int) < ((m+1:Nat):Int):=by omega
      cases all with
      | true =>
       rw [Bool.true_or] at hg
       subst hg
       clear HG
       go_region
       all_goals go_wp2
       all_goals go_meet
       all_goals exact ⟨rfl,(Below.refl _ _).drew⟩
      | false =>
       rw [Bool.false_or] at hg
       obtain ⟨y0,y1,y2⟩:=(HA.out m (by omega)).below Hb1.out
       have n1:=block_lt_of_cell y0
       have hcm:=hall.out m (by omega) (by omega)
       obtain ⟨P,hP⟩:∃ P,l[m]'(by omega)=P:=⟨_,rfl⟩
       rw [hP] at y0 y1 y2 hg hcm
       have C2:=qh (fun w=>rApart_v G P A w hcm HC.out hg.symm)
       clear hP hg hcm HG
       have hwr:IntKind.i64.wrap (m:Int)=m:=by rw [IntKind.wrap_i64];omega
       have hm0:(0:Int)≤(m:Int):=by omega
       have hm1:(m:Int) < (l.length:Int):=by omega
       have hk1:((m+1:Nat):Int) < (l.length:Int):=by omega
       have hq1:(0:Int) < (m:Int)+1:=by omega
       have hq2:(0:Int)≤(m:Int)+1:=by omega
       have hq3:(m:Int)+1 < (l.length:Int):=by omega
       have hq4:((m:Int)+1).toNat=m+1:=by omega
       go_still_tail 14,(by kernel_rfl)
       change wpList _ _ _ _ _ w1.drew
       go_wp2_with fail
       refine (C2.out _).mono ?_
       rintro e w' ⟨rfl,hbx⟩
       go_wp2
       go_meet
       exact ⟨rfl,((Below.refl _ w1).drew).trans hbx⟩
    case rest =>
     obtain ⟨rfl,hbc⟩:=hcut
     have HbW:Hid (Below w.heap.size w wc):=Hb1.out.trans (hbc.out.mono Hb1.out.size)
     have hzc:=HbW.out.size
     have Hoc:Hid (wc.ownsRow w.heap.size 5 1 (.slice oa (outK sep l k).length oc) (outK sep l k).length (Lib.byteCells (outK sep l k))):=qh (ownsRow_below' Ho1.out hbc.out)
     have Hall:Hid (∀ i,(hi:i < l.length)→i < k+1→checkB l[i]=true):=qh fun i hi hik=>by
      by_cases e:i=k
      ·subst e;rw [HAk.out];exact HC.out
      ·exact hall.out i hi (by omega)
     have hll:=HLen.out
     have hk6:k*20001≤6000*20001:=Nat.mul_le_mul_right _ (by omega)
     clear hall hbl hbc Ho1 HLen
     cases G
     ·rw [if_neg (by decide),List.append_nil] at Hout
      obtain ⟨x0,x1,x2⟩:=(HA.out k hlt).below HbW.out
      have n0:=block_lt_of_cell x0
      simp only at n0
      rw [HAk.out] at x1
      clear x0 x2
      go_wp2_with (at_builtin;refine Lib.wpList_append_own_string _ rfl _ _ 148 9 rfl w.heap.size 5 i0 Tryz.underlying148 Tryz.underlying9 hi0 hz0 hz1 hz2 _ _ _ rfl Hoc.out A.t rfl (by unfold maxLen;omega) (by omega) (by omega) ?_;intro v' w2 hown' hgrow _)
      have H1:=qh hown'
      have H2:=qh hgrow
      obtain ⟨q1,q2,rfl⟩:=ownsRow_shape hown'
      clear hown' hgrow x1
      go_wp2
      go_roundw
      case rel =>
       refine ⟨k+1,hlt,by push_cast;rfl,Hall,?_,qh (HbW.out.grown H2.out hzc (fun b hb=>(ownBlock_lt Hoc.out b hb).1))⟩
       rw [Hout.out,byteCells_append,List.length_append,bs_len]
       exact H1
      case measure=>simp [intOf];omega
     ·rw [if_pos rfl] at Hout
      go_upto_region 11 with (at_builtin;refine wpList_append_own _ rfl _ _ 148 rfl w.heap.size 5 i0 (.int .u8 0) 1 1 Tryz.underlying148 hi0 hz0 hz1 hz2 rfl (by decide) _ _ _ rfl (Hoc.out.alloc _) ⟨wc.heap.size,0,none⟩ 1 1 [.int .u8 32] rfl rfl (cell_one_new _ _ _) (by simp [Value.oneCell']) (by unfold maxLen;omega) (by omega) (by simp only [World.size_alloc];omega) ?_;intro v' w2 hown' hgrow _)
      have H1:=qh hown'
      have HbW2:Hid (Below w.heap.size w w2):=qh ((HbW.out.alloc hzc _).grown hgrow (by simp only [World.size_alloc];omega) (fun b hb=>(ownBlock_lt Hoc.out b hb).1))
      have hz2':=HbW2.out.size
      obtain ⟨q1,q2,rfl⟩:=ownsRow_shape hown'
      clear hown' hgrow
      obtain ⟨x0,x1,x2⟩:=(HA.out k hlt).below HbW2.out
      have n0:=block_lt_of_cell x0
      simp only at n0
      rw [HAk.out] at x1
      clear x0 x2
      go_wp2_with (at_builtin;refine Lib.wpList_append_own_string _ rfl _ _ 148 9 rfl w.heap.size 5 i0 Tryz.underlying148 Tryz.underlying9 hi0 hz0 hz1 hz2 _ _ _ rfl H1.out A.t rfl (by unfold maxLen;omega) (by omega) (by omega) ?_;intro v' w3 hown' hgrow _)
      have H3:=qh hown'
      have H4:=qh hgrow
      obtain ⟨p1,p2,rfl⟩:=ownsRow_shape hown'
      clear hown' hgrow x1
      go_wp2
      go_roundw
      case rel =>
       refine ⟨k+1,hlt,by push_cast;rfl,Hall,?_,qh (HbW2.out.grown H4.out hz2' (fun b hb=>(ownBlock_lt H1.out b hb).1))⟩
       rw [Hout.out,byteCells_append,byteCells_append,List.length_append,List.length_append,bs_len]
       exact H3
      case measure=>simp [intOf];omega
  ·have hks:k=l.length:=by omega
   subst hks
   have HA:Hid (l.all checkB=true):=List.all_eq_true.2 fun x hx=>by
    obtain ⟨i,hi,rfl⟩:=List.mem_iff_getElem.1 hx
    exact hall.out i hi hi
   have HLen:=outK_len sep l _ (Nat.le_refl _) hall.out
   obtain ⟨O,hO⟩:∃ O,outK sep l l.length=O:=⟨_,rfl⟩
   have HO:=qh hO
   rw [hO] at hown HLen
   rw [hO]
   clear hO hca hall
   by_cases hbig:20000 < O.length
   ·have hbig':(20000:Int) < (O.length:Int):=by omega
    have HR:Hid (wroteB sep l=[]):=by unfold wroteB;rw [if_neg h6,if_pos HA.out,HO.out,if_pos hbig];exact qh rfl
    clear hbig
    go_wp2
    go_ret
    exact ⟨by rw [HR.out];rfl,hbl.out⟩
   ·have hbig':¬ ((20000:Int) < (O.length:Int)):=by omega
    have HR:Hid (wroteB sep l=O):=by unfold wroteB;rw [if_neg h6,if_pos HA.out,HO.out,if_neg hbig];exact qh rfl
    rcases hown.out.2 with ⟨he,h0⟩ | ⟨g,cap',cur,he,hb,hh,r⟩
    ·simp only [Value.slice.injEq] at he
     obtain ⟨rfl,-,rfl⟩:=he
     have hO0:O=[]:=List.length_eq_zero_iff.1 h0
     subst hO0
     have hcv:=Lib.run_convert_nil_bytes (P:=Tryz.prog) wr 148 9 5 0 Tryz.underlying148 Tryz.underlying5 Tryz.underlying9
     clear h0 hbig
     go_wp2
     go_ret
     exact ⟨by rw [HR.out];rfl,hbl.out⟩
    ·simp only [Value.slice.injEq] at he
     obtain ⟨rfl,-,rfl⟩:=he
     have hcv:=run_convert_bytes_back (P:=Tryz.prog) wr 148 9 5 ⟨g,0,none⟩ oc O Tryz.underlying148 Tryz.underlying5 Tryz.underlying9 (fun j hj=>by
      have hadd:(⟨g,0,none⟩:Addr).add j=⟨g,j,none⟩:=by unfold Addr.add;split <;> simp_all
      rw [hadd,hown.out.cellAt j (by omega),byte_row O j hj])
     clear hb hh r hbig
     go_wp2
     go_ret
     exact ⟨by rw [HR.out];rfl,hbl.out⟩
set_option maxRecDepth 100000 in
set_option maxHeartbeats 400000 in
theorem rJoin (v:Value) (l:List AT) (w:World) (hv:TokSl w v l) (hm:l.length≤maxLen) :
  Calls Tryz.prog 53 #[v] w fun e w'=>e = .returned (.string ⟨(joinB l).toArray⟩)∧Below w.heap.size w w':=by
 have C:=qh (rWritten true (fun _ _=>true) (fun _ _ _ _=>rfl) v l w hv hm)
 clear hv
 go_enter Tryz.func53,Tryz.ntmps53
 go_wp2_with fail
 refine C.out.mono ?_
 clear C
 rintro e w' ⟨rfl,hb⟩
 go_wp2
 go_ret
 exact ⟨rfl,hb⟩
end Go.Proofs.YtcimcjmdkjajfaaGreatDoor
namespace Go.Proofs.YtcimcjmdkjajfaaGreatDoor
open Go.RowKit
theorem rscan_some (s:ByteArray) (w:World) (hs:s.size≤maxLen) :
  Calls Tryz.prog 52 #[.string s] w fun e w'=>(∃ a n c x y,e = .returned (.agg #[.slice a n c,.int .i64 x,.int .i64 y]))∧Below w.heap.size w w':=by
 refine (rScan_any s w hs).mono ?_
 rintro e w' ⟨hb,h⟩
 cases hsc:Lx.scan (bs s) with
 | toks l =>
  rw [hsc] at h
  obtain ⟨v,rfl,ht⟩:=h
  obtain ⟨a,c,rfl⟩:=ownsRow_shape ht
  exact ⟨⟨_,_,_,_,_,rfl⟩,hb⟩
 | bad i er =>
  rw [hsc] at h
  exact ⟨⟨_,_,_,_,_,h⟩,hb⟩
theorem rscan_toks (s:ByteArray) (ts:List Lx.Tok) (hl:Lx.scan (bs s) = .toks ts) (w:World) (hs:s.size≤maxLen) :
  Calls Tryz.prog 52 #[.string s] w fun e w'=>∃ a c,e = .returned (.agg #[.slice a ts.length c,.int .i64 0,.int .i64 0])∧ts.length≤c∧TokSl w' (.slice a ts.length c) (ts.map ofTok)∧Below w.heap.size w w':=by
 refine (rScan_any s w hs).mono ?_
 rintro e w' ⟨hb,h⟩
 rw [hl] at h
 obtain ⟨v,rfl,ht⟩:=h
 have hc:∃ a c,v = .slice a ts.length c∧ts.length≤c:=by
  rcases ht.2 with ⟨rfl,h0⟩ | ⟨g,cap,cur,rfl,_,_,h,_⟩
  ·exact ⟨none,0,by rw [h0],by omega⟩
  ·exact ⟨_,_,rfl,h⟩
 obtain ⟨a,c,rfl,h⟩:=hc
 exact ⟨a,c,rfl,h,ht.sl,hb⟩
theorem tokSl_less {w:World} {a:Option Addr} {n c c':Nat} {l:List AT} (h:TokSl w (.slice a n c) l):TokSl w (.slice a (n - 1) c') l.dropLast:=by
 obtain ⟨a',cap',he,hl⟩:=h
 simp only [Value.slice.injEq] at he
 obtain ⟨rfl,rfl,rfl⟩:=he
 refine ⟨a,c',by rw [List.length_dropLast],fun hne=>?_⟩
 obtain ⟨b,o,h1,h2⟩:=hl (by rintro rfl;exact hne rfl)
 refine ⟨b,o,h1,fun i hi=>?_⟩
 rw [List.getElem_dropLast]
 exact h2 i _
theorem joinB_short (l:List AT):(joinB l).length≤20000:=by
 unfold joinB wroteB
 repeat' split
 all_goals first
  | (simp;done)
  | omega
set_option maxRecDepth 100000 in
set_option maxHeartbeats 1000000 in
theorem ends_bad (s:ByteArray) (x i:Int) (hx:0≤x∧x < 256) (hi:x % 4=i) (w:World) (hw:2≤w.heap.size) (gl:GLw w) (hs:s.size≤140737488355328) {o:Option Nd} {p er:Nat} (hp:parseP (bs s) (askW i)=(o,p,er))
  (her:¬ er=0) :
  Calls Tryz.prog 12 #[.string s,.int .u8 x] w fun e w'=>e = .returned (.bool true)∧Below w.heap.size w w':=by
 have CS:=qh (saneS_any w hw gl)
 have hi4:i=0∨i=1∨i=2∨i=3:=by omega
 have CA:=qh (fun W hw gl=>parsed_any s i hi4 hp W hw gl (by unfold maxLen;omega))
 have CR:=qh (fun W=>rscan_some s W (by unfold maxLen;omega))
 have HG:=qh gl
 clear hp gl
 go_enter Tryz.func12,Tryz.ntmps12
 go_wp2_with fail
 refine CS.out.mono ?_
 rintro e w1 ⟨rfl,hb1⟩
 have G1:=qh (HG.out.keep fun b hb _=>hb1.block b (by omega))
 have z1:2≤w1.heap.size:=by have:=hb1.size;omega
 have B1:=qh hb1
 clear CS hb1 HG
 go_wp2_with fail
 refine (CA.out _ z1 G1.out).mono ?_
 rintro e w2 ⟨⟨k,sx,a,n,c,rfl⟩,hb2⟩
 have B2:=qh (B1.out.trans (hb2.mono B1.out.size))
 clear CA hb2 G1 B1
 go_wp2_with fail
 refine (CR.out _).mono ?_
 rintro e w3 ⟨⟨a3,n3,c3,x3,y3,rfl⟩,hb3⟩
 have B3:=qh ((B2.out.alloc B2.out.size (.cells #[.int .i64 k,.string sx,.slice a n c] 24)).trans (hb3.mono (by have:=B2.out.size;simp;omega)))
 clear CR hb3 B2
 go_wp2
 all_goals (try go_ret)
 all_goals first
  | exact ⟨rfl,B3.out.alloc B3.out.size _⟩
  | (exfalso;omega)
set_option maxRecDepth 100000 in
set_option maxHeartbeats 1000000 in
theorem ends_none (s:ByteArray) (x i:Int) (hx:0≤x∧x < 256) (hi:x % 4=i) (w:World) (hw:2≤w.heap.size) (gl:GLw w) (hs:s.size≤140737488355328) {o:Option Nd} {p:Nat} (hp:parseP (bs s) (askW i)=(o,p,0))
  (hsc:Lx.scan (bs s) = .toks []) :
  Calls Tryz.prog 12 #[.string s,.int .u8 x] w fun e w'=>e = .returned (.bool true)∧Below w.heap.size w w':=by
 have CS:=qh (saneS_any w hw gl)
 have hi4:i=0∨i=1∨i=2∨i=3:=by omega
 have CA:=qh (fun W hw gl=>parsed_any s i hi4 hp W hw gl (by unfold maxLen;omega))
 have CR:=qh (fun W=>rscan_toks s [] hsc W (by unfold maxLen;omega))
 have HG:=qh gl
 clear hp gl hsc
 simp only [List.length_nil] at CR
 go_enter Tryz.func12,Tryz.ntmps12
 go_wp2_with fail
 refine CS.out.mono ?_
 rintro e w1 ⟨rfl,hb1⟩
 have G1:=qh (HG.out.keep fun b hb _=>hb1.block b (by omega))
 have z1:2≤w1.heap.size:=by have:=hb1.size;omega
 have B1:=qh hb1
 clear CS hb1 HG
 go_wp2_with fail
 refine (CA.out _ z1 G1.out).mono ?_
 rintro e w2 ⟨⟨k,sx,a,n,c,rfl⟩,hb2⟩
 have B2:=qh (B1.out.trans (hb2.mono B1.out.size))
 clear CA hb2 G1 B1
 go_wp2_with fail
 refine (CR.out _).mono ?_
 rintro e w3 ⟨a3,c3,rfl,_,_,hb3⟩
 have B3:=qh ((B2.out.alloc B2.out.size (.cells #[.int .i64 k,.string sx,.slice a n c] 24)).trans (hb3.mono (by have:=B2.out.size;simp;omega)))
 clear CR hb3 B2
 go_wp2
 go_ret
 exact ⟨rfl,B3.out.alloc B3.out.size _⟩
set_option maxRecDepth 100000 in
set_option maxHeartbeats 2000000 in
theorem ends_some (s:ByteArray) (x i:Int) (hx:0≤x∧x < 256) (hi:x % 4=i) (w:World) (hw:2≤w.heap.size) (gl:GLw w) (hs:s.size≤140737488355328) {o:Option Nd} {p:Nat} (hp:parseP (bs s) (askW i)=(o,p,0))
  {ts:List Lx.Tok} (hsc:Lx.scan (bs s) = .toks ts) (hne:ts≠[]) :
  Calls Tryz.prog 12 #[.string s,.int .u8 x] w fun e w'=>e = .returned (.bool true)∧Below w.heap.size w w':=by
 have CS:=qh (saneS_any w hw gl)
 have hi4:i=0∨i=1∨i=2∨i=3:=by omega
 have hlen:=scan_len hsc
 have hpos:0 < ts.length:=List.length_pos_iff.2 hne
 have CA:=qh (fun W hw gl=>parsed_any s i hi4 hp W hw gl (by unfold maxLen;omega))
 have CR:=qh (fun W=>rscan_toks s ts hsc W (by unfold maxLen;omega))
 have CJ:=qh (fun v W hv=>rJoin v (ts.map ofTok).dropLast W hv (by rw [List.length_dropLast,List.length_map];unfold maxLen;omega))
 rw [←List.map_dropLast] at CJ
 obtain ⟨J,hJ⟩:∃ J:ByteArray,(⟨(joinB (ts.dropLast.map ofTok)).toArray⟩:ByteArray)=J:=⟨_,rfl⟩
 have hJb:bs J=joinB (ts.dropLast.map ofTok):=by rw [←hJ];rfl
 have hJs:J.size≤20000:=by rw [←bs_len,hJb];exact joinB_short _
 rw [hJ] at CJ
 have hq:=parse_less (askW_in i) hsc (by rw [hp]) hne
 rw [←hJb] at hq
 have HG:=qh gl
 clear hp gl hsc hJ hJb
 go_enter Tryz.func12,Tryz.ntmps12
 go_wp2_with fail
 refine CS.out.mono ?_
 rintro e w1 ⟨rfl,hb1⟩
 have G1:=qh (HG.out.keep fun b hb _=>hb1.block b (by omega))
 have z1:2≤w1.heap.size:=by have:=hb1.size;omega
 have B1:=qh hb1
 clear CS hb1 HG
 go_wp2_with fail
 refine (CA.out _ z1 G1.out).mono ?_
 rintro e w2 ⟨⟨k,sx,a,n,c,rfl⟩,hb2⟩
 have hb2':=hb2.alloc hb2.size (.cells #[.int .i64 k,.string sx,.slice a n c] 24)
 have G2:=qh (G1.out.keep fun b hb _=>hb2'.block b (by omega))
 have z2:=Nat.le_trans z1 hb2'.size
 have B2:=qh (B1.out.trans (hb2'.mono B1.out.size))
 clear CA hb2 hb2' G1 B1
 go_wp2_with fail
 refine (CR.out _).mono ?_
 rintro e w3 ⟨a3,c3,rfl,hc3,ht3,hb3⟩
 have hb3':=hb3.alloc hb3.size (.cells #[.slice a3 ts.length c3,.int .i64 0,.int .i64 0] 72)
 have G3:=qh (G2.out.keep fun b hb _=>hb3'.block b (by omega))
 have z3:=Nat.le_trans z2 hb3'.size
 have B3:=qh (B2.out.trans (hb3'.mono B2.out.size))
 have T3:=qh (ht3.below ((Below.refl _ w3).alloc (Nat.le_refl _) (.cells #[.slice a3 ts.length c3,.int .i64 0,.int .i64 0] 72)))
 clear CR hb3 hb3' G2 B2 ht3
 obtain ⟨n3,hn3⟩:∃ n3,ts.length=n3:=⟨_,rfl⟩
 rw [hn3] at T3 G3 z3 B3 hc3 hpos hlen ⊢
 have e1:((n3:Int)==0)=false:=by rw [beq_eq_false_iff_ne];omega
 rw [bs_len] at hq
 have CP:Hid (∃ (o2:Option Nd) (p2 er2:Nat),((p2=0∧er2=0)∨(p2=J.size∧er2=20))∧∀ W:World,2≤W.heap.size→GLw W→Calls Tryz.prog 51 #[.string J,.int .i64 i] W fun e w'=>NodeAny e (p2:Nat) (er2:Nat)∧Below W.heap.size W w'):=qh (by
  rcases hq with ⟨m,hq⟩ | hq
  ·exact ⟨some m,0,0,.inl ⟨rfl,rfl⟩,fun W hw gl=>parsed_any J i hi4 hq W hw gl (by unfold maxLen;omega)⟩
  ·exact ⟨none,J.size,20,.inr ⟨rfl,rfl⟩,fun W hw gl=>parsed_any J i hi4 hq W hw gl (by unfold maxLen;omega)⟩)
 clear hq
 have T4:Hid (TokSl (w3.alloc (.cells #[.slice a3 n3 c3,.int .i64 0,.int .i64 0] 72)) (.slice a3 (n3 - 1) c3) (ts.dropLast.map ofTok)):=qh (by
  rw [List.map_dropLast]
  exact tokSl_less T3.out)
 clear T3
 go_wp2_with fail
 refine (CJ.out _ _ T4.out).mono ?_
 rintro e w4 ⟨rfl,hb4⟩
 have G4:=qh (G3.out.keep fun b hb _=>hb4.block b (by omega))
 have z4:=Nat.le_trans z3 hb4.size
 have B4:=qh (B3.out.trans (hb4.mono B3.out.size))
 clear CJ hb4 G3 B3 T4
 obtain ⟨o2,p2,er2,hpe,CQ⟩:=CP.out
 have CQ:=qh CQ
 clear CP
 go_wp2_with fail
 refine (CQ.out _ z4 G4.out).mono ?_
 rintro e w5 ⟨⟨k',sx',a',n',c',rfl⟩,hb5⟩
 have B5:=qh (B4.out.trans (hb5.mono B4.out.size))
 clear CQ hb5 G4 B4
 rcases hpe with ⟨rfl,rfl⟩ | ⟨rfl,rfl⟩
 ·go_wp2
  go_ret
  exact ⟨rfl,B5.out.alloc B5.out.size _⟩
 ·go_wp2
  go_ret
  exact ⟨rfl,B5.out.alloc B5.out.size _⟩
theorem ends_any (s:ByteArray) (x:Int) (hx:0≤x∧x < 256) (w:World) (hw:2≤w.heap.size) (gl:GLw w) (hs:s.size≤140737488355328) :
  Calls Tryz.prog 12 #[.string s,.int .u8 x] w fun e w'=>e = .returned (.bool true)∧Below w.heap.size w w':=by
 rcases hp:parseP (bs s) (askW (x % 4)) with ⟨o,p,er⟩
 by_cases h1:er=0
 ·subst h1
  cases hsc:Lx.scan (bs s) with
  | bad q e =>
   have he:=scan_err hsc
   unfold parseP at hp
   rw [hsc] at hp
   simp only [Prod.mk.injEq] at hp
   omega
  | toks ts =>
   by_cases hne:ts=[]
   ·subst hne
    exact ends_none s x _ hx rfl w hw gl hs hp hsc
   ·exact ends_some s x _ hx rfl w hw gl hs hp hsc hne
 ·exact ends_bad s x _ hx rfl w hw gl hs hp h1
end Go.Proofs.YtcimcjmdkjajfaaGreatDoor
