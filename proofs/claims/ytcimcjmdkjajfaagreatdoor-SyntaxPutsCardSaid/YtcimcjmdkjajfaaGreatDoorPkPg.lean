/- A part of the proof, packed: see the last text of this claim. -/
import Derived.Test.YtcimcjmdkjajfaaGreatDoorPkPb
import Derived.Test.YtcimcjmdkjajfaaGreatDoorPkPf
import Derived.Test.YtcimcjmdkjajfaaGreatDoorRows
import Derived.Test.YtcimcjmdkjajfaaGreatDoorChecked
import Derived.ProofKit
import Derived.LaidMore
import Derived.OpenShut
import Derived.Stop.Joined
namespace Go.Proofs.YtcimcjmdkjajfaaGreatDoor
open Go.ChangeShapes Go.WideShapes Go.ChangeAt Go.RowKit
theorem cells_flat (k:Nat):∀ (L:List (List Value)) (cs:List Value),(∀ x∈L,x.length=k)→cs.length=L.length*k→(∀ i,(h:i < L.length)→(cs.drop (i*k)).take k=L[i])→cs=L.flatten
 | [],cs,_,hl,_=>by
  have:cs=[]:=List.eq_nil_of_length_eq_zero (by simpa using hl)
  rw [this]
  rfl
 | x :: L,cs,hk,hl,h=>by
  have h0:=h 0 (by simp)
  simp only [Nat.zero_mul,List.drop_zero,List.getElem_cons_zero] at h0
  have ih:=cells_flat k L (cs.drop k) (fun y hy=>hk y (by simp [hy])) (by
   rw [List.length_drop,hl,List.length_cons,Nat.succ_mul]
   omega) (fun i hi=>by
   have:=h (i+1) (by simpa using hi)
   rw [List.getElem_cons_succ] at this
   rw [List.drop_drop,←this,Nat.succ_mul,Nat.add_comm])
  rw [List.flatten_cons,←ih,←h0,List.take_append_drop]
section
variable {H:Type} {enc:TypeId×Value→H} {w:World} {base fuel:Nat} {sp:Nat→Bool} {hd:Bool} {cs:List Value} {x:DataW H×List MemPlace}
theorem lit_string {s:List UInt8} (h:DataW.trod enc Tryz.prog w base sp hd fuel 9 cs=some x) (hx:x.1 = .lit (.string s)):cs=[S_ s]:=by
 obtain ⟨s',rfl,rfl,_⟩:=DataW.trod_string Tryz.underlying9 h
 simp only [DataW.lit.injEq,Lit.string.injEq] at hx
 subst hx
 rfl
theorem lit_int {n:Int} (h:DataW.trod enc Tryz.prog w base sp hd fuel 3 cs=some x) (hx:x.1 = .lit (.int .i64 n)):cs=[.int .i64 n]:=by
 obtain ⟨m,rfl,rfl,_⟩:=DataW.trod_int Tryz.underlying3 h
 simp only [DataW.lit.injEq,Lit.int.injEq,true_and] at hx
 subst hx
 rfl
set_option maxRecDepth 100000 in
theorem open_opening {s:List UInt8} {n:Int} (h:DataW.trod enc Tryz.prog w base sp hd fuel 180 cs=some x) (hx:x.1 = .agg [.lit (.string s),.lit (.int .i64 n)]):cs=[S_ s,.int .i64 n]:=by
 obtain ⟨xs,m,_,rfl,hl,hxs,hf⟩:=DataW.trod_struct Tryz.underlying180 h
 have c:Tryz.prog.cellsOf 180=2:=by kernel_rfl
 have c9:Tryz.prog.cellsOf 9=1:=by kernel_rfl
 have c3:Tryz.prog.cellsOf 3=1:=by kernel_rfl
 rw [c] at hl
 have f0:DataW.trod enc Tryz.prog w base sp hd m 9 ((cs.drop 0).take (Tryz.prog.cellsOf 9))=xs[0]?:=hf 0 _ rfl
 have f1:DataW.trod enc Tryz.prog w base sp hd m 3 ((cs.drop 1).take (Tryz.prog.cellsOf 3))=xs[1]?:=hf 1 _ rfl
 rw [c9] at f0
 rw [c3] at f1
 match xs,hxs,hx,f0,f1 with
 | [x0,x1],_,hx,f0,f1 =>
  simp only [List.map_cons,List.map_nil,DataW.agg.injEq,List.cons.injEq,and_true] at hx
  have e0:=lit_string f0 hx.1
  have e1:=lit_int f1 hx.2
  match cs,hl,e0,e1 with
  | [a,b],_,e0,e1 =>
   simp at e0 e1
   rw [e0,e1]
set_option maxRecDepth 100000 in
theorem open_operator {s:List UInt8} {n b:Int} (h:DataW.trod enc Tryz.prog w base sp hd fuel 183 cs=some x) (hx:x.1 = .agg [.lit (.string s),.lit (.int .i64 n),.lit (.int .i64 b)]):cs=[S_ s,.int .i64 n,.int .i64 b]:=by
 obtain ⟨xs,m,_,rfl,hl,hxs,hf⟩:=DataW.trod_struct Tryz.underlying183 h
 have c:Tryz.prog.cellsOf 183=3:=by kernel_rfl
 have c9:Tryz.prog.cellsOf 9=1:=by kernel_rfl
 have c3:Tryz.prog.cellsOf 3=1:=by kernel_rfl
 rw [c] at hl
 have f0:DataW.trod enc Tryz.prog w base sp hd m 9 ((cs.drop 0).take (Tryz.prog.cellsOf 9))=xs[0]?:=hf 0 _ rfl
 have f1:DataW.trod enc Tryz.prog w base sp hd m 3 ((cs.drop 1).take (Tryz.prog.cellsOf 3))=xs[1]?:=hf 1 _ rfl
 have f2:DataW.trod enc Tryz.prog w base sp hd m 3 ((cs.drop 2).take (Tryz.prog.cellsOf 3))=xs[2]?:=hf 2 _ rfl
 rw [c9] at f0
 rw [c3] at f1 f2
 match xs,hxs,hx,f0,f1,f2 with
 | [x0,x1,x2],_,hx,f0,f1,f2 =>
  simp only [List.map_cons,List.map_nil,DataW.agg.injEq,List.cons.injEq,and_true] at hx
  have e0:=lit_string f0 hx.1
  have e1:=lit_int f1 hx.2.1
  have e2:=lit_int f2 hx.2.2
  match cs,hl,e0,e1,e2 with
  | [a,b,c],_,e0,e1,e2 =>
   simp at e0 e1 e2
   rw [e0,e1,e2]
theorem open_openings (h:DataW.trod enc Tryz.prog w base sp hd fuel 181 cs=some x) (hx:x.1 = .agg (openL.map fun o=>.agg [.lit (.string o.1),.lit (.int .i64 o.2)])):cs=openArr.toList:=by
 obtain ⟨xs,m,_,rfl,hl,hxs,hel⟩:=DataW.trod_array Tryz.underlying181 h
 have c:Tryz.prog.cellsOf 180=2:=by kernel_rfl
 have cA:Tryz.prog.cellsOf 181=40:=by kernel_rfl
 rw [cA] at hl
 simp only [DataW.agg.injEq] at hx
 have e:openArr.toList=(openL.map fun o=>[S_ o.1,Value.int .i64 o.2]).flatten:=by kernel_rfl
 have len:openL.length=20:=by kernel_rfl
 rw [e]
 refine cells_flat 2 _ cs (by intro y hy;obtain ⟨o,_,rfl⟩:=List.mem_map.1 hy;rfl) (by rw [hl,List.length_map,len]) (fun i hi=>?_)
 have hi':i < openL.length:=by simpa using hi
 have hE:=hel i (by omega)
 rw [c] at hE
 have hxi:xs[i]?=some (xs[i]'(by omega)):=List.getElem?_eq_getElem (by omega)
 rw [hxi] at hE
 rw [List.getElem_map]
 refine open_opening hE ?_
 have:=congrArg (fun l=>l[i]?) hx
 simp only [List.getElem?_map,hxi,List.getElem?_eq_getElem hi',Option.map_some,Option.some.injEq] at this
 exact this
theorem open_operators (h:DataW.trod enc Tryz.prog w base sp hd fuel 184 cs=some x) (hx:x.1 = .agg (opsL.map fun o=>.agg [.lit (.string o.1),.lit (.int .i64 o.2.1),.lit (.int .i64 (o.2.2:Nat))])):cs=opsArr.toList:=by
 obtain ⟨xs,m,_,rfl,hl,hxs,hel⟩:=DataW.trod_array Tryz.underlying184 h
 have c:Tryz.prog.cellsOf 183=3:=by kernel_rfl
 have cA:Tryz.prog.cellsOf 184=24:=by kernel_rfl
 rw [cA] at hl
 simp only [DataW.agg.injEq] at hx
 have e:opsArr.toList=(opsL.map fun o=>[S_ o.1,Value.int .i64 o.2.1,Value.int .i64 (o.2.2:Nat)]).flatten:=by kernel_rfl
 have len:opsL.length=8:=by kernel_rfl
 rw [e]
 refine cells_flat 3 _ cs (by intro y hy;obtain ⟨o,_,rfl⟩:=List.mem_map.1 hy;rfl) (by rw [hl,List.length_map,len]) (fun i hi=>?_)
 have hi':i < opsL.length:=by simpa using hi
 have hE:=hel i (by omega)
 rw [c] at hE
 have hxi:xs[i]?=some (xs[i]'(by omega)):=List.getElem?_eq_getElem (by omega)
 rw [hxi] at hE
 rw [List.getElem_map]
 refine open_operator hE ?_
 have:=congrArg (fun l=>l[i]?) hx
 simp only [List.getElem?_map,hxi,List.getElem?_eq_getElem hi',Option.map_some,Option.some.injEq] at this
 exact this
end
theorem ownAll:ownKnob Tryz.prog.godebug=none:=by kernel_rfl
theorem gOpen : Tryz.prog.globalNamed "peculium/syntax.openings" = some 0 := by kernel_rfl
theorem gOps : Tryz.prog.globalNamed "peculium/syntax.operators" = some 1 := by kernel_rfl
theorem tOpen:(Tryz.prog.globals[0]?).map (·.type)=some 181:=by kernel_rfl
theorem tOps:(Tryz.prog.globals[1]?).map (·.type)=some 184:=by kernel_rfl
def laidL : List (String × DataW Unit) := [("peculium/syntax.openings", Rows.laid_peculium_syntax_openings), ("peculium/syntax.operators", Rows.laid_peculium_syntax_operators)]
theorem row_of_var {W:World} {n:String} {g:Nat} {cs:Array Value} (hg:Tryz.prog.globalNamed n=some g) (h:W.var? Tryz.prog n=some cs):∃ t fr,W.heap[g]?=some (.cells cs t fr):=by
 simp only [World.var?,hg,Option.bind_some] at h
 split at h
 ·rename_i c t fr e
  cases h
  exact ⟨t,fr,e⟩
 ·cases h
set_option maxRecDepth 100000 in
theorem of_laid {W:World} (h:laidMetH Tryz.prog laidL W):GLw W∧2≤W.heap.size:=by
 rw [MakeChecks.laidMetH_plain _ _ _ (by kernel_rfl)] at h
 obtain ⟨ps,⟨g0,t0,cs0,f0,p0,q0,hg0,ht0,hv0,hd0,⟨g1,t1,cs1,f1,p1,q1,hg1,ht1,hv1,hd1,_,_⟩,_⟩,_,_⟩:=h
 obtain rfl:=Option.some.inj (gOpen.symm.trans hg0)
 obtain rfl:=Option.some.inj (gOps.symm.trans hg1)
 obtain rfl:=Option.some.inj (tOpen.symm.trans ht0)
 obtain rfl:=Option.some.inj (tOps.symm.trans ht1)
 have e0:=open_openings hd0 rfl
 have e1:=open_operators hd1 rfl
 obtain ⟨u0,r0,k0⟩:=row_of_var hg0 hv0
 obtain ⟨u1,r1,k1⟩:=row_of_var hg1 hv1
 rw [show cs0=openArr from Array.toList_inj.1 e0] at k0
 rw [show cs1=opsArr from Array.toList_inj.1 e1] at k1
 exact ⟨⟨⟨u0,r0,k0⟩,⟨u1,r1,k1⟩⟩,by have:=heap_lt k1;omega⟩
theorem door_met (os:Os) (args:Array Value):laidMetH Tryz.prog laidL ((World.doorLaid Tryz.prog 400 os).forCall (fun _ _=>0) ⟨#[],args,[]⟩).memory :=
 laidMetH_of_parts3 (fuel:=8) (laidMet_of_run' 8 (by kernel_rfl) (by kernel_rfl)) (by kernel_rfl) (by kernel_rfl)
end Go.Proofs.YtcimcjmdkjajfaaGreatDoor
