/- Layer 2: SyntaxPlaces, the given statement proved: for every two trees and every path that can be read as finite data, where the program's two tables are laid as its text lays them: the card's tie says that they are. -/
import Derived.Test.YtcimcjmdkjajfaaGreatDoorPkPf
import Derived.Test.YtcimcjmdkjajfaaGreatDoorPkPg
import Derived.Test.YtcimcjmdkjajfaaGreatDoorPkPj
import Derived.Test.YtcimcjmdkjajfaaGreatDoorRows
import Derived.Test.YtcimcjmdkjajfaaGreatDoorTie
import Derived.Test.YtcimcjmdkjajfaaGreatDoorCards
import Derived.ProofKit
import Derived.LaidMore
import Derived.Stop.Joined
import Derived.SevenTiedAt
namespace Go.Proofs.YtcimcjmdkjajfaaGreatDoor
open Go.ChangeShapes Go.WideShapes Go.ChangeAt Go.RowKit Go.ChangeMaps
abbrev nodeY:Value:=.agg #[.int .i64 0,.string ⟨#[]⟩,.slice none 0 0]
set_option maxHeartbeats 800000 in
set_option maxRecDepth 100000 in
theorem syntaxPlaces_lifted (os:Os) (started:os.Started) (H:Type) (enc:TypeId×Value→H) :
  ReturnsInHanded {} Tryz.checked os 5 .any (fun w args=>(Rows.syntaxPlacesSpec.pre enc Tryz.prog Tryz.f5 [] false w args∧laidMetH Tryz.prog laidL w)∧sizedMet enc Tryz.prog Tryz.f5 (OpenSpec.ofChange Rows.syntaxPlacesSpec) false w args)
   (Rows.syntaxPlacesSpec.post enc Tryz.prog Tryz.f5 false true false false):=by
 refine returnsInHanded_of_change_and (C:=Tryz.checked) (X:=fun w _=>laidMetH Tryz.prog laidL w) (fun _ _ _ hh h=>h.of_heap hh) ownAll started (by kernel_rfl) Tryz.func5
  (ChangeSpec.witness_shaped (enc:=enc) (C:=Tryz.checked) (os:=os) (X:=fun w _=>laidMetH Tryz.prog laidL w) false (World.doorLaid Tryz.prog 400 os) #[nodeY,.slice none 0 0,nodeY] 8 rfl (World.shaped_of_RefB (by kernel_rfl) (by kernel_rfl)) (by kernel_rfl) (by kernel_rfl) (by kernel_rfl) (door_met os _)) ?_
 intro W base args ds gs before hval0 hW _ _ hL _
 have hval:∀ (j:Nat) t v,Tryz.f5.params[j]?=some t→args[j]?=some v→Value.okWide Tryz.prog W .any base t v:=hval0
 have hW':=hW
 have hlt0:=hW.lt
 obtain ⟨p,q,hA0,hV,rfl,_,_⟩:=hW
 have hA:DataW.TrodAll enc Tryz.prog W 0 (fun _=>true) true Tryz.f5.params.toList args.toList ds p:=hA0
 rw [Tryz.params5] at hA hval
 have hA2:=hA
 have hlt:∀ r∈p,r.block < W.heap.size:=fun r hr=>hlt0 r (List.mem_append_left _ hr)
 clear hlt0
 obtain ⟨v0,v1,v2,d0,d1,d2,p0,p1,p2,rfl,rfl,rfl,h0,h1,h2⟩:=trodAll_three hA
 obtain ⟨rfl,rfl⟩:=trodVars_none hV
 obtain ⟨t,t0,t1,t2,rfl,ht⟩:=open_tree (hval 0 24 v0 rfl rfl) h0
 obtain ⟨q,hq⟩:=open_path (hval 1 46 v1 rfl rfl) h1
 obtain ⟨u,u0,u1,u2,rfl,hu⟩:=open_tree (hval 2 24 v2 rfl rfl) h2
 obtain ⟨gl,hz⟩:=of_laid hL
 clear hA0 hval0
 simp only [List.append_nil] at hW'
 refine (places_any t u q W _ _ _ _ _ _ _ ht hq hu hz gl).mono fun e W' ⟨he,hnx⟩=>?_
 subst he
 exact ⟨_,rfl,_,_,_,[],_,[],hW',trodAll_mk1 (shut_bool Tryz.underlying4 true),args_stay laidAll mapsAll fullAll (by kernel_rfl) hA2 hlt hnx (fun r hr=>by simpa using hlt r hr),rfl,hnx.frame _,fun h=>by cases h⟩
theorem syntaxPlaces_holds:Rows.SyntaxPlacesSaid :=
 OpenClaim.holds_of_wide 5 Tryz.f5 rfl rfl rfl rfl rfl rfl rfl ⟨rfl,rfl,rfl,rfl,rfl⟩ rfl rfl rfl rfl rfl (by kernel_rfl) Tryz.func5 (by kernel_rfl)
  (of_decide_eq_true (by kernel_rfl)) (by unfold Func.isWrapper;first | (rw [if_pos (by decide +kernel)];kernel_rfl) | (rw [if_neg (by decide +kernel)];exact ⟨rfl,rfl⟩))
  (fun os started H enc _=>syntaxPlaces_lifted os started H enc)
theorem syntaxPlaces_card:Rows.SyntaxPlacesCardSaid :=
 Claim7.holds_tied_plain_at .later [] [.data,.data] true _ true
  syntaxPlaces_holds (fun _ h=>by cases h) (by kernel_rfl) (fun _ h=>by cases h) syntaxPlaces_row_tie rfl ⟨rfl,rfl⟩ (by kernel_rfl) rfl
  (fun f fn hf hfn=>by
   obtain rfl : f = 5 := Option.some.inj ((show Tryz.prog.funcNamed "peculium/peculiumlaw02.SyntaxPlaces" = some 5 by kernel_rfl).symm.trans hf) |>.symm
   obtain rfl:fn=Tryz.f5:=(Option.some.inj (Tryz.func5.symm.trans hfn)).symm
   exact ⟨by kernel_rfl,fun j t ht=>by
    rw [Tryz.params5] at ht
    have hm:t∈[24,46,24]:=by simpa using Array.mem_of_getElem? ht
    have hall:([24,46,24].all fun u=>!Tryz.prog.wantsStandIn u)=true:=by kernel_rfl
    exact (show Tryz.prog.wantsStandIn t=false by simpa using List.all_eq_true.1 hall t hm)⟩)
  (by kernel_rfl)
end Go.Proofs.YtcimcjmdkjajfaaGreatDoor
