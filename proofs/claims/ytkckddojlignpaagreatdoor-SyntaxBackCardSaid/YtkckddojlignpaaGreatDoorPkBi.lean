/- Layer 2: SyntaxBack, the given statement proved: for every tree that can be read as finite data and every width, where the listed tables are laid as its text lays them: the card's tie says that they are. -/
import Derived.Test.YtkckddojlignpaaGreatDoorPkBa
import Derived.Test.YtkckddojlignpaaGreatDoorPkBg
import Derived.Test.YtkckddojlignpaaGreatDoorPkBh
import Derived.Test.YtkckddojlignpaaGreatDoorRows
import Derived.Test.YtkckddojlignpaaGreatDoorTie
import Derived.Test.YtkckddojlignpaaGreatDoorCards
import Derived.ProofKit
import Derived.LaidMore
import Derived.Stop.Joined
import Derived.SevenTiedAt
set_option maxHeartbeats 20000000
set_option maxRecDepth 100000
namespace Go.Proofs.YtkckddojlignpaaGreatDoor
open Go.ChangeShapes Go.WideShapes Go.ChangeAt Go.RowKit Go.ChangeMaps
abbrev qhr:Value:=.agg #[.int .i64 0,.string ⟨#[]⟩,.slice none 0 0]
theorem q7j(os:Os)(started:os.Started)(H:Type)(enc:TypeId×Value->H) :
  ReturnsInHanded {} Tryz.checked os 6 .any (fun w args=>(Rows.syntaxBackSpec.pre enc Tryz.prog Tryz.f6 [] false w args/\laidMetH Tryz.prog yf w)/\sizedMet enc Tryz.prog Tryz.f6 (OpenSpec.ofChange Rows.syntaxBackSpec) false w args)
   (Rows.syntaxBackSpec.post enc Tryz.prog Tryz.f6 false true false false):=by
 refine returnsInHanded_of_change_and (C:=Tryz.checked) (X:=fun w _=>laidMetH Tryz.prog yf w) (fun _ _ _ hh h=>h.of_heap hh) qkl started (by kernel_rfl) Tryz.func6
  (ChangeSpec.witness_shaped (enc:=enc) (C:=Tryz.checked) (os:=os) (X:=fun w _=>laidMetH Tryz.prog yf w) false (World.laidAll Tryz.prog os yf) #[qhr,.int .i64 0] 8 (World.laidAll_os _ _ _) (World.shaped_of_ZipB (by kernel_rfl) (by kernel_rfl)) (by kernel_rfl) (by kernel_rfl) (by kernel_rfl) (qgr os _)) ?_
 intro W base args ds gs before hval0 hW _ _ hL _;have hval:∀ (j:Nat) t v,Tryz.f6.params[j]?=some t->args[j]?=some v->Value.okWide Tryz.prog W .any base t v:=hval0;have hW':=hW;have hlt0:=hW.lt;obtain⟨p,q,hA0,hV,rfl,_,_⟩:=hW;have hA:DataW.TrodAll enc Tryz.prog W 0 (fun _=>true) true Tryz.f6.params.toList args.toList ds p:=hA0;rw[Tryz.params6]at hA hval;have hA2:=hA;have hlt:∀ r∈p,r.block < W.heap.size:=fun r hr=>hlt0 r (List.mem_append_left _ hr)
 clear hlt0;obtain⟨v0,v1,d0,d1,p0,p1,rfl,rfl,rfl,h0,h1⟩:=trodAll_two hA;obtain⟨rfl,rfl⟩:=trodVars_none hV;obtain⟨t,t0,t1,t2,rfl,ht⟩:=qbc (hval 0 25 v0 rfl rfl) h0;obtain⟨x,rfl,rfl,rfl,wx⟩:=open_int Tryz.underlying3 (hval 1 3 v1 rfl rfl) h1
 have hx : -9223372036854775808<=x/\x<=9223372036854775807:=by
  have h:(decide ((-9223372036854775808:Int)<=x) && decide (x<=9223372036854775807))=true:=wx
  rwa [qd,qf,qf]at h
 obtain⟨gl,hz⟩:=qdl hL;clear hA0 hval0;simp only[List.append_nil]at hW';refine(qnz t x _ _ _ W ht hz gl hx).mono fun e W' ⟨he,hnx⟩=>?_
 subst he;exact⟨_,rfl,_,_,_,[],_,[],hW',trodAll_mk1 (shut_bool Tryz.underlying4 true),qbz laidAll qgb qgi (by kernel_rfl) hA2 hlt hnx (fun r hr=>by simpa using hlt r hr),rfl,hnx.frame _,fun h=>by cases h⟩
theorem syntaxBack_card:Rows.SyntaxBackCardSaid:=q67 (q60 fun os started H enc=>q7j os started H enc)
end Go.Proofs.YtkckddojlignpaaGreatDoor
