/- Layer 2: SyntaxNames, the given statement proved: for every tree and every two strings that can be read as finite data, where the program's two tables are laid as its text lays them: the card's tie says that they are. -/
import Derived.Test.YtkckddojlignpaaGreatDoorPkNa
import Derived.Test.YtkckddojlignpaaGreatDoorPkNg
import Derived.Test.YtkckddojlignpaaGreatDoorPkNh
import Derived.Test.YtkckddojlignpaaGreatDoorRows
import Derived.Test.YtkckddojlignpaaGreatDoorTie
import Derived.Test.YtkckddojlignpaaGreatDoorCards
import Derived.ProofKit
import Derived.LaidMore
import Derived.Stop.Joined
import Derived.SevenTiedAt
set_option maxHeartbeats 20000000
set_option maxRecDepth 100000
namespace Go.Proofs.YtkckddojlignpaaGreatDoor
open Go.ChangeShapes Go.WideShapes Go.ChangeAt Go.RowKit Go.ChangeMaps
theorem qbn(t:Nd)(fr tn:ByteArray)(w:World)(v0 v1 v2:Value)(ht:NdR w t v0 v1 v2)(hw:2<=w.heap.size)(gl:GLw w)(hfs:fr.size<=maxLen)(hts:tn.size<=maxLen) :
  Calls Tryz.prog 5 #[.agg #[v0,v1,v2],.string fr,.string tn] w fun e w'=>e = .returned (.bool true)/\Below w.heap.size w w' :=
 qk5 t fr tn (qla fr tn hts) w v0 v1 v2 ht hw gl hfs hts
abbrev qnv:Value:=.agg #[.int .i64 0,.string ⟨#[]⟩,.slice none 0 0]
theorem q53(os:Os)(started:os.Started)(H:Type)(enc:TypeId×Value->H) :
  ReturnsInHanded {} Tryz.checked os 5 .any (fun w args=>(Rows.syntaxNamesSpec.pre enc Tryz.prog Tryz.f5 [] false w args/\laidMetH Tryz.prog q65 w)/\sizedMet enc Tryz.prog Tryz.f5 (OpenSpec.ofChange Rows.syntaxNamesSpec) false w args)
   (Rows.syntaxNamesSpec.post enc Tryz.prog Tryz.f5 false true false false):=by
 refine returnsInHanded_of_change_and (C:=Tryz.checked) (X:=fun w _=>laidMetH Tryz.prog q65 w) (fun _ _ _ hh h=>h.of_heap hh) qna started (by kernel_rfl) Tryz.func5
  (ChangeSpec.witness_shaped (enc:=enc) (C:=Tryz.checked) (os:=os) (X:=fun w _=>laidMetH Tryz.prog q65 w) false (World.doorLaid Tryz.prog 400 os) #[qnv,.string ⟨#[]⟩,.string ⟨#[]⟩] 8 rfl (World.shaped_of_RefB (by kernel_rfl) (by kernel_rfl)) (by kernel_rfl) (by kernel_rfl) (by kernel_rfl) (qkm os _)) ?_
 intro W base args ds gs before hval0 hW _ _ hL _;have hval:∀ (j:Nat) t v,Tryz.f5.params[j]?=some t->args[j]?=some v->Value.okWide Tryz.prog W .any base t v:=hval0;have hW':=hW;have hlt0:=hW.lt;obtain⟨p,q,hA0,hV,rfl,_,_⟩:=hW;have hA:DataW.TrodAll enc Tryz.prog W 0 (fun _=>true) true Tryz.f5.params.toList args.toList ds p:=hA0;rw[Tryz.params5]at hA hval;have hA2:=hA;have hlt:∀ r∈p,r.block < W.heap.size:=fun r hr=>hlt0 r (List.mem_append_left _ hr)
 clear hlt0;obtain⟨v0,v1,v2,d0,d1,d2,p0,p1,p2,rfl,rfl,rfl,h0,h1,h2⟩:=trodAll_three hA;obtain⟨rfl,rfl⟩:=trodVars_none hV;obtain⟨t,t0,t1,t2,rfl,ht⟩:=qhu (hval 0 25 v0 rfl rfl) h0;obtain⟨fr,rfl,rfl,rfl,ws1⟩:=open_string Tryz.underlying9 (hval 1 9 v1 rfl rfl) h1;obtain⟨tn,rfl,rfl,rfl,ws2⟩:=open_string Tryz.underlying9 (hval 2 9 v2 rfl rfl) h2;obtain⟨gl,hz⟩:=qlj hL;clear hA0 hval0;simp only[List.append_nil]at hW';refine(qbn t fr tn W _ _ _ ht hz gl ws1 ws2).mono fun e W' ⟨he,hnx⟩=>?_
 subst he;exact⟨_,rfl,_,_,_,[],_,[],hW',trodAll_mk1 (shut_bool Tryz.underlying4 true),qiz qlq qlo qm2 (by kernel_rfl) hA2 hlt hnx (fun r hr=>by simpa using hlt r hr),rfl,hnx.frame _,fun h=>by cases h⟩
theorem syntaxNames_card:Rows.SyntaxNamesCardSaid:=q4w (q3v fun os started H enc=>q53 os started H enc)
end Go.Proofs.YtkckddojlignpaaGreatDoor
