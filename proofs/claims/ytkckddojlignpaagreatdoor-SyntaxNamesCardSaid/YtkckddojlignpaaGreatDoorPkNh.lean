/- Layer 2: SyntaxNames: the statement and its card, given the lifted walk: what the kernel settles by itself. -/
import Derived.Test.YtkckddojlignpaaGreatDoorPkNa
import Derived.Test.YtkckddojlignpaaGreatDoorRows
import Derived.Test.YtkckddojlignpaaGreatDoorTie
import Derived.Test.YtkckddojlignpaaGreatDoorCards
import Derived.ProofKit
import Derived.LaidMore
import Derived.Stop.Joined
import Derived.SevenTiedAt
set_option maxHeartbeats 20000000
set_option maxRecDepth 100000
namespace Go.Proofs.YtkckddojlignpaaGreatDoor
open Go.ChangeShapes Go.WideShapes Go.ChangeAt Go.RowKit Go.ChangeMaps
theorem q3v(hl:∀ (os:Os) (_:os.Started) (H:Type) (enc:TypeId×Value->H),ReturnsInHanded {} Tryz.checked os 5 .any (fun w args=>(Rows.syntaxNamesSpec.pre enc Tryz.prog Tryz.f5 [] false w args/\laidMetH Tryz.prog q65 w)/\sizedMet enc Tryz.prog Tryz.f5 (OpenSpec.ofChange Rows.syntaxNamesSpec) false w args)
   (Rows.syntaxNamesSpec.post enc Tryz.prog Tryz.f5 false true false false)):Rows.SyntaxNamesSaid :=
 OpenClaim.holds_of_wide 5 Tryz.f5 rfl rfl rfl rfl rfl rfl rfl ⟨rfl,rfl,rfl,rfl,rfl⟩ rfl rfl rfl rfl rfl (by as_aux_lemma=>kernel_rfl) Tryz.func5 (by as_aux_lemma=>kernel_rfl)
  (of_decide_eq_true (by as_aux_lemma=>kernel_rfl)) (by as_aux_lemma=>unfold Func.isWrapper;first|(rw[qj (by decide +kernel)];kernel_rfl)|(rw[qd (by decide +kernel)];exact⟨rfl,rfl⟩))
  (fun os started H enc _=>hl os started H enc)
theorem q4w(hh:Rows.SyntaxNamesSaid):Rows.SyntaxNamesCardSaid :=
 Claim7.holds_tied_plain_at .later [] [.data,.data] true _ true
  hh (fun _ h=>by cases h) (by as_aux_lemma=>kernel_rfl) (fun _ h=>by cases h) syntaxNames_row_tie rfl ⟨rfl,rfl⟩ (by as_aux_lemma=>kernel_rfl) rfl
  (fun f fn hf hfn=>by
   obtain rfl : f = 5 := zn ((show Tryz.prog.funcNamed "peculium/peculiumlaw02.SyntaxNames" = some 5 by kernel_rfl).symm.trans hf)|>.symm
   obtain rfl:fn=Tryz.f5:=(zn (Tryz.func5.symm.trans hfn)).symm
   exact⟨by kernel_rfl,fun j t ht=>by
    rw[Tryz.params5]at ht;have hm:t∈[25,9,9]:=by simpa using Array.mem_of_getElem? ht
    have hall:([25,9,9].all fun u=>!Tryz.prog.wantsStandIn u)=true:=by kernel_rfl
    exact(show Tryz.prog.wantsStandIn t=false by simpa using List.all_eq_true.1 hall t hm)⟩)
  (by as_aux_lemma=>kernel_rfl)
end Go.Proofs.YtkckddojlignpaaGreatDoor
