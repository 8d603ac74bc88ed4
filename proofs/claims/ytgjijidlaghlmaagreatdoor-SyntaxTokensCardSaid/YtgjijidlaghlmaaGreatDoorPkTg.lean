/- Layer 2: SyntaxTokens, the given statement proved: for every text and every number, where the program's two tables are laid as its text lays them: the card's tie says that they are. -/
import Derived.Test.YtgjijidlaghlmaaGreatDoorPkTa
import Derived.Test.YtgjijidlaghlmaaGreatDoorPkTb
import Derived.Test.YtgjijidlaghlmaaGreatDoorPkTc
import Derived.Test.YtgjijidlaghlmaaGreatDoorPkTd
import Derived.Test.YtgjijidlaghlmaaGreatDoorPkTe
import Derived.Lib.SlicesS
import Derived.OwnWalkIn
import Derived.Stop.RegionWithIn
import Derived.BigGuardIn
import Derived.Shelf.Abstract
import Derived.Deep.RegionHeld3
import Derived.Test.YtgjijidlaghlmaaGreatDoorRows
import Derived.Test.YtgjijidlaghlmaaGreatDoorChecked
import Derived.ProofKit
import Derived.LaidMore
import Derived.OpenShut
import Derived.Stop.Joined
import Derived.Test.YtgjijidlaghlmaaGreatDoorTie
import Derived.Test.YtgjijidlaghlmaaGreatDoorCards
import Derived.SizedLaws
import Derived.SevenTiedAt
import Derived.Test.YtgjijidlaghlmaaGreatDoorPkTf
namespace Go.Proofs.YtgjijidlaghlmaaGreatDoor
open Go.ChangeShapes Go.WideShapes Go.ChangeAt Go.RowKit Go.ChangeMaps
set_option maxHeartbeats 4000000 in
theorem syntaxTokens_holds:Rows.SyntaxTokensSaid :=
 OpenClaim.holds_of_wide 9 Tryz.f9 rfl rfl rfl rfl rfl rfl rfl ⟨rfl,rfl,rfl,rfl,rfl⟩ rfl rfl rfl rfl rfl (by as_aux_lemma=>kernel_rfl) Tryz.func9 (by as_aux_lemma=>kernel_rfl)
  (of_decide_eq_true (by as_aux_lemma=>kernel_rfl)) (by as_aux_lemma=>unfold Func.isWrapper;first | (rw [if_pos (by decide +kernel)];kernel_rfl) | (rw [if_neg (by decide +kernel)];exact ⟨rfl,rfl⟩))
  (fun os started H enc _=>syntaxTokens_lifted os started H enc)
set_option maxHeartbeats 4000000 in
theorem syntaxTokens_card:Rows.SyntaxTokensCardSaid :=
 Claim7.holds_tied_plain_at .later [] [.data,.data] true _ true
  syntaxTokens_holds (fun _ h=>by cases h) (by as_aux_lemma=>kernel_rfl) (fun _ h=>by cases h) syntaxTokens_row_tie rfl ⟨rfl,rfl⟩ (by as_aux_lemma=>kernel_rfl) rfl
  (fun f fn hf hfn=>by
   obtain rfl : f = 9 := Option.some.inj ((show Tryz.prog.funcNamed "peculium/peculiumlaw02.SyntaxTokens" = some 9 by kernel_rfl).symm.trans hf) |>.symm
   obtain rfl:fn=Tryz.f9:=(Option.some.inj (Tryz.func9.symm.trans hfn)).symm
   exact ⟨by kernel_rfl,fun j t ht=>by
    rw [Tryz.params9] at ht
    have hm:t∈[9,5]:=by simpa using Array.mem_of_getElem? ht
    have hall:([9,5].all fun u=>!Tryz.prog.wantsStandIn u)=true:=by kernel_rfl
    exact (show Tryz.prog.wantsStandIn t=false by simpa using List.all_eq_true.1 hall t hm)⟩)
  (by as_aux_lemma=>kernel_rfl)
end Go.Proofs.YtgjijidlaghlmaaGreatDoor
