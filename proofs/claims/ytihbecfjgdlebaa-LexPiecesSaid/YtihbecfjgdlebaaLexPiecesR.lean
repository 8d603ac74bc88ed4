/- Layer 1: LexPieces, the given statement proved. -/
import Derived.Test.YtihbecfjgdlebaaRows
import Derived.Test.YtihbecfjgdlebaaLexPiecesV
import Derived.ProofKit
import Derived.SizedLaws
namespace Go.Proofs.Ytihbecfjgdlebaa
open Go.ChangeShapes Go.WideShapes Go.ChangeAt Go.RowKit Go.ChangeMaps

theorem lexOwn' : ownKnob Try.prog.godebug = none := by kernel_rfl

set_option maxHeartbeats 800000 in
set_option maxRecDepth 100000 in
theorem lexPieces_lifted (os : Os) (started : os.Started) (H : Type) (enc : TypeId × Value → H) :
    ReturnsInHanded {} Try.checked os 9 .any (Rows.lexPiecesSpec.pre6 enc Try.prog Try.f9 Rows.lexPiecesRow.domain false) (Rows.lexPiecesSpec.post enc Try.prog Try.f9 false true false false) := by
  refine returnsInHanded_of_change_sized (C := Try.checked) lexOwn' started (by kernel_rfl) Try.func9
    (ChangeSpec.witness6 (enc := enc) (C := Try.checked) false ⟨#[], #[.string ⟨#[]⟩, .string ⟨#[]⟩], []⟩ 8 (by kernel_rfl) (by kernel_rfl) (by kernel_rfl) (by kernel_rfl)) ?_
  intro W base args ds gs before hval0 hW _ hsz0 _
  have hval : ∀ (j : Nat) t v, Try.f9.params[j]? = some t → args[j]? = some v → Value.okWide Try.prog W .any base t v := hval0
  have hW' := hW
  obtain ⟨p, q, hA0, hV, rfl, _, _⟩ := hW
  have hA : DataW.TrodAll enc Try.prog W 0 (fun _ => true) true Try.f9.params.toList args.toList ds p := hA0
  rw [Try.params9] at hA hval
  obtain ⟨v0, v1, d0, d1, p0, p1, rfl, rfl, rfl, h0, h1⟩ := trodAll_two hA
  obtain ⟨rfl, rfl⟩ := trodVars_none hV
  obtain ⟨s, rfl, rfl, rfl, ws⟩ := open_string Try.underlying9 (hval 0 9 v0 rfl rfl) h0
  obtain ⟨b, rfl, rfl, rfl, wb⟩ := open_string Try.underlying9 (hval 1 9 v1 rfl rfl) h1
  have hsz : (DataW.weightsEach Try.prog (Try.f9.params.toList ++ Rows.lexPiecesSpec.plain.varTypes Try.prog) ([DataW.lit (.string s.data.toList), DataW.lit (.string b.data.toList)] ++ [])).all (· ≤ reachBytes) = true := hsz0
  have z0 := sized_string hsz (j := 0) (t := 9) rfl rfl
  have z1 := sized_string hsz (j := 1) (t := 9) rfl rfl
  have y0 : s.size ≤ 140737488355328 := by have h : s.data.toList.length = s.size := by simp
                                           have := reachBytes_lt; omega
  have y1 : b.size ≤ 140737488355328 := by have h : b.data.toList.length = b.size := by simp
                                           have := reachBytes_lt; omega
  clear hA0 hval0 hsz hsz0
  simp only [List.append_nil] at hW'
  refine (pieces_any s b W y0 y1).mono fun e W' ⟨he, hnx⟩ => ?_
  subst he
  exact ⟨_, rfl, _, _, _, [], _, [], hW', trodAll_mk1 (shut_bool Try.underlying4 true), trodAll_mk2 (shut_string Try.underlying9 ws) (shut_string Try.underlying9 wb), rfl, hnx.frame _, fun h => by cases h⟩

theorem lexPieces_holds : Rows.LexPiecesSaid :=
  OpenClaim.holds_of_wide 9 Try.f9 rfl rfl rfl rfl rfl rfl rfl ⟨rfl, rfl, rfl, rfl, rfl⟩ rfl rfl rfl rfl rfl (by kernel_rfl) Try.func9 (by kernel_rfl)
    (of_decide_eq_true (by kernel_rfl)) (by unfold Func.isWrapper; first | (rw [if_pos (by decide +kernel)]; kernel_rfl) | (rw [if_neg (by decide +kernel)]; exact ⟨rfl, rfl⟩))
    (fun os started H enc _ => lexPieces_lifted os started H enc)
end Go.Proofs.Ytihbecfjgdlebaa
