/- Layer 1: LexWrites, the given statement proved, for every two lists of tokens. -/
import Derived.Test.YtihbecfjgdlebaaRows
import Derived.Test.YtihbecfjgdlebaaLexWritesW
import Derived.Test.YtihbecfjgdlebaaLexOpen
import Derived.ProofKit
import Derived.SizedLaws
namespace Go.Proofs.Ytihbecfjgdlebaa
open Go.ChangeShapes Go.WideShapes Go.ChangeAt Go.RowKit Go.ChangeMaps

theorem ownLexWrites : ownKnob Try.prog.godebug = none := by kernel_rfl

set_option maxHeartbeats 800000 in
set_option maxRecDepth 100000 in
theorem lexWrites_lifted (os : Os) (started : os.Started) (H : Type) (enc : TypeId × Value → H) :
    ReturnsInHanded {} Try.checked os 5 .any (Rows.lexWritesSpec.pre6 enc Try.prog Try.f5 Rows.lexWritesRow.domain false) (Rows.lexWritesSpec.post enc Try.prog Try.f5 false true false false) := by
  refine returnsInHanded_of_change (C := Try.checked) ownLexWrites started (by kernel_rfl) Try.func5
    (ChangeSpec.witness6 (enc := enc) (C := Try.checked) false ⟨#[], #[.slice none 0 0, .slice none 0 0], []⟩ 8 (by kernel_rfl) (by kernel_rfl) (by kernel_rfl) (by kernel_rfl)) ?_
  intro W base args ds gs before hval0 hW _ _
  have hval : ∀ (j : Nat) t v, Try.f5.params[j]? = some t → args[j]? = some v → Value.okWide Try.prog W .any base t v := hval0
  have hW' := hW
  have hlt0 := hW.lt
  obtain ⟨p, q, hA0, hV, rfl, _, _⟩ := hW
  have hA : DataW.TrodAll enc Try.prog W 0 (fun _ => true) true Try.f5.params.toList args.toList ds p := hA0
  rw [Try.params5] at hA hval
  have hA2 := hA
  have hlt : ∀ r ∈ p, r.block < W.heap.size := fun r hr => hlt0 r (List.mem_append_left _ hr)
  clear hlt0
  obtain ⟨v0, v1, d0, d1, p0, p1, rfl, rfl, rfl, h0, h1⟩ := trodAll_two hA
  obtain ⟨rfl, rfl⟩ := trodVars_none hV
  obtain ⟨la, ta, ma, xa⟩ := open_toks (hval 0 23 v0 rfl rfl) h0
  obtain ⟨lb, tb, mb, _⟩ := open_toks (hval 1 23 v1 rfl rfl) h1
  clear hA0 hval0
  simp only [List.append_nil] at hW'
  refine (writes_any v0 v1 la lb W ta tb ma mb xa).mono fun e W' ⟨he, hnx⟩ => ?_
  subst he
  exact ⟨_, rfl, _, _, _, [], _, [], hW', trodAll_mk1 (shut_bool Try.underlying4 true), args_stay laidAll mapsAll fullAll (by kernel_rfl) hA2 hlt hnx (fun r hr => by simpa using hlt r hr), rfl, hnx.frame _, fun h => by cases h⟩

theorem lexWrites_holds : Rows.LexWritesSaid :=
  OpenClaim.holds_of_wide 5 Try.f5 rfl rfl rfl rfl rfl rfl rfl ⟨rfl, rfl, rfl, rfl, rfl⟩ rfl rfl rfl rfl rfl (by kernel_rfl) Try.func5 (by kernel_rfl)
    (of_decide_eq_true (by kernel_rfl)) (by unfold Func.isWrapper; first | (rw [if_pos (by decide +kernel)]; kernel_rfl) | (rw [if_neg (by decide +kernel)]; exact ⟨rfl, rfl⟩))
    (fun os started H enc _ => lexWrites_lifted os started H enc)
end Go.Proofs.Ytihbecfjgdlebaa
