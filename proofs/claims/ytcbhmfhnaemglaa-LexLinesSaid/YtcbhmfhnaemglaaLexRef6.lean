/- Walks of layer 1's reference: Same, and the token at an index, whatever stands there. -/
import Derived.Test.YtcbhmfhnaemglaaLexRef5
namespace Go.Proofs.Ytcbhmfhnaemglaa
open Go.RowKit

/-- The reference's token, at every index within the text. -/
theorem rToken (s : ByteArray) (i : Nat) (w : World) (hs : s.size ≤ 100000) (hi : i < s.size) :
    Calls Try.prog 51 #[.string s, .int .i64 i] w fun e w' => e = .returned (kindJ (Lx.tokAt (bs s) i)) ∧ Below w.heap.size w w' := by
  cases hc : Lx.capital s[i] with
  | true => exact rToken_capital s i w hs hi hc
  | false =>
    cases hsm : Lx.small s[i] with
    | true => exact rToken_small s i w hs hi hsm
    | false => exact rToken_sign s i w hs hi hsm hc

set_option maxRecDepth 100000 in
set_option maxHeartbeats 400000 in
theorem lWords (w : World) : Calls Try.prog 26 #[] w fun e w' => e = .returned (.slice (some ⟨w.heap.size, 0, none⟩) 17 17) ∧ w' = w.alloc (.cells (wordsB.map Value.string).toArray 9) := by
  go_enter Try.func26, Try.ntmps26
  go_wp2
  go_ret
  exact ⟨rfl, rfl⟩
set_option maxRecDepth 100000 in
set_option maxHeartbeats 400000 in
theorem lSigns (w : World) : Calls Try.prog 28 #[] w fun e w' => e = .returned (.slice (some ⟨w.heap.size, 0, none⟩) 17 17) ∧ w' = w.alloc (.cells (signsB.map Value.string).toArray 9) := by
  go_enter Try.func28, Try.ntmps28
  go_wp2
  go_ret
  exact ⟨rfl, rfl⟩
end Go.Proofs.Ytcbhmfhnaemglaa
