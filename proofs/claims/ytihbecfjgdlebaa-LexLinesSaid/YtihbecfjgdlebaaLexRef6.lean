/- Walks of layer 1's reference: Same, and the token at an index, whatever stands there. -/
import Derived.Test.YtihbecfjgdlebaaLexRef5
namespace Go.Proofs.Ytihbecfjgdlebaa
open Go.RowKit

/-- The reference's token, at every index within the text. -/
theorem rToken (s : ByteArray) (i : Nat) (w : World) (hs : s.size ≤ 100000) (hi : i < s.size) :
    Calls Try.prog 51 #[.string s, .int .i64 i] w fun e w' => e = .returned (kindJ (Lx.tokAt (bs s) i)) ∧ Below w.heap.size w w' := by
  cases hc : Lx.capital s[i] with
  | true => exact rToken_capital s i w hs hi hc
  | false =>
    cases hsm : Lx.small s[i] with
    | true => exact rToken_small s i w hs hi hsm
    | false => exact rToken_sign s i w hs hi hsm hc

end Go.Proofs.Ytihbecfjgdlebaa
