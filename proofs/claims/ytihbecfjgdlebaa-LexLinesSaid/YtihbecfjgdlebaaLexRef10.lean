/- Walks of layer 1's reference: Check whole, IsName, IsPlain, IsVar. -/
import Derived.Test.YtihbecfjgdlebaaLexRef9
namespace Go.Proofs.Ytihbecfjgdlebaa
open Go.RowKit

theorem rCheck_v (V : Bool) (a : AT) (w : World) (hV : checkB a = V) :
    Calls Try.prog 24 #[.agg #[.int .i64 a.k, .string a.t, .int .i64 a.p]] w fun e w' => e = .returned (.int .i64 (if V then 0 else 12)) ∧ Below w.heap.size w w' := by
  rw [check_ref] at hV
  by_cases h0 : a.t.size = 0
  · have : refB a = false := by
      unfold refB
      rw [List.getElem?_eq_none (by rw [bs_len]; omega)]
    rw [this] at hV
    subst hV
    exact rCheck_empty a w h0
  · by_cases h40 : 40 < a.t.size
    · have : refB a = false := by
        unfold refB
        rw [List.getElem?_eq_getElem (by rw [bs_len]; omega)]
        simp only [decide_eq_false (show ¬ a.t.size ≤ 40 by omega), Bool.false_and]
      rw [this] at hV
      subst hV
      exact rCheck_long a w h40
    · exact rCheck_mid V a w (by omega) (by omega) hV

set_option maxRecDepth 100000 in
set_option maxHeartbeats 400000 in
theorem rIsName_v (V : Bool) (s : ByteArray) (w : World) (hV : checkB ⟨1, s, 0⟩ = V) :
    Calls Try.prog 18 #[.string s] w fun e w' => e = .returned (.bool V) ∧ Below w.heap.size w w' := by
  have C := Lib.hid (rCheck_v V ⟨1, s, 0⟩ w hV)
  clear hV
  go_enter Try.func18, Try.ntmps18
  go_wp2_with fail
  refine C.out.mono ?_
  clear C
  rintro e w1 ⟨rfl, hb⟩
  cases V
  · go_wp2
    go_ret
    exact ⟨rfl, hb⟩
  · go_wp2
    go_ret
    exact ⟨rfl, hb⟩
set_option maxRecDepth 100000 in
set_option maxHeartbeats 400000 in
theorem rIsVar_v (V : Bool) (s : ByteArray) (w : World) (hV : checkB ⟨2, s, 0⟩ = V) :
    Calls Try.prog 22 #[.string s] w fun e w' => e = .returned (.bool V) ∧ Below w.heap.size w w' := by
  have C := Lib.hid (rCheck_v V ⟨2, s, 0⟩ w hV)
  clear hV
  go_enter Try.func22, Try.ntmps22
  go_wp2_with fail
  refine C.out.mono ?_
  clear C
  rintro e w1 ⟨rfl, hb⟩
  cases V
  · go_wp2
    go_ret
    exact ⟨rfl, hb⟩
  · go_wp2
    go_ret
    exact ⟨rfl, hb⟩
end Go.Proofs.Ytihbecfjgdlebaa
