/- Walks of layer 1: Comments. -/
import Derived.Test.YtihbecfjgdlebaaLexColl
namespace Go.Proofs.Ytihbecfjgdlebaa
open Go.RowKit

set_option maxRecDepth 100000 in
set_option maxHeartbeats 400000 in
theorem collect_any (s : ByteArray) (T : Nat) (w : World) (hs : s.size ≤ 1000000000) (hT : w.cell? ⟨T, 0, none⟩ = some (.string s)) :
    Calls Try.prog 67 #[.func (.func 91) #[] #[.pointer (some ⟨T, 0, none⟩)]] w fun e w' =>
      ∃ v, e = .returned v ∧ Coms w.heap.size v (coms (bs s)) w' ∧ Below w.heap.size w w' := by
  have C := Lib.hid ((callsIn_wide (n := 3)).1 (appendSeq_any 3 (Nat.le_refl _) s T w hs hT))
  clear hT
  go_enter Try.func67, Try.ntmps67
  go_wp2_with fail
  refine C.out.mono ?_
  rintro e w1 ⟨v, rfl, hc, hb⟩
  have Hc := Lib.hid hc
  have Hb := Lib.hid hb
  clear hc hb C
  go_wp2
  go_ret
  exact ⟨_, rfl, Hc.out, Hb.out⟩

set_option maxRecDepth 100000 in
set_option maxHeartbeats 400000 in
theorem comms_any (s : ByteArray) (w : World) (hs : s.size ≤ 1000000000) :
    Calls Try.prog 42 #[.string s] w fun e w' => ∃ v, e = .returned v ∧ Coms w.heap.size v (coms (bs s)) w' ∧ Below w.heap.size w w' := by
  go_enter Try.func42, Try.ntmps42
  go_wp2_with fail
  refine (comments_any s _).mono ?_
  rintro e w1 ⟨rfl, rfl⟩
  have C := Lib.hid (collect_any s w.heap.size (w.alloc (.cells #[.string s] 9)) hs ((World.cell?_alloc_at _ _ _ _ rfl).trans rfl))
  go_wp2_with fail
  refine C.out.mono ?_
  rintro e w1 ⟨v, rfl, hc, hb⟩
  have Hc : Hid (Coms w.heap.size v (coms (bs s)) w1) := ownsRow_base hc (by simp)
  have Hb : Hid (Below w.heap.size w w1) := ((Below.refl _ w).alloc (Nat.le_refl _) _).trans (hb.mono (by simp))
  clear hc hb C
  go_wp2
  go_ret
  exact ⟨_, rfl, Hc.out, Hb.out⟩
end Go.Proofs.Ytihbecfjgdlebaa
