/- Walks of layer 1: scansAs. -/
import Derived.Test.YtihbecfjgdlebaaLexSame
namespace Go.Proofs.Ytihbecfjgdlebaa
open Go.RowKit

set_option maxRecDepth 100000 in
set_option maxHeartbeats 400000 in
theorem scansAs_any (s : ByteArray) (v : Value) (l : List AT) (w : World) (hs : s.size ≤ maxLen) (hv : TokSl w v l) (hm : l.length ≤ maxLen) :
    Calls Try.prog 62 #[.string s, v] w fun e w' => e = .returned (.bool (scansB s l)) ∧ Below w.heap.size w w' := by
  go_enter Try.func62, Try.ntmps62
  go_wp2_with fail
  refine (scan_any s _ hs).mono ?_
  rintro e w1 ⟨hb1, ho⟩
  have Hb1 := Lib.hid hb1
  cases hsc : Lx.scan (bs s) with
  | bad p er =>
    rw [hsc] at ho
    subst ho
    have her : ((er : Int) == 0) = false := by have := scan_err hsc; rw [beq_eq_false_iff_ne]; omega
    have HS := Lib.hid (show scansB s l = false from by unfold scansB; rw [hsc])
    clear hsc hb1 hv
    go_wp2
    go_ret
    exact ⟨by rw [HS.out]; rfl, Hb1.out⟩
  | toks ts =>
    rw [hsc] at ho
    obtain ⟨v1, rfl, hT⟩ := ho
    have C := Lib.hid (same_any v1 v (ts.map ofTok) l w1 hT.sl (hv.below hb1) (by rw [List.length_map]; have := scan_len hsc; unfold maxLen; omega) hm)
    have HS := Lib.hid (show scansB s l = sameB (ts.map ofTok) l from by unfold scansB; rw [hsc])
    clear hsc hb1 hv hT
    go_wp2_with fail
    refine C.out.mono ?_
    rintro e w2 ⟨rfl, hb2⟩
    go_wp2
    go_ret
    exact ⟨by rw [HS.out]; rfl, Hb1.out.trans (hb2.mono Hb1.out.size)⟩
end Go.Proofs.Ytihbecfjgdlebaa
