/- Layer 1: IsPlain, the program's and the reference's. -/
import Derived.Test.YtihbecfjgdlebaaLexRef10
import Derived.Test.YtihbecfjgdlebaaLexNames
namespace Go.Proofs.Ytihbecfjgdlebaa
open Go.RowKit

/-- What IsPlain answers. -/
def plainB (s : ByteArray) : Bool := checkB ⟨1, s, 0⟩ && !decide (0 ≤ Lib.indexByte s.data.toList 64)
set_option maxRecDepth 100000 in
set_option maxHeartbeats 400000 in
theorem isPlain_v (V U : Bool) (s : ByteArray) (w : World) (hs : s.size ≤ maxLen) (hV : checkB ⟨1, s, 0⟩ = V) (hU : decide (0 ≤ Lib.indexByte s.data.toList 64) = U) :
    Calls Try.prog 19 #[.string s] w fun e w' => e = .returned (.bool (V && !U)) ∧ Below w.heap.size w w' := by
  have C := Lib.hid (isName_v V s w hs hV)
  have C2 := Lib.hid (fun w => Try.strings_Contains_one s 64 w)
  rw [hU] at C2
  clear hV hU
  go_enter Try.func19, Try.ntmps19
  go_wp2_with fail
  refine C.out.mono ?_
  clear C
  rintro e w1 ⟨rfl, hb⟩
  cases V
  · go_wp2
    go_ret
    exact ⟨rfl, hb⟩
  · go_wp2_with fail
    refine (C2.out _).mono ?_
    rintro e w2 ⟨rfl, rfl⟩
    cases U
    · go_wp2
      go_ret
      exact ⟨rfl, hb⟩
    · go_wp2
      go_ret
      exact ⟨rfl, hb⟩
theorem isPlain_any (s : ByteArray) (w : World) (hs : s.size ≤ maxLen) :
    Calls Try.prog 19 #[.string s] w fun e w' => e = .returned (.bool (plainB s)) ∧ Below w.heap.size w w' := isPlain_v _ _ s w hs rfl rfl
set_option maxRecDepth 100000 in
set_option maxHeartbeats 400000 in
theorem rIsPlain_v (V : Bool) (s : ByteArray) (w : World) (hV : plainB s = V) :
    Calls Try.prog 20 #[.string s] w fun e w' => e = .returned (.bool V) ∧ Below w.heap.size w w' := by
  obtain ⟨U, hU⟩ : ∃ U, checkB ⟨1, s, 0⟩ = U := ⟨_, rfl⟩
  have C := Lib.hid (rIsName_v U s w hU)
  cases U
  · have hVf : V = false := by rw [← hV]; unfold plainB; rw [hU]; rfl
    subst hVf
    clear hU hV
    go_enter Try.func20, Try.ntmps20
    go_wp2_with fail
    refine C.out.mono ?_
    clear C
    rintro e w1 ⟨rfl, hb⟩
    go_wp2
    go_ret
    exact ⟨rfl, hb⟩
  · have hVe : decide (Lx.runTo (bs s) 0 = s.size) = V := by
      rw [← plain_ref s (by rw [← check_ref]; exact hU), ← hV]
      unfold plainB
      rw [hU, Bool.true_and]
    have hsz : s.size ≤ 40 := by
      rw [check_ref] at hU
      unfold refB at hU
      split at hU
      · cases hU
      · simp only [Bool.and_eq_true, decide_eq_true_eq] at hU; exact hU.1.1.1
    have C2 := Lib.hid (fun w => rRun s 0 w (by unfold maxLen; omega) (Nat.zero_le _))
    have HV := Lib.hid hVe
    obtain ⟨R, hR⟩ : ∃ R, Lx.runTo (bs s) 0 = R := ⟨_, rfl⟩
    rw [hR] at C2 HV
    clear hU hV hVe hR
    go_enter Try.func20, Try.ntmps20
    go_wp2_with fail
    refine C.out.mono ?_
    clear C
    rintro e w1 ⟨rfl, hb⟩
    go_wp2_with fail
    refine (C2.out _).mono ?_
    rintro e w2 ⟨rfl, rfl⟩
    by_cases h : R = s.size
    · have h' : ((R : Int) == (s.size : Int)) = true := by rw [h]; simp
      have : V = true := by rw [← HV.out, h]; simp
      subst this
      clear h
      go_wp2
      go_ret
      exact ⟨rfl, hb⟩
    · have h' : ((R : Int) == (s.size : Int)) = false := by rw [beq_eq_false_iff_ne]; omega
      have : V = false := by rw [← HV.out]; exact decide_eq_false h
      subst this
      clear h
      go_wp2
      go_ret
      exact ⟨rfl, hb⟩
end Go.Proofs.Ytihbecfjgdlebaa
