/- Layer 1: the law LexPieces, walked. -/
import Derived.Test.YtihbecfjgdlebaaLexSaneW
import Derived.Test.YtihbecfjgdlebaaLexRel
import Derived.BigQuiet
namespace Go.Proofs.Ytihbecfjgdlebaa
open Go.RowKit

/-- Scan, whatever comes of it: three values. -/
theorem scan_some (s : ByteArray) (w : World) (hs : s.size ≤ maxLen) :
    Calls Try.prog 14 #[.string s] w fun e w' => (∃ v x y, e = .returned (.tuple #[v, .int .i64 x, .int .i64 y])) ∧ Below w.heap.size w w' := by
  refine (scan_any s w hs).mono ?_
  rintro e w' ⟨hb, h⟩
  cases hsc : Lx.scan (bs s) with
  | toks l => rw [hsc] at h; obtain ⟨v, rfl, _⟩ := h; exact ⟨⟨_, _, _, rfl⟩, hb⟩
  | bad i er => rw [hsc] at h; subst h; exact ⟨⟨_, _, _, rfl⟩, hb⟩
theorem bs_pieces (a b : ByteArray) : bs (a ++ ⟨#[10]⟩ ++ b) = bs a ++ 10 :: bs b := by
  unfold bs
  rw [ByteArray.data_append, ByteArray.data_append, Array.toList_append, Array.toList_append]
  simp

set_option maxRecDepth 100000 in
set_option maxHeartbeats 1000000 in
theorem pieces_bad (a b : ByteArray) (w : World) (ha : a.size ≤ 140737488355328) (hb : b.size ≤ 140737488355328) (h : (∃ p er, Lx.scan (bs a) = .bad p er) ∨ (∃ p er, Lx.scan (bs b) = .bad p er)) :
    Calls Try.prog 9 #[.string a, .string b] w fun e w' => e = .returned (.bool true) ∧ Below w.heap.size w w' := by
  have CS := Lib.hid sane_any
  have hz : (a ++ ⟨#[10]⟩ ++ b).size = a.size + 1 + b.size := by rw [ByteArray.size_append, ByteArray.size_append]; rfl
  have CL := Lib.hid (fun w => scan_some (a ++ ⟨#[10]⟩ ++ b) w (by rw [hz]; unfold maxLen; omega))
  clear hz
  rcases hA : Lx.scan (bs a) with la | ⟨p, er⟩
  · rcases h with ⟨p, er, h⟩ | ⟨p, er, h⟩
    · rw [hA] at h; cases h
    · have CA := Lib.hid (fun w => scan_toks a la hA w (by unfold maxLen; omega))
      have CB := Lib.hid (fun w => scan_bads b p er h w (by unfold maxLen; omega))
      have her : ((er : Int) == 0) = false := by have := scan_err h; rw [beq_eq_false_iff_ne]; omega
      clear hA h
      go_enter Try.func9, Try.ntmps9
      go_wp2_with fail
      refine (CS.out _).mono ?_
      rintro e w1 ⟨rfl, hb1⟩
      have Hb1 := Lib.hid hb1
      clear CS hb1
      go_wp2_with fail
      refine (CA.out _).mono ?_
      rintro e w2 ⟨va, rfl, _, hb2⟩
      have Hb2 := Lib.hid hb2
      clear CA hb2
      go_wp2_with fail
      refine (CB.out _).mono ?_
      rintro e w3 ⟨rfl, hb3⟩
      have Hb3 := Lib.hid hb3
      clear CB hb3
      go_wp2_with fail
      refine (CL.out _).mono ?_
      rintro e w4 ⟨⟨v, x, y, rfl⟩, hb4⟩
      have Hb4 := Lib.hid hb4
      clear CL hb4
      go_wp2
      go_ret
      have y2 := Hb1.out.trans (Hb2.out.mono Hb1.out.size)
      have y3 := y2.trans (Hb3.out.mono y2.size)
      exact ⟨rfl, y3.trans (Hb4.out.mono y3.size)⟩
  · have CA := Lib.hid (fun w => scan_bads a p er hA w (by unfold maxLen; omega))
    have CB := Lib.hid (fun w => scan_some b w (by unfold maxLen; omega))
    have her : ((er : Int) == 0) = false := by have := scan_err hA; rw [beq_eq_false_iff_ne]; omega
    clear hA h
    go_enter Try.func9, Try.ntmps9
    go_wp2_with fail
    refine (CS.out _).mono ?_
    rintro e w1 ⟨rfl, hb1⟩
    have Hb1 := Lib.hid hb1
    clear CS hb1
    go_wp2_with fail
    refine (CA.out _).mono ?_
    rintro e w2 ⟨rfl, hb2⟩
    have Hb2 := Lib.hid hb2
    clear CA hb2
    go_wp2_with fail
    refine (CB.out _).mono ?_
    rintro e w3 ⟨⟨v, x, y, rfl⟩, hb3⟩
    have Hb3 := Lib.hid hb3
    clear CB hb3
    go_wp2_with fail
    refine (CL.out _).mono ?_
    rintro e w4 ⟨⟨v', x', y', rfl⟩, hb4⟩
    have Hb4 := Lib.hid hb4
    clear CL hb4
    go_wp2
    go_ret
    have y2 := Hb1.out.trans (Hb2.out.mono Hb1.out.size)
    have y3 := y2.trans (Hb3.out.mono y2.size)
    exact ⟨rfl, y3.trans (Hb4.out.mono y3.size)⟩
end Go.Proofs.Ytihbecfjgdlebaa
