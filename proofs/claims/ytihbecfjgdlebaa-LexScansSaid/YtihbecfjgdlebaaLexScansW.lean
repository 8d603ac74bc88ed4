/- Layer 1: the law LexScans, walked. -/
import Derived.Test.YtihbecfjgdlebaaLexRef12
import Derived.Test.YtihbecfjgdlebaaLexRef11
import Derived.Test.YtihbecfjgdlebaaLexPiecesW
namespace Go.Proofs.Ytihbecfjgdlebaa
open Go.RowKit

theorem rScan_toks (s : ByteArray) (l : List Lx.Tok) (hl : Lx.scan (bs s) = .toks l) (w : World) (hs : s.size ≤ maxLen) :
    Calls Try.prog 15 #[.string s] w fun e w' => ∃ v, e = .returned (.agg #[v, .int .i64 0, .int .i64 0]) ∧ Toks w.heap.size v l w' ∧ Below w.heap.size w w' := by
  refine (rScan_any s w hs).mono ?_
  rintro e w' ⟨hb, h⟩
  rw [hl] at h
  obtain ⟨v, rfl, ht⟩ := h
  exact ⟨v, rfl, ht, hb⟩
theorem rScan_bads (s : ByteArray) (i er : Nat) (hl : Lx.scan (bs s) = .bad i er) (w : World) (hs : s.size ≤ maxLen) :
    Calls Try.prog 15 #[.string s] w fun e w' => e = .returned (.agg #[.slice none 0 0, .int .i64 i, .int .i64 er]) ∧ Below w.heap.size w w' := by
  refine (rScan_any s w hs).mono ?_
  rintro e w' ⟨hb, h⟩
  rw [hl] at h
  exact ⟨h, hb⟩
theorem tokSl_nil (w : World) : TokSl w (.slice none 0 0) [] := ⟨none, 0, rfl, fun h => absurd rfl h⟩

set_option maxRecDepth 100000 in
set_option maxHeartbeats 1000000 in
theorem scans_bad (s : ByteArray) (w : World) (hs : s.size ≤ 140737488355328) (p er : Nat) (h : Lx.scan (bs s) = .bad p er) :
    Calls Try.prog 3 #[.string s] w fun e w' => e = .returned (.bool true) ∧ Below w.heap.size w w' := by
  have CS := Lib.hid sane_any
  have CB := Lib.hid (fun w => scan_bads s p er h w (by unfold maxLen; omega))
  have CR := Lib.hid (fun w => rScan_bads s p er h w (by unfold maxLen; omega))
  have CE := Lib.hid (fun w => rEqual_self (.slice none 0 0) (.slice none 0 0) [] w (tokSl_nil w) (tokSl_nil w) (by simp [maxLen]))
  clear h hs
  go_enter Try.func3, Try.ntmps3
  go_wp2_with fail
  refine (CS.out _).mono ?_
  rintro e w1 ⟨rfl, hb1⟩
  have Hb1 := Lib.hid hb1
  clear CS hb1
  go_wp2_with fail
  refine (CB.out _).mono ?_
  rintro e w2 ⟨rfl, hb2⟩
  have Hb2 : Hid (Below w.heap.size w w2) := Hb1.out.trans (hb2.mono Hb1.out.size)
  clear CB hb2
  go_wp2_with fail
  refine (CR.out _).mono ?_
  rintro e w3 ⟨rfl, hb3⟩
  have Hb3 : Hid (Below w.heap.size w w3) := Hb2.out.trans (hb3.mono Hb2.out.size)
  clear CR hb3
  go_wp2_with fail
  refine (CE.out _).mono ?_
  rintro e w4 ⟨rfl, hb4⟩
  have Hb4 := Lib.hid hb4
  clear CE hb4
  go_wp2
  go_ret
  exact ⟨rfl, (Hb3.out.alloc Hb3.out.size _).trans (Hb4.out.mono (by have := Hb3.out.size; simp only [World.size_alloc]; omega))⟩

set_option maxRecDepth 100000 in
set_option maxHeartbeats 1000000 in
theorem scans_good (s : ByteArray) (w : World) (hs : s.size ≤ 140737488355328) (ts : List Lx.Tok) (h : Lx.scan (bs s) = .toks ts) :
    Calls Try.prog 3 #[.string s] w fun e w' => e = .returned (.bool true) ∧ Below w.heap.size w w' := by
  have CS := Lib.hid sane_any
  have CA := Lib.hid (fun w => scan_toks s ts h w (by unfold maxLen; omega))
  have CR := Lib.hid (fun w => rScan_toks s ts h w (by unfold maxLen; omega))
  have hlen := scan_len h
  have CE := Lib.hid (fun v1 v2 w (h1 : TokSl w v1 (ts.map ofTok)) (h2 : TokSl w v2 (ts.map ofTok)) => rEqual_self v1 v2 (ts.map ofTok) w h1 h2 (by rw [List.length_map]; unfold maxLen; omega))
  clear h hs hlen
  go_enter Try.func3, Try.ntmps3
  go_wp2_with fail
  refine (CS.out _).mono ?_
  rintro e w1 ⟨rfl, hb1⟩
  have Hb1 := Lib.hid hb1
  clear CS hb1
  go_wp2_with fail
  refine (CA.out _).mono ?_
  rintro e w2 ⟨v, rfl, hv, hb2⟩
  have Hb2 : Hid (Below w.heap.size w w2) := Hb1.out.trans (hb2.mono Hb1.out.size)
  have Hv := Lib.hid hv.sl
  obtain ⟨a, ca, rfl⟩ := ownsRow_shape hv
  clear CA hb2 hv
  go_wp2_with fail
  refine (CR.out _).mono ?_
  rintro e w3 ⟨v3, rfl, hv3, hb3⟩
  have Hb3 : Hid (Below w.heap.size w w3) := Hb2.out.trans (hb3.mono Hb2.out.size)
  have Hv2 := Lib.hid (Hv.out.below hb3)
  have Hv3 := Lib.hid hv3.sl
  obtain ⟨a3, ca3, rfl⟩ := ownsRow_shape hv3
  have C4 := Lib.hid (fun o => CE.out _ _ (w3.alloc o) (Hv2.out.below ((Below.refl _ w3).alloc (Nat.le_refl _) o)) (Hv3.out.below ((Below.refl _ w3).alloc (Nat.le_refl _) o)))
  clear CR hb3 hv3 CE Hv
  go_wp2_with fail
  refine (C4.out _).mono ?_
  rintro e w4 ⟨rfl, hb4⟩
  have Hb4 := Lib.hid hb4
  clear C4 hb4
  go_wp2
  go_ret
  exact ⟨rfl, (Hb3.out.alloc Hb3.out.size _).trans (Hb4.out.mono (by have := Hb3.out.size; simp only [World.size_alloc]; omega))⟩
theorem scans_any (s : ByteArray) (w : World) (hs : s.size ≤ 140737488355328) :
    Calls Try.prog 3 #[.string s] w fun e w' => e = .returned (.bool true) ∧ Below w.heap.size w w' := by
  rcases h : Lx.scan (bs s) with ts | ⟨p, er⟩
  · exact scans_good s w hs ts h
  · exact scans_bad s w hs p er h
end Go.Proofs.Ytihbecfjgdlebaa
