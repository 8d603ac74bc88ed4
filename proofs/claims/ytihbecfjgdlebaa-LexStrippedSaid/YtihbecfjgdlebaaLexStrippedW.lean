/- Layer 1: the law LexStripped, walked. -/
import Derived.Test.YtihbecfjgdlebaaLexStrip
import Derived.Test.YtihbecfjgdlebaaLexStripP
import Derived.Test.YtihbecfjgdlebaaLexGlueA
import Derived.Test.YtihbecfjgdlebaaLexPiecesW
import Derived.Test.YtihbecfjgdlebaaLexComments
import Derived.Test.YtihbecfjgdlebaaLexLinesP
namespace Go.Proofs.Ytihbecfjgdlebaa
open Go.RowKit

theorem cnL_count (l : Lx.Bs) : ∀ k, cnL l k = (l.take k).count 10
  | 0 => rfl
  | k + 1 => by
    simp only [cnL]
    rw [cnL_count l k, List.take_add_one, List.count_append]
    cases h : l[k]? with
    | none => simp
    | some c =>
      by_cases hc : c = 10
      · subst hc; simp
      · rw [if_neg (by simpa using hc)]
        have : ([c] : List UInt8).count 10 = 0 := by rw [List.count_eq_zero]; simpa using fun e => hc e.symm
        simp only [Option.toList_some, this]
theorem lines_count (s : ByteArray) : (lnAt (bs s) s.size).length = (bs s).count 10 + 1 := by
  rw [lnAt_length, cnL_count, List.take_of_length_le (by rw [bs_len]; exact Nat.le_refl _)]
def sS (s : ByteArray) : ByteArray := ⟨(Lx.stripL false (bs s)).toArray⟩
theorem sS_bs (s : ByteArray) : bs (sS s) = Lx.stripL false (bs s) := rfl
theorem sS_size (s : ByteArray) : (sS s).size ≤ s.size := by
  have := Lx.stripL_len false (bs s)
  rw [bs_len, ← sS_bs, bs_len] at this
  exact this
theorem sS_again (s : ByteArray) : (⟨(Lx.stripL false (bs (sS s))).toArray⟩ : ByteArray) = sS s := by
  rw [Lx.stripL_same _ (by rw [sS_bs]; exact Lx.stripL_none false (bs s))]
  rfl
theorem sS_scan {s : ByteArray} {ts : List Lx.Tok} (h : Lx.scan (bs s) = .toks ts) : ∃ us, Lx.scan (bs (sS s)) = .toks us ∧ sameB (ts.map ofTok) (us.map ofTok) = true := by
  obtain ⟨h1, h2⟩ := Lx.scan_runs h
  have hl := Lx.stripL_len false (bs s)
  obtain ⟨us, hs, hm⟩ := Lx.runs_scan (Lx.strip_runs _ _ h1) (by omega) (by rw [List.length_map]; exact scan_len h)
  exact ⟨us, hs, (sameB_toks ts us).2 hm.symm⟩

set_option maxRecDepth 100000 in
set_option maxHeartbeats 1000000 in
theorem stripped_bad (s : ByteArray) (w : World) (hs : s.size ≤ 140737488355328) (p er : Nat) (h : Lx.scan (bs s) = .bad p er) :
    Calls Try.prog 12 #[.string s] w fun e w' => e = .returned (.bool true) ∧ Below w.heap.size w w' := by
  have CS := Lib.hid sane_any
  have CB := Lib.hid (fun w => scan_bads s p er h w (by unfold maxLen; omega))
  have her : ((er : Int) == 0) = false := by have := scan_err h; rw [beq_eq_false_iff_ne]; omega
  have her2 : ((er : Int) != 0) = true := by have := scan_err h; rw [bne_iff_ne]; omega
  have hz := sS_size s
  have CT := Lib.hid (fun w => strip_any s w hs)
  have CU := Lib.hid (fun w => scan_some (sS s) w (by unfold maxLen; omega))
  obtain ⟨S, hS⟩ : ∃ S, sS s = S := ⟨_, rfl⟩
  have eS : (⟨(Lx.stripL false (bs s)).toArray⟩ : ByteArray) = S := hS
  rw [eS] at CT
  rw [hS] at CU
  clear h hs hz hS eS
  go_enter Try.func12, Try.ntmps12
  go_wp2_with fail
  refine (CS.out _).mono ?_
  rintro e w1 ⟨rfl, hb1⟩
  have Hb1 := Lib.hid hb1
  clear CS hb1
  go_wp2_with fail
  refine (CB.out _).mono ?_
  rintro e w2 ⟨rfl, hb2⟩
  have Hb2 : Hid (Below w.heap.size w w2) := Lib.hid (Hb1.out.trans (hb2.mono Hb1.out.size))
  clear CB hb2
  go_wp2_with fail
  refine (CT.out _).mono ?_
  rintro e w3 ⟨rfl, hb3⟩
  have Hb3 : Hid (Below w.heap.size w w3) := Lib.hid (Hb2.out.trans (hb3.mono Hb2.out.size))
  clear CT hb3
  go_wp2_with fail
  refine (CU.out _).mono ?_
  rintro e w4 ⟨⟨v, x, y, rfl⟩, hb4⟩
  have Hb4 : Hid (Below w.heap.size w w4) := Lib.hid (Hb3.out.trans (hb4.mono Hb3.out.size))
  clear CU hb4
  go_wp2
  go_ret
  exact ⟨rfl, Hb4.out⟩

set_option maxRecDepth 100000 in
set_option maxHeartbeats 1000000 in
theorem stripped_good (s : ByteArray) (w : World) (ts : List Lx.Tok) (h : Lx.scan (bs s) = .toks ts) :
    Calls Try.prog 12 #[.string s] w fun e w' => e = .returned (.bool true) ∧ Below w.heap.size w w' := by
  have hs : s.size ≤ 20000 := by have := (Lx.scan_runs h).2; rwa [bs_len] at this
  have CS := Lib.hid sane_any
  have CA := Lib.hid (fun w => scan_toks s ts h w (by unfold maxLen; omega))
  have hz := sS_size s
  obtain ⟨us, hu, hsame⟩ := sS_scan h
  have CT := Lib.hid (fun w => strip_any s w (by omega))
  have CU := Lib.hid (fun w => scan_toks (sS s) us hu w (by unfold maxLen; omega))
  have l1 := scan_len h
  have l2 := scan_len hu
  have CE := Lib.hid (fun v1 v2 w (h1 : TokSl w v1 (ts.map ofTok)) (h2 : TokSl w v2 (us.map ofTok)) => same_any v1 v2 (ts.map ofTok) (us.map ofTok) w h1 h2 (by rw [List.length_map]; unfold maxLen; omega) (by rw [List.length_map]; unfold maxLen; omega))
  rw [hsame] at CE
  have CC := Lib.hid (fun w => comms_any (sS s) w (by omega))
  rw [coms_none _ (by rw [sS_bs]; exact Lx.stripL_none false (bs s))] at CC
  have CL1 := Lib.hid (fun w => lines_any (sS s) w (by omega))
  have CL2 := Lib.hid (fun w => lines_any s w (by omega))
  have hln : Hid ((lnAt (bs (sS s)) (sS s).size).length = (lnAt (bs s) s.size).length) := Lib.hid (by rw [lines_count, lines_count, sS_bs, Lx.stripL_count])
  have CT2 := Lib.hid (fun w => strip_any (sS s) w (by omega))
  rw [sS_again] at CT2
  obtain ⟨S, hS⟩ : ∃ S, sS s = S := ⟨_, rfl⟩
  have eS : (⟨(Lx.stripL false (bs s)).toArray⟩ : ByteArray) = S := hS
  rw [eS] at CT
  rw [hS] at CU CC CL1 CT2 hln
  obtain ⟨L1, hL1⟩ : ∃ L, lnAt (bs S) S.size = L := ⟨_, rfl⟩
  obtain ⟨L2, hL2⟩ : ∃ L, lnAt (bs s) s.size = L := ⟨_, rfl⟩
  rw [hL1] at CL1 hln
  rw [hL2] at CL2 hln
  clear h hs hz hS eS hu hsame l1 l2 hL1 hL2
  go_enter Try.func12, Try.ntmps12
  go_wp2_with fail
  refine (CS.out _).mono ?_
  rintro e w1 ⟨rfl, hb1⟩
  have Hb1 := Lib.hid hb1
  clear CS hb1
  go_wp2_with fail
  refine (CA.out _).mono ?_
  rintro e w2 ⟨v, rfl, hv, hb2⟩
  have Hb2 : Hid (Below w.heap.size w w2) := Lib.hid (Hb1.out.trans (hb2.mono Hb1.out.size))
  have Hv2 := Lib.hid hv.sl
  clear CA hb2 hv
  go_wp2_with fail
  refine (CT.out _).mono ?_
  rintro e w3 ⟨rfl, hb3⟩
  have Hb3 : Hid (Below w.heap.size w w3) := Lib.hid (Hb2.out.trans (hb3.mono Hb2.out.size))
  have Hv3 := Lib.hid (Hv2.out.below hb3)
  clear CT hb3 Hv2
  go_wp2_with fail
  refine (CU.out _).mono ?_
  rintro e w4 ⟨v4, rfl, hv4, hb4⟩
  have Hb4 : Hid (Below w.heap.size w w4) := Lib.hid (Hb3.out.trans (hb4.mono Hb3.out.size))
  have C5 := Lib.hid (CE.out _ _ _ (Hv3.out.below hb4) hv4.sl)
  clear CU hb4 Hv3 hv4 CE
  go_wp2_with fail
  refine C5.out.mono ?_
  clear C5
  rintro e w5 ⟨rfl, hb5⟩
  have Hb5 : Hid (Below w.heap.size w w5) := Lib.hid (Hb4.out.trans (hb5.mono Hb4.out.size))
  clear hb5
  go_wp2_with fail
  refine (CC.out _).mono ?_
  clear CC
  rintro e w6 ⟨v6, rfl, hc, hb6⟩
  obtain ⟨a6, c6, rfl⟩ := ownsRow_shape hc
  have Hb6 : Hid (Below w.heap.size w w6) := Lib.hid (Hb5.out.trans (hb6.mono Hb5.out.size))
  clear hb6 hc
  go_wp2_with fail
  refine (CL1.out _).mono ?_
  clear CL1
  rintro e w7 ⟨v7, rfl, hc, hb7⟩
  obtain ⟨a7, c7, rfl⟩ := ownsRow_shape hc
  have Hb7 : Hid (Below w.heap.size w w7) := Lib.hid (Hb6.out.trans (hb7.mono Hb6.out.size))
  clear hb7 hc
  go_wp2_with fail
  refine (CL2.out _).mono ?_
  clear CL2
  rintro e w8 ⟨v8, rfl, hc, hb8⟩
  obtain ⟨a8, c8, rfl⟩ := ownsRow_shape hc
  have Hb8 : Hid (Below w.heap.size w w8) := Lib.hid (Hb7.out.trans (hb8.mono Hb7.out.size))
  clear hb8 hc
  rw [hln.out]
  go_wp2_with fail
  refine (CT2.out _).mono ?_
  clear CT2
  rintro e w9 ⟨rfl, hb9⟩
  have Hb9 : Hid (Below w.heap.size w w9) := Lib.hid (Hb8.out.trans (hb9.mono Hb8.out.size))
  clear hb9
  go_wp2
  go_ret
  exact ⟨rfl, Hb9.out⟩
theorem stripped_any (s : ByteArray) (w : World) (hs : s.size ≤ 140737488355328) :
    Calls Try.prog 12 #[.string s] w fun e w' => e = .returned (.bool true) ∧ Below w.heap.size w w' := by
  rcases h : Lx.scan (bs s) with ts | ⟨p, er⟩
  · exact stripped_good s w ts h
  · exact stripped_bad s w hs p er h
end Go.Proofs.Ytihbecfjgdlebaa
