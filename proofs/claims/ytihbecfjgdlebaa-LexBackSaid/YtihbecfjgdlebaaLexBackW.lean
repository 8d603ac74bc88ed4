/- Layer 1: the law LexBack, walked. -/
import Derived.Test.YtihbecfjgdlebaaLexGlueA
import Derived.Test.YtihbecfjgdlebaaLexPiecesW
namespace Go.Proofs.Ytihbecfjgdlebaa
open Go.RowKit

set_option maxRecDepth 100000 in
set_option maxHeartbeats 1000000 in
theorem back_bad (s : ByteArray) (w : World) (hs : s.size ≤ 140737488355328) (p er : Nat) (h : Lx.scan (bs s) = .bad p er) :
    Calls Try.prog 7 #[.string s] w fun e w' => e = .returned (.bool true) ∧ Below w.heap.size w w' := by
  have CS := Lib.hid sane_any
  have CB := Lib.hid (fun w => scan_bads s p er h w (by unfold maxLen; omega))
  have her : ((er : Int) == 0) = false := by have := scan_err h; rw [beq_eq_false_iff_ne]; omega
  have her2 : ((er : Int) != 0) = true := by have := scan_err h; rw [bne_iff_ne]; omega
  clear h hs
  go_enter Try.func7, Try.ntmps7
  go_wp2_with fail
  refine (CS.out _).mono ?_
  rintro e w1 ⟨rfl, hb1⟩
  have Hb1 := Lib.hid hb1
  clear CS hb1
  go_wp2_with fail
  refine (CB.out _).mono ?_
  rintro e w2 ⟨rfl, hb2⟩
  have Hb2 := Lib.hid hb2
  clear CB hb2
  go_wp2
  go_ret
  exact ⟨rfl, Hb1.out.trans (Hb2.out.mono Hb1.out.size)⟩

theorem empty_of (J : ByteArray) : J.toList.isEmpty = decide (J.size = 0) := by
  rw [ByteArray.toList_eq, Bool.eq_iff_iff, List.isEmpty_iff, decide_eq_true_eq, ← List.length_eq_zero_iff]
  simp
/-- What Join and Tight write of a scanned text. -/
def jS (ts : List Lx.Tok) : ByteArray := ⟨(joinB (ts.map ofTok)).toArray⟩
def tS (ts : List Lx.Tok) : ByteArray := ⟨(tightsB (ts.map ofTok)).toArray⟩
theorem jS_size (ts : List Lx.Tok) : (jS ts).size = (joinB (ts.map ofTok)).length := rfl
theorem tS_size (ts : List Lx.Tok) : (tS ts).size = (tightsB (ts.map ofTok)).length := rfl
theorem jS_facts {r : Lx.Bs} {ts : List Lx.Tok} (h : Lx.scan r = .toks ts) : (jS ts).size ≤ 20000 ∧ ((jS ts).size ≠ 0 → (tS ts).size ≤ (jS ts).size ∧ ∃ us, Lx.scan (bs (jS ts)) = .toks us ∧ sameB (us.map ofTok) (ts.map ofTok) = true) := by
  have e := joinB_toks h
  have e2 := (tightsB_toks h).1
  have hb : bs (jS ts) = joinB (ts.map ofTok) := rfl
  rw [hb, jS_size, tS_size, e, e2]
  split
  · exact ⟨Nat.zero_le _, fun h => absurd rfl h⟩
  · rename_i hle
    exact ⟨by omega, fun _ => ⟨tight_short ts, join_back h (by omega)⟩⟩
theorem tS_facts {r : Lx.Bs} {ts : List Lx.Tok} (h : Lx.scan r = .toks ts) : (tS ts).size ≤ 20000 ∧ ((tS ts).size = 0 → ts.length = 0) ∧ ∃ us, Lx.scan (bs (tS ts)) = .toks us ∧ sameB (us.map ofTok) (ts.map ofTok) = true := by
  obtain ⟨e, hle⟩ := tightsB_toks h
  have hb : bs (tS ts) = tightsB (ts.map ofTok) := rfl
  have hr := (Lx.scan_runs h).2
  rw [hb, tS_size, e]
  refine ⟨by omega, fun h0 => ?_, tight_back h⟩
  rw [tight_empty h (List.length_eq_zero_iff.1 h0)]
  rfl
theorem tok_fits {r : Lx.Bs} {ts : List Lx.Tok} (h : Lx.scan r = .toks ts) : ∀ i, (hi : i < (ts.map ofTok).length) → ((ts.map ofTok)[i]).t.size ≤ maxLen := by
  intro i hi
  rw [List.getElem_map]
  have ht : Lx.IsTok (ts[i]'(by simpa using hi)).kt := scan_isTok h _ (List.mem_map_of_mem (List.getElem_mem _))
  have h2 : (ofTok (ts[i]'(by simpa using hi))).t.size = (ts[i]'(by simpa using hi)).kt.x.length := by
    unfold ofTok Lx.Tok.kt; rfl
  rw [h2]
  have := ht.2
  unfold maxLen
  omega

set_option maxRecDepth 100000 in
set_option maxHeartbeats 1000000 in
theorem back_good (s : ByteArray) (w : World) (hs : s.size ≤ 140737488355328) (ts : List Lx.Tok) (h : Lx.scan (bs s) = .toks ts) :
    Calls Try.prog 7 #[.string s] w fun e w' => e = .returned (.bool true) ∧ Below w.heap.size w w' := by
  have CS := Lib.hid sane_any
  have CA := Lib.hid (fun w => scan_toks s ts h w (by unfold maxLen; omega))
  obtain ⟨hj0, hj⟩ := jS_facts h
  obtain ⟨ht0, ht1, us, hu, hu2⟩ := tS_facts h
  have hlen := scan_len h
  have hsm := tok_fits h
  have CJ := Lib.hid (fun v w (hv : TokSl w v (ts.map ofTok)) => join_any v (ts.map ofTok) w hv (by rw [List.length_map]; unfold maxLen; omega) hsm)
  have CT := Lib.hid (fun v w (hv : TokSl w v (ts.map ofTok)) => tight_any v (ts.map ofTok) w hv (by rw [List.length_map]; unfold maxLen; omega) hsm)
  have CU := Lib.hid (fun w => scan_toks (tS ts) us hu w (by unfold maxLen; omega))
  have CE := Lib.hid (fun v1 v2 w (h1 : TokSl w v1 (us.map ofTok)) (h2 : TokSl w v2 (ts.map ofTok)) => same_any v1 v2 (us.map ofTok) (ts.map ofTok) w h1 h2 (by rw [List.length_map]; have := scan_len hu; unfold maxLen; omega) (by rw [List.length_map]; unfold maxLen; omega))
  rw [hu2] at CE
  have HJ := Lib.hid hj
  have HT1 := Lib.hid ht1
  have HL := Lib.hid hlen
  obtain ⟨J, hJ⟩ : ∃ J, jS ts = J := ⟨_, rfl⟩
  obtain ⟨T, hT⟩ : ∃ T, tS ts = T := ⟨_, rfl⟩
  have eJ : (⟨(joinB (ts.map ofTok)).toArray⟩ : ByteArray) = J := hJ
  have eT : (⟨(tightsB (ts.map ofTok)).toArray⟩ : ByteArray) = T := hT
  rw [eJ] at CJ
  rw [eT] at CT
  rw [hJ] at HJ hj0
  rw [hT] at HJ HT1 ht0 CU
  clear hs h hj ht1 hu hu2 hlen hsm hJ hT eJ eT
  go_enter Try.func7, Try.ntmps7
  go_wp2_with fail
  refine (CS.out _).mono ?_
  rintro e w1 ⟨rfl, hb1⟩
  have Hb1 := Lib.hid hb1
  clear CS hb1
  go_wp2_with fail
  refine (CA.out _).mono ?_
  rintro e w2 ⟨v, rfl, hv, hb2⟩
  have Hb2 : Hid (Below w.heap.size w w2) := Hb1.out.trans (hb2.mono Hb1.out.size)
  have Hv := Lib.hid hv.sl
  clear CA hb2 hv
  go_wp2_with fail
  refine (CJ.out _ _ Hv.out).mono ?_
  rintro e w3 ⟨rfl, hb3⟩
  have Hb3 : Hid (Below w.heap.size w w3) := Hb2.out.trans (hb3.mono Hb2.out.size)
  have Hv3 := Lib.hid (Hv.out.below hb3)
  clear CJ hb3
  go_wp2_with fail
  refine (CT.out _ _ Hv3.out).mono ?_
  rintro e w4 ⟨rfl, hb4⟩
  have Hb4 : Hid (Below w.heap.size w w4) := Hb3.out.trans (hb4.mono Hb3.out.size)
  have Hv4 := Lib.hid (Hv3.out.below hb4)
  clear CT hb4
  obtain ⟨a, ca, rfl, ha⟩ := Hv.out
  have hn : (ts.map ofTok).length = ts.length := List.length_map _
  rw [hn] at Hv4 ⊢
  clear Hv Hv3 ha hn
  by_cases t0 : T.size = 0
  · have t1 : T.toList.isEmpty = true := by rw [empty_of]; simpa using t0
    have t2 : ((ts.length : Int) == 0) = true := by rw [HT1.out t0]; rfl
    by_cases j0 : J.size = 0
    · have j1 : J.toList.isEmpty = true := by rw [empty_of]; simpa using j0
      clear t0 j0
      go_wp2
      go_ret
      exact ⟨rfl, Hb4.out⟩
    · have j1 : J.toList.isEmpty = false := by rw [empty_of]; simpa using j0
      obtain ⟨hTJ, vs, hv1, hv2⟩ := HJ.out j0
      have CV := Lib.hid (fun w => scan_toks J vs hv1 w (by unfold maxLen; omega))
      have CF := Lib.hid (fun v1 v2 w (h1 : TokSl w v1 (vs.map ofTok)) (h2 : TokSl w v2 (ts.map ofTok)) => same_any v1 v2 (vs.map ofTok) (ts.map ofTok) w h1 h2 (by rw [List.length_map]; have := scan_len hv1; unfold maxLen; omega) (by rw [List.length_map]; have := HL.out; unfold maxLen; omega))
      rw [hv2] at CF
      clear t0 j0 hv1 hv2 hTJ
      go_wp2_with fail
      refine (CV.out _).mono ?_
      rintro e w5 ⟨v5, rfl, hv5, hb5⟩
      have Hb5 : Hid (Below w.heap.size w w5) := Hb4.out.trans (hb5.mono Hb4.out.size)
      have C5 := Lib.hid (CF.out _ _ _ hv5.sl (Hv4.out.below hb5))
      clear CV CF hv5 hb5
      go_wp2_with fail
      refine C5.out.mono ?_
      clear C5
      rintro e w6 ⟨rfl, hb6⟩
      have Hb6 : Hid (Below w.heap.size w w6) := Hb5.out.trans (hb6.mono Hb5.out.size)
      clear hb6
      go_wp2
      go_ret
      exact ⟨rfl, Hb6.out⟩
  · have t1 : T.toList.isEmpty = false := by rw [empty_of]; simpa using t0
    by_cases j0 : J.size = 0
    · have j1 : J.toList.isEmpty = true := by rw [empty_of]; simpa using j0
      clear t0 j0
      go_wp2_with fail
      refine (CU.out _).mono ?_
      rintro e w5 ⟨v5, rfl, hv5, hb5⟩
      have Hb5 : Hid (Below w.heap.size w w5) := Hb4.out.trans (hb5.mono Hb4.out.size)
      have C5 := Lib.hid (CE.out _ _ _ hv5.sl (Hv4.out.below hb5))
      clear CU CE hv5 hb5
      go_wp2_with fail
      refine C5.out.mono ?_
      clear C5
      rintro e w6 ⟨rfl, hb6⟩
      have Hb6 : Hid (Below w.heap.size w w6) := Hb5.out.trans (hb6.mono Hb5.out.size)
      clear hb6
      go_wp2
      go_ret
      exact ⟨rfl, Hb6.out⟩
    · have j1 : J.toList.isEmpty = false := by rw [empty_of]; simpa using j0
      obtain ⟨hTJ, vs, hv1, hv2⟩ := HJ.out j0
      have hTJ' : (T.size : Int) ≤ (J.size : Int) := by omega
      have CV := Lib.hid (fun w => scan_toks J vs hv1 w (by unfold maxLen; omega))
      have CF := Lib.hid (fun v1 v2 w (h1 : TokSl w v1 (vs.map ofTok)) (h2 : TokSl w v2 (ts.map ofTok)) => same_any v1 v2 (vs.map ofTok) (ts.map ofTok) w h1 h2 (by rw [List.length_map]; have := scan_len hv1; unfold maxLen; omega) (by rw [List.length_map]; have := HL.out; unfold maxLen; omega))
      rw [hv2] at CF
      clear t0 j0 hv1 hv2 hTJ
      go_wp2_with fail
      refine (CV.out _).mono ?_
      rintro e w5 ⟨v5, rfl, hv5, hb5⟩
      have Hb5 : Hid (Below w.heap.size w w5) := Hb4.out.trans (hb5.mono Hb4.out.size)
      have C5 := Lib.hid (CF.out _ _ _ hv5.sl (Hv4.out.below hb5))
      have Hv5 := Lib.hid (Hv4.out.below hb5)
      clear CV CF hv5 hb5
      go_wp2_with fail
      refine C5.out.mono ?_
      clear C5
      rintro e w6 ⟨rfl, hb6⟩
      have Hb6 : Hid (Below w.heap.size w w6) := Hb5.out.trans (hb6.mono Hb5.out.size)
      have Hv6 := Lib.hid (Hv5.out.below hb6)
      clear hb6
      go_wp2_with fail
      refine (CU.out _).mono ?_
      rintro e w7 ⟨v7, rfl, hv7, hb7⟩
      have Hb7 : Hid (Below w.heap.size w w7) := Hb6.out.trans (hb7.mono Hb6.out.size)
      have C7 := Lib.hid (CE.out _ _ _ hv7.sl (Hv6.out.below hb7))
      clear CU CE hv7 hb7
      go_wp2_with fail
      refine C7.out.mono ?_
      clear C7
      rintro e w8 ⟨rfl, hb8⟩
      have Hb8 : Hid (Below w.heap.size w w8) := Hb7.out.trans (hb8.mono Hb7.out.size)
      clear hb8
      go_wp2
      go_ret
      exact ⟨rfl, Hb8.out⟩
theorem back_any (s : ByteArray) (w : World) (hs : s.size ≤ 140737488355328) :
    Calls Try.prog 7 #[.string s] w fun e w' => e = .returned (.bool true) ∧ Below w.heap.size w w' := by
  rcases h : Lx.scan (bs s) with ts | ⟨p, er⟩
  · exact back_good s w hs ts h
  · exact back_bad s w hs p er h
end Go.Proofs.Ytihbecfjgdlebaa
