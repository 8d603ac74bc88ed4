/- Layer 1: the law LexLeast, walked. -/
import Derived.Test.YtihbecfjgdlebaaLexBackW
import Derived.StillTailTactics
namespace Go.Proofs.Ytihbecfjgdlebaa
open Go.RowKit

set_option maxRecDepth 100000 in
set_option maxHeartbeats 1000000 in
theorem least_bad (s : ByteArray) (w : World) (hs : s.size ≤ 140737488355328) (p er : Nat) (h : Lx.scan (bs s) = .bad p er) :
    Calls Try.prog 8 #[.string s] w fun e w' => e = .returned (.bool true) ∧ Below w.heap.size w w' := by
  have CS := Lib.hid sane_any
  have CB := Lib.hid (fun w => scan_bads s p er h w (by unfold maxLen; omega))
  have her : ((er : Int) == 0) = false := by have := scan_err h; rw [beq_eq_false_iff_ne]; omega
  have her2 : ((er : Int) != 0) = true := by have := scan_err h; rw [bne_iff_ne]; omega
  clear h hs
  go_enter Try.func8, Try.ntmps8
  go_wp2_with fail
  refine (CS.out _).mono ?_
  rintro e w1 ⟨rfl, hb1⟩
  have Hb1 := Lib.hid hb1
  clear CS hb1
  go_wp2_with fail
  refine (CB.out _).mono ?_
  rintro e w2 ⟨rfl, hb2⟩
  have Hb2 := Lib.hid hb2
  clear CB hb2
  go_wp2
  go_ret
  exact ⟨rfl, Hb1.out.trans (Hb2.out.mono Hb1.out.size)⟩

theorem bs_erase (T : ByteArray) (k : Nat) (h : k < T.size) : bs (T.extract 0 k ++ T.extract (k + 1) T.size) = (bs T).eraseIdx k := by
  unfold bs
  rw [ByteArray.data_append, Array.toList_append]
  have e1 := bs_extract T 0 k
  have e2 := bs_extract_end T (k + 1)
  unfold bs at e1 e2
  rw [e1, e2, List.eraseIdx_eq_take_drop_succ]
  unfold Lx.slice
  rw [List.drop_zero, Nat.sub_zero]

set_option maxRecDepth 100000 in
set_option maxHeartbeats 2000000 in
theorem least_good (s : ByteArray) (w : World) (hs : s.size ≤ 140737488355328) (ts : List Lx.Tok) (h : Lx.scan (bs s) = .toks ts) :
    Calls Try.prog 8 #[.string s] w fun e w' => e = .returned (.bool true) ∧ Below w.heap.size w w' := by
  have CS := Lib.hid sane_any
  have CA := Lib.hid (fun w => scan_toks s ts h w (by unfold maxLen; omega))
  obtain ⟨ht0, -, -⟩ := tS_facts h
  have hbt : bs (tS ts) = tG ts := (tightsB_toks h).1
  have hlen := scan_len h
  have hsm := tok_fits h
  have CT := Lib.hid (fun v w (hv : TokSl w v (ts.map ofTok)) => tight_any v (ts.map ofTok) w hv (by rw [List.length_map]; unfold maxLen; omega) hsm)
  obtain ⟨T, hT⟩ : ∃ T, tS ts = T := ⟨_, rfl⟩
  have eT : (⟨(tightsB (ts.map ofTok)).toArray⟩ : ByteArray) = T := hT
  rw [eT] at CT
  rw [hT] at ht0 hbt
  have HM : Hid (∀ k us, (bs T)[k]? = some 32 → Lx.scan ((bs T).eraseIdx k) = .toks us → sameB (us.map ofTok) (ts.map ofTok) = false) := Lib.hid fun k us h1 h2 => by
    rw [hbt] at h2
    refine tight_min h (i := k) ?_ h2
    rw [← hbt]
    exact h1
  have HL := Lib.hid hlen
  by_cases hbig : 1500 < s.size
  · have hbig' : (1500 : Int) < (s.size : Int) := by omega
    clear h hsm hlen hT eT hbt hbig CT
    go_enter Try.func8, Try.ntmps8
    go_wp2_with fail
    refine (CS.out _).mono ?_
    rintro e w1 ⟨rfl, hb1⟩
    have Hb1 := Lib.hid hb1
    clear CS hb1
    go_wp2_with fail
    refine (CA.out _).mono ?_
    rintro e w2 ⟨v, rfl, hv, hb2⟩
    have Hb2 : Hid (Below w.heap.size w w2) := Hb1.out.trans (hb2.mono Hb1.out.size)
    clear CA hb2 hv
    go_wp2
    go_ret
    exact ⟨rfl, Hb2.out⟩
  · have hbig' : ¬ ((1500 : Int) < (s.size : Int)) := by omega
    clear h hsm hlen hT eT hbt hbig
    go_enter Try.func8, Try.ntmps8
    go_wp2_with fail
    refine (CS.out _).mono ?_
    rintro e w1 ⟨rfl, hb1⟩
    have Hb1 := Lib.hid hb1
    clear CS hb1
    go_wp2_with fail
    refine (CA.out _).mono ?_
    rintro e w2 ⟨v, rfl, hv, hb2⟩
    have Hb2 : Hid (Below w.heap.size w w2) := Hb1.out.trans (hb2.mono Hb1.out.size)
    have Hv := Lib.hid hv.sl
    clear CA hb2 hv
    go_wp2_with fail
    refine (CT.out _ _ Hv.out).mono ?_
    rintro e w3 ⟨rfl, hb3⟩
    have Hb3 : Hid (Below w.heap.size w w3) := Hb2.out.trans (hb3.mono Hb2.out.size)
    have Hv3 := Lib.hid (Hv.out.below hb3)
    clear CT hb3 Hv
    go_wp2
    go_loopw [8] (fun v8 wr => ∃ k : Nat, k ≤ T.size ∧ v8 = .int .i64 k ∧ Hid (Below w3.heap.size w3 wr)) (fun v8 _ => T.size - (intOf v8).toNat)
    case atStart => exact ⟨0, Nat.zero_le _, rfl, Below.refl _ _⟩
    case round =>
      obtain ⟨k, hk, rfl, hbl⟩ := hrel
      by_cases hlt : k < T.size
      · have hlt' : (k : Int) < (T.size : Int) := by omega
        have hby := byte_lt T[k]
        by_cases hc : T[k] = 32
        · have hc2 : ((T[k].toNat : Int) != 32) = false := by rw [hc]; rfl
          have h32 : (bs T)[k]? = some 32 := by rw [List.getElem?_eq_getElem (by rw [bs_len]; exact hlt), bs_get hlt, hc]
          have Hv4 := Lib.hid (Hv3.out.below hbl.out)
          have hzX : ∀ X : ByteArray, bs X = (bs T).eraseIdx k → X.size ≤ maxLen := fun X hX => by
            have := congrArg List.length hX
            rw [bs_len, List.length_eraseIdx, bs_len] at this
            unfold maxLen
            split at this <;> omega
          have hXk := bs_erase T k hlt
          have hk2 : (0 : Int) ≤ (k : Int) := by omega
          have hk3 : (k : Int) ≤ (T.size : Int) := by omega
          have hk5 : (9223372036854775807 < k + (T.size - (k + 1))) = False := eq_false (by omega)
          have hk4 : ((k : Int) + 1).toNat = k + 1 := by omega
          have hk1 : (k : Int) + 1 ≤ (T.size : Int) := by omega
          have hk0 : (0 : Int) ≤ (k : Int) + 1 := by omega
          have hw1 : IntKind.i64.wrap ((k : Int) + 1) = (k : Int) + 1 := by rw [IntKind.wrap_i64]; omega
          rcases hE : Lx.scan ((bs T).eraseIdx k) with us | ⟨p, er⟩
          · have hsame := HM.out k us h32 hE
            have C := Lib.hid (fun X w (hX : bs X = (bs T).eraseIdx k) => scan_toks X us (by rw [hX]; exact hE) w (hzX X hX))
            have C2 := Lib.hid (fun v1 v2 w (h1 : TokSl w v1 (us.map ofTok)) (h2 : TokSl w v2 (ts.map ofTok)) => same_any v1 v2 (us.map ofTok) (ts.map ofTok) w h1 h2 (by rw [List.length_map]; have := scan_len hE; unfold maxLen; omega) (by rw [List.length_map]; have := HL.out; unfold maxLen; omega))
            rw [hsame] at C2
            have HX := Lib.hid hXk
            clear hE hsame hXk hzX h32 hc
            go_upto_region 10 with fail
            go_cut [9, 11] (fun v9 v11 wx => v11 = .int .i64 0 ∧ Hid (TokSl wx v9 (us.map ofTok)) ∧ Hid (Below w3.heap.size w3 wx))
            case first =>
              go_region_with (go_at_call 14; refine (C.out (T.extract 0 k ++ T.extract (k + 1) T.size) _ HX.out).mono ?_; rintro e w' ⟨v9, rfl, hv9, hb9⟩)
              all_goals go_wp2
              all_goals go_meet
              all_goals exact ⟨rfl, Lib.hid hv9.sl, Lib.hid (hbl.out.drew.trans (hb9.mono hbl.out.size))⟩
            case rest =>
              obtain ⟨rfl, h9, hbx⟩ := hcut
              have C3 := Lib.hid (C2.out _ _ _ h9.out (Hv3.out.below hbx.out))
              clear C C2 h9
              go_wp2_with fail
              refine C3.out.mono ?_
              clear C3
              rintro e w6 ⟨rfl, hb6⟩
              have Hb6 := Lib.hid (hbx.out.trans (hb6.mono hbx.out.size))
              clear hb6
              go_wp2
              go_roundw
              case rel => exact ⟨k + 1, hlt, by push_cast; rfl, Hb6⟩
              case measure => simp [intOf]; omega
          · have C := Lib.hid (fun X w (hX : bs X = (bs T).eraseIdx k) => scan_bads X p er (by rw [hX]; exact hE) w (hzX X hX))
            have her : ((er : Int) == 0) = false := by have := scan_err hE; rw [beq_eq_false_iff_ne]; omega
            have HX := Lib.hid hXk
            clear hE hXk hzX h32 hc
            go_upto_region 10 with fail
            go_cut [11] (fun v11 wx => v11 = .int .i64 er ∧ Hid (Below w3.heap.size w3 wx))
            case first =>
              go_region_with (go_at_call 14; refine (C.out (T.extract 0 k ++ T.extract (k + 1) T.size) _ HX.out).mono ?_; rintro e w' ⟨rfl, hb9⟩)
              all_goals go_wp2
              all_goals go_meet
              all_goals exact ⟨rfl, Lib.hid (hbl.out.drew.trans (hb9.mono hbl.out.size))⟩
            case rest =>
              obtain ⟨rfl, hbx⟩ := hcut
              clear C
              go_wp2
              go_roundw
              case rel => exact ⟨k + 1, hlt, by push_cast; rfl, hbx⟩
              case measure => simp [intOf]; omega
        · have hc2 : ((T[k].toNat : Int) != 32) = true := by
            rw [bne_iff_ne]; intro e; exact hc (by rw [← UInt8.toNat_inj]; exact Int.ofNat_inj.1 e)
          go_wp2
          go_roundw
          case rel => exact ⟨k + 1, hlt, by push_cast; rfl, hbl⟩
          case measure => simp [intOf]; omega
      · have hlt' : ¬ ((k : Int) < (T.size : Int)) := by omega
        go_wp2
        go_ret
        exact ⟨rfl, Hb3.out.trans (hbl.out.mono Hb3.out.size)⟩
theorem least_any (s : ByteArray) (w : World) (hs : s.size ≤ 140737488355328) :
    Calls Try.prog 8 #[.string s] w fun e w' => e = .returned (.bool true) ∧ Below w.heap.size w w' := by
  rcases h : Lx.scan (bs s) with ts | ⟨p, er⟩
  · exact least_good s w hs ts h
  · exact least_bad s w hs p er h
end Go.Proofs.Ytihbecfjgdlebaa
