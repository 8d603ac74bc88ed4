/- Layer 1: the law LexPieces, walked on. -/
import Derived.Test.YtihbecfjgdlebaaLexPiecesW
namespace Go.Proofs.Ytihbecfjgdlebaa
open Go.RowKit

theorem toks_shape {B : Nat} {v : Value} {l : List Lx.Tok} {w : World} (h : Toks B v l w) : ∃ a cap, v = .slice a l.length cap := ownsRow_shape h

theorem scanT_pos (l : Lx.Bs) : ∀ (f : Nat) (pre : List Lx.Tok) (i : Nat) (ts : List Lx.Tok), (∀ t ∈ pre, t.pos < l.length) → Lx.scanT l f pre i = .toks ts → ∀ t ∈ ts, t.pos < l.length
  | 0, _, _, _, hp, h => by simp [Lx.scanT] at h; subst h; exact hp
  | f + 1, pre, i, ts, hp, h => by
    unfold Lx.scanT at h
    split at h
    · simp at h; subst h; exact hp
    · rename_i hi
      split at h
      · simp at h
      · split at h
        · simp at h
        · split at h
          · simp at h
          · refine scanT_pos l f _ _ _ (fun t ht => ?_) h
            rcases List.mem_append.1 ht with ht | ht
            · exact hp t ht
            · obtain rfl := List.mem_singleton.1 ht; simp only; omega
theorem scan_pos {l : Lx.Bs} {ts : List Lx.Tok} (h : Lx.scan l = .toks ts) : ∀ t ∈ ts, t.pos < l.length := by
  unfold Lx.scan at h
  split at h
  · simp at h
  · exact scanT_pos _ _ _ _ _ (by simp) h

theorem tokSl_at {w : World} {a : Option Addr} {n cap : Nat} {l : List AT} (h : TokSl w (.slice a n cap) l) (i : Nat) (hi : i < l.length) : ∃ b o, a = some ⟨b, o, none⟩ ∧ TokAt w b (o + i * 3) l[i] := by
  obtain ⟨a', cap', he, hl⟩ := h
  simp only [Value.slice.injEq] at he
  obtain ⟨rfl, _, _⟩ := he
  obtain ⟨b, o, h1, h2⟩ := hl (by rintro rfl; simp at hi)
  exact ⟨b, o, h1, h2 i hi⟩

set_option maxRecDepth 100000 in
set_option maxHeartbeats 1000000 in
theorem pieces_long (a b : ByteArray) (w : World) (la lb : List Lx.Tok) (ha : a.size ≤ 140737488355328) (hb : b.size ≤ 140737488355328) (hA : Lx.scan (bs a) = .toks la) (hB : Lx.scan (bs b) = .toks lb)
    (h : 20000 < a.size + 1 + b.size ∨ 6000 < la.length + lb.length) :
    Calls Try.prog 9 #[.string a, .string b] w fun e w' => e = .returned (.bool true) ∧ Below w.heap.size w w' := by
  have CS := Lib.hid sane_any
  have hz : (a ++ ⟨#[10]⟩ ++ b).size = a.size + 1 + b.size := by rw [ByteArray.size_append, ByteArray.size_append]; rfl
  have hla := scan_len hA
  have hlb := scan_len hB
  obtain ⟨p, hp⟩ := (Lx.scan_pieces (bs a) (bs b) la lb hA hB hla).1 (by rw [bs_len, bs_len]; exact h)
  rw [← bs_pieces] at hp
  have CL := Lib.hid (fun w => scan_bads (a ++ ⟨#[10]⟩ ++ b) p 2 hp w (by rw [hz]; unfold maxLen; omega))
  have CA := Lib.hid (fun w => scan_toks a la hA w (by unfold maxLen; omega))
  have CB := Lib.hid (fun w => scan_toks b lb hB w (by unfold maxLen; omega))
  clear hA hB hp hz
  go_enter Try.func9, Try.ntmps9
  go_wp2_with fail
  refine (CS.out _).mono ?_
  rintro e w1 ⟨rfl, hb1⟩
  have Hb1 := Lib.hid hb1
  clear CS hb1
  go_wp2_with fail
  refine (CA.out _).mono ?_
  rintro e w2 ⟨va, rfl, hTa, hb2⟩
  obtain ⟨aa, ca, rfl⟩ := toks_shape hTa
  have Hb2 := Lib.hid hb2
  clear CA hb2 hTa
  go_wp2_with fail
  refine (CB.out _).mono ?_
  rintro e w3 ⟨vb, rfl, hTb, hb3⟩
  obtain ⟨ab, cb, rfl⟩ := toks_shape hTb
  have Hb3 := Lib.hid hb3
  clear CB hb3 hTb
  go_wp2_with fail
  refine (CL.out _).mono ?_
  rintro e w4 ⟨rfl, hb4⟩
  have Hb4 := Lib.hid hb4
  clear CL hb4
  have HW : Hid (Below w.heap.size w w4) := by
    have y2 := Hb1.out.trans (Hb2.out.mono Hb1.out.size)
    have y3 := y2.trans (Hb3.out.mono y2.size)
    exact y3.trans (Hb4.out.mono y3.size)
  by_cases h1 : 20000 < a.size + 1 + b.size
  · have h1' : (20000 : Int) < (a.size : Int) + 1 + (b.size : Int) := by omega
    clear h
    go_wp2
    go_ret
    exact ⟨rfl, HW.out⟩
  · have h1' : ¬ ((20000 : Int) < (a.size : Int) + 1 + (b.size : Int)) := by omega
    have h2' : (6000 : Int) < (la.length : Int) + (lb.length : Int) := by omega
    clear h
    go_wp2
    go_ret
    exact ⟨rfl, HW.out⟩

set_option maxRecDepth 100000 in
set_option maxHeartbeats 1000000 in
theorem pieces_good (a b : ByteArray) (w : World) (la lb : List Lx.Tok) (ha : a.size ≤ 140737488355328) (hb : b.size ≤ 140737488355328) (hA : Lx.scan (bs a) = .toks la) (hB : Lx.scan (bs b) = .toks lb)
    (h : ¬ (20000 < a.size + 1 + b.size ∨ 6000 < la.length + lb.length)) :
    Calls Try.prog 9 #[.string a, .string b] w fun e w' => e = .returned (.bool true) ∧ Below w.heap.size w w' := by
  have CS := Lib.hid sane_any
  have hz : (a ++ ⟨#[10]⟩ ++ b).size = a.size + 1 + b.size := by rw [ByteArray.size_append, ByteArray.size_append]; rfl
  have hla := scan_len hA
  have hlb := scan_len hB
  have hp := (Lx.scan_pieces (bs a) (bs b) la lb hA hB hla).2 (by rw [bs_len, bs_len]; exact h)
  rw [← bs_pieces, bs_len] at hp
  have CL := Lib.hid (fun w => scan_toks (a ++ ⟨#[10]⟩ ++ b) _ hp w (by rw [hz]; unfold maxLen; omega))
  have CA := Lib.hid (fun w => scan_toks a la hA w (by unfold maxLen; omega))
  have CB := Lib.hid (fun w => scan_toks b lb hB w (by unfold maxLen; omega))
  have h1' : ¬ ((20000 : Int) < (a.size : Int) + 1 + (b.size : Int)) := by omega
  have h2' : ¬ ((6000 : Int) < (la.length : Int) + (lb.length : Int)) := by omega
  obtain ⟨lc, hlc⟩ : ∃ lc, la ++ lb.map (Lx.sh (a.size + 1)) = lc := ⟨_, rfl⟩
  have hlcn : lc.length = la.length + lb.length := by rw [← hlc]; simp
  have HLC := Lib.hid hlc
  rw [hlc] at CL
  have HPo : Hid (∀ t ∈ lb, t.pos < b.size) := Lib.hid (by rw [← bs_len]; exact scan_pos hB)
  clear hA hB hp hz hlc h
  go_enter Try.func9, Try.ntmps9
  go_wp2_with fail
  refine (CS.out _).mono ?_
  rintro e w1 ⟨rfl, hb1⟩
  have Hb1 := Lib.hid hb1
  clear CS hb1
  go_wp2_with fail
  refine (CA.out _).mono ?_
  rintro e w2 ⟨va, rfl, hTa, hb2⟩
  obtain ⟨aa, ca, rfl⟩ := toks_shape hTa
  have HTa := Lib.hid hTa.sl
  have Hb2 := Lib.hid hb2
  clear CA hb2 hTa
  go_wp2_with fail
  refine (CB.out _).mono ?_
  rintro e w3 ⟨vb, rfl, hTb, hb3⟩
  obtain ⟨ab, cb, rfl⟩ := toks_shape hTb
  have HTb := Lib.hid hTb.sl
  have Hb3 := Lib.hid hb3
  clear CB hb3 hTb
  go_wp2_with fail
  refine (CL.out _).mono ?_
  rintro e w4 ⟨vc, rfl, hTc, hb4⟩
  obtain ⟨ac, cc, rfl⟩ := toks_shape hTc
  have HTc := Lib.hid hTc.sl
  have Hb4 := Lib.hid hb4
  clear CL hb4 hTc
  have HW : Hid (Below w.heap.size w w4) := by
    have y2 := Hb1.out.trans (Hb2.out.mono Hb1.out.size)
    have y3 := y2.trans (Hb3.out.mono y2.size)
    exact y3.trans (Hb4.out.mono y3.size)
  have HA := Lib.hid ((HTa.out.below Hb3.out).below Hb4.out)
  have HB := Lib.hid (HTb.out.below Hb4.out)
  have HC := Lib.hid HTc.out
  have hn : ((lc.length : Int) != (la.length : Int) + (lb.length : Int)) = false := by rw [hlcn]; simp
  rw [hlcn]
  go_wp2_with fail
  go_loopw [15] (fun v wr => ∃ k : Nat, k ≤ la.length + lb.length ∧ v = .int .i64 k ∧ Hid (Below w4.heap.size w4 wr)) (fun v _ => la.length + lb.length - (intOf v).toNat)
  case atStart => exact ⟨0, Nat.zero_le _, rfl, Below.refl _ _⟩
  case round =>
    obtain ⟨k, hk, rfl, hbl⟩ := hrel
    by_cases hlt : k < la.length + lb.length
    · have hlt' : (k : Int) < (la.length : Int) + (lb.length : Int) := by omega
      obtain ⟨bc, oc, rfl, tc⟩ := tokSl_at (HC.out.below hbl.out) k (by rw [List.length_map]; omega)
      by_cases hka : k < la.length
      · have hka' : (k : Int) < (la.length : Int) := by omega
        obtain ⟨ba, oa, rfl, ta⟩ := tokSl_at (HA.out.below hbl.out) k (by rw [List.length_map]; omega)
        have he : (lc.map ofTok)[k]'(by rw [List.length_map]; omega) = (la.map ofTok)[k]'(by rw [List.length_map]; omega) := by
          rw [List.getElem_map, List.getElem_map]; congr 1; simp only [← HLC.out]; rw [List.getElem_append_left hka]
        rw [he] at tc
        clear he
        obtain ⟨A, hAk⟩ : ∃ A, (la.map ofTok)[k]'(by rw [List.length_map]; omega) = A := ⟨_, rfl⟩
        rw [hAk] at ta tc
        clear hAk
        obtain ⟨x0, x1, x2⟩ := ta
        obtain ⟨y0, y1, y2⟩ := tc
        have n0 := block_lt_of_cell x0
        have n1 := block_lt_of_cell y0
        simp only at n0 n1
        go_upto_region 19 with fail
        go_cut [117] (fun v wx => v = .bool false ∧ Hid (Below w4.heap.size w4 wx))
        case first =>
          go_region
          all_goals go_wp2
          all_goals go_meet
          exact ⟨rfl, ((hbl.out.alloc hbl.out.size _).drew)⟩
        case rest =>
          obtain ⟨rfl, hbx⟩ := hcut
          go_wp2
          go_roundw
          case rel => exact ⟨k + 1, hlt, by push_cast; rfl, hbx⟩
          case measure => simp [intOf]; omega
      · obtain ⟨m, rfl⟩ : ∃ m, k = la.length + m := ⟨k - la.length, by omega⟩
        have hka' : ¬ (((la.length + m : Nat) : Int) < (la.length : Int)) := by omega
        have hm : m < lb.length := by omega
        obtain ⟨bb, ob, rfl, tb⟩ := tokSl_at (HB.out.below hbl.out) m (by rw [List.length_map]; omega)
        obtain ⟨A, hAk⟩ : ∃ A, (lb.map ofTok)[m]'(by rw [List.length_map]; omega) = A := ⟨_, rfl⟩
        have he : (lc.map ofTok)[la.length + m]'(by rw [List.length_map]; omega) = ⟨A.k, A.t, A.p + ((a.size : Int) + 1)⟩ := by
          rw [← hAk, List.getElem_map, List.getElem_map]
          have e2 : lc[la.length + m]'(by omega) = Lx.sh (a.size + 1) lb[m] := by
            simp only [← HLC.out]; rw [List.getElem_append_right (by omega)]; simp
          rw [e2]
          simp only [ofTok, Lx.sh]
          push_cast
          rfl
        have hAp : 0 ≤ A.p ∧ A.p ≤ 20000 := by
          rw [← hAk, List.getElem_map]
          have := HPo.out lb[m] (List.getElem_mem _)
          simp only [ofTok]
          omega
        rw [he] at tc
        rw [hAk] at tb
        clear he hAk
        obtain ⟨x0, x1, x2⟩ := tb
        obtain ⟨y0, y1, y2⟩ := tc
        have n0 := block_lt_of_cell x0
        have n1 := block_lt_of_cell y0
        simp only at n0 n1
        go_upto_region 19 with fail
        go_cut [117] (fun v wx => v = .bool false ∧ Hid (Below w4.heap.size w4 wx))
        case first =>
          go_region
          all_goals go_wp2
          all_goals go_meet
          exact ⟨rfl, ((hbl.out.alloc hbl.out.size _).drew)⟩
        case rest =>
          obtain ⟨rfl, hbx⟩ := hcut
          go_wp2
          go_roundw
          case rel => exact ⟨la.length + m + 1, hlt, by push_cast; rfl, hbx⟩
          case measure => simp [intOf]; omega
    · go_wp2
      go_ret
      exact ⟨rfl, HW.out.trans (hbl.out.mono HW.out.size)⟩

/-- LexPieces returns true. -/
theorem pieces_any (a b : ByteArray) (w : World) (ha : a.size ≤ 140737488355328) (hb : b.size ≤ 140737488355328) :
    Calls Try.prog 9 #[.string a, .string b] w fun e w' => e = .returned (.bool true) ∧ Below w.heap.size w w' := by
  cases hA : Lx.scan (bs a) with
  | bad p er => exact pieces_bad a b w ha hb (.inl ⟨p, er, hA⟩)
  | toks la =>
    cases hB : Lx.scan (bs b) with
    | bad p er => exact pieces_bad a b w ha hb (.inr ⟨p, er, hB⟩)
    | toks lb =>
      by_cases h : 20000 < a.size + 1 + b.size ∨ 6000 < la.length + lb.length
      · exact pieces_long a b w la lb ha hb hA hB h
      · exact pieces_good a b w la lb ha hb hA hB h
end Go.Proofs.Ytihbecfjgdlebaa
