/- Walks of layer 1's reference: Scan. -/
import Derived.Test.YtihbecfjgdlebaaLexRef6
import Derived.Test.YtihbecfjgdlebaaLexCheck
namespace Go.Proofs.Ytihbecfjgdlebaa
open Go.RowKit

/-- What the reference's Scan hands back. -/
def RScanOut (s : ByteArray) (w : World) (e : Ending) (w' : World) : Prop :=
  Below w.heap.size w w' ∧ match Lx.scan (bs s) with
    | .toks l => ∃ v, e = .returned (.agg #[v, .int .i64 0, .int .i64 0]) ∧ Toks w.heap.size v l w'
    | .bad i er => e = .returned (.agg #[.slice none 0 0, .int .i64 i, .int .i64 er])

theorem tokAt_kind {l : Lx.Bs} {i k j : Nat} (h : Lx.tokAt l i = some (k, j)) : k = 1 ∨ k = 2 ∨ k = 3 ∨ k = 4 := by
  unfold Lx.tokAt at h
  split at h
  · cases h
  · split at h
    · simp only at h
      split at h
      · cases h; simp
      · split at h <;> (cases h; simp)
    · split at h
      · cases h; simp
      · split at h
        · cases h; simp
        · split at h
          · cases h; simp
          · cases h

set_option maxRecDepth 100000 in
set_option maxHeartbeats 400000 in
theorem rScan_big (s : ByteArray) (w : World) (hs : s.size ≤ maxLen) (hb : 20000 < s.size) : Calls Try.prog 15 #[.string s] w (RScanOut s w) := by
  have Hsc : Lx.scan (bs s) = .bad 0 2 := by unfold Lx.scan; rw [if_pos (by rw [bs_len]; exact hb)]
  have HS := Lib.hid Hsc; clear Hsc
  unfold maxLen at hs
  have hb' : (20000 : Int) < (s.size : Int) := by omega
  go_enter Try.func15, Try.ntmps15
  go_wp2
  refine bodyPost_ret (v := .agg #[.slice none 0 0, .int .i64 0, .int .i64 2]) (by simp [results, Try.results15, go_sem]) rfl ⟨?_, ?_⟩
  · exact (Below.refl _ w).alloc (Nat.le_refl _) _
  · rw [HS.out]; rfl

theorem below_set3 {h : Nat} {w w' : World} (hb : Below h w w') (a b c : Value) : Below h w (((w'.setCell ⟨h, 0, none⟩ a).setCell ⟨h, 1, none⟩ b).setCell ⟨h, 2, none⟩ c) :=
  ((hb.setCell (p := ⟨h, 0, none⟩) (Nat.le_refl _) a).setCell (p := ⟨h, 1, none⟩) (Nat.le_refl _) b).setCell (p := ⟨h, 2, none⟩) (Nat.le_refl _) c
theorem set3_heap {h k : Nat} {w : World} (hk : k ≠ h) (a b c : Value) : (((w.setCell ⟨h, 0, none⟩ a).setCell ⟨h, 1, none⟩ b).setCell ⟨h, 2, none⟩ c).heap[k]? = w.heap[k]? :=
  (Below.heap_setCell _ _ _ _ hk).trans ((Below.heap_setCell _ _ _ _ hk).trans (Below.heap_setCell _ _ _ _ hk))

set_option maxRecDepth 100000 in
set_option maxHeartbeats 4000000 in
theorem rScan_small (s : ByteArray) (w : World) (hs : s.size ≤ 20000) : Calls Try.prog 15 #[.string s] w (RScanOut s w) := by
  have hb' : ¬ ((20000 : Int) < (s.size : Int)) := by omega
  have Hsc : Hid (Lx.scan (bs s) = Lx.scanT (bs s) (s.size + 1) [] (Lx.skipTo (bs s) 0)) := Lib.hid (by
    unfold Lx.scan; rw [if_neg (by rw [bs_len]; omega), bs_len])
  obtain ⟨i0, hi0, hz0, hz1, hz2⟩ := info_parts infoTok
  obtain ⟨Rs, hRs⟩ : ∃ Rs, Lx.scan (bs s) = Rs := ⟨_, rfl⟩
  have HPost : ∀ e w', (Below w.heap.size w w' ∧ match Rs with
    | .toks l => ∃ v, e = .returned (.agg #[v, .int .i64 0, .int .i64 0]) ∧ Toks w.heap.size v l w'
    | .bad i er => e = .returned (.agg #[.slice none 0 0, .int .i64 i, .int .i64 er])) → RScanOut s w e w' := by
    intro e w' h; unfold RScanOut; rw [hRs]; exact h
  rw [hRs] at Hsc
  have HP := Lib.hid HPost
  clear HPost hRs
  obtain ⟨h, hh⟩ : ∃ h, w.heap.size = h := ⟨_, rfl⟩
  rw [hh] at HP
  have Hh := Lib.hid hh
  go_enter Try.func15, Try.ntmps15
  go_wp2
  go_loopw [3, 4] (fun v3 v4 wr => ∃ (f : Nat) (pre : List Lx.Tok) (i : Nat), v4 = .int .i64 i ∧ i ≤ s.size ∧ s.size + 1 ≤ i + f ∧ pre.length ≤ 6000 ∧ Hid (Rs = Lx.scanT (bs s) f pre (Lx.skipTo (bs s) i)) ∧ Hid (Below h w wr) ∧ Hid (wr.heap[h]? = some (.cells #[.slice none 0 0, .int .i64 0, .int .i64 0] 28 (0, 0))) ∧ Hid (Toks (h + 1) v3 pre wr)) (fun _ v4 _ => s.size - (intOf v4).toNat)
  case atStart =>
    refine ⟨s.size + 1, [], 0, rfl, Nat.zero_le _, by omega, by simp, Hsc, ?_, ?_, Lib.hid (World.ownsRow_nil _ _ _ _)⟩
    · rw [← Hh.out]; exact Lib.hid ((Below.refl _ w).alloc (Nat.le_refl _) _)
    · rw [← Hh.out]; exact Lib.hid (World.alloc_heap_new _ _)
  case round =>
    obtain ⟨f, pre, i, rfl, hi, hf, hpl, hsc, hbl, hrow, hown⟩ := hrel
    have hhr : h < wr.heap.size := heap_lt hrow.out
    have r0 : wr.cell? ⟨h, 0, none⟩ = some (.slice none 0 0) := cell_of_row _ _ _ _ _ _ hrow.out
    have r1 : wr.cell? ⟨h, 1, none⟩ = some (.int .i64 0) := cell_of_row _ _ _ _ _ _ hrow.out
    have r2 : wr.cell? ⟨h, 2, none⟩ = some (.int .i64 0) := cell_of_row _ _ _ _ _ _ hrow.out
    have f0 : wr.frozen? ⟨h, 0, none⟩ = false := frozen_of_row _ _ _ _ _ hrow.out
    have f1 : wr.frozen? ⟨h, 1, none⟩ = false := frozen_of_row _ _ _ _ _ hrow.out
    have f2 : wr.frozen? ⟨h, 2, none⟩ = false := frozen_of_row _ _ _ _ _ hrow.out
    by_cases hlt : i < s.size
    · have hlt' : (i : Int) < (s.size : Int) := by omega
      have hil : i < (bs s).length := by rw [bs_len]; exact hlt
      have hby := byte_lt s[i]
      have hg := bs_get hlt
      have CB := Lib.hid (rBlank s[i] wr)
      cases hbk : Lx.blank s[i] with
      | true =>
        have hst := Lx.skipTo_blank hil (by rw [hg]; exact hbk)
        have HS : Hid (Rs = Lx.scanT (bs s) f pre (Lx.skipTo (bs s) (i + 1))) := Lib.hid (by rw [hsc.out, hst])
        rw [hbk] at CB
        clear hst hbk hg hsc r0 r1 r2 f0 f1 f2
        go_wp2_with fail
        refine (CB.out).mono ?_
        clear CB
        rintro e w' ⟨rfl, rfl⟩
        go_wp2
        go_roundw
        case rel => exact ⟨f, pre, i + 1, by push_cast; rfl, by omega, by omega, hpl, HS, hbl, hrow, hown⟩
        case measure => simp [intOf]; omega
      | false =>
        rw [hbk] at CB
        by_cases h37 : s[i] = 37
        · have h37' : ((s[i].toNat : Int) == 37) = true := by rw [h37]; rfl
          have hst := Lx.skipTo_comment hil (by rw [hg]; exact congrArg UInt8.toNat h37)
          have hle := (Lx.lineTo_le (l := bs s) (i := i) (by omega)).2
          rw [bs_len] at hle
          have hlo := hst.2
          have CL := Lib.hid (rLineEnd s i wr (by unfold maxLen; omega) (by omega))
          have HS : Hid (Rs = Lx.scanT (bs s) f pre (Lx.skipTo (bs s) (Lx.lineTo (bs s) i))) := Lib.hid (by rw [hsc.out, hst.1])
          obtain ⟨E, hE⟩ : ∃ E, Lx.lineTo (bs s) i = E := ⟨_, rfl⟩
          rw [hE] at hle hlo HS CL
          clear hst hE hbk hg h37 hsc r0 r1 r2 f0 f1 f2
          go_wp2_with fail
          refine (CB.out).mono ?_
          clear CB
          rintro e w' ⟨rfl, rfl⟩
          go_wp2_with fail
          refine (CL.out).mono ?_
          clear CL
          rintro e w' ⟨rfl, rfl⟩
          go_wp2
          go_roundw
          case rel => exact ⟨f, pre, E, rfl, by omega, by omega, hpl, HS, hbl, hrow, hown⟩
          case measure => simp [intOf]; omega
        · have h37' : ((s[i].toNat : Int) == 37) = false := by
            rw [beq_eq_false_iff_ne]; intro e; exact h37 (by rw [← UInt8.toNat_inj]; exact Int.ofNat_inj.1 e)
          have hst : Lx.skipTo (bs s) i = i := Lx.skipTo_stop hil (by rw [hg]; exact hbk) (by rw [hg]; intro e; exact h37 (by rw [← UInt8.toNat_inj]; exact e))
          obtain ⟨f, rfl⟩ : ∃ f', f = f' + 1 := ⟨f - 1, by omega⟩
          have CT := Lib.hid (rToken s i wr (by omega) hlt)
          have hsc2 := hsc.out
          rw [hst] at hsc2
          simp only [Lx.scanT] at hsc2
          rw [if_neg (by omega)] at hsc2
          clear hst hbk hg h37 hsc
          cases htok : Lx.tokAt (bs s) i with
          | none =>
            rw [htok] at CT hsc2
            have HS := Lib.hid hsc2
            unfold kindJ at CT
            clear htok hsc2
            go_wp2_with fail
            refine (CB.out).mono ?_
            clear CB
            rintro e w' ⟨rfl, rfl⟩
            go_wp2_with fail
            refine (CT.out).mono ?_
            clear CT
            rintro e w1 ⟨rfl, hb1⟩
            have HB1 := Lib.hid hb1
            have s0 := (hb1.cell (p := ⟨h, 0, none⟩) hhr).trans r0
            have s1 := (hb1.cell (p := ⟨h, 1, none⟩) hhr).trans r1
            have s2 := (hb1.cell (p := ⟨h, 2, none⟩) hhr).trans r2
            have g0 := (hb1.frozen (p := ⟨h, 0, none⟩) hhr).trans f0
            have g1 := (hb1.frozen (p := ⟨h, 1, none⟩) hhr).trans f1
            have g2 := (hb1.frozen (p := ⟨h, 2, none⟩) hhr).trans f2
            clear hb1 r0 r1 r2 f0 f1 f2
            go_wp2
            refine bodyPost_ret (v := .agg #[.slice none 0 0, .int .i64 i, .int .i64 10]) (by simp [results, Try.results15, go_sem, s0, s1, s2]) rfl (HP.out _ _ ⟨?_, ?_⟩)
            · exact below_set3 (hbl.out.trans (HB1.out.mono (by omega : h ≤ wr.heap.size))) _ _ _
            · rw [HS.out]; rfl
          | some p =>
            obtain ⟨k, j⟩ := p
            rw [htok] at CT hsc2
            unfold kindJ at CT
            obtain ⟨hij, hjl⟩ := Lx.tokAt_lt htok
            rw [bs_len] at hjl
            have hk0 : ((k : Int) == 0) = false := by have := tokAt_kind htok; rw [beq_eq_false_iff_ne]; omega
            obtain ⟨a, cap, rfl⟩ := ownsRow_shape hown.out
            simp only at hsc2
            clear htok
            by_cases h6 : pre.length = 6000
            · have h6' : ((pre.length : Int) == 6000) = true := by rw [h6]; rfl
              rw [if_pos h6] at hsc2
              have HS := Lib.hid hsc2
              clear hsc2 h6
              go_wp2_with fail
              refine (CB.out).mono ?_
              clear CB
              rintro e w' ⟨rfl, rfl⟩
              go_wp2_with fail
              refine (CT.out).mono ?_
              clear CT
              rintro e w1 ⟨rfl, hb1⟩
              have HB1 := Lib.hid hb1
              have s0 := (hb1.cell (p := ⟨h, 0, none⟩) hhr).trans r0
              have s1 := (hb1.cell (p := ⟨h, 1, none⟩) hhr).trans r1
              have s2 := (hb1.cell (p := ⟨h, 2, none⟩) hhr).trans r2
              have g0 := (hb1.frozen (p := ⟨h, 0, none⟩) hhr).trans f0
              have g1 := (hb1.frozen (p := ⟨h, 1, none⟩) hhr).trans f1
              have g2 := (hb1.frozen (p := ⟨h, 2, none⟩) hhr).trans f2
              clear hb1 r0 r1 r2 f0 f1 f2
              go_wp2
              refine bodyPost_ret (v := .agg #[.slice none 0 0, .int .i64 i, .int .i64 2]) (by simp [results, Try.results15, go_sem, s0, s1, s2]) rfl (HP.out _ _ ⟨?_, ?_⟩)
              · exact below_set3 (hbl.out.trans (HB1.out.mono (by omega : h ≤ wr.heap.size))) _ _ _
              · rw [HS.out]; rfl
            · have h6' : ((pre.length : Int) == 6000) = false := by rw [beq_eq_false_iff_ne]; omega
              rw [if_neg h6] at hsc2
              by_cases h40 : 40 < j - i
              · have h40' : (40 : Int) < (j : Int) - (i : Int) := by omega
                rw [if_pos h40] at hsc2
                have HS := Lib.hid hsc2
                clear hsc2 h6 h40
                go_wp2_with fail
                refine (CB.out).mono ?_
                clear CB
                rintro e w' ⟨rfl, rfl⟩
                go_wp2_with fail
                refine (CT.out).mono ?_
                clear CT
                rintro e w1 ⟨rfl, hb1⟩
                have HB1 := Lib.hid hb1
                have s0 := (hb1.cell (p := ⟨h, 0, none⟩) hhr).trans r0
                have s1 := (hb1.cell (p := ⟨h, 1, none⟩) hhr).trans r1
                have s2 := (hb1.cell (p := ⟨h, 2, none⟩) hhr).trans r2
                have g0 := (hb1.frozen (p := ⟨h, 0, none⟩) hhr).trans f0
                have g1 := (hb1.frozen (p := ⟨h, 1, none⟩) hhr).trans f1
                have g2 := (hb1.frozen (p := ⟨h, 2, none⟩) hhr).trans f2
                clear hb1 r0 r1 r2 f0 f1 f2
                go_wp2
                refine bodyPost_ret (v := .agg #[.slice none 0 0, .int .i64 i, .int .i64 11]) (by simp [results, Try.results15, go_sem, s0, s1, s2]) rfl (HP.out _ _ ⟨?_, ?_⟩)
                · exact below_set3 (hbl.out.trans (HB1.out.mono (by omega : h ≤ wr.heap.size))) _ _ _
                · rw [HS.out]; rfl
              · have h40' : ¬ ((40 : Int) < (j : Int) - (i : Int)) := by omega
                rw [if_neg h40] at hsc2
                have HS := Lib.hid hsc2
                have hi1 : (0 : Int) ≤ (i : Int) := by omega
                have hi2 : (i : Int) ≤ (j : Int) := by omega
                have hi3 : (j : Int) ≤ (s.size : Int) := by omega
                have hrow0 := ownBlock_lt hown.out
                have Hrow0 := Lib.hid hrow0
                clear hsc2 r0 r1 r2 f0 f1 f2 hrow0
                go_wp2_with fail
                refine (CB.out).mono ?_
                clear CB
                rintro e w' ⟨rfl, rfl⟩
                go_wp2_with fail
                refine (CT.out).mono ?_
                clear CT
                rintro e w1 ⟨rfl, hb1⟩
                have HB1 : Hid (Below h w w1) := hbl.out.trans (hb1.mono (by omega : h ≤ wr.heap.size))
                have Hrow1 : Hid (w1.heap[h]? = some (.cells #[.slice none 0 0, .int .i64 0, .int .i64 0] 28 (0, 0))) := Lib.hid ((hb1.block h hhr).trans hrow.out)
                have Hown1 : Hid (w1.ownsRow (h + 1) 33 3 (.slice a pre.length cap) pre.length (flat pre)) := Lib.hid (ownsRow_below' hown.out hb1)
                have hw1 : h < w1.heap.size := Nat.lt_of_lt_of_le hhr hb1.size
                clear hb1 hown hrow hbl
                go_wp2_with (at_builtin; refine wpList_append_own _ rfl _ _ 23 rfl (h + 1) 33 i0 _ 3 32 Try.underlying23 hi0 hz0 hz1 hz2 rfl (by decide) _ _ _ rfl (Hown1.out.alloc _) ⟨w1.heap.size, 0, none⟩ 1 1 [.int .i64 k, .string (s.extract i j), .int .i64 i] rfl rfl (cells3 w1 _ _ _ _ _ rfl) (by simp [Value.oneCell']) (by unfold maxLen; omega) (by omega) (by simp only [World.size_alloc]; omega) ?_; intro v' w3 hown' hgrow _)
                have H1 := Lib.hid hown'
                have H2 := Lib.hid hgrow
                clear hown' hgrow
                go_wp2
                go_roundw
                case rel =>
                  refine ⟨f, pre ++ [⟨k, Lx.slice (bs s) i j, i⟩], j, rfl, by omega, by omega, by rw [List.length_append, List.length_singleton]; omega, HS, ?_, ?_, ?_⟩
                  · exact (HB1.out.alloc (by omega) _).grown H2.out (by simp only [World.size_alloc]; omega) (fun b hb => by have := (Hrow0.out b hb).1; omega)
                  · refine Lib.hid ((H2.out.block h (by simp only [World.size_alloc]; omega) ?_).trans ((Below.heap_alloc _ _ _ hw1).trans Hrow1.out))
                    intro e
                    have := (Hrow0.out h e.symm).1
                    omega
                  · have ht : flat (pre ++ [⟨k, Lx.slice (bs s) i j, i⟩]) = flat pre ++ [.int .i64 k, .string (s.extract i j), .int .i64 i] := flat_snoc s pre k i j
                    unfold Toks
                    rw [ht, List.length_append]
                    exact H1
                case measure => simp [intOf]; omega
    · have hlt' : ¬ ((i : Int) < (s.size : Int)) := by omega
      have HS : Hid (Rs = .toks pre) := Lib.hid (by
        rw [hsc.out, Lx.skipTo_end (by rw [bs_len]; omega)]
        cases f with
        | zero => rfl
        | succ f => simp only [Lx.scanT]; rw [if_pos (by rw [bs_len]; omega)])
      obtain ⟨a, cap, rfl⟩ := ownsRow_shape hown.out
      clear hsc
      go_wp2
      refine bodyPost_ret (v := .agg #[.slice a pre.length cap, .int .i64 0, .int .i64 0]) (by simp [results, Try.results15, go_sem, r0, r1, r2]) rfl (HP.out _ _ ⟨?_, ?_⟩)
      · exact below_set3 hbl.out _ _ _
      · rw [HS.out]
        refine ⟨_, rfl, ?_⟩
        refine ownsRow_base (ownsRow_blocks hown.out fun k hk _ _ => set3_heap (by omega) _ _ _) (by omega)
theorem rScan_any (s : ByteArray) (w : World) (hs : s.size ≤ maxLen) : Calls Try.prog 15 #[.string s] w (RScanOut s w) := by
  by_cases h : 20000 < s.size
  · exact rScan_big s w hs h
  · exact rScan_small s w (by omega)
end Go.Proofs.Ytihbecfjgdlebaa
