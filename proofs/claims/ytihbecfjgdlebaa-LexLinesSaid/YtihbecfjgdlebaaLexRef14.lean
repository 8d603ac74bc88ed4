/- Walks of layer 1's reference: written, Join, Tight. -/
import Derived.Test.YtihbecfjgdlebaaLexRef13
import Derived.Lib.BufferRead
namespace Go.Proofs.Ytihbecfjgdlebaa
open Go.RowKit

theorem byte_row (l : Lx.Bs) (j : Nat) (h : j < l.length) : (Lib.byteCells l)[j]? = some (.int .u8 (l[j].toNat : Int)) := by
  unfold Lib.byteCells
  rw [List.getElem?_map, List.getElem?_eq_getElem h]; rfl
theorem ownsRow_cells1 {w : World} {base e n : Nat} {a : Option Addr} {m cap : Nat} {xs : List Value} (h : w.ownsRow base e 1 (.slice a m cap) n xs) (hn : 0 < n) : ∃ g, a = some ⟨g, 0, none⟩ ∧ m = n ∧ base ≤ g ∧ g < w.heap.size ∧ ∀ j, j < n → w.cell? ⟨g, j, none⟩ = xs[j]? := by
  rcases h.2 with ⟨_, h0⟩ | ⟨g, cap', cur, he, hb, hh, r⟩
  · omega
  · simp only [Value.slice.injEq] at he
    obtain ⟨rfl, rfl, rfl⟩ := he
    exact ⟨g, rfl, rfl, hb, heap_lt hh, fun j hj => h.cellAt j (by omega)⟩

set_option maxRecDepth 100000 in
set_option maxHeartbeats 2000000 in
theorem rWritten (all : Bool) (sep : AT → AT → Bool) (hsep : ∀ a b, checkB a = true → checkB b = true → sep a b = (all || tightB a b))
    (v : Value) (l : List AT) (w : World) (hv : TokSl w v l) (hm : l.length ≤ maxLen) :
    Calls Try.prog 60 #[v, .bool all] w fun e w' => e = .returned (.string ⟨(wroteB sep l).toArray⟩) ∧ Below w.heap.size w w' := by
  obtain ⟨a, ca, rfl, hca⟩ := hv
  unfold maxLen at hm
  by_cases h6 : 6000 < l.length
  · have h6' : (6000 : Int) < (l.length : Int) := by omega
    have HS := Lib.hid (show wroteB sep l = [] from if_pos h6)
    clear hca
    go_enter Try.func60, Try.ntmps60
    go_wp2
    go_ret
    exact ⟨by rw [HS.out]; rfl, Below.refl _ _⟩
  have h6' : ¬ ((6000 : Int) < (l.length : Int)) := by omega
  obtain ⟨i0, hi0, hz0, hz1, hz2⟩ := info_parts infoByte
  have Hsep := Lib.hid hsep
  clear hsep
  go_enter Try.func60, Try.ntmps60
  go_wp2
  go_loopw [5, 6] (fun v5 v6 wr => ∃ k : Nat, k ≤ l.length ∧ v6 = .int .i64 k ∧ Hid (∀ i, (hi : i < l.length) → i < k → checkB l[i] = true) ∧ Hid (wr.ownsRow w.heap.size 5 1 v5 (outK sep l k).length (Lib.byteCells (outK sep l k))) ∧ Hid (Below w.heap.size w wr)) (fun _ v6 _ => l.length - (intOf v6).toNat)
  case atStart =>
    exact ⟨0, Nat.zero_le _, rfl, Lib.hid (fun i _ h => absurd h (Nat.not_lt_zero _)), Lib.hid (World.ownsRow_nil _ _ _ _), Below.refl _ w⟩
  case round =>
    obtain ⟨k, hk, rfl, hall, hown, hbl⟩ := hrel
    have hsz := hbl.out.size
    obtain ⟨oa, oc, rfl⟩ := ownsRow_shape hown.out
    by_cases hlt : k < l.length
    · obtain ⟨ba, oa', rfl, hA⟩ := hca (by rintro rfl; simp at hlt)
      clear hca
      obtain ⟨x0, x1, x2⟩ := (hA k hlt).below hbl.out
      have n0 := block_lt_of_cell x0
      simp only at n0
      have HA := Lib.hid hA
      clear hA
      have Hout := Lib.hid (show outK sep l (k + 1) = (outK sep l k ++ (if gapB sep l k then [32] else [])) ++ bs l[k].t from by simp only [outK]; rw [getD_in hlt])
      have HLen := Lib.hid (outK_len sep l k hk hall.out)
      obtain ⟨A, hAk⟩ : ∃ A, l[k] = A := ⟨_, rfl⟩
      rw [hAk] at x0 x1 x2 Hout
      have HAk := Lib.hid hAk
      clear hAk
      have C := Lib.hid (fun w => rCheck_v (checkB A) A w rfl)
      cases hc : checkB A with
      | false =>
        rw [hc] at C
        have HR : Hid (wroteB sep l = []) := by
          refine (if_neg h6).trans (if_neg ?_)
          intro h
          have := List.all_eq_true.1 h A (by rw [← HAk.out]; exact List.getElem_mem _)
          rw [hc] at this
          cases this
        clear hc
        go_wp2_with fail
        refine (C.out _).mono ?_
        clear C
        rintro e w1 ⟨rfl, hb1⟩
        have Hb1 := Lib.hid hb1
        clear hb1
        go_wp2
        go_ret
        exact ⟨by rw [HR.out]; rfl, hbl.out.trans (Hb1.out.mono hsz)⟩
      | true =>
        rw [hc] at C
        have HC := Lib.hid hc
        have HAs := checkB_size hc
        clear hc
        go_wp2_with fail
        refine (C.out _).mono ?_
        clear C
        rintro e w1 ⟨rfl, hb1⟩
        have Hb1 : Hid (Below w.heap.size w w1) := hbl.out.trans (hb1.mono hsz)
        have Ho1 : Hid (w1.ownsRow w.heap.size 5 1 (.slice oa (outK sep l k).length oc) (outK sep l k).length (Lib.byteCells (outK sep l k))) := Lib.hid (ownsRow_below' hown.out hb1)
        have hs1 := hb1.size
        clear hb1 x0 x1 x2 hown
        obtain ⟨G, hG⟩ : ∃ G, gapB sep l k = G := ⟨_, rfl⟩
        have HG := Lib.hid hG
        rw [hG] at Hout
        clear hG
        go_upto_region 9 with fail
        go_cut [38] (fun v wx => v = .bool G ∧ Hid (Below w1.heap.size w1 wx))
        case first =>
          obtain ⟨x0, x1, x2⟩ := (HA.out k hlt).below Hb1.out
          have n0 := block_lt_of_cell x0
          simp only at n0
          rw [HAk.out] at x0 x1 x2
          by_cases h0 : k = 0
          · subst h0
            have hG : G = false := by rw [← HG.out]; rfl
            subst hG
            clear HG
            go_region
            all_goals go_wp2
            all_goals go_meet
            all_goals exact ⟨by simp, (Below.refl _ _).drew⟩
          · obtain ⟨m, rfl⟩ : ∃ m, k = m + 1 := ⟨k - 1, by omega⟩
            have hg : G = (all || tightB (l[m]'(by omega)) A) := by
              rw [← HG.out]
              unfold gapB
              rw [getD_in hlt, HAk.out, show m + 1 - 1 = m from rfl, getD_in (by omega)]
              simp only [Nat.zero_lt_succ, decide_true, Bool.true_and]
              exact Hsep.out _ _ (hall.out m (by omega) (by omega)) HC.out
            have hkp : (0 : Int) < ((m + 1 : Nat) : Int) := by omega
            cases all with
            | true =>
              rw [Bool.true_or] at hg
              subst hg
              clear HG
              go_region
              all_goals go_wp2
              all_goals go_meet
              all_goals exact ⟨rfl, (Below.refl _ _).drew⟩
            | false =>
              rw [Bool.false_or] at hg
              obtain ⟨y0, y1, y2⟩ := (HA.out m (by omega)).below Hb1.out
              have n1 := block_lt_of_cell y0
              have hcm := hall.out m (by omega) (by omega)
              obtain ⟨P, hP⟩ : ∃ P, l[m]'(by omega) = P := ⟨_, rfl⟩
              rw [hP] at y0 y1 y2 hg hcm
              have C2 := Lib.hid (fun w => rApart_v G P A w hcm HC.out hg.symm)
              clear hP hg hcm HG
              have hwr : IntKind.i64.wrap (m : Int) = m := by rw [IntKind.wrap_i64]; omega
              have hm0 : (0 : Int) ≤ (m : Int) := by omega
              have hm1 : (m : Int) < (l.length : Int) := by omega
              have hk1 : ((m + 1 : Nat) : Int) < (l.length : Int) := by omega
              have hq1 : (0 : Int) < (m : Int) + 1 := by omega
              have hq2 : (0 : Int) ≤ (m : Int) + 1 := by omega
              have hq3 : (m : Int) + 1 < (l.length : Int) := by omega
              have hq4 : ((m : Int) + 1).toNat = m + 1 := by omega
              go_still_tail 14, (by kernel_rfl)
              change wpList _ _ _ _ _ w1.drew
              go_wp2_with fail
              refine (C2.out _).mono ?_
              rintro e w' ⟨rfl, hbx⟩
              go_wp2
              go_meet
              exact ⟨rfl, ((Below.refl _ w1).drew).trans hbx⟩
        case rest =>
          obtain ⟨rfl, hbc⟩ := hcut
          have HbW : Hid (Below w.heap.size w wc) := Hb1.out.trans (hbc.out.mono Hb1.out.size)
          have hzc := HbW.out.size
          have Hoc : Hid (wc.ownsRow w.heap.size 5 1 (.slice oa (outK sep l k).length oc) (outK sep l k).length (Lib.byteCells (outK sep l k))) := Lib.hid (ownsRow_below' Ho1.out hbc.out)
          have Hall : Hid (∀ i, (hi : i < l.length) → i < k + 1 → checkB l[i] = true) := Lib.hid fun i hi hik => by
            by_cases e : i = k
            · subst e; rw [HAk.out]; exact HC.out
            · exact hall.out i hi (by omega)
          have hll := HLen.out
          have hk6 : k * 20001 ≤ 6000 * 20001 := Nat.mul_le_mul_right _ (by omega)
          clear hall hbl hbc Ho1 HLen
          cases G
          · rw [if_neg (by decide), List.append_nil] at Hout
            obtain ⟨x0, x1, x2⟩ := (HA.out k hlt).below HbW.out
            have n0 := block_lt_of_cell x0
            simp only at n0
            rw [HAk.out] at x1
            clear x0 x2
            go_wp2_with (at_builtin; refine Lib.wpList_append_own_string _ rfl _ _ 81 9 rfl w.heap.size 5 i0 Try.underlying81 Try.underlying9 hi0 hz0 hz1 hz2 _ _ _ rfl Hoc.out A.t rfl (by unfold maxLen; omega) (by omega) (by omega) ?_; intro v' w2 hown' hgrow _)
            have H1 := Lib.hid hown'
            have H2 := Lib.hid hgrow
            obtain ⟨q1, q2, rfl⟩ := ownsRow_shape hown'
            clear hown' hgrow x1
            go_wp2
            go_roundw
            case rel =>
              refine ⟨k + 1, hlt, by push_cast; rfl, Hall, ?_, Lib.hid (HbW.out.grown H2.out hzc (fun b hb => (ownBlock_lt Hoc.out b hb).1))⟩
              rw [Hout.out, byteCells_append, List.length_append, bs_len]
              exact H1
            case measure => simp [intOf]; omega
          · rw [if_pos rfl] at Hout
            go_upto_region 11 with (at_builtin; refine wpList_append_own _ rfl _ _ 81 rfl w.heap.size 5 i0 (.int .u8 0) 1 1 Try.underlying81 hi0 hz0 hz1 hz2 rfl (by decide) _ _ _ rfl (Hoc.out.alloc _) ⟨wc.heap.size, 0, none⟩ 1 1 [.int .u8 32] rfl rfl (cell_one_new _ _ _) (by simp [Value.oneCell']) (by unfold maxLen; omega) (by omega) (by simp only [World.size_alloc]; omega) ?_; intro v' w2 hown' hgrow _)
            have H1 := Lib.hid hown'
            have HbW2 : Hid (Below w.heap.size w w2) := Lib.hid ((HbW.out.alloc hzc _).grown hgrow (by simp only [World.size_alloc]; omega) (fun b hb => (ownBlock_lt Hoc.out b hb).1))
            have hz2' := HbW2.out.size
            obtain ⟨q1, q2, rfl⟩ := ownsRow_shape hown'
            clear hown' hgrow
            obtain ⟨x0, x1, x2⟩ := (HA.out k hlt).below HbW2.out
            have n0 := block_lt_of_cell x0
            simp only at n0
            rw [HAk.out] at x1
            clear x0 x2
            go_wp2_with (at_builtin; refine Lib.wpList_append_own_string _ rfl _ _ 81 9 rfl w.heap.size 5 i0 Try.underlying81 Try.underlying9 hi0 hz0 hz1 hz2 _ _ _ rfl H1.out A.t rfl (by unfold maxLen; omega) (by omega) (by omega) ?_; intro v' w3 hown' hgrow _)
            have H3 := Lib.hid hown'
            have H4 := Lib.hid hgrow
            obtain ⟨p1, p2, rfl⟩ := ownsRow_shape hown'
            clear hown' hgrow x1
            go_wp2
            go_roundw
            case rel =>
              refine ⟨k + 1, hlt, by push_cast; rfl, Hall, ?_, Lib.hid (HbW2.out.grown H4.out hz2' (fun b hb => (ownBlock_lt H1.out b hb).1))⟩
              rw [Hout.out, byteCells_append, byteCells_append, List.length_append, List.length_append, bs_len]
              exact H3
            case measure => simp [intOf]; omega
    · have hks : k = l.length := by omega
      subst hks
      have HA : Hid (l.all checkB = true) := List.all_eq_true.2 fun x hx => by
        obtain ⟨i, hi, rfl⟩ := List.mem_iff_getElem.1 hx
        exact hall.out i hi hi
      have HLen := outK_len sep l _ (Nat.le_refl _) hall.out
      obtain ⟨O, hO⟩ : ∃ O, outK sep l l.length = O := ⟨_, rfl⟩
      have HO := Lib.hid hO
      rw [hO] at hown HLen
      rw [hO]
      clear hO hca hall
      by_cases hbig : 20000 < O.length
      · have hbig' : (20000 : Int) < (O.length : Int) := by omega
        have HR : Hid (wroteB sep l = []) := by unfold wroteB; rw [if_neg h6, if_pos HA.out, HO.out, if_pos hbig]; exact Lib.hid rfl
        clear hbig
        go_wp2
        go_ret
        exact ⟨by rw [HR.out]; rfl, hbl.out⟩
      · have hbig' : ¬ ((20000 : Int) < (O.length : Int)) := by omega
        have HR : Hid (wroteB sep l = O) := by unfold wroteB; rw [if_neg h6, if_pos HA.out, HO.out, if_neg hbig]; exact Lib.hid rfl
        rcases hown.out.2 with ⟨he, h0⟩ | ⟨g, cap', cur, he, hb, hh, r⟩
        · simp only [Value.slice.injEq] at he
          obtain ⟨rfl, -, rfl⟩ := he
          have hO0 : O = [] := List.length_eq_zero_iff.1 h0
          subst hO0
          have hcv := Lib.run_convert_nil_bytes (P := Try.prog) wr 81 9 5 0 Try.underlying81 Try.underlying5 Try.underlying9
          clear h0 hbig
          go_wp2
          go_ret
          exact ⟨by rw [HR.out]; rfl, hbl.out⟩
        · simp only [Value.slice.injEq] at he
          obtain ⟨rfl, -, rfl⟩ := he
          have hcv := run_convert_bytes_back (P := Try.prog) wr 81 9 5 ⟨g, 0, none⟩ oc O Try.underlying81 Try.underlying5 Try.underlying9 (fun j hj => by
            have hadd : (⟨g, 0, none⟩ : Addr).add j = ⟨g, j, none⟩ := by unfold Addr.add; split <;> simp_all
            rw [hadd, hown.out.cellAt j (by omega), byte_row O j hj])
          clear hb hh r hbig
          go_wp2
          go_ret
          exact ⟨by rw [HR.out]; rfl, hbl.out⟩

set_option maxRecDepth 100000 in
set_option maxHeartbeats 400000 in
theorem rJoin (v : Value) (l : List AT) (w : World) (hv : TokSl w v l) (hm : l.length ≤ maxLen) :
    Calls Try.prog 31 #[v] w fun e w' => e = .returned (.string ⟨(joinB l).toArray⟩) ∧ Below w.heap.size w w' := by
  have C := Lib.hid (rWritten true (fun _ _ => true) (fun _ _ _ _ => rfl) v l w hv hm)
  clear hv
  go_enter Try.func31, Try.ntmps31
  go_wp2_with fail
  refine C.out.mono ?_
  clear C
  rintro e w' ⟨rfl, hb⟩
  go_wp2
  go_ret
  exact ⟨rfl, hb⟩
set_option maxRecDepth 100000 in
set_option maxHeartbeats 400000 in
theorem rTight (v : Value) (l : List AT) (w : World) (hv : TokSl w v l) (hm : l.length ≤ maxLen) :
    Calls Try.prog 33 #[v] w fun e w' => e = .returned (.string ⟨(tightsB l).toArray⟩) ∧ Below w.heap.size w w' := by
  have C := Lib.hid (rWritten false tightB (fun _ _ _ _ => rfl) v l w hv hm)
  clear hv
  go_enter Try.func33, Try.ntmps33
  go_wp2_with fail
  refine C.out.mono ?_
  clear C
  rintro e w' ⟨rfl, hb⟩
  go_wp2
  go_ret
  exact ⟨rfl, hb⟩
end Go.Proofs.Ytihbecfjgdlebaa
