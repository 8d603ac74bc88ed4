/- Walks of layer 1's reference: Place, Lines, SameInts; the law file's samePairs. -/
import Derived.Test.YtihbecfjgdlebaaLexComSl
import Derived.Test.YtihbecfjgdlebaaLexLinesP
namespace Go.Proofs.Ytihbecfjgdlebaa
open Go.RowKit

set_option maxRecDepth 100000 in
set_option maxHeartbeats 400000 in
theorem rPlace_out (s : ByteArray) (i : Int) (w : World) (h : i < 0 ∨ (s.size : Int) < i) :
    Calls Try.prog 37 #[.string s, .int .i64 i] w fun e w' => e = .returned (.agg #[.int .i64 0, .int .i64 0, .int .i64 1]) ∧ Below w.heap.size w w' := by
  by_cases h0 : i < 0
  · go_enter Try.func37, Try.ntmps37
    go_wp2
    refine bodyPost_ret (v := .agg #[.int .i64 0, .int .i64 0, .int .i64 1]) (by simp [results, Try.results37, go_sem]) rfl ⟨rfl, (Below.refl _ w).alloc (Nat.le_refl _) _⟩
  · have h1 : (s.size : Int) < i := by omega
    go_enter Try.func37, Try.ntmps37
    go_wp2
    refine bodyPost_ret (v := .agg #[.int .i64 0, .int .i64 0, .int .i64 1]) (by simp [results, Try.results37, go_sem]) rfl ⟨rfl, (Below.refl _ w).alloc (Nat.le_refl _) _⟩

set_option maxRecDepth 100000 in
set_option maxHeartbeats 1000000 in
theorem rPlace_in (s : ByteArray) (i : Nat) (w : World) (hs : s.size ≤ 1000000000) (hi : i ≤ s.size) :
    Calls Try.prog 37 #[.string s, .int .i64 i] w fun e w' =>
      e = .returned (.agg #[.int .i64 (cnL (bs s) i + 1), .int .i64 ((i - lsL (bs s) i : Nat) + 1), .int .i64 0]) ∧ Below w.heap.size w w' := by
  have h0 : ¬ ((i : Int) < 0) := by omega
  have h1 : ¬ ((s.size : Int) < (i : Int)) := by omega
  have Hle := Lib.hid (fun k => lsL_le (bs s) k)
  have Hmono := Lib.hid (fun k => cnL_mono (bs s) (i := k) (n := i))
  have Hcn : Hid (cnL (bs s) i + 1 ≤ i + 1) := Lib.hid (by rw [← lnAt_length]; exact lnAt_len _ _)
  go_enter Try.func37, Try.ntmps37
  go_wp2
  go_loopw [6] (fun v wr => ∃ k : Nat, k ≤ i ∧ v = .int .i64 k ∧ wr = (w.alloc (.cells #[.int .i64 0, .int .i64 0, .int .i64 0] 43)).alloc (.cells #[.int .i64 (cnL (bs s) k + 1), .int .i64 ((k - lsL (bs s) k : Nat) + 1), .int .i64 0] 43)) (fun v _ => i - (intOf v).toNat)
  case atStart => exact ⟨0, Nat.zero_le _, rfl, rfl⟩
  case round =>
    obtain ⟨k, hk, rfl, rfl⟩ := hrel
    by_cases hlt : k < i
    · have hlt' : (k : Int) < (i : Int) := by omega
      have hks : k < s.size := by omega
      have hks' : (k : Int) < (s.size : Int) := by omega
      have hk0 : (0 : Int) ≤ (k : Int) := by omega
      have hby := byte_lt s[k]
      have hls := Hle.out k
      have hcn := Hmono.out k (by omega)
      have hcm := Hcn.out
      have hbk : (bs s)[k]? = some s[k] := by rw [List.getElem?_eq_getElem (by rw [bs_len]; exact hks), bs_get hks]
      by_cases hc : s[k] = 10
      · have e1 : cnL (bs s) (k + 1) = cnL (bs s) k + 1 := by simp only [cnL]; rw [hbk, hc, if_pos rfl]
        have e2 : k + 1 - lsL (bs s) (k + 1) = 0 := by simp only [lsL]; rw [hbk, hc, if_pos rfl]; omega
        have hc2 : ((s[k].toNat : Int) == 10) = true := by rw [hc]; rfl
        have E1 := Lib.hid e1
        have E2 := Lib.hid e2
        clear hbk hc e1 e2
        obtain ⟨C, hC⟩ : ∃ C, cnL (bs s) k = C := ⟨_, rfl⟩
        obtain ⟨q, hq⟩ : ∃ q, k - lsL (bs s) k = q := ⟨_, rfl⟩
        rw [hC] at E1 hcn ⊢
        rw [hq]
        have hq2 : q ≤ k := by omega
        clear hC hq
        go_wp2
        go_roundw
        case rel => exact ⟨k + 1, by omega, by push_cast; rfl, by rw [E1.out, E2.out]; push_cast; rfl⟩
        case measure => simp [intOf]; omega
      · have e1 : cnL (bs s) (k + 1) = cnL (bs s) k := by simp only [cnL]; rw [hbk, if_neg (by simpa using hc)]; rfl
        have e2 : k + 1 - lsL (bs s) (k + 1) = k - lsL (bs s) k + 1 := by simp only [lsL]; rw [hbk, if_neg (by simpa using hc)]; omega
        have hc2 : ((s[k].toNat : Int) == 10) = false := by
          rw [beq_eq_false_iff_ne]; intro e; exact hc (by rw [← UInt8.toNat_inj]; exact Int.ofNat_inj.1 e)
        have E1 := Lib.hid e1
        have E2 := Lib.hid e2
        clear hbk hc e1 e2
        obtain ⟨C, hC⟩ : ∃ C, cnL (bs s) k = C := ⟨_, rfl⟩
        obtain ⟨q, hq⟩ : ∃ q, k - lsL (bs s) k = q := ⟨_, rfl⟩
        rw [hC] at E1 hcn ⊢
        rw [hq] at E2 ⊢
        have hq2 : q ≤ k := by omega
        clear hC hq
        go_wp2
        go_roundw
        case rel => exact ⟨k + 1, by omega, by push_cast; rfl, by rw [E1.out, E2.out]; push_cast; rfl⟩
        case measure => simp [intOf]; omega
    · obtain rfl : k = i := by omega
      have hlt' : ¬ ((k : Int) < (k : Int)) := by omega
      obtain ⟨C, hC⟩ : ∃ C : Int, ((cnL (bs s) k : Nat) : Int) + 1 = C := ⟨_, rfl⟩
      obtain ⟨q, hq⟩ : ∃ q : Int, ((k - lsL (bs s) k : Nat) : Int) + 1 = q := ⟨_, rfl⟩
      rw [hC, hq]
      have HC := Lib.hid hC
      have Hq := Lib.hid hq
      clear hC hq
      go_wp2
      refine bodyPost_ret (v := .agg #[.int .i64 C, .int .i64 q, .int .i64 0]) (by simp [results, Try.results37, go_sem]) rfl ⟨by rw [HC.out, Hq.out], ?_⟩
      exact ((Below.refl _ w).alloc (Nat.le_refl _) _).alloc (by simp) _

set_option maxRecDepth 100000 in
set_option maxHeartbeats 400000 in
theorem rLines (s : ByteArray) (w : World) (hs : s.size ≤ 1000000000) :
    Calls Try.prog 40 #[.string s] w fun e w' => ∃ v, e = .returned v ∧ w'.ownsRow w.heap.size 3 1 v (lnAt (bs s) s.size).length (intsV (lnAt (bs s) s.size)) ∧ Below w.heap.size w w' := by
  obtain ⟨i0, hi, hz0, hz1, hz2⟩ := info_parts infoInt
  go_enter Try.func40, Try.ntmps40
  go_wp2
  go_loopw [3, 4] (fun v3 v8 wr => ∃ k : Nat, k ≤ s.size ∧ v8 = .int .i64 k ∧ Hid (wr.ownsRow w.heap.size 3 1 v3 (lnAt (bs s) k).length (intsV (lnAt (bs s) k))) ∧ Hid (Below w.heap.size w wr)) (fun _ v8 _ => s.size - (intOf v8).toNat)
  case atStart =>
    refine ⟨0, Nat.zero_le _, rfl, ?_, ?_⟩
    · exact World.ownsRow_lit w #[.int .i64 0] 1 (Nat.le_refl _) (by simp [maxLen]) rfl
    · exact (Below.refl _ w).alloc (Nat.le_refl _) _
  case round =>
    obtain ⟨k, hk, rfl, hown, hbl⟩ := hrel
    by_cases hlt : k < s.size
    · have hby := byte_lt s[k]
      have hown1 := hown.out
      have hsz := hbl.out.size
      have hln := lnAt_len (bs s) k
      have hbk : (bs s)[k]? = some s[k] := by rw [List.getElem?_eq_getElem (by rw [bs_len]; exact hlt), bs_get hlt]
      by_cases hc : s[k] = 10
      · have hst : lnAt (bs s) (k + 1) = lnAt (bs s) k ++ [k + 1] := by simp only [lnAt]; rw [hbk, hc]; rfl
        have hc2 : ((s[k].toNat : Int) == 10) = true := by rw [hc]; rfl
        have Hst := Lib.hid hst
        clear hst hbk hc
        go_wp2_with (first
          | (at_builtin; refine wpList_append_own _ rfl _ _ 46 rfl w.heap.size 3 i0 (.int .i64 0) 1 8 Try.underlying46 hi hz0 hz1 hz2 rfl (by decide) _ _ _ rfl (hown1.alloc _) ⟨wr.heap.size, 0, none⟩ 1 1 [.int .i64 (k + 1)] rfl rfl (cell_one_new _ _ _) (ints_oneCell .i64 [_]) (by unfold maxLen; omega) (by omega) (by simp only [World.size_alloc]; omega) ?_; intro v' w2 hown' hgrow _)
          | go_in)
        have H1 := Lib.hid hown'
        have H2 := Lib.hid hgrow
        clear hown' hgrow
        go_wp2
        go_roundw
        case rel =>
          refine ⟨k + 1, hlt, by push_cast; rfl, ?_, ?_⟩
          · have e : intsV (lnAt (bs s) k ++ [k + 1]) = intsV (lnAt (bs s) k) ++ [Value.int .i64 ((k : Int) + 1)] := by simp [intsV]
            rw [Hst.out, e, List.length_append]
            exact H1
          · exact (hbl.out.alloc hsz _).grown H2.out (by simp only [World.size_alloc]; omega) (fun b hb1 => (ownBlock_lt hown1 b hb1).1)
        case measure => simp [intOf]; omega
      · have hst : lnAt (bs s) (k + 1) = lnAt (bs s) k := by simp only [lnAt]; rw [hbk, if_neg (by simpa using hc)]; simp
        have hc2 : ((s[k].toNat : Int) == 10) = false := by
          rw [beq_eq_false_iff_ne]; intro e; exact hc (by rw [← UInt8.toNat_inj]; exact Int.ofNat_inj.1 e)
        have Hst := Lib.hid hst
        clear hst hbk hc
        go_wp2
        go_roundw
        case rel => exact ⟨k + 1, hlt, by push_cast; rfl, by rw [Hst.out]; exact hown, hbl⟩
        case measure => simp [intOf]; omega
    · have hks : k = s.size := by omega
      subst hks
      go_wp2
      go_ret
      exact ⟨_, rfl, hown.out, hbl.out⟩

set_option maxRecDepth 100000 in
set_option maxHeartbeats 1000000 in
theorem rSameInts (va vb : Value) (L : List Nat) (w : World) (ha : IntSl w va L) (hb : IntSl w vb L) (hm : L.length ≤ 1000000000) :
    Calls Try.prog 38 #[va, vb] w fun e w' => e = .returned (.bool true) ∧ Below w.heap.size w w' := by
  obtain ⟨a, ca, rfl, hca⟩ := ha
  obtain ⟨b, cb, rfl, hcb⟩ := hb
  go_enter Try.func38, Try.ntmps38
  go_wp2
  go_loopw [5] (fun v wr => ∃ k : Nat, k ≤ L.length ∧ v = .int .i64 k ∧ Hid (Below w.heap.size w wr)) (fun v _ => L.length - (intOf v).toNat)
  case atStart => exact ⟨0, Nat.zero_le _, rfl, Below.refl _ _⟩
  case round =>
    obtain ⟨k, hk, rfl, hbl⟩ := hrel
    by_cases hlt : k < L.length
    · have hlt' : (k : Int) < (L.length : Int) := by omega
      obtain ⟨ba, rfl, hA⟩ := hca (by rintro rfl; simp at hlt)
      obtain ⟨bb, rfl, hB⟩ := hcb (by rintro rfl; simp at hlt)
      have x0 := (hbl.out.cell (p := ⟨ba, k, none⟩) (block_lt_of_cell (hA k hlt))).trans (hA k hlt)
      have y0 := (hbl.out.cell (p := ⟨bb, k, none⟩) (block_lt_of_cell (hB k hlt))).trans (hB k hlt)
      clear hca hcb hA hB
      generalize L[k] = X at x0 y0
      go_upto_region 6 with fail
      go_cut [25] (fun v wx => v = .bool false ∧ Hid (Below w.heap.size w wx))
      case first =>
        go_region
        all_goals go_wp2
        all_goals go_meet
        all_goals exact ⟨by simp, hbl.out.drew⟩
      case rest =>
        obtain ⟨rfl, hbx⟩ := hcut
        go_wp2
        go_roundw
        case rel => exact ⟨k + 1, hlt, by push_cast; rfl, hbx⟩
        case measure => simp [intOf]; omega
    · have hlt' : ¬ ((k : Int) < (L.length : Int)) := by omega
      clear hca hcb
      go_wp2
      go_ret
      exact ⟨rfl, hbl.out⟩

theorem eqPair (a b : Int) (w : World) : (Op.equalIn 10000 55 (.agg #[.int .i64 a, .int .i64 b]) (.agg #[.int .i64 a, .int .i64 b])).run Try.prog w = .ok true w := by
  have u3 := Try.underlying3
  have a3 := Try.isAgg3
  have z3 := Try.sizeOf3
  rw [show (10000 : Nat) = 9999 + 1 from rfl, Op.equalIn]
  simp only [Sem.run_bind, run_underlying Try.underlying55, Result.andThen_ok]
  simp only [Std.Legacy.Range.forIn_eq_forIn_range', Std.Legacy.Range.size, Nat.sub_zero, Nat.add_sub_cancel, Nat.div_one, List.range'_succ, List.range'_zero, List.forIn_cons, List.forIn_nil]
  go_simp
set_option maxRecDepth 100000 in
set_option maxHeartbeats 1000000 in
theorem samePairs_self (va vb : Value) (A B : Nat) (L : List (Nat × Nat)) (w : World) (ha : ComSl w A va L) (hb : ComSl w B vb L) (hm : L.length ≤ 1000000000) :
    Calls Try.prog 41 #[va, vb] w fun e w' => e = .returned (.bool true) ∧ Below w.heap.size w w' := by
  obtain ⟨a, ca, rfl, hca⟩ := ha
  obtain ⟨b, cb, rfl, hcb⟩ := hb
  have heq := eqPair
  go_enter Try.func41, Try.ntmps41
  go_wp2
  go_loopw [5] (fun v wr => ∃ k : Nat, k ≤ L.length ∧ v = .int .i64 k ∧ Hid (Below w.heap.size w wr)) (fun v _ => L.length - (intOf v).toNat)
  case atStart => exact ⟨0, Nat.zero_le _, rfl, Below.refl _ _⟩
  case round =>
    obtain ⟨k, hk, rfl, hbl⟩ := hrel
    by_cases hlt : k < L.length
    · have hlt' : (k : Int) < (L.length : Int) := by omega
      obtain ⟨ba, rfl, _, lA, hA⟩ := hca (by rintro rfl; simp at hlt)
      obtain ⟨bb, rfl, _, lB, hB⟩ := hcb (by rintro rfl; simp at hlt)
      have x0 := (hbl.out.cell (p := ⟨ba, k * 2, none⟩) lA).trans (hA k hlt).1
      have x1 := (hbl.out.cell (p := ⟨ba, k * 2 + 1, none⟩) lA).trans (hA k hlt).2
      have y0 := (hbl.out.cell (p := ⟨bb, k * 2, none⟩) lB).trans (hB k hlt).1
      have y1 := (hbl.out.cell (p := ⟨bb, k * 2 + 1, none⟩) lB).trans (hB k hlt).2
      clear hca hcb hA hB
      generalize L[k] = X at x0 y0 x1 y1
      obtain ⟨X1, X2⟩ := X
      simp only at x0 y0 x1 y1
      go_upto_region 6 with fail
      go_cut [25] (fun v wx => v = .bool false ∧ Hid (Below w.heap.size w wx))
      case first =>
        go_region
        all_goals go_wp2
        all_goals go_meet
        all_goals exact ⟨by simp, hbl.out.drew⟩
      case rest =>
        obtain ⟨rfl, hbx⟩ := hcut
        go_wp2
        go_roundw
        case rel => exact ⟨k + 1, hlt, by push_cast; rfl, hbx⟩
        case measure => simp [intOf]; omega
    · have hlt' : ¬ ((k : Int) < (L.length : Int)) := by omega
      clear hca hcb
      go_wp2
      go_ret
      exact ⟨rfl, hbl.out⟩
end Go.Proofs.Ytihbecfjgdlebaa
