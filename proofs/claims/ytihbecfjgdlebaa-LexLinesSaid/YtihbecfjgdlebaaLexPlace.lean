/- Walks of layer 1: Place, Lines. -/
import Derived.Test.YtihbecfjgdlebaaLexCheck
import Derived.Maps.AppendAt
namespace Go.Proofs.Ytihbecfjgdlebaa
open Go.RowKit

theorem lastIdx_in (s : ByteArray) : -1 ≤ Lib.lastIndexByte s 10 ∧ Lib.lastIndexByte s 10 < s.size := by
  rcases Lib.lastIndexByte_spec s 10 with ⟨e, _⟩ | ⟨i, hi, e, _⟩ <;> omega
theorem count_in (s : ByteArray) : Lib.countByte s.data.toList 10 ≤ s.size := by
  have h : Lib.countByte s.data.toList 10 ≤ s.data.toList.length := List.count_le_length
  simpa using h

set_option maxRecDepth 100000 in
set_option maxHeartbeats 400000 in
theorem place_out (s : ByteArray) (i : Int) (w : World) (h : i < 0 ∨ (s.size : Int) < i) :
    Calls Try.prog 36 #[.string s, .int .i64 i] w fun e w' => e = .returned (.tuple #[.int .i64 0, .int .i64 0, .int .i64 1]) ∧ w' = w := by
  by_cases h0 : i < 0
  · go_enter Try.func36, Try.ntmps36
    go_wp2
    refine bodyPost_ret (v := .tuple #[.int .i64 0, .int .i64 0, .int .i64 1]) (by simp [results, Try.results36, go_sem]) rfl ⟨rfl, rfl⟩
  · have h1 : (s.size : Int) < i := by omega
    go_enter Try.func36, Try.ntmps36
    go_wp2
    refine bodyPost_ret (v := .tuple #[.int .i64 0, .int .i64 0, .int .i64 1]) (by simp [results, Try.results36, go_sem]) rfl ⟨rfl, rfl⟩

set_option maxRecDepth 100000 in
set_option maxHeartbeats 400000 in
theorem place_in (s : ByteArray) (i : Nat) (w : World) (hs : s.size ≤ 4611686018427387000) (h : i ≤ s.size) :
    Calls Try.prog 36 #[.string s, .int .i64 i] w fun e w' =>
      e = .returned (.tuple #[.int .i64 (Lib.countByte (s.extract 0 i).data.toList 10 + 1), .int .i64 (i - Lib.lastIndexByte (s.extract 0 i) 10), .int .i64 0]) ∧ w' = w := by
  have h0 : ¬ ((i : Int) < 0) := by omega
  have h1 : ¬ ((s.size : Int) < (i : Int)) := by omega
  have hz : (s.extract 0 i).size = i := by rw [ByteArray.size_extract]; omega
  obtain ⟨L, hL⟩ : ∃ L, Lib.lastIndexByte (s.extract 0 i) 10 = L := ⟨_, rfl⟩
  obtain ⟨C, hC⟩ : ∃ C, Lib.countByte (s.extract 0 i).data.toList 10 = C := ⟨_, rfl⟩
  go_enter Try.func36, Try.ntmps36
  go_wp2_with fail
  refine (Try.strings_LastIndexByte (s.extract 0 i) 10 (by omega) _).mono ?_
  rintro e w1 ⟨rfl, rfl⟩
  have hb := lastIdx_in (s.extract 0 i)
  rw [hL] at hb ⊢
  go_wp2_with fail
  refine (Try.strings_Count_one (s.extract 0 i) 10 _).mono ?_
  rintro e w2 ⟨rfl, rfl⟩
  have hc := count_in (s.extract 0 i)
  rw [hC] at hc ⊢
  go_wp2
  refine bodyPost_ret (v := .tuple #[.int .i64 (C + 1), .int .i64 (i - L), .int .i64 0]) (by simp [results, Try.results36, go_sem]; omega) rfl ⟨?_, rfl⟩
  rw [hL, hC]

/-- Where lines begin, as far as the first k bytes tell. -/
def lnAt (l : Lx.Bs) : Nat → List Nat
  | 0 => [0]
  | k + 1 => lnAt l k ++ (if l[k]? = some 10 then [k + 1] else [])
def intsV (l : List Nat) : List Value := l.map fun (n : Nat) => Value.int .i64 (n : Int)
theorem lnAt_len (l : Lx.Bs) (k : Nat) : (lnAt l k).length ≤ k + 1 := by
  induction k with
  | zero => simp [lnAt]
  | succ k ih => simp only [lnAt, List.length_append]; split <;> simp <;> omega
theorem infoInt : (Try.prog.info? 3).map (fun i => (i.zero, i.size, i.bytes)) = some (some (.int .i64 0), 1, 8) := by kernel_rfl

set_option maxRecDepth 100000 in
set_option maxHeartbeats 400000 in
theorem lines_any (s : ByteArray) (w : World) (hs : s.size ≤ 1000000000) :
    Calls Try.prog 39 #[.string s] w fun e w' => ∃ v, e = .returned v ∧ w'.ownsRow w.heap.size 3 1 v (lnAt (bs s) s.size).length (intsV (lnAt (bs s) s.size)) ∧ Below w.heap.size w w' := by
  obtain ⟨i0, hi, hz0, hz1, hz2⟩ := info_parts infoInt
  go_enter Try.func39, Try.ntmps39
  go_wp2
  go_loopw [3, 8] (fun v3 v8 wr => ∃ k : Nat, k ≤ s.size ∧ v8 = .int .i64 k ∧ Hid (wr.ownsRow w.heap.size 3 1 v3 (lnAt (bs s) k).length (intsV (lnAt (bs s) k))) ∧ Hid (Below w.heap.size w wr)) (fun _ v8 _ => s.size - (intOf v8).toNat)
  case atStart =>
    refine ⟨0, Nat.zero_le _, rfl, ?_, ?_⟩
    · exact World.ownsRow_lit w #[.int .i64 0] 1 (Nat.le_refl _) (by simp [maxLen]) rfl
    · exact (Below.refl _ w).alloc (Nat.le_refl _) _
  case round =>
    obtain ⟨k, hk, rfl, hown, hbl⟩ := hrel
    by_cases hlt : k < s.size
    · have hby := byte_lt s[k]
      have hown1 := hown.out
      have hsz := hbl.out.size
      have hln := lnAt_len (bs s) k
      have hbk : (bs s)[k]? = some s[k] := by rw [List.getElem?_eq_getElem (by rw [bs_len]; exact hlt), bs_get hlt]
      by_cases hc : s[k] = 10
      · have hst : lnAt (bs s) (k + 1) = lnAt (bs s) k ++ [k + 1] := by simp only [lnAt]; rw [hbk, hc]; rfl
        have hc2 : ((s[k].toNat : Int) == 10) = true := by rw [hc]; rfl
        have Hst := Lib.hid hst
        clear hst hbk hc
        go_wp2_with (first
          | (at_builtin; refine wpList_append_own _ rfl _ _ 46 rfl w.heap.size 3 i0 (.int .i64 0) 1 8 Try.underlying46 hi hz0 hz1 hz2 rfl (by decide) _ _ _ rfl (hown1.alloc _) ⟨wr.heap.size, 0, none⟩ 1 1 [.int .i64 (k + 1)] rfl rfl (cell_one_new _ _ _) (ints_oneCell .i64 [_]) (by unfold maxLen; omega) (by omega) (by simp only [World.size_alloc]; omega) ?_; intro v' w2 hown' hgrow _)
          | go_in)
        have H1 := Lib.hid hown'
        have H2 := Lib.hid hgrow
        clear hown' hgrow
        go_wp2
        go_roundw
        case rel =>
          refine ⟨k + 1, hlt, by push_cast; rfl, ?_, ?_⟩
          · have e : intsV (lnAt (bs s) k ++ [k + 1]) = intsV (lnAt (bs s) k) ++ [Value.int .i64 ((k : Int) + 1)] := by simp [intsV]
            rw [Hst.out, e, List.length_append]
            exact H1
          · exact (hbl.out.alloc hsz _).grown H2.out (by simp only [World.size_alloc]; omega) (fun b hb1 => (ownBlock_lt hown1 b hb1).1)
        case measure => simp [intOf]; omega
      · have hst : lnAt (bs s) (k + 1) = lnAt (bs s) k := by simp only [lnAt]; rw [hbk, if_neg (by simpa using hc)]; simp
        have hc2 : ((s[k].toNat : Int) == 10) = false := by
          rw [beq_eq_false_iff_ne]; intro e; exact hc (by rw [← UInt8.toNat_inj]; exact Int.ofNat_inj.1 e)
        have Hst := Lib.hid hst
        clear hst hbk hc
        go_wp2
        go_roundw
        case rel => exact ⟨k + 1, hlt, by push_cast; rfl, by rw [Hst.out]; exact hown, hbl⟩
        case measure => simp [intOf]; omega
    · have hks : k = s.size := by omega
      subst hks
      go_wp2
      go_ret
      exact ⟨_, rfl, hown.out, hbl.out⟩
end Go.Proofs.Ytihbecfjgdlebaa
