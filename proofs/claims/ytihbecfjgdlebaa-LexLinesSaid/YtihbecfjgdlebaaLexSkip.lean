/- Walks of layer 1: blanks and comments are skipped. -/
import Derived.Test.YtihbecfjgdlebaaLexFind
namespace Go.Proofs.Ytihbecfjgdlebaa
open Go.RowKit

theorem idx_line (r : Lx.Bs) : (Lib.indexByte r 10 = -1 ∧ (r.takeWhile fun c => decide (c.toNat ≠ 10)).length = r.length) ∨
    (0 ≤ Lib.indexByte r 10 ∧ Lib.indexByte r 10 = (r.takeWhile fun c => decide (c.toNat ≠ 10)).length) := by
  induction r with
  | nil => left; exact ⟨rfl, rfl⟩
  | cons b r ih =>
    unfold Lib.indexByte
    by_cases h : b = 10
    · subst h; right; simp
    · have hn : b.toNat ≠ 10 := fun e => h (by rw [← UInt8.toNat_inj]; exact e)
      have hb : (b == (10 : UInt8)) = false := by simpa using h
      have e : (b :: r).takeWhile (fun c => decide (c.toNat ≠ 10)) = b :: r.takeWhile (fun c => decide (c.toNat ≠ 10)) := by
        rw [List.takeWhile_cons, if_pos (by simpa using hn)]
      rw [hb, e]
      simp only [Bool.false_eq_true, if_false, List.length_cons]
      rcases ih with ⟨h1, h2⟩ | ⟨h1, h2⟩
      · left; rw [h1, h2]; exact ⟨rfl, rfl⟩
      · right
        have h3 : (Lib.indexByte r 10 == -1) = false := by rw [beq_eq_false_iff_ne]; omega
        rw [h3]; simp only [Bool.false_eq_true, if_false]; omega

set_option maxRecDepth 100000 in
set_option maxHeartbeats 400000 in
theorem lineEnd_any (s : ByteArray) (i : Nat) (w : World) (hs : s.size ≤ maxLen) (hi : i ≤ s.size) :
    Calls Try.prog 92 #[.string s, .int .i64 i] w fun e w' => e = .returned (.int .i64 (Lx.lineTo (bs s) i)) ∧ w = w' := by
  unfold maxLen at hs
  have hx := idx_line ((bs s).drop i)
  have hl := Lx.lineTo_le (l := bs s) (i := i) (by rw [bs_len]; omega)
  have hd : ((bs s).drop i).length = s.size - i := by simp [bs]
  have e1 : List.take (s.size - i) (List.drop i s.data.toList) = (bs s).drop i := List.take_of_length_le (by simp)
  have E1 := Lib.hid e1; clear e1
  have hL : Lx.lineTo (bs s) i = i + (((bs s).drop i).takeWhile fun c => decide (c.toNat ≠ 10)).length := rfl
  rw [bs_len] at hl
  rw [hd] at hx
  obtain ⟨n, hn⟩ : ∃ n, Lib.indexByte ((bs s).drop i) 10 = n := ⟨_, rfl⟩
  rw [hn] at hx
  have Hn := Lib.hid hn; clear hn hd
  rw [hL] at hl ⊢
  obtain ⟨m, hm⟩ : ∃ m, (((bs s).drop i).takeWhile fun c => decide (c.toNat ≠ 10)).length = m := ⟨_, rfl⟩
  rw [hm] at hx hl ⊢
  clear hm hL
  rcases hx with ⟨h1, h2⟩ | ⟨h1, h2⟩
  · have H2 := Lib.hid h2; clear h2
    subst h1
    go_enter Try.func92, Try.ntmps92
    go_wp2_with (go_at_call 81; refine (Try.strings_IndexByte _ _ _).mono ?_; rintro e w' ⟨rfl, hw⟩; obtain rfl := hw.symm; rw [show (10 : Int).toNat.toUInt8 = (10 : UInt8) from rfl, show (s.extract i s.size).data.toList = (bs s).drop i from (bs_extract_end s i), Hn.out])
    go_ret
    exact ⟨ret_int (by have := H2.out; omega), rfl⟩
  · subst h2
    go_enter Try.func92, Try.ntmps92
    go_wp2_with (go_at_call 81; refine (Try.strings_IndexByte _ _ _).mono ?_; rintro e w' ⟨rfl, hw⟩; obtain rfl := hw.symm; rw [show (10 : Int).toNat.toUInt8 = (10 : UInt8) from rfl, show (s.extract i s.size).data.toList = (bs s).drop i from (bs_extract_end s i), Hn.out])
    go_ret
    exact ⟨ret_int (by omega), rfl⟩
theorem lineEnd_int (s : ByteArray) (i : Int) (w : World) (hs : s.size ≤ maxLen) (h0 : 0 ≤ i) (hi : i ≤ s.size) :
    Calls Try.prog 92 #[.string s, .int .i64 i] w fun e w' => e = .returned (.int .i64 (Lx.lineTo (bs s) i.toNat)) ∧ w = w' := by
  obtain ⟨n, rfl⟩ := Int.eq_ofNat_of_zero_le h0
  exact lineEnd_any s n w hs (by omega)

theorem nat_of {c : UInt8} {n : Nat} (h : ((c.toNat : Int) == (n : Int)) = true) : c.toNat = n := by rw [beq_iff_eq] at h; omega
theorem nnat_of {c : UInt8} {n : Nat} (h : ((c.toNat : Int) == (n : Int)) = false) : c.toNat ≠ n := by rw [beq_eq_false_iff_ne] at h; omega
theorem blank_of {c : UInt8} (h : ((c.toNat : Int) == 32) = true ∨ ((c.toNat : Int) == 9) = true ∨ ((c.toNat : Int) == 10) = true) : Lx.blank c = true := by
  simp only [beq_iff_eq] at h
  simp only [Lx.blank, Bool.or_eq_true, decide_eq_true_eq]; omega
theorem noblank_of {c : UInt8} (h1 : ((c.toNat : Int) == 32) = false) (h2 : ((c.toNat : Int) == 9) = false) (h3 : ((c.toNat : Int) == 10) = false) : Lx.blank c = false := by
  simp only [beq_eq_false_iff_ne, ne_eq] at h1 h2 h3
  simp only [Lx.blank, Bool.or_eq_false_iff, decide_eq_false_iff_not]; omega

set_option maxRecDepth 100000 in
set_option maxHeartbeats 400000 in
theorem skip_any (s : ByteArray) (i : Nat) (w : World) (hs : s.size ≤ maxLen) (hi : i ≤ s.size) :
    Calls Try.prog 73 #[.string s, .int .i64 i] w fun e w' => e = .returned (.int .i64 (Lx.skipTo (bs s) i)) ∧ w = w' := by
  have hm := hs
  unfold maxLen at hs
  go_enter Try.func73, Try.ntmps73
  go_wp2
  go_loop [1] (fun a => ∃ k : Nat, k ≤ s.size ∧ a = .int .i64 k ∧ Lx.skipTo (bs s) i = Lx.skipTo (bs s) k) (fun a => s.size - (intOf a).toNat)
  case atStart => exact ⟨i, hi, rfl, rfl⟩
  case round =>
    obtain ⟨k, hk, rfl, hrun⟩ := hrel
    have Hrun := Lib.hid hrun; clear hrun
    by_cases hlt : k < s.size
    · go_wp2_with (go_at_call 92; refine (lineEnd_int s k _ hm (by omega) (by omega)).mono ?_; rintro e w' ⟨rfl, rfl⟩)
      · have h : ((s[k].toNat : Int) == 32) = true := by assumption
        go_round
        case rel => exact ⟨k + 1, by omega, by go_num, Hrun.out.trans (Lx.skipTo_blank (by rw [bs_len]; exact hlt) (by rw [bs_get hlt]; exact blank_of (.inl h)))⟩
        case measure => simp [intOf]; omega
      · have h : ((s[k].toNat : Int) == 9) = true := by assumption
        go_round
        case rel => exact ⟨k + 1, by omega, by go_num, Hrun.out.trans (Lx.skipTo_blank (by rw [bs_len]; exact hlt) (by rw [bs_get hlt]; exact blank_of (.inr (.inl h))))⟩
        case measure => simp [intOf]; omega
      · have h : ((s[k].toNat : Int) == 10) = true := by assumption
        go_round
        case rel => exact ⟨k + 1, by omega, by go_num, Hrun.out.trans (Lx.skipTo_blank (by rw [bs_len]; exact hlt) (by rw [bs_get hlt]; exact blank_of (.inr (.inr h))))⟩
        case measure => simp [intOf]; omega
      · have h : ((s[k].toNat : Int) == 37) = true := by assumption
        have hc := Lx.skipTo_comment (l := bs s) (k := k) (by rw [bs_len]; exact hlt) (by rw [bs_get hlt]; exact nat_of h)
        have hl := Lx.lineTo_le (l := bs s) (i := k) (by rw [bs_len]; omega)
        rw [bs_len] at hl
        go_round
        case rel => exact ⟨Lx.lineTo (bs s) k, by omega, rfl, Hrun.out.trans hc.1⟩
        case measure => simp [intOf]; omega
      · have h1 : ((s[k].toNat : Int) == 32) = false := by assumption
        have h2 : ((s[k].toNat : Int) == 9) = false := by assumption
        have h3 : ((s[k].toNat : Int) == 10) = false := by assumption
        have h4 : ((s[k].toNat : Int) == 37) = false := by assumption
        go_ret
        exact ⟨ret_int (by rw [Hrun.out, Lx.skipTo_stop (by rw [bs_len]; exact hlt) (by rw [bs_get hlt]; exact noblank_of h1 h2 h3) (by rw [bs_get hlt]; exact nnat_of h4)]), rfl⟩
    · go_wp2
      go_ret
      exact ⟨ret_int (by rw [Hrun.out, Lx.skipTo_end (by rw [bs_len]; omega)]), rfl⟩
theorem skip_int (s : ByteArray) (i : Int) (w : World) (hs : s.size ≤ maxLen) (h0 : 0 ≤ i) (hi : i ≤ s.size) :
    Calls Try.prog 73 #[.string s, .int .i64 i] w fun e w' => e = .returned (.int .i64 (Lx.skipTo (bs s) i.toNat)) ∧ w = w' := by
  obtain ⟨n, rfl⟩ := Int.eq_ofNat_of_zero_le h0
  exact skip_any s n w hs (by omega)
end Go.Proofs.Ytihbecfjgdlebaa
