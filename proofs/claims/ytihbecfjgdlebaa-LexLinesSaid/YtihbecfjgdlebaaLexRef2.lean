/- Walks of layer 1's reference: runs, the ends of lines, a string at an index. -/
import Derived.Test.YtihbecfjgdlebaaLexRef1
namespace Go.Proofs.Ytihbecfjgdlebaa
open Go.RowKit

set_option maxRecDepth 100000 in
set_option maxHeartbeats 400000 in
theorem rRun (s : ByteArray) (i : Nat) (w : World) (hs : s.size < maxLen) (hi : i ≤ s.size) :
    Calls Try.prog 57 #[.string s, .int .i64 i] w fun e w' => e = .returned (.int .i64 (Lx.runTo (bs s) i)) ∧ w = w' := by
  unfold maxLen at hs
  have Hstart := Lib.hid (rfl : Lx.runTo (bs s) i = Lx.runTo (bs s) i)
  obtain ⟨R, hR⟩ : ∃ R, Lx.runTo (bs s) i = R := ⟨_, rfl⟩
  have HR := Lib.hid hR
  rw [hR]
  clear hR Hstart
  go_enter Try.func57, Try.ntmps57
  go_wp2
  go_loopw [1] (fun v wr => ∃ k : Nat, k ≤ s.size ∧ v = .int .i64 k ∧ Hid (Lx.runTo (bs s) k = R) ∧ wr = w) (fun v _ => s.size - (intOf v).toNat)
  case atStart => exact ⟨i, hi, rfl, HR, rfl⟩
  case round =>
    obtain ⟨k, hk, rfl, hrun, rfl⟩ := hrel
    by_cases hlt : k < s.size
    · have hlt' : (k : Int) < (s.size : Int) := by omega
      have hby := byte_lt s[k]
      have hst := Lx.runTo_step (l := bs s) (k := k) (by rw [bs_len]; exact hlt)
      rw [bs_get hlt] at hst
      have C := Lib.hid (fun w => rPart s[k] w)
      obtain ⟨V, hV⟩ : ∃ V, Lx.part s[k] = V := ⟨_, rfl⟩
      rw [hV] at C hst
      have HS := Lib.hid hst
      clear hst hV
      go_wp2_with fail
      refine (C.out _).mono ?_
      rintro e w1 ⟨rfl, rfl⟩
      clear C
      cases V
      · go_wp2
        go_ret
        exact ⟨ret_int (by rw [← hrun.out, HS.out]; rfl), rfl⟩
      · go_wp2
        go_roundw
        case rel => exact ⟨k + 1, hlt, by push_cast; rfl, by rw [← hrun.out, HS.out]; exact Lib.hid rfl, by trivial⟩
        case measure => simp [intOf]; omega
    · have hlt' : ¬ ((k : Int) < (s.size : Int)) := by omega
      have he : Lx.runTo (bs s) k = k := Lx.runTo_end (by rw [bs_len]; omega)
      have HE := Lib.hid he
      clear he
      go_wp2
      go_ret
      exact ⟨ret_int (by rw [← hrun.out, HE.out]), rfl⟩

set_option maxRecDepth 100000 in
set_option maxHeartbeats 400000 in
theorem rBlank (c : UInt8) (w : World) : Calls Try.prog 49 #[.int .u8 c.toNat] w fun e w' => e = .returned (.bool (Lx.blank c)) ∧ w = w' := by
  have hby := byte_lt c
  have HV : Hid (Lx.blank c = (decide (c.toNat = 32) || decide (c.toNat = 9) || decide (c.toNat = 10))) := Lib.hid rfl
  obtain ⟨V, hV⟩ : ∃ V, Lx.blank c = V := ⟨_, rfl⟩
  rw [hV] at HV ⊢
  clear hV
  by_cases h1 : c.toNat = 32
  · have HN := Lib.hid h1
    have h1' : ((c.toNat : Int) == 32) = true := by rw [h1]; rfl
    clear h1
    go_enter Try.func49, Try.ntmps49
    go_wp2
    go_ret
    exact ⟨ret_bool (by rw [HV.out, HN.out]; rfl), rfl⟩
  · have h1' : ((c.toNat : Int) == 32) = false := by rw [beq_eq_false_iff_ne]; omega
    by_cases h2 : c.toNat = 9
    · have HN := Lib.hid h2
      have h2' : ((c.toNat : Int) == 9) = true := by rw [h2]; rfl
      clear h1 h2
      go_enter Try.func49, Try.ntmps49
      go_wp2
      go_ret
      exact ⟨ret_bool (by rw [HV.out, HN.out]; rfl), rfl⟩
    · have h2' : ((c.toNat : Int) == 9) = false := by rw [beq_eq_false_iff_ne]; omega
      by_cases h3 : c.toNat = 10
      · have HN := Lib.hid h3
        have h3' : ((c.toNat : Int) == 10) = true := by rw [h3]; rfl
        clear h1 h2 h3
        go_enter Try.func49, Try.ntmps49
        go_wp2
        go_ret
        exact ⟨ret_bool (by rw [HV.out, HN.out]; rfl), rfl⟩
      · have h3' : ((c.toNat : Int) == 10) = false := by rw [beq_eq_false_iff_ne]; omega
        have HN := Lib.hid (And.intro h1 (And.intro h2 h3))
        clear h1 h2 h3
        go_enter Try.func49, Try.ntmps49
        go_wp2
        go_ret
        exact ⟨ret_bool (by rw [HV.out, decide_eq_false HN.out.1, decide_eq_false HN.out.2.1, decide_eq_false HN.out.2.2]; rfl), rfl⟩

theorem lineTo_step {l : Lx.Bs} {k : Nat} (h : k < l.length) : Lx.lineTo l k = if l[k] = 10 then k else Lx.lineTo l (k + 1) := by
  unfold Lx.lineTo
  rw [List.drop_eq_getElem_cons h, List.takeWhile_cons]
  by_cases h10 : l[k] = 10
  · rw [if_pos h10, if_neg (by rw [h10]; decide)]; rfl
  · rw [if_neg h10, if_pos (by rw [decide_eq_true_eq]; intro e; exact h10 (by rw [← UInt8.toNat_inj]; exact e))]
    simp only [List.length_cons]; omega
theorem lineTo_end {l : Lx.Bs} {k : Nat} (h : l.length ≤ k) : Lx.lineTo l k = k := by
  unfold Lx.lineTo; rw [List.drop_of_length_le h]; rfl

set_option maxRecDepth 100000 in
set_option maxHeartbeats 400000 in
theorem rLineEnd (s : ByteArray) (i : Nat) (w : World) (hs : s.size < maxLen) (hi : i ≤ s.size) :
    Calls Try.prog 50 #[.string s, .int .i64 i] w fun e w' => e = .returned (.int .i64 (Lx.lineTo (bs s) i)) ∧ w = w' := by
  unfold maxLen at hs
  obtain ⟨R, hR⟩ : ∃ R, Lx.lineTo (bs s) i = R := ⟨_, rfl⟩
  have HR := Lib.hid hR
  rw [hR]
  clear hR
  go_enter Try.func50, Try.ntmps50
  go_wp2
  go_loopw [1] (fun v wr => ∃ k : Nat, k ≤ s.size ∧ v = .int .i64 k ∧ Hid (Lx.lineTo (bs s) k = R) ∧ wr = w) (fun v _ => s.size - (intOf v).toNat)
  case atStart => exact ⟨i, hi, rfl, HR, rfl⟩
  case round =>
    obtain ⟨k, hk, rfl, hrun, rfl⟩ := hrel
    by_cases hlt : k < s.size
    · have hlt' : (k : Int) < (s.size : Int) := by omega
      have hby := byte_lt s[k]
      have hst := lineTo_step (l := bs s) (k := k) (by rw [bs_len]; exact hlt)
      rw [bs_get hlt] at hst
      by_cases hc : s[k] = 10
      · have hc2 : ((s[k].toNat : Int) == 10) = true := by rw [hc]; rfl
        rw [if_pos hc] at hst
        have HS := Lib.hid hst
        clear hst hc
        go_wp2
        go_ret
        exact ⟨ret_int (by rw [← hrun.out, HS.out]), rfl⟩
      · have hc2 : ((s[k].toNat : Int) == 10) = false := by
          rw [beq_eq_false_iff_ne]; intro e; exact hc (by rw [← UInt8.toNat_inj]; exact Int.ofNat_inj.1 e)
        rw [if_neg hc] at hst
        have HS := Lib.hid hst
        clear hst hc
        go_wp2
        go_roundw
        case rel => exact ⟨k + 1, hlt, by push_cast; rfl, by rw [← hrun.out, HS.out]; exact Lib.hid rfl, by trivial⟩
        case measure => simp [intOf]; omega
    · have hlt' : ¬ ((k : Int) < (s.size : Int)) := by omega
      have he : Lx.lineTo (bs s) k = k := lineTo_end (by rw [bs_len]; omega)
      have HE := Lib.hid he
      clear he
      go_wp2
      go_ret
      exact ⟨ret_int (by rw [← hrun.out, HE.out]), rfl⟩

theorem isAt_pre (s p : ByteArray) (i : Nat) (h : i + p.size ≤ s.size) : ((s.extract i (i + p.size)).toList == p.toList) = Lx.pre (bs s) i (bs p) := by
  rw [ByteArray.toList_eq, ByteArray.toList_eq, show (s.extract i (i + p.size)).data.toList = Lx.slice (bs s) i (i + p.size) from bs_extract s i _]
  show (Lx.slice (bs s) i (i + p.size) == bs p) = _
  unfold Lx.pre Lx.slice
  rw [Nat.add_sub_cancel_left, ← bs_len p, Bool.eq_iff_iff, List.isPrefixOf_iff_prefix, List.prefix_iff_eq_take, beq_iff_eq]
  exact ⟨fun h => h.symm, fun h => h.symm⟩
theorem isAt_not (s p : ByteArray) (i : Nat) (hi : i ≤ s.size) (h : ¬ i + p.size ≤ s.size) : Lx.pre (bs s) i (bs p) = false := by
  unfold Lx.pre
  rw [Bool.eq_false_iff]
  intro e
  rw [List.isPrefixOf_iff_prefix] at e
  have := e.length_le
  rw [List.length_drop, bs_len, bs_len] at this
  omega

set_option maxRecDepth 100000 in
set_option maxHeartbeats 400000 in
theorem rIsAt (s p : ByteArray) (i : Nat) (w : World) (hs : s.size ≤ 100000) (hp : p.size ≤ 100000) (hi : i ≤ s.size) :
    Calls Try.prog 77 #[.string s, .int .i64 i, .string p] w fun e w' => e = .returned (.bool (Lx.pre (bs s) i (bs p))) ∧ w = w' := by
  by_cases h : i + p.size ≤ s.size
  · have h' : (i : Int) + (p.size : Int) ≤ (s.size : Int) := by omega
    have HS := Lib.hid (isAt_pre s p i h)
    obtain ⟨V, hV⟩ : ∃ V, Lx.pre (bs s) i (bs p) = V := ⟨_, rfl⟩
    rw [hV] at HS ⊢
    clear hV
    go_enter Try.func77, Try.ntmps77
    go_wp2
    go_ret
    exact ⟨ret_bool HS.out, rfl⟩
  · have h' : ¬ ((i : Int) + (p.size : Int) ≤ (s.size : Int)) := by omega
    have HS := Lib.hid (isAt_not s p i hi h)
    obtain ⟨V, hV⟩ : ∃ V, Lx.pre (bs s) i (bs p) = V := ⟨_, rfl⟩
    rw [hV] at HS ⊢
    clear hV
    go_enter Try.func77, Try.ntmps77
    go_wp2
    go_ret
    exact ⟨ret_bool HS.out.symm, rfl⟩
end Go.Proofs.Ytihbecfjgdlebaa
