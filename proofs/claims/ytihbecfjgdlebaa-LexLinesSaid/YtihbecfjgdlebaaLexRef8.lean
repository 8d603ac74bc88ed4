/- Walks of layer 1's reference: Check. -/
import Derived.Test.YtihbecfjgdlebaaLexRef7
import Derived.Test.YtihbecfjgdlebaaLexSame
namespace Go.Proofs.Ytihbecfjgdlebaa
open Go.RowKit

/-- What the reference's Check says of a text that begins with a byte that is no blank and no sign of a comment. -/
def refTok (a : AT) : Bool := match Lx.tokAt (bs a.t) 0 with
  | some (k, j) => decide ((k : Int) = a.k) && decide (j = a.t.size)
  | none => false
def refB (a : AT) : Bool := match (bs a.t)[0]? with
  | none => false
  | some c => decide (a.t.size ≤ 40) && !Lx.blank c && !decide (c.toNat = 37) && refTok a

set_option maxRecDepth 100000 in
set_option maxHeartbeats 1000000 in
theorem rCheck_empty (a : AT) (w : World) (hz : a.t.size = 0) :
    Calls Try.prog 24 #[.agg #[.int .i64 a.k, .string a.t, .int .i64 a.p]] w fun e w' => e = .returned (.int .i64 12) ∧ Below w.heap.size w w' := by
  have hz' : (a.t.size : Int) = 0 := by omega
  have hz'' : ((a.t.size : Int) == 0) = true := by rw [hz']; rfl
  clear hz hz'
  go_enter Try.func24, Try.ntmps24
  go_wp2
  go_ret
  exact ⟨rfl, (Below.refl _ w).alloc (Nat.le_refl _) _⟩
set_option maxRecDepth 100000 in
set_option maxHeartbeats 1000000 in
theorem rCheck_long (a : AT) (w : World) (hz : 40 < a.t.size) :
    Calls Try.prog 24 #[.agg #[.int .i64 a.k, .string a.t, .int .i64 a.p]] w fun e w' => e = .returned (.int .i64 12) ∧ Below w.heap.size w w' := by
  have hz' : (40 : Int) < (a.t.size : Int) := by omega
  have hz'' : ((a.t.size : Int) == 0) = false := by rw [beq_eq_false_iff_ne]; omega
  go_enter Try.func24, Try.ntmps24
  go_wp2
  go_ret
  exact ⟨rfl, (Below.refl _ w).alloc (Nat.le_refl _) _⟩

theorem tok_kind {l : Lx.Bs} {i k j : Nat} (h : Lx.tokAt l i = some (k, j)) : k ≠ 0 ∧ k ≤ 4 := by
  unfold Lx.tokAt at h
  split at h
  · cases h
  · split at h
    · simp only at h
      split at h
      · simp at h; omega
      · split at h <;> (simp at h; omega)
    · split at h
      · simp at h; omega
      · split at h
        · simp at h; omega
        · split at h
          · simp at h; omega
          · cases h

set_option maxRecDepth 100000 in
set_option maxHeartbeats 2000000 in
theorem rCheck_mid (V : Bool) (a : AT) (w : World) (h0 : 0 < a.t.size) (h40 : a.t.size ≤ 40) (hV : refB a = V) :
    Calls Try.prog 24 #[.agg #[.int .i64 a.k, .string a.t, .int .i64 a.p]] w fun e w' => e = .returned (.int .i64 (if V then 0 else 12)) ∧ Below w.heap.size w w' := by
  have g0 : (bs a.t)[0]? = some a.t[0] := by rw [List.getElem?_eq_getElem (by rw [bs_len]; exact h0), bs_get h0]
  have hV2 : (!Lx.blank a.t[0] && !decide (a.t[0].toNat = 37) && refTok a) = V := by
    rw [← hV]; unfold refB; rw [g0]; simp only [decide_eq_true h40, Bool.true_and]
  have HV := Lib.hid hV2
  have CB := Lib.hid (fun w => rBlank a.t[0] w)
  have CT := Lib.hid (fun w => rToken a.t 0 w (by omega) h0)
  obtain ⟨B, hB⟩ : ∃ B, Lx.blank a.t[0] = B := ⟨_, rfl⟩
  rw [hB] at HV CB
  have hby := byte_lt a.t[0]
  have hz : ((a.t.size : Int) == 0) = false := by rw [beq_eq_false_iff_ne]; omega
  have hz2 : ¬ ((40 : Int) < (a.t.size : Int)) := by omega
  have hz3 : (0 : Int) < (a.t.size : Int) := by omega
  have HK : Hid (∀ k j, Lx.tokAt (bs a.t) 0 = some (k, j) → k ≠ 0 ∧ k ≤ 4) := Lib.hid fun k j h => tok_kind h
  have HR : Hid (refTok a = match Lx.tokAt (bs a.t) 0 with | some (k, j) => decide ((k : Int) = a.k) && decide (j = a.t.size) | none => false) := Lib.hid rfl
  have HJ : Hid (∀ k j, Lx.tokAt (bs a.t) 0 = some (k, j) → j ≤ a.t.size) := Lib.hid fun k j h => by have := (Lx.tokAt_lt h).2; rwa [bs_len] at this
  obtain ⟨T, hT⟩ : ∃ T, Lx.tokAt (bs a.t) 0 = T := ⟨_, rfl⟩
  rw [hT] at CT HR HK HJ
  clear hV hV2 g0 hB hT
  by_cases h37 : a.t[0].toNat = 37
  · have H37 := Lib.hid h37
    have h37' : ((a.t[0].toNat : Int) == 37) = true := by rw [h37]; rfl
    obtain rfl : V = false := by rw [← HV.out]; simp [h37]
    clear h37
    go_enter Try.func24, Try.ntmps24
    go_wp2_with fail
    refine (CB.out _).mono ?_
    rintro e w1 ⟨rfl, rfl⟩
    cases B
    · go_wp2
      go_ret
      exact ⟨rfl, (Below.refl _ w).alloc (Nat.le_refl _) _⟩
    · go_wp2
      go_ret
      exact ⟨rfl, (Below.refl _ w).alloc (Nat.le_refl _) _⟩
  · have h37' : ((a.t[0].toNat : Int) == 37) = false := by rw [beq_eq_false_iff_ne]; omega
    rw [decide_eq_false h37] at HV
    clear h37
    cases B
    · simp only [Bool.not_false, Bool.true_and] at HV
      go_enter Try.func24, Try.ntmps24
      go_wp2_with fail
      refine (CB.out _).mono ?_
      rintro e w1 ⟨rfl, rfl⟩
      go_wp2_with fail
      refine (CT.out _).mono ?_
      rintro e w1 ⟨rfl, hb1⟩
      have Hb : Hid (Below w.heap.size w w1) := ((Below.refl _ w).alloc (Nat.le_refl _) _).trans (hb1.mono (by simp))
      have x0 : w1.cell? ⟨w.heap.size, 0, none⟩ = some (.int .i64 a.k) := (hb1.cell (p := ⟨w.heap.size, 0, none⟩) (by simp)).trans (by rw [World.cell?_alloc_at _ _ _ _ rfl]; rfl)
      have x1 : w1.cell? ⟨w.heap.size, 1, none⟩ = some (.string a.t) := (hb1.cell (p := ⟨w.heap.size, 1, none⟩) (by simp)).trans (by rw [World.cell?_alloc_at _ _ _ _ rfl]; rfl)
      have nb := block_lt_of_cell x0
      simp only at nb
      clear hb1 CT CB
      cases T with
      | none =>
        obtain rfl : V = false := by rw [← HV.out, HR.out]
        unfold kindJ
        by_cases hk : a.k = 0
        · have hk' : ((0 : Int) != a.k) = false := by rw [hk]; rfl
          have hz4 : ((0 : Int) != (a.t.size : Int)) = true := by rw [bne_iff_ne]; omega
          clear hk
          go_wp2
          go_ret
          exact ⟨rfl, Hb.out⟩
        · have hk' : ((0 : Int) != a.k) = true := by rw [bne_iff_ne]; omega
          clear hk
          go_wp2
          go_ret
          exact ⟨rfl, Hb.out⟩
      | some p =>
        obtain ⟨k, j⟩ := p
        unfold kindJ
        have hk0 := (HK.out k j rfl)
        have hj0 := HJ.out k j rfl
        have hne : ((k : Int) == 0) = false := by rw [beq_eq_false_iff_ne]; omega
        by_cases hk : (k : Int) = a.k
        · have hk' : ((k : Int) != a.k) = false := by rw [hk]; simp
          by_cases hj : j = a.t.size
          · have hj' : ((j : Int) != (a.t.size : Int)) = false := by rw [hj]; simp
            obtain rfl : V = true := by rw [← HV.out, HR.out]; simp [hk, hj]
            clear hk hj
            go_wp2
            go_ret
            exact ⟨rfl, Hb.out⟩
          · have hj' : ((j : Int) != (a.t.size : Int)) = true := by rw [bne_iff_ne]; omega
            obtain rfl : V = false := by rw [← HV.out, HR.out]; simp [hj]
            clear hk hj
            go_wp2
            go_ret
            exact ⟨rfl, Hb.out⟩
        · have hk' : ((k : Int) != a.k) = true := by rw [bne_iff_ne]; exact hk
          obtain rfl : V = false := by rw [← HV.out, HR.out]; simp [hk]
          clear hk
          go_wp2
          go_ret
          exact ⟨rfl, Hb.out⟩
    · obtain rfl : V = false := by rw [← HV.out]; rfl
      go_enter Try.func24, Try.ntmps24
      go_wp2_with fail
      refine (CB.out _).mono ?_
      rintro e w1 ⟨rfl, rfl⟩
      go_wp2
      go_ret
      exact ⟨rfl, (Below.refl _ w).alloc (Nat.le_refl _) _⟩
end Go.Proofs.Ytihbecfjgdlebaa
