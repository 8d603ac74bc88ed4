/- Layer 1: Check of the program, which looks at the text alone. -/
import Derived.Test.YtihbecfjgdlebaaLexRef6
import Derived.Test.YtihbecfjgdlebaaLexNames
import Derived.Deep.RegionHeld3
namespace Go.Proofs.Ytihbecfjgdlebaa
open Go.RowKit

set_option maxRecDepth 100000 in
set_option maxHeartbeats 400000 in
theorem lWords (w : World) : Calls Try.prog 26 #[] w fun e w' => e = .returned (.slice (some ⟨w.heap.size, 0, none⟩) 17 17) ∧ w' = w.alloc (.cells (wordsB.map Value.string).toArray 9) := by
  go_enter Try.func26, Try.ntmps26
  go_wp2
  go_ret
  exact ⟨rfl, rfl⟩
set_option maxRecDepth 100000 in
set_option maxHeartbeats 400000 in
theorem lSigns (w : World) : Calls Try.prog 28 #[] w fun e w' => e = .returned (.slice (some ⟨w.heap.size, 0, none⟩) 17 17) ∧ w' = w.alloc (.cells (signsB.map Value.string).toArray 9) := by
  go_enter Try.func28, Try.ntmps28
  go_wp2
  go_ret
  exact ⟨rfl, rfl⟩
end Go.Proofs.Ytihbecfjgdlebaa
namespace Go.Proofs.Ytihbecfjgdlebaa
open Go.RowKit

theorem contains_signs (x : ByteArray) : Lib.containsS (signsB.take 17) x = Lx.signs.contains (bs x) := by
  rw [Bool.eq_iff_iff, Lib.containsS_iff, List.contains_iff_mem]
  rw [List.take_of_length_le (by decide)]
  have e : signsB = Lx.signs.map fun l => ⟨l.toArray⟩ := by decide +kernel
  rw [e]
  simp only [List.mem_map]
  constructor
  · rintro ⟨l, hl, rfl⟩; simpa [bs] using hl
  · intro h; exact ⟨_, h, bs_inj (by simp [bs])⟩

theorem signs_in (x : ByteArray) (w : World) (b : Nat) (hb : ∀ k, k < signsB.length → w.cell? ⟨b, 0 + k, none⟩ = some (.string (signsB.getD k ByteArray.empty))) :
    Calls Try.prog 55 #[.slice (some ⟨b, 0, none⟩) 17 17, .string x] w fun e w' => e = .returned (.bool (Lx.signs.contains (bs x))) ∧ w' = w := by
  have := Try.slices_Contains_string b 0 17 17 signsB x w (by decide) (by omega) hb
  rwa [contains_signs] at this

def CellsOf (w : World) (b : Nat) (L : List ByteArray) : Prop := ∀ k, k < L.length → w.cell? ⟨b, 0 + k, none⟩ = some (.string (L.getD k ByteArray.empty))
theorem litCall {F : FuncId} {L : List ByteArray} (h : ∀ w, Calls Try.prog F #[] w fun e w' => e = .returned (.slice (some ⟨w.heap.size, 0, none⟩) 17 17) ∧ w' = w.alloc (.cells (L.map Value.string).toArray 9)) (w : World) :
    Calls Try.prog F #[] w fun e w' => ∃ b, e = .returned (.slice (some ⟨b, 0, none⟩) 17 17) ∧ CellsOf w' b L ∧ Below w.heap.size w w' := by
  refine (h w).mono ?_
  rintro e w' ⟨rfl, rfl⟩
  exact ⟨_, rfl, fun k hk => lit_cells w L _ k hk, (Below.refl _ w).alloc (Nat.le_refl _) _⟩

theorem check_zero (s : ByteArray) (p : Int) : checkB ⟨1, s, p⟩ = checkB ⟨1, s, 0⟩ := by rw [check_name, check_name]
theorem check_zero2 (s : ByteArray) (p : Int) : checkB ⟨2, s, p⟩ = checkB ⟨2, s, 0⟩ := by rw [check_var, check_var]
set_option maxRecDepth 100000 in
set_option maxHeartbeats 1000000 in
theorem check_1 (V : Bool) (k : Int) (t : ByteArray) (p : Int) (w : World) (hs : t.size ≤ maxLen) (hk : k = 1) (hV : checkB ⟨k, t, p⟩ = V) :
    Calls Try.prog 23 #[.agg #[.int .i64 k, .string t, .int .i64 p]] w fun e w' => e = .returned (.int .i64 (if V then 0 else 12)) ∧ Below w.heap.size w w' := by
  subst hk
  rw [check_zero] at hV
  have C := Lib.hid (fun w => isName_v V t w hs hV)
  clear hV
  go_enter Try.func23, Try.ntmps23
  go_wp2_with fail
  refine (C.out _).mono ?_
  clear C
  rintro e w1 ⟨rfl, hb1⟩
  have Hb : Hid (Below w.heap.size w w1) := Lib.hid (((Below.refl _ w).alloc (Nat.le_refl _) _).trans (hb1.mono (by simp)))
  clear hb1
  cases V
  · go_wp2
    go_ret
    exact ⟨rfl, Hb.out⟩
  · go_wp2
    go_ret
    exact ⟨rfl, Hb.out⟩
set_option maxRecDepth 100000 in
set_option maxHeartbeats 1000000 in
theorem check_2 (V : Bool) (k : Int) (t : ByteArray) (p : Int) (w : World) (hs : t.size ≤ maxLen) (hk : k = 2) (hV : checkB ⟨k, t, p⟩ = V) :
    Calls Try.prog 23 #[.agg #[.int .i64 k, .string t, .int .i64 p]] w fun e w' => e = .returned (.int .i64 (if V then 0 else 12)) ∧ Below w.heap.size w w' := by
  subst hk
  rw [check_zero2] at hV
  have C := Lib.hid (fun w => isVar_v V t w hs hV)
  clear hV
  go_enter Try.func23, Try.ntmps23
  go_wp2_with fail
  refine (C.out _).mono ?_
  clear C
  rintro e w1 ⟨rfl, hb1⟩
  have Hb : Hid (Below w.heap.size w w1) := Lib.hid (((Below.refl _ w).alloc (Nat.le_refl _) _).trans (hb1.mono (by simp)))
  clear hb1
  cases V
  · go_wp2
    go_ret
    exact ⟨rfl, Hb.out⟩
  · go_wp2
    go_ret
    exact ⟨rfl, Hb.out⟩
set_option maxRecDepth 100000 in
set_option maxHeartbeats 1000000 in
theorem check_3 (V : Bool) (k : Int) (t : ByteArray) (p : Int) (w : World) (hs : t.size ≤ maxLen) (hk : k = 3) (hV : checkB ⟨k, t, p⟩ = V) :
    Calls Try.prog 23 #[.agg #[.int .i64 k, .string t, .int .i64 p]] w fun e w' => e = .returned (.int .i64 (if V then 0 else 12)) ∧ Below w.heap.size w w' := by
  subst hk
  rw [check_sign] at hV
  have CW := Lib.hid (litCall lSigns)
  have CC := fun w b (hb : CellsOf w b signsB) => signs_in t w b hb
  rw [hV] at CC
  have CH := Lib.hid CC
  obtain ⟨LL, hLL⟩ : ∃ LL, signsB = LL := ⟨_, rfl⟩
  rw [hLL] at CW CH
  clear hV CC hLL
  go_enter Try.func23, Try.ntmps23
  go_wp2_with fail
  obtain ⟨N, hN⟩ : ∃ N, w.heap.size = N := ⟨_, rfl⟩
  obtain ⟨wz, hwz⟩ : ∃ wz, w.alloc (.cells #[.int .i64 3, .string t, .int .i64 p] 33) = wz := ⟨_, rfl⟩
  have a1 : wz.cell? ⟨N, 1, none⟩ = some (.string t) := by rw [← hwz, ← hN]; exact (World.cell?_alloc_at _ _ _ _ rfl).trans rfl
  have hB : Hid (Below N w wz) := by rw [← hwz, ← hN]; exact Lib.hid ((Below.refl _ w).alloc (Nat.le_refl _) _)
  have hl : N < wz.heap.size := by rw [← hwz, ← hN, World.size_alloc]; omega
  rw [hwz, hN]
  have HN := Lib.hid hN
  clear hwz hN
  go_region_held3 (fun w' => w'.cell? ⟨N, 1, none⟩ = some (.string t)) (first | exact a1 | exact S8.out)
    (first
      | (go_at_call 28; refine (CW.out _).mono ?_; rintro e w8 ⟨b8, rfl, hc8, hb⟩; have S8 := Lib.hid ((hb.cell (p := ⟨N, 1, none⟩) hl).trans a1); have B8 : Hid (Below N w w8) := Lib.hid (hB.out.drew.trans (hb.mono (Nat.le_of_lt hl))); have CI := Lib.hid (CH.out _ _ hc8); clear hb hc8)
      | (go_at_call 55; refine CI.out.mono ?_; rintro e w9 ⟨rfl, hw⟩; obtain rfl := hw.symm))
  cases V
  · go_wp2
    go_ret
    exact ⟨rfl, by rw [HN.out]; exact B8.out⟩
  · go_wp2
    go_ret
    exact ⟨rfl, by rw [HN.out]; exact B8.out⟩
set_option maxRecDepth 100000 in
set_option maxHeartbeats 1000000 in
theorem check_4 (V : Bool) (k : Int) (t : ByteArray) (p : Int) (w : World) (hs : t.size ≤ maxLen) (hk : k = 4) (hV : checkB ⟨k, t, p⟩ = V) :
    Calls Try.prog 23 #[.agg #[.int .i64 k, .string t, .int .i64 p]] w fun e w' => e = .returned (.int .i64 (if V then 0 else 12)) ∧ Below w.heap.size w w' := by
  subst hk
  rw [check_word] at hV
  have CW := Lib.hid (litCall lWords)
  have CC := fun w b (hb : CellsOf w b wordsB) => words_in t w b hb
  rw [hV] at CC
  have CH := Lib.hid CC
  obtain ⟨LL, hLL⟩ : ∃ LL, wordsB = LL := ⟨_, rfl⟩
  rw [hLL] at CW CH
  clear hV CC hLL
  go_enter Try.func23, Try.ntmps23
  go_wp2_with fail
  obtain ⟨N, hN⟩ : ∃ N, w.heap.size = N := ⟨_, rfl⟩
  obtain ⟨wz, hwz⟩ : ∃ wz, w.alloc (.cells #[.int .i64 4, .string t, .int .i64 p] 33) = wz := ⟨_, rfl⟩
  have a1 : wz.cell? ⟨N, 1, none⟩ = some (.string t) := by rw [← hwz, ← hN]; exact (World.cell?_alloc_at _ _ _ _ rfl).trans rfl
  have hB : Hid (Below N w wz) := by rw [← hwz, ← hN]; exact Lib.hid ((Below.refl _ w).alloc (Nat.le_refl _) _)
  have hl : N < wz.heap.size := by rw [← hwz, ← hN, World.size_alloc]; omega
  rw [hwz, hN]
  have HN := Lib.hid hN
  clear hwz hN
  go_region_held3 (fun w' => w'.cell? ⟨N, 1, none⟩ = some (.string t)) (first | exact a1 | exact S8.out)
    (first
      | (go_at_call 26; refine (CW.out _).mono ?_; rintro e w8 ⟨b8, rfl, hc8, hb⟩; have S8 := Lib.hid ((hb.cell (p := ⟨N, 1, none⟩) hl).trans a1); have B8 : Hid (Below N w w8) := Lib.hid (hB.out.drew.trans (hb.mono (Nat.le_of_lt hl))); have CI := Lib.hid (CH.out _ _ hc8); clear hb hc8)
      | (go_at_call 55; refine CI.out.mono ?_; rintro e w9 ⟨rfl, hw⟩; obtain rfl := hw.symm))
  cases V
  · go_wp2
    go_ret
    exact ⟨rfl, by rw [HN.out]; exact B8.out⟩
  · go_wp2
    go_ret
    exact ⟨rfl, by rw [HN.out]; exact B8.out⟩
set_option maxRecDepth 100000 in
set_option maxHeartbeats 1000000 in
theorem check_0 (V : Bool) (k : Int) (t : ByteArray) (p : Int) (w : World) (hs : t.size ≤ maxLen) (h1 : k ≠ 1) (h2 : k ≠ 2) (h3 : k ≠ 3) (h4 : k ≠ 4) (hV : checkB ⟨k, t, p⟩ = V) :
    Calls Try.prog 23 #[.agg #[.int .i64 k, .string t, .int .i64 p]] w fun e w' => e = .returned (.int .i64 (if V then 0 else 12)) ∧ Below w.heap.size w w' := by
  rw [check_none k t p h1 h2 h3 h4] at hV
  subst hV
  have e1 : (k == 1) = false := by rw [beq_eq_false_iff_ne]; exact h1
  have e2 : (k == 2) = false := by rw [beq_eq_false_iff_ne]; exact h2
  have e3 : (k == 3) = false := by rw [beq_eq_false_iff_ne]; exact h3
  have e4 : (k == 4) = false := by rw [beq_eq_false_iff_ne]; exact h4
  clear h1 h2 h3 h4
  go_enter Try.func23, Try.ntmps23
  go_wp2
  go_ret
  exact ⟨rfl, (Below.refl _ w).alloc (Nat.le_refl _) _⟩
theorem check_v (V : Bool) (a : AT) (w : World) (hs : a.t.size ≤ maxLen) (hV : checkB a = V) :
    Calls Try.prog 23 #[.agg #[.int .i64 a.k, .string a.t, .int .i64 a.p]] w fun e w' => e = .returned (.int .i64 (if V then 0 else 12)) ∧ Below w.heap.size w w' := by
  obtain ⟨k, t, p⟩ := a
  by_cases h1 : k = 1
  · exact check_1 V k t p w hs h1 hV
  · by_cases h2 : k = 2
    · exact check_2 V k t p w hs h2 hV
    · by_cases h3 : k = 3
      · exact check_3 V k t p w hs h3 hV
      · by_cases h4 : k = 4
        · exact check_4 V k t p w hs h4 hV
        · exact check_0 V k t p w hs h1 h2 h3 h4 hV
theorem check_any (a : AT) (w : World) (hs : a.t.size ≤ maxLen) :
    Calls Try.prog 23 #[.agg #[.int .i64 a.k, .string a.t, .int .i64 a.p]] w fun e w' => e = .returned (.int .i64 (if checkB a then 0 else 12)) ∧ Below w.heap.size w w' := check_v _ a w hs rfl
end Go.Proofs.Ytihbecfjgdlebaa
