/- Walks of layer 1's reference: bytes, runs, the ends of lines. -/
import Derived.Test.YtihbecfjgdlebaaLexSkip
namespace Go.Proofs.Ytihbecfjgdlebaa
open Go.RowKit

theorem ret_bool {a b : Bool} (h : a = b) : Ending.returned (.bool a) = Ending.returned (.bool b) := by rw [h]

set_option maxRecDepth 100000 in
set_option maxHeartbeats 400000 in
theorem rSmall (c : UInt8) (w : World) : Calls Try.prog 76 #[.int .u8 c.toNat] w fun e w' => e = .returned (.bool (Lx.small c)) ∧ w = w' := by
  have hby := byte_lt c
  obtain ⟨V, hV⟩ : ∃ V, Lx.small c = V := ⟨_, rfl⟩
  rw [hV]
  unfold Lx.small at hV
  have HV := Lib.hid hV
  clear hV
  by_cases h1 : (97 : Int) ≤ (c.toNat : Int)
  · by_cases h2 : (c.toNat : Int) ≤ 122
    · go_enter Try.func76, Try.ntmps76
      go_wp2
      go_ret
      exact ⟨ret_bool (by rw [← HV.out]; have : 97 ≤ c.toNat := by omega
                          have : c.toNat ≤ 122 := by omega
                          simp [*]), rfl⟩
    · go_enter Try.func76, Try.ntmps76
      go_wp2
      go_ret
      exact ⟨ret_bool (by rw [← HV.out]; have : ¬ c.toNat ≤ 122 := by omega
                          simp; omega), rfl⟩
  · go_enter Try.func76, Try.ntmps76
    go_wp2
    go_ret
    exact ⟨ret_bool (by rw [← HV.out]; simp; omega), rfl⟩
set_option maxRecDepth 100000 in
set_option maxHeartbeats 400000 in
theorem rCapital (c : UInt8) (w : World) : Calls Try.prog 75 #[.int .u8 c.toNat] w fun e w' => e = .returned (.bool (Lx.capital c)) ∧ w = w' := by
  have hby := byte_lt c
  obtain ⟨V, hV⟩ : ∃ V, Lx.capital c = V := ⟨_, rfl⟩
  rw [hV]
  unfold Lx.capital at hV
  have HV := Lib.hid hV
  clear hV
  by_cases h1 : (65 : Int) ≤ (c.toNat : Int)
  · by_cases h2 : (c.toNat : Int) ≤ 90
    · go_enter Try.func75, Try.ntmps75
      go_wp2
      go_ret
      exact ⟨ret_bool (by rw [← HV.out]; simp; omega), rfl⟩
    · go_enter Try.func75, Try.ntmps75
      go_wp2
      go_ret
      exact ⟨ret_bool (by rw [← HV.out]; simp; omega), rfl⟩
  · go_enter Try.func75, Try.ntmps75
    go_wp2
    go_ret
    exact ⟨ret_bool (by rw [← HV.out]; simp; omega), rfl⟩

/-- What 'part' comes to, from its parts. -/
theorem part_of (c : UInt8) : ∀ b : Bool, b = (Lx.small c || Lx.capital c || (decide (48 ≤ c.toNat) && decide (c.toNat ≤ 57)) || decide (c.toNat = 95) || decide (c.toNat = 39)) → b = Lx.part c := fun _ h => h
set_option maxRecDepth 100000 in
set_option maxHeartbeats 1000000 in
theorem rPart (c : UInt8) (w : World) : Calls Try.prog 79 #[.int .u8 c.toNat] w fun e w' => e = .returned (.bool (Lx.part c)) ∧ w = w' := by
  have hby := byte_lt c
  have CS := Lib.hid (fun w => rSmall c w)
  have CC := Lib.hid (fun w => rCapital c w)
  have HV := Lib.hid (part_of c)
  obtain ⟨V, hV⟩ : ∃ V, Lx.part c = V := ⟨_, rfl⟩
  obtain ⟨S, hS⟩ : ∃ S, Lx.small c = S := ⟨_, rfl⟩
  obtain ⟨C, hC⟩ : ∃ C, Lx.capital c = C := ⟨_, rfl⟩
  rw [hV] at HV ⊢
  simp only [hS, hC] at HV CS CC
  clear hV hS hC
  go_enter Try.func79, Try.ntmps79
  go_wp2_with fail
  refine (CS.out _).mono ?_
  rintro e w1 ⟨rfl, rfl⟩
  clear CS
  cases S
  · go_wp2_with fail
    refine (CC.out _).mono ?_
    rintro e w1 ⟨rfl, rfl⟩
    clear CC
    cases C
    · by_cases h3 : c.toNat = 95
      · have HN := Lib.hid h3
        have h1 : (48 : Int) ≤ (c.toNat : Int) := by omega
        have h2 : ¬ ((c.toNat : Int) ≤ 57) := by omega
        have h3' : ((c.toNat : Int) == 95) = true := by rw [h3]; rfl
        clear h3
        go_wp2
        go_ret
        exact ⟨ret_bool (HV.out _ (by rw [HN.out]; rfl)), rfl⟩
      · have h3' : ((c.toNat : Int) == 95) = false := by rw [beq_eq_false_iff_ne]; omega
        by_cases h4 : c.toNat = 39
        · have HN := Lib.hid h4
          have h1 : ¬ ((48 : Int) ≤ (c.toNat : Int)) := by omega
          have h4' : ((c.toNat : Int) == 39) = true := by rw [h4]; rfl
          clear h3 h4
          go_wp2
          go_ret
          exact ⟨ret_bool (HV.out _ (by rw [HN.out]; rfl)), rfl⟩
        · have h4' : ((c.toNat : Int) == 39) = false := by rw [beq_eq_false_iff_ne]; omega
          have HN := Lib.hid (And.intro h3 h4)
          by_cases h1 : 48 ≤ c.toNat
          · have h1' : (48 : Int) ≤ (c.toNat : Int) := by omega
            by_cases h2 : c.toNat ≤ 57
            · have h2' : (c.toNat : Int) ≤ 57 := by omega
              have HM := Lib.hid (And.intro h1 h2)
              clear h1 h2 h3 h4
              go_wp2
              go_ret
              exact ⟨ret_bool (HV.out _ (by rw [decide_eq_true HM.out.1, decide_eq_true HM.out.2]; rfl)), rfl⟩
            · have h2' : ¬ ((c.toNat : Int) ≤ 57) := by omega
              have HM := Lib.hid h2
              clear h1 h2 h3 h4
              go_wp2
              go_ret
              exact ⟨ret_bool (HV.out _ ((decide_eq_false (show ¬ ((c.toNat : Int) ≤ 57) by omega)).trans (by rw [decide_eq_false HM.out, decide_eq_false HN.out.1, decide_eq_false HN.out.2, Bool.and_false]; rfl))), rfl⟩
          · have h1' : ¬ ((48 : Int) ≤ (c.toNat : Int)) := by omega
            have HM := Lib.hid h1
            clear h1 h3 h4
            go_wp2
            go_ret
            exact ⟨ret_bool (HV.out _ (by rw [decide_eq_false HM.out, decide_eq_false HN.out.1, decide_eq_false HN.out.2]; rfl)), rfl⟩
    · go_wp2
      go_ret
      exact ⟨ret_bool (HV.out _ (by simp)), rfl⟩
  · go_wp2
    go_ret
    exact ⟨ret_bool (HV.out _ (by simp)), rfl⟩
end Go.Proofs.Ytihbecfjgdlebaa
