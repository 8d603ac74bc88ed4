/- Walks of layer 1's reference: Same, Equal. -/
import Derived.Test.YtihbecfjgdlebaaLexSame
namespace Go.Proofs.Ytihbecfjgdlebaa
open Go.RowKit

set_option maxRecDepth 100000 in
set_option maxHeartbeats 1000000 in
theorem rSame_any (va vb : Value) (la lb : List AT) (w : World) (ha : TokSl w va la) (hb : TokSl w vb lb) (hm : la.length ≤ maxLen) (hm2 : lb.length ≤ maxLen) :
    Calls Try.prog 35 #[va, vb] w fun e w' => e = .returned (.bool (sameB la lb)) ∧ Below w.heap.size w w' := by
  obtain ⟨a, ca, rfl, hca⟩ := ha
  obtain ⟨b, cb, rfl, hcb⟩ := hb
  unfold maxLen at hm hm2
  by_cases hl : la.length = lb.length
  · have hl' : ((la.length : Int) != (lb.length : Int)) = false := by rw [hl]; simp
    have HL := Lib.hid hl
    clear hl
    go_enter Try.func35, Try.ntmps35
    go_wp2
    go_loopw [5] (fun v wr => ∃ k : Nat, k ≤ la.length ∧ v = .int .i64 k ∧ Hid (sameB la lb = sameB (la.drop k) (lb.drop k)) ∧ Hid (Below w.heap.size w wr)) (fun v _ => la.length - (intOf v).toNat)
    case atStart => exact ⟨0, Nat.zero_le _, rfl, rfl, Below.refl _ _⟩
    case round =>
      obtain ⟨k, hk, rfl, hrun, hbl⟩ := hrel
      by_cases hlt : k < la.length
      · have hlt2 : k < lb.length := by have := HL.out; omega
        have hlt' : (k : Int) < (la.length : Int) := by omega
        obtain ⟨ba, oa, rfl, hA⟩ := hca (by rintro rfl; simp at hlt)
        obtain ⟨bb, ob, rfl, hB⟩ := hcb (by rintro rfl; simp at hlt2)
        obtain ⟨x0, x1, x2⟩ := (hA k hlt).below hbl.out
        obtain ⟨y0, y1, y2⟩ := (hB k hlt2).below hbl.out
        have n0 := block_lt_of_cell x0
        have n1 := block_lt_of_cell y0
        simp only at n0 n1
        have Hst := Lib.hid (sameB_step hlt HL.out)
        clear hca hcb hA hB
        generalize la[k] = A at x0 x1 x2 Hst
        generalize lb[k] = B at y0 y1 y2 Hst
        go_upto_region 6 with fail
        go_cut [40] (fun v wx => v = .bool (!(A.k == B.k && A.t.toList == B.t.toList)) ∧ Hid (Below w.heap.size w wx))
        case first =>
          by_cases hk2 : A.k = B.k
          · have hk3 : (A.k != B.k) = false := by rw [hk2]; simp
            have hk4 : (A.k == B.k) = true := by rw [hk2]; simp
            clear hk2
            go_region
            all_goals go_wp2
            all_goals go_meet
            all_goals exact ⟨by rw [hk4, Bool.true_and], hbl.out.drew⟩
          · have hk3 : (A.k != B.k) = true := by rw [bne_iff_ne]; exact hk2
            have hk4 : (A.k == B.k) = false := by rw [beq_eq_false_iff_ne]; exact hk2
            clear hk2
            go_region
            all_goals go_wp2
            all_goals go_meet
            all_goals exact ⟨by rw [hk4, Bool.false_and]; rfl, hbl.out.drew⟩
        case rest =>
          obtain ⟨rfl, hbx⟩ := hcut
          cases hb2 : (A.k == B.k && A.t.toList == B.t.toList)
          · rw [hb2] at Hst
            go_wp2
            go_ret
            exact ⟨by rw [hrun.out, Hst.out]; rfl, hbx.out⟩
          · rw [hb2] at Hst
            go_wp2
            go_roundw
            case rel => exact ⟨k + 1, hlt, by push_cast; rfl, Lib.hid (by rw [hrun.out, Hst.out]; rfl), hbx⟩
            case measure => simp [intOf]; omega
      · have hlt' : ¬ ((k : Int) < (la.length : Int)) := by omega
        clear hca hcb
        go_wp2
        go_ret
        exact ⟨by rw [hrun.out, sameB_end (by omega) HL.out]; rfl, hbl.out⟩
  · have hl' : ((la.length : Int) != (lb.length : Int)) = true := by rw [bne_iff_ne]; omega
    have HS := Lib.hid (sameB_len hl)
    clear hca hcb hl
    go_enter Try.func35, Try.ntmps35
    go_wp2
    go_ret
    exact ⟨by rw [HS.out]; rfl, Below.refl _ _⟩

theorem sameB_self : ∀ l : List AT, sameB l l = true
  | [] => rfl
  | a :: l => by simp only [sameB, sameB_self l]; simp

set_option maxRecDepth 100000 in
set_option maxHeartbeats 1000000 in
theorem rEqual_self (va vb : Value) (la : List AT) (w : World) (ha : TokSl w va la) (hb : TokSl w vb la) (hm : la.length ≤ maxLen) :
    Calls Try.prog 16 #[va, vb] w fun e w' => e = .returned (.bool true) ∧ Below w.heap.size w w' := by
  have C := Lib.hid (rSame_any va vb la la w ha hb hm hm)
  rw [sameB_self] at C
  obtain ⟨a, ca, rfl, hca⟩ := ha
  obtain ⟨b, cb, rfl, hcb⟩ := hb
  unfold maxLen at hm
  go_enter Try.func16, Try.ntmps16
  go_wp2_with fail
  refine C.out.mono ?_
  clear C
  rintro e w1 ⟨rfl, hb1⟩
  have Hb1 := Lib.hid hb1
  clear hb1
  go_wp2
  go_loopw [5] (fun v wr => ∃ k : Nat, k ≤ la.length ∧ v = .int .i64 k ∧ Hid (Below w.heap.size w wr)) (fun v _ => la.length - (intOf v).toNat)
  case atStart => exact ⟨0, Nat.zero_le _, rfl, Hb1⟩
  case round =>
    obtain ⟨k, hk, rfl, hbl⟩ := hrel
    by_cases hlt : k < la.length
    · have hlt' : (k : Int) < (la.length : Int) := by omega
      obtain ⟨ba, oa, rfl, hA⟩ := hca (by rintro rfl; simp at hlt)
      obtain ⟨bb, ob, rfl, hB⟩ := hcb (by rintro rfl; simp at hlt)
      obtain ⟨x0, x1, x2⟩ := (hA k hlt).below hbl.out
      obtain ⟨y0, y1, y2⟩ := (hB k hlt).below hbl.out
      have n0 := block_lt_of_cell x0
      have n1 := block_lt_of_cell y0
      simp only at n0 n1
      clear hca hcb hA hB
      generalize la[k] = A at x0 x1 x2 y0 y1 y2
      have hp : (A.p != A.p) = false := by simp
      go_upto_region 6 with fail
      go_cut [26] (fun v wx => v = .bool false ∧ Hid (Below w.heap.size w wx))
      case first =>
        go_region
        all_goals go_wp2
        all_goals go_meet
        all_goals exact ⟨by simp, hbl.out.drew⟩
      case rest =>
        obtain ⟨rfl, hbx⟩ := hcut
        go_wp2
        go_roundw
        case rel => exact ⟨k + 1, hlt, by push_cast; rfl, hbx⟩
        case measure => simp [intOf]; omega
    · have hlt' : ¬ ((k : Int) < (la.length : Int)) := by omega
      clear hca hcb
      go_wp2
      go_ret
      exact ⟨rfl, hbl.out⟩
end Go.Proofs.Ytihbecfjgdlebaa
