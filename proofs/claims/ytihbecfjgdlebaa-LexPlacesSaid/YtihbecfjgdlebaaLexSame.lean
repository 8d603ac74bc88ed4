/- Walks of layer 1: lists of tokens are compared; a text is scanned as a list. -/
import Derived.Test.YtihbecfjgdlebaaLexAT
namespace Go.Proofs.Ytihbecfjgdlebaa
open Go.RowKit

set_option maxRecDepth 100000 in
set_option maxHeartbeats 400000 in
theorem same1_any (k1 k2 p1 p2 : Int) (t1 t2 : ByteArray) (w : World) :
    Calls Try.prog 64 #[.agg #[.int .i64 k1, .string t1, .int .i64 p1], .agg #[.int .i64 k2, .string t2, .int .i64 p2]] w fun e w' =>
      e = .returned (.bool (k1 == k2 && (t1.toList == t2.toList))) ∧ w' = (w.alloc (.cells #[.int .i64 k1, .string t1, .int .i64 p1] 33)).alloc (.cells #[.int .i64 k2, .string t2, .int .i64 p2] 33) := by
  go_enter Try.func64, Try.ntmps64
  go_wp2
  · rename_i h
    subst h
    go_ret
    exact ⟨by simp, rfl⟩
  · rename_i h
    go_ret
    exact ⟨by simp [h], rfl⟩

theorem sameB_step {l m : List AT} {k : Nat} (h : k < l.length) (hl : l.length = m.length) :
    sameB (l.drop k) (m.drop k) = ((l[k].k == (m[k]'(by omega)).k && (l[k].t.toList == (m[k]'(by omega)).t.toList)) && sameB (l.drop (k + 1)) (m.drop (k + 1))) := by
  rw [List.drop_eq_getElem_cons h, List.drop_eq_getElem_cons (show k < m.length by omega)]; rfl
theorem sameB_end {l m : List AT} {k : Nat} (h : l.length ≤ k) (hl : l.length = m.length) : sameB (l.drop k) (m.drop k) = true := by
  rw [List.drop_of_length_le h, List.drop_of_length_le (by omega)]; rfl

set_option maxRecDepth 100000 in
set_option maxHeartbeats 1000000 in
theorem alike_any (va vb : Value) (la lb : List AT) (w : World) (ha : TokSl w va la) (hb : TokSl w vb lb) (hm : la.length ≤ maxLen) (hm2 : lb.length ≤ maxLen) :
    Calls Try.prog 63 #[va, vb, .func (.func 64) #[] #[]] w fun e w' => e = .returned (.bool (sameB la lb)) ∧ Below w.heap.size w w' := by
  obtain ⟨a, ca, rfl, hca⟩ := ha
  obtain ⟨b, cb, rfl, hcb⟩ := hb
  unfold maxLen at hm hm2
  by_cases hl : la.length = lb.length
  · have hl' : ((la.length : Int) != (lb.length : Int)) = false := by rw [hl]; simp
    have HL := Lib.hid hl
    by_cases hne : la = []
    · subst hne
      have hlb : lb = [] := List.length_eq_zero_iff.1 hl.symm
      subst hlb
      clear hca hcb
      go_enter Try.func63, Try.ntmps63
      go_wp2
      refine wp_loop_rounds 1 ?_
      rw [rounds_succ]
      go_wp2
      go_ret
      exact ⟨rfl, Below.refl _ _⟩
    have hne2 : lb ≠ [] := fun e => hne (List.length_eq_zero_iff.1 (by rw [hl, e]; rfl))
    obtain ⟨ba, oa, rfl, hA⟩ := hca hne
    obtain ⟨bb, ob, rfl, hB⟩ := hcb hne2
    clear hca hcb hl hne hne2
    go_enter Try.func63, Try.ntmps63
    go_wp2
    go_loopw [16] (fun v wr => ∃ k : Nat, k ≤ la.length ∧ v = .int .i64 k ∧ Hid (sameB la lb = sameB (la.drop k) (lb.drop k)) ∧ Hid (Below w.heap.size w wr)) (fun v _ => la.length - (intOf v).toNat)
    case atStart => exact ⟨0, Nat.zero_le _, rfl, rfl, Below.refl _ _⟩
    case round =>
      obtain ⟨k, hk, rfl, hrun, hbl⟩ := hrel
      by_cases hlt : k < la.length
      · have hlt2 : k < lb.length := by have := HL.out; omega
        obtain ⟨x0, x1, x2⟩ := (hA k hlt).below hbl.out
        obtain ⟨y0, y1, y2⟩ := (hB k hlt2).below hbl.out
        have n0 := block_lt_of_cell x0
        have n1 := block_lt_of_cell y0
        simp only at n0 n1
        have Hst := Lib.hid (sameB_step hlt HL.out)
        generalize la[k] = A at x0 x1 x2 Hst
        generalize lb[k] = B at y0 y1 y2 Hst
        go_upto_region 6 with fail
        go_cut [28] (fun v wx => v = .bool (!(A.k == B.k && A.t.toList == B.t.toList)) ∧ Hid (Below w.heap.size w wx))
        case first =>
          go_region_with (go_at_call 64; refine (same1_any _ _ _ _ _ _ _).mono ?_; rintro e w' ⟨rfl, rfl⟩)
          all_goals go_wp2
          all_goals go_meet
          all_goals have hsz := hbl.out.size
          all_goals exact ⟨by rw [Bool.not_and], Lib.hid (((hbl.out.alloc hsz _).alloc (by simp only [World.size_alloc]; omega) _).alloc (by simp only [World.size_alloc]; omega) _).drew⟩
        case rest =>
          obtain ⟨rfl, hbx⟩ := hcut
          cases hb2 : (A.k == B.k && A.t.toList == B.t.toList)
          · rw [hb2] at Hst
            go_wp2
            go_ret
            exact ⟨by rw [hrun.out, Hst.out]; rfl, hbx.out⟩
          · rw [hb2] at Hst
            go_wp2
            go_roundw
            case rel => exact ⟨k + 1, hlt, by push_cast; rfl, Lib.hid (by rw [hrun.out, Hst.out]; rfl), hbx⟩
            case measure => simp [intOf]; omega
      · go_wp2
        go_ret
        exact ⟨by rw [hrun.out, sameB_end (by omega) HL.out]; rfl, hbl.out⟩
  · have hl' : ((la.length : Int) != (lb.length : Int)) = true := by rw [bne_iff_ne]; omega
    have HS := Lib.hid (sameB_len hl)
    clear hca hcb hl
    go_enter Try.func63, Try.ntmps63
    go_wp2
    go_ret
    exact ⟨by rw [HS.out]; rfl, Below.refl _ _⟩

set_option maxRecDepth 100000 in
set_option maxHeartbeats 400000 in
theorem same_any (va vb : Value) (la lb : List AT) (w : World) (ha : TokSl w va la) (hb : TokSl w vb lb) (hm : la.length ≤ maxLen) (hm2 : lb.length ≤ maxLen) :
    Calls Try.prog 34 #[va, vb] w fun e w' => e = .returned (.bool (sameB la lb)) ∧ Below w.heap.size w w' := by
  have C := Lib.hid (alike_any va vb la lb w ha hb hm hm2)
  clear ha hb
  go_enter Try.func34, Try.ntmps34
  go_wp2_with fail
  refine C.out.mono ?_
  rintro e w' ⟨rfl, hb⟩
  go_wp2
  go_ret
  exact ⟨rfl, hb⟩
end Go.Proofs.Ytihbecfjgdlebaa
