/- A part of the proof, packed: see the last text of this claim. -/
import Derived.Test.YtgikhpmdpppenaaGreatDoorPkCa
import Derived.Test.YtgikhpmdpppenaaGreatDoorPkCc
import Derived.Deep.AppendLies
import Derived.Deep.DeepAppendRoom
import Derived.ArgAppend
import Derived.Deep.RegionLaw
import Derived.Deep.RegionHeld3
import Derived.RangeFuncNested
import Derived.RangeFuncCalls
import Derived.RangeFuncLeaves
import Derived.Shelf.Abstract
import Derived.OwnWalkIn
import Derived.TacticsInMore
import Derived.LoopNIn
import Derived.LoopIn
import Derived.Lib.IndexLaws
namespace Go.Proofs.YtgikhpmdpppenaaGreatDoor
open Go.RowKit
def typE : List Nd → Bool
  | [] => false
  | a :: l => if l.isEmpty then typB a else typE l
theorem typE_get : ∀ {l : List Nd} (h : 0 < l.length), typE l = typB (l[l.length - 1]'(by omega))
  | [a], _ => by simp [typE]
  | a :: b :: l, _ => by
    simp only [typE]
    rw [if_neg (by simp)]
    have := typE_get (l := b :: l) (by simp)
    rw [typE] at this
    rw [this]
    simp
theorem formL_lone : ∀ {l : List Nd} (h : l.length = 1), formL l = formB (l[0]'(by omega))
  | [a], _ => by simp [formL]
def itemB : Nd → Bool
  | .mk k s l =>
    if k = 2 ∨ k = 14 then noneB s && (decide (1 ≤ l.length) && nameL l)
    else if k = 3 then noneB s && (decide (2 ≤ l.length) && (nameL (l.take (l.length - 1)) && typE l))
    else nameB s && (if k = 4 ∨ k = 5 ∨ k = 6 then typL l && decide (l.length ≤ 8)
      else if k = 7 then modeL l && decide (l.length ≤ 8)
      else if k = 8 ∨ k = 9 ∨ k = 10 ∨ k = 11 then decide (l.length = 1) && formL l
      else if k = 12 ∨ k = 13 then decide (l.length = 0) else false)
set_option maxRecDepth 100000 in
set_option maxHeartbeats 2000000 in
theorem rIsItem_2 (s : ByteArray) (l : List Nd) (w : World) (v0 v1 v2 : Value) (ht : NdR w (.mk 2 s l) v0 v1 v2) :
    Calls Tryz.prog 62 #[.agg #[v0, v1, v2]] w fun e w' => e = .returned (.bool (itemB (.mk 2 s l))) ∧ Below w.heap.size w w' := by
  obtain ⟨k', s', l', a, cap, he, rfl, rfl, rfl, hs, hl⟩ := ht.form
  cases he
  unfold maxLen at hl
  obtain ⟨V, hV⟩ : ∃ V, nameB s = V := ⟨_, rfl⟩
  have CN := Lib.hid (fun w => rIsName_v V s w hV)
  have HV := Lib.hid hV
  obtain ⟨h, hh⟩ : ∃ h, w.heap.size = h := ⟨_, rfl⟩
  have hb0 := Lib.hid ((Below.refl w.heap.size w).alloc (Nat.le_refl _) (.cells #[.int .i64 2, .string s, .slice a l.length cap] 24))
  have D0 := Lib.hid (nd3 (w := w) (k := 2) (s := s) (v2 := .slice a l.length cap) (t := 24) hh)
  have HH := Lib.hid hh
  have HT := Lib.hid ht
  have HC := Lib.hid ht.cap
  have HL : Hid (NdL w l (.slice a l.length cap)) := Lib.hid ⟨_, _, _, _, ht⟩
  clear hh ht hV
  have HS : Hid (itemB (.mk 2 s l) = (noneB s && (decide (1 ≤ l.length) && nameL l))) := Lib.hid (by rw [itemB, if_pos (by decide)])
  cases hse : s.toList.isEmpty with
  | false =>
    have HR : Hid (itemB (.mk 2 s l) = false) := Lib.hid (by rw [HS.out]; unfold noneB; rw [hse]; rfl)
    go_enter Tryz.func62, Tryz.ntmps62
    go_wp2
    go_ret
    exact ⟨by rw [HR.out]; rfl, hb0.out⟩
  | true =>
    by_cases hll : 1 ≤ l.length
    · have e1 : (1 : Int) ≤ (l.length : Int) := by omega
      have e2 : decide (1 ≤ l.length) = true := decide_eq_true hll
      have e3 : decide (0 < l.length) = true := decide_eq_true hll
      have e5 : 0 < l.length := hll
      obtain ⟨V, hV⟩ : ∃ V, nameL l = V := ⟨_, rfl⟩
      have C := Lib.hid (fun w hv => rAreNames l (.slice a l.length cap) w hv)
      rw [hV] at C
      have HR : Hid (itemB (.mk 2 s l) = V) := Lib.hid (by rw [HS.out, decide_eq_true hll, hV]; unfold noneB; rw [hse]; rfl)
      clear hV
      go_enter Tryz.func62, Tryz.ntmps62
      go_wp2_with fail
      refine (C.out _ (HL.out.later hb0.out)).mono ?_
      rintro e w1 ⟨rfl, hbw1⟩
      have B1 : Hid (Below w.heap.size w w1) := Lib.hid (hb0.out.trans (hbw1.mono hb0.out.size))
      clear C hbw1
      go_wp2
      go_ret
      exact ⟨by rw [HR.out]; rfl, B1.out⟩
    · have e1 : ¬ ((1 : Int) ≤ (l.length : Int)) := by omega
      have e2 : decide (1 ≤ l.length) = false := decide_eq_false hll
      have e3 : decide (0 < l.length) = false := decide_eq_false hll
      have e6 : l = [] := List.length_eq_zero_iff.1 (by omega)
      have HR : Hid (itemB (.mk 2 s l) = false) := Lib.hid (by rw [HS.out, decide_eq_false hll, Bool.false_and, Bool.and_false])
      clear hll
      subst e6
      go_enter Tryz.func62, Tryz.ntmps62
      go_wp2
      go_ret
      exact ⟨by rw [HR.out]; rfl, hb0.out⟩
set_option maxRecDepth 100000 in
set_option maxHeartbeats 2000000 in
theorem rIsItem_3 (s : ByteArray) (l : List Nd) (w : World) (v0 v1 v2 : Value) (ht : NdR w (.mk 3 s l) v0 v1 v2) :
    Calls Tryz.prog 62 #[.agg #[v0, v1, v2]] w fun e w' => e = .returned (.bool (itemB (.mk 3 s l))) ∧ Below w.heap.size w w' := by
  obtain ⟨k', s', l', a, cap, he, rfl, rfl, rfl, hs, hl⟩ := ht.form
  cases he
  unfold maxLen at hl
  obtain ⟨V, hV⟩ : ∃ V, nameB s = V := ⟨_, rfl⟩
  have CN := Lib.hid (fun w => rIsName_v V s w hV)
  have HV := Lib.hid hV
  obtain ⟨h, hh⟩ : ∃ h, w.heap.size = h := ⟨_, rfl⟩
  have hb0 := Lib.hid ((Below.refl w.heap.size w).alloc (Nat.le_refl _) (.cells #[.int .i64 3, .string s, .slice a l.length cap] 24))
  have D0 := Lib.hid (nd3 (w := w) (k := 3) (s := s) (v2 := .slice a l.length cap) (t := 24) hh)
  have HH := Lib.hid hh
  have HT := Lib.hid ht
  have HC := Lib.hid ht.cap
  have HL : Hid (NdL w l (.slice a l.length cap)) := Lib.hid ⟨_, _, _, _, ht⟩
  clear hh ht hV
  have HS : Hid (itemB (.mk 3 s l) = (noneB s && (decide (2 ≤ l.length) && (nameL (l.take (l.length - 1)) && typE l)))) := Lib.hid (by rw [itemB, if_neg (by decide), if_pos (by decide)])
  cases hse : s.toList.isEmpty with
  | false =>
    have HR : Hid (itemB (.mk 3 s l) = false) := Lib.hid (by rw [HS.out]; unfold noneB; rw [hse]; rfl)
    go_enter Tryz.func62, Tryz.ntmps62
    go_wp2
    go_ret
    exact ⟨by rw [HR.out]; rfl, hb0.out⟩
  | true =>
    by_cases hll : 2 ≤ l.length
    · obtain ⟨m, hm⟩ : ∃ m, l.length = m + 1 := ⟨l.length - 1, by omega⟩
      have j0 : m < l.length := by omega
      have jc : m ≤ cap := by have := HC.out; omega
      have e1 : (1 : Int) ≤ (m : Int) := by omega
      have e2 : decide (1 ≤ m) = true := decide_eq_true (by omega)
      have e3 : decide (0 < m) = true := decide_eq_true (by omega)
      have e5 : 0 < m := by omega
      have i1 : (l.length : Int) - 1 = (m : Int) := by omega
      have i2 : IntKind.i64.wrap (m : Int) = m := by rw [IntKind.wrap_i64]; omega
      have i3 : (m : Int) < (l.length : Int) := by omega
      have i4 : (0 : Int) ≤ (m : Int) := by omega
      have i5 : (m : Int) ≤ (cap : Int) := by omega
      obtain ⟨V, hV⟩ : ∃ V, nameL (l.take m) = V := ⟨_, rfl⟩
      have C := Lib.hid (fun w hv => rAreNames (l.take m) (.slice a m cap) w hv)
      rw [hV] at C
      have HR : Hid (itemB (.mk 3 s l) = (V && typE l)) := Lib.hid (by rw [HS.out, decide_eq_true hll, show l.length - 1 = m from by omega, hV]; unfold noneB; rw [hse]; rfl)
      have HLm := Lib.hid (fun w (h : NdL w l (.slice a l.length cap)) => h.take m (by omega) cap jc)
      have HM := Lib.hid hm
      clear hV hm hll
      go_enter Tryz.func62, Tryz.ntmps62
      go_wp2_with fail
      refine (C.out _ (HLm.out _ (HL.out.later hb0.out))).mono ?_
      rintro e w1 ⟨rfl, hbw1⟩
      have B1 : Hid (Below w.heap.size w w1) := Lib.hid (hb0.out.trans (hbw1.mono hb0.out.size))
      have d0 : w1.cell? ⟨w.heap.size, 0, none⟩ = some (.int .i64 3) := (hbw1.cell (p := ⟨w.heap.size, 0, none⟩) (by rw [World.size_alloc]; exact Nat.lt_succ_self _)).trans (by rw [HH.out]; exact D0.out.1)
      have d2 : w1.cell? ⟨w.heap.size, 2, none⟩ = some (.slice a l.length cap) := (hbw1.cell (p := ⟨w.heap.size, 2, none⟩) (by rw [World.size_alloc]; exact Nat.lt_succ_self _)).trans (by rw [HH.out]; exact D0.out.2.2)
      clear C hbw1
      cases V with
      | false =>
        go_wp2
        go_ret
        exact ⟨by rw [HR.out]; rfl, B1.out⟩
      | true =>
        obtain ⟨b, o, k1, s1, l1, a1, c1, rfl, eq1, x0, x1, x2, r1⟩ := (HT.out.later B1.out).kid m j0
        obtain ⟨U, hU⟩ : ∃ U, typB l[m] = U := ⟨_, rfl⟩
        have HE : Hid (typE l = U) := Lib.hid (by
          rw [typE_get (by omega), ← hU]
          congr 2
          have := HM.out
          omega)
        rw [eq1] at hU
        have CT := Lib.hid (rIsType _ (.mk k1 s1 l1) w1 _ _ _ (Nat.le_refl _) r1)
        rw [hU] at CT
        have nb := lt_of_cell x0
        clear eq1 hU r1
        go_wp2_with fail
        refine CT.out.mono ?_
        clear CT
        rintro e w9 ⟨rfl, hbw9⟩
        have B9 : Hid (Below w.heap.size w w9) := Lib.hid (B1.out.trans (hbw9.mono B1.out.size))
        clear hbw9 x0 x1 x2 d0 d2
        go_wp2
        go_ret
        exact ⟨by rw [HR.out, HE.out]; rfl, B9.out⟩
    · have HR : Hid (itemB (.mk 3 s l) = false) := Lib.hid (by rw [HS.out, decide_eq_false hll, Bool.false_and, Bool.and_false])
      by_cases h0 : l.length = 0
      · have i1 : (l.length : Int) - 1 = -1 := by omega
        have i7 : l = [] := List.length_eq_zero_iff.1 h0
        clear hll h0
        subst i7
        go_enter Tryz.func62, Tryz.ntmps62
        go_wp2
        go_ret
        exact ⟨by rw [HR.out]; rfl, hb0.out⟩
      · have i1 : (l.length : Int) - 1 = 0 := by omega
        clear hll h0
        go_enter Tryz.func62, Tryz.ntmps62
        go_wp2
        go_ret
        exact ⟨by rw [HR.out]; rfl, hb0.out⟩
set_option maxRecDepth 100000 in
set_option maxHeartbeats 2000000 in
theorem rIsItem_4 (s : ByteArray) (l : List Nd) (w : World) (v0 v1 v2 : Value) (ht : NdR w (.mk 4 s l) v0 v1 v2) :
    Calls Tryz.prog 62 #[.agg #[v0, v1, v2]] w fun e w' => e = .returned (.bool (itemB (.mk 4 s l))) ∧ Below w.heap.size w w' := by
  obtain ⟨k', s', l', a, cap, he, rfl, rfl, rfl, hs, hl⟩ := ht.form
  cases he
  unfold maxLen at hl
  obtain ⟨V, hV⟩ : ∃ V, nameB s = V := ⟨_, rfl⟩
  have CN := Lib.hid (fun w => rIsName_v V s w hV)
  have HV := Lib.hid hV
  obtain ⟨h, hh⟩ : ∃ h, w.heap.size = h := ⟨_, rfl⟩
  have hb0 := Lib.hid ((Below.refl w.heap.size w).alloc (Nat.le_refl _) (.cells #[.int .i64 4, .string s, .slice a l.length cap] 24))
  have D0 := Lib.hid (nd3 (w := w) (k := 4) (s := s) (v2 := .slice a l.length cap) (t := 24) hh)
  have HH := Lib.hid hh
  have HT := Lib.hid ht
  have HC := Lib.hid ht.cap
  have HL : Hid (NdL w l (.slice a l.length cap)) := Lib.hid ⟨_, _, _, _, ht⟩
  clear hh ht hV
  have HS : Hid (itemB (.mk 4 s l) = (V && (typL l && decide (l.length ≤ 8)))) := Lib.hid (by rw [itemB, if_neg (by decide), if_neg (by decide), if_pos (by decide)]; rw [HV.out])
  cases V with
  | false =>
    go_enter Tryz.func62, Tryz.ntmps62
    go_wp2_with fail
    refine (CN.out _).mono ?_
    rintro e w1 ⟨rfl, hbw1⟩
    have B1 : Hid (Below w.heap.size w w1) := Lib.hid (hb0.out.trans (hbw1.mono hb0.out.size))
    have d0 : w1.cell? ⟨w.heap.size, 0, none⟩ = some (.int .i64 4) := (hbw1.cell (p := ⟨w.heap.size, 0, none⟩) (by rw [World.size_alloc]; exact Nat.lt_succ_self _)).trans (by rw [HH.out]; exact D0.out.1)
    have d2 : w1.cell? ⟨w.heap.size, 2, none⟩ = some (.slice a l.length cap) := (hbw1.cell (p := ⟨w.heap.size, 2, none⟩) (by rw [World.size_alloc]; exact Nat.lt_succ_self _)).trans (by rw [HH.out]; exact D0.out.2.2)
    clear CN hbw1
    go_wp2
    go_ret
    exact ⟨by rw [HS.out]; rfl, B1.out⟩
  | true =>
    obtain ⟨U, hU⟩ : ∃ U, (typL l && decide (l.length ≤ 8)) = U := ⟨_, rfl⟩
    have C := Lib.hid (fun w hv => rAreTypes l (.slice a l.length cap) w hv)
    rw [hU] at C HS
    clear hU
    go_enter Tryz.func62, Tryz.ntmps62
    go_wp2_with fail
    refine (CN.out _).mono ?_
    rintro e w1 ⟨rfl, hbw1⟩
    have B1 : Hid (Below w.heap.size w w1) := Lib.hid (hb0.out.trans (hbw1.mono hb0.out.size))
    have d0 : w1.cell? ⟨w.heap.size, 0, none⟩ = some (.int .i64 4) := (hbw1.cell (p := ⟨w.heap.size, 0, none⟩) (by rw [World.size_alloc]; exact Nat.lt_succ_self _)).trans (by rw [HH.out]; exact D0.out.1)
    have d2 : w1.cell? ⟨w.heap.size, 2, none⟩ = some (.slice a l.length cap) := (hbw1.cell (p := ⟨w.heap.size, 2, none⟩) (by rw [World.size_alloc]; exact Nat.lt_succ_self _)).trans (by rw [HH.out]; exact D0.out.2.2)
    clear CN hbw1
    go_wp2_with fail
    refine (C.out _ (HL.out.later B1.out)).mono ?_
    rintro e w9 ⟨rfl, hbw9⟩
    have B9 : Hid (Below w.heap.size w w9) := Lib.hid (B1.out.trans (hbw9.mono B1.out.size))
    clear C hbw9 d0 d2
    go_wp2
    go_ret
    exact ⟨by rw [HS.out]; rfl, B9.out⟩
set_option maxRecDepth 100000 in
set_option maxHeartbeats 2000000 in
theorem rIsItem_5 (s : ByteArray) (l : List Nd) (w : World) (v0 v1 v2 : Value) (ht : NdR w (.mk 5 s l) v0 v1 v2) :
    Calls Tryz.prog 62 #[.agg #[v0, v1, v2]] w fun e w' => e = .returned (.bool (itemB (.mk 5 s l))) ∧ Below w.heap.size w w' := by
  obtain ⟨k', s', l', a, cap, he, rfl, rfl, rfl, hs, hl⟩ := ht.form
  cases he
  unfold maxLen at hl
  obtain ⟨V, hV⟩ : ∃ V, nameB s = V := ⟨_, rfl⟩
  have CN := Lib.hid (fun w => rIsName_v V s w hV)
  have HV := Lib.hid hV
  obtain ⟨h, hh⟩ : ∃ h, w.heap.size = h := ⟨_, rfl⟩
  have hb0 := Lib.hid ((Below.refl w.heap.size w).alloc (Nat.le_refl _) (.cells #[.int .i64 5, .string s, .slice a l.length cap] 24))
  have D0 := Lib.hid (nd3 (w := w) (k := 5) (s := s) (v2 := .slice a l.length cap) (t := 24) hh)
  have HH := Lib.hid hh
  have HT := Lib.hid ht
  have HC := Lib.hid ht.cap
  have HL : Hid (NdL w l (.slice a l.length cap)) := Lib.hid ⟨_, _, _, _, ht⟩
  clear hh ht hV
  have HS : Hid (itemB (.mk 5 s l) = (V && (typL l && decide (l.length ≤ 8)))) := Lib.hid (by rw [itemB, if_neg (by decide), if_neg (by decide), if_pos (by decide)]; rw [HV.out])
  cases V with
  | false =>
    go_enter Tryz.func62, Tryz.ntmps62
    go_wp2_with fail
    refine (CN.out _).mono ?_
    rintro e w1 ⟨rfl, hbw1⟩
    have B1 : Hid (Below w.heap.size w w1) := Lib.hid (hb0.out.trans (hbw1.mono hb0.out.size))
    have d0 : w1.cell? ⟨w.heap.size, 0, none⟩ = some (.int .i64 5) := (hbw1.cell (p := ⟨w.heap.size, 0, none⟩) (by rw [World.size_alloc]; exact Nat.lt_succ_self _)).trans (by rw [HH.out]; exact D0.out.1)
    have d2 : w1.cell? ⟨w.heap.size, 2, none⟩ = some (.slice a l.length cap) := (hbw1.cell (p := ⟨w.heap.size, 2, none⟩) (by rw [World.size_alloc]; exact Nat.lt_succ_self _)).trans (by rw [HH.out]; exact D0.out.2.2)
    clear CN hbw1
    go_wp2
    go_ret
    exact ⟨by rw [HS.out]; rfl, B1.out⟩
  | true =>
    obtain ⟨U, hU⟩ : ∃ U, (typL l && decide (l.length ≤ 8)) = U := ⟨_, rfl⟩
    have C := Lib.hid (fun w hv => rAreTypes l (.slice a l.length cap) w hv)
    rw [hU] at C HS
    clear hU
    go_enter Tryz.func62, Tryz.ntmps62
    go_wp2_with fail
    refine (CN.out _).mono ?_
    rintro e w1 ⟨rfl, hbw1⟩
    have B1 : Hid (Below w.heap.size w w1) := Lib.hid (hb0.out.trans (hbw1.mono hb0.out.size))
    have d0 : w1.cell? ⟨w.heap.size, 0, none⟩ = some (.int .i64 5) := (hbw1.cell (p := ⟨w.heap.size, 0, none⟩) (by rw [World.size_alloc]; exact Nat.lt_succ_self _)).trans (by rw [HH.out]; exact D0.out.1)
    have d2 : w1.cell? ⟨w.heap.size, 2, none⟩ = some (.slice a l.length cap) := (hbw1.cell (p := ⟨w.heap.size, 2, none⟩) (by rw [World.size_alloc]; exact Nat.lt_succ_self _)).trans (by rw [HH.out]; exact D0.out.2.2)
    clear CN hbw1
    go_wp2_with fail
    refine (C.out _ (HL.out.later B1.out)).mono ?_
    rintro e w9 ⟨rfl, hbw9⟩
    have B9 : Hid (Below w.heap.size w w9) := Lib.hid (B1.out.trans (hbw9.mono B1.out.size))
    clear C hbw9 d0 d2
    go_wp2
    go_ret
    exact ⟨by rw [HS.out]; rfl, B9.out⟩
set_option maxRecDepth 100000 in
set_option maxHeartbeats 2000000 in
theorem rIsItem_6 (s : ByteArray) (l : List Nd) (w : World) (v0 v1 v2 : Value) (ht : NdR w (.mk 6 s l) v0 v1 v2) :
    Calls Tryz.prog 62 #[.agg #[v0, v1, v2]] w fun e w' => e = .returned (.bool (itemB (.mk 6 s l))) ∧ Below w.heap.size w w' := by
  obtain ⟨k', s', l', a, cap, he, rfl, rfl, rfl, hs, hl⟩ := ht.form
  cases he
  unfold maxLen at hl
  obtain ⟨V, hV⟩ : ∃ V, nameB s = V := ⟨_, rfl⟩
  have CN := Lib.hid (fun w => rIsName_v V s w hV)
  have HV := Lib.hid hV
  obtain ⟨h, hh⟩ : ∃ h, w.heap.size = h := ⟨_, rfl⟩
  have hb0 := Lib.hid ((Below.refl w.heap.size w).alloc (Nat.le_refl _) (.cells #[.int .i64 6, .string s, .slice a l.length cap] 24))
  have D0 := Lib.hid (nd3 (w := w) (k := 6) (s := s) (v2 := .slice a l.length cap) (t := 24) hh)
  have HH := Lib.hid hh
  have HT := Lib.hid ht
  have HC := Lib.hid ht.cap
  have HL : Hid (NdL w l (.slice a l.length cap)) := Lib.hid ⟨_, _, _, _, ht⟩
  clear hh ht hV
  have HS : Hid (itemB (.mk 6 s l) = (V && (typL l && decide (l.length ≤ 8)))) := Lib.hid (by rw [itemB, if_neg (by decide), if_neg (by decide), if_pos (by decide)]; rw [HV.out])
  cases V with
  | false =>
    go_enter Tryz.func62, Tryz.ntmps62
    go_wp2_with fail
    refine (CN.out _).mono ?_
    rintro e w1 ⟨rfl, hbw1⟩
    have B1 : Hid (Below w.heap.size w w1) := Lib.hid (hb0.out.trans (hbw1.mono hb0.out.size))
    have d0 : w1.cell? ⟨w.heap.size, 0, none⟩ = some (.int .i64 6) := (hbw1.cell (p := ⟨w.heap.size, 0, none⟩) (by rw [World.size_alloc]; exact Nat.lt_succ_self _)).trans (by rw [HH.out]; exact D0.out.1)
    have d2 : w1.cell? ⟨w.heap.size, 2, none⟩ = some (.slice a l.length cap) := (hbw1.cell (p := ⟨w.heap.size, 2, none⟩) (by rw [World.size_alloc]; exact Nat.lt_succ_self _)).trans (by rw [HH.out]; exact D0.out.2.2)
    clear CN hbw1
    go_wp2
    go_ret
    exact ⟨by rw [HS.out]; rfl, B1.out⟩
  | true =>
    obtain ⟨U, hU⟩ : ∃ U, (typL l && decide (l.length ≤ 8)) = U := ⟨_, rfl⟩
    have C := Lib.hid (fun w hv => rAreTypes l (.slice a l.length cap) w hv)
    rw [hU] at C HS
    clear hU
    go_enter Tryz.func62, Tryz.ntmps62
    go_wp2_with fail
    refine (CN.out _).mono ?_
    rintro e w1 ⟨rfl, hbw1⟩
    have B1 : Hid (Below w.heap.size w w1) := Lib.hid (hb0.out.trans (hbw1.mono hb0.out.size))
    have d0 : w1.cell? ⟨w.heap.size, 0, none⟩ = some (.int .i64 6) := (hbw1.cell (p := ⟨w.heap.size, 0, none⟩) (by rw [World.size_alloc]; exact Nat.lt_succ_self _)).trans (by rw [HH.out]; exact D0.out.1)
    have d2 : w1.cell? ⟨w.heap.size, 2, none⟩ = some (.slice a l.length cap) := (hbw1.cell (p := ⟨w.heap.size, 2, none⟩) (by rw [World.size_alloc]; exact Nat.lt_succ_self _)).trans (by rw [HH.out]; exact D0.out.2.2)
    clear CN hbw1
    go_wp2_with fail
    refine (C.out _ (HL.out.later B1.out)).mono ?_
    rintro e w9 ⟨rfl, hbw9⟩
    have B9 : Hid (Below w.heap.size w w9) := Lib.hid (B1.out.trans (hbw9.mono B1.out.size))
    clear C hbw9 d0 d2
    go_wp2
    go_ret
    exact ⟨by rw [HS.out]; rfl, B9.out⟩
set_option maxRecDepth 100000 in
set_option maxHeartbeats 2000000 in
theorem rIsItem_7 (s : ByteArray) (l : List Nd) (w : World) (v0 v1 v2 : Value) (ht : NdR w (.mk 7 s l) v0 v1 v2) :
    Calls Tryz.prog 62 #[.agg #[v0, v1, v2]] w fun e w' => e = .returned (.bool (itemB (.mk 7 s l))) ∧ Below w.heap.size w w' := by
  obtain ⟨k', s', l', a, cap, he, rfl, rfl, rfl, hs, hl⟩ := ht.form
  cases he
  unfold maxLen at hl
  obtain ⟨V, hV⟩ : ∃ V, nameB s = V := ⟨_, rfl⟩
  have CN := Lib.hid (fun w => rIsName_v V s w hV)
  have HV := Lib.hid hV
  obtain ⟨h, hh⟩ : ∃ h, w.heap.size = h := ⟨_, rfl⟩
  have hb0 := Lib.hid ((Below.refl w.heap.size w).alloc (Nat.le_refl _) (.cells #[.int .i64 7, .string s, .slice a l.length cap] 24))
  have D0 := Lib.hid (nd3 (w := w) (k := 7) (s := s) (v2 := .slice a l.length cap) (t := 24) hh)
  have HH := Lib.hid hh
  have HT := Lib.hid ht
  have HC := Lib.hid ht.cap
  have HL : Hid (NdL w l (.slice a l.length cap)) := Lib.hid ⟨_, _, _, _, ht⟩
  clear hh ht hV
  have HS : Hid (itemB (.mk 7 s l) = (V && (modeL l && decide (l.length ≤ 8)))) := Lib.hid (by rw [itemB, if_neg (by decide), if_neg (by decide), if_neg (by decide), if_pos (by decide)]; rw [HV.out])
  cases V with
  | false =>
    go_enter Tryz.func62, Tryz.ntmps62
    go_wp2_with fail
    refine (CN.out _).mono ?_
    rintro e w1 ⟨rfl, hbw1⟩
    have B1 : Hid (Below w.heap.size w w1) := Lib.hid (hb0.out.trans (hbw1.mono hb0.out.size))
    have d0 : w1.cell? ⟨w.heap.size, 0, none⟩ = some (.int .i64 7) := (hbw1.cell (p := ⟨w.heap.size, 0, none⟩) (by rw [World.size_alloc]; exact Nat.lt_succ_self _)).trans (by rw [HH.out]; exact D0.out.1)
    have d2 : w1.cell? ⟨w.heap.size, 2, none⟩ = some (.slice a l.length cap) := (hbw1.cell (p := ⟨w.heap.size, 2, none⟩) (by rw [World.size_alloc]; exact Nat.lt_succ_self _)).trans (by rw [HH.out]; exact D0.out.2.2)
    clear CN hbw1
    go_wp2
    go_ret
    exact ⟨by rw [HS.out]; rfl, B1.out⟩
  | true =>
    obtain ⟨U, hU⟩ : ∃ U, (modeL l && decide (l.length ≤ 8)) = U := ⟨_, rfl⟩
    have C := Lib.hid (fun w hv => rAreModes l (.slice a l.length cap) w hv)
    rw [hU] at C HS
    clear hU
    go_enter Tryz.func62, Tryz.ntmps62
    go_wp2_with fail
    refine (CN.out _).mono ?_
    rintro e w1 ⟨rfl, hbw1⟩
    have B1 : Hid (Below w.heap.size w w1) := Lib.hid (hb0.out.trans (hbw1.mono hb0.out.size))
    have d0 : w1.cell? ⟨w.heap.size, 0, none⟩ = some (.int .i64 7) := (hbw1.cell (p := ⟨w.heap.size, 0, none⟩) (by rw [World.size_alloc]; exact Nat.lt_succ_self _)).trans (by rw [HH.out]; exact D0.out.1)
    have d2 : w1.cell? ⟨w.heap.size, 2, none⟩ = some (.slice a l.length cap) := (hbw1.cell (p := ⟨w.heap.size, 2, none⟩) (by rw [World.size_alloc]; exact Nat.lt_succ_self _)).trans (by rw [HH.out]; exact D0.out.2.2)
    clear CN hbw1
    go_wp2_with fail
    refine (C.out _ (HL.out.later B1.out)).mono ?_
    rintro e w9 ⟨rfl, hbw9⟩
    have B9 : Hid (Below w.heap.size w w9) := Lib.hid (B1.out.trans (hbw9.mono B1.out.size))
    clear C hbw9 d0 d2
    go_wp2
    go_ret
    exact ⟨by rw [HS.out]; rfl, B9.out⟩
set_option maxRecDepth 100000 in
set_option maxHeartbeats 2000000 in
theorem rIsItem_8 (s : ByteArray) (l : List Nd) (w : World) (v0 v1 v2 : Value) (ht : NdR w (.mk 8 s l) v0 v1 v2) :
    Calls Tryz.prog 62 #[.agg #[v0, v1, v2]] w fun e w' => e = .returned (.bool (itemB (.mk 8 s l))) ∧ Below w.heap.size w w' := by
  obtain ⟨k', s', l', a, cap, he, rfl, rfl, rfl, hs, hl⟩ := ht.form
  cases he
  unfold maxLen at hl
  obtain ⟨V, hV⟩ : ∃ V, nameB s = V := ⟨_, rfl⟩
  have CN := Lib.hid (fun w => rIsName_v V s w hV)
  have HV := Lib.hid hV
  obtain ⟨h, hh⟩ : ∃ h, w.heap.size = h := ⟨_, rfl⟩
  have hb0 := Lib.hid ((Below.refl w.heap.size w).alloc (Nat.le_refl _) (.cells #[.int .i64 8, .string s, .slice a l.length cap] 24))
  have D0 := Lib.hid (nd3 (w := w) (k := 8) (s := s) (v2 := .slice a l.length cap) (t := 24) hh)
  have HH := Lib.hid hh
  have HT := Lib.hid ht
  have HC := Lib.hid ht.cap
  have HL : Hid (NdL w l (.slice a l.length cap)) := Lib.hid ⟨_, _, _, _, ht⟩
  clear hh ht hV
  have HS : Hid (itemB (.mk 8 s l) = (V && (decide (l.length = 1) && formL l))) := Lib.hid (by rw [itemB, if_neg (by decide), if_neg (by decide), if_neg (by decide), if_neg (by decide), if_pos (by decide)]; rw [HV.out])
  cases V with
  | false =>
    go_enter Tryz.func62, Tryz.ntmps62
    go_wp2_with fail
    refine (CN.out _).mono ?_
    rintro e w1 ⟨rfl, hbw1⟩
    have B1 : Hid (Below w.heap.size w w1) := Lib.hid (hb0.out.trans (hbw1.mono hb0.out.size))
    have d0 : w1.cell? ⟨w.heap.size, 0, none⟩ = some (.int .i64 8) := (hbw1.cell (p := ⟨w.heap.size, 0, none⟩) (by rw [World.size_alloc]; exact Nat.lt_succ_self _)).trans (by rw [HH.out]; exact D0.out.1)
    have d2 : w1.cell? ⟨w.heap.size, 2, none⟩ = some (.slice a l.length cap) := (hbw1.cell (p := ⟨w.heap.size, 2, none⟩) (by rw [World.size_alloc]; exact Nat.lt_succ_self _)).trans (by rw [HH.out]; exact D0.out.2.2)
    clear CN hbw1
    go_wp2
    go_ret
    exact ⟨by rw [HS.out]; rfl, B1.out⟩
  | true =>
    by_cases hll : l.length = 1
    · have e1 : ((l.length : Int) == 1) = true := by rw [hll]; rfl
      have j0 : 0 < l.length := by omega
      have j1 : (0 : Int) < (l.length : Int) := by omega
      have HM := Lib.hid hll
      clear hll
      go_enter Tryz.func62, Tryz.ntmps62
      go_wp2_with fail
      refine (CN.out _).mono ?_
      rintro e w1 ⟨rfl, hbw1⟩
      have B1 : Hid (Below w.heap.size w w1) := Lib.hid (hb0.out.trans (hbw1.mono hb0.out.size))
      have d0 : w1.cell? ⟨w.heap.size, 0, none⟩ = some (.int .i64 8) := (hbw1.cell (p := ⟨w.heap.size, 0, none⟩) (by rw [World.size_alloc]; exact Nat.lt_succ_self _)).trans (by rw [HH.out]; exact D0.out.1)
      have d2 : w1.cell? ⟨w.heap.size, 2, none⟩ = some (.slice a l.length cap) := (hbw1.cell (p := ⟨w.heap.size, 2, none⟩) (by rw [World.size_alloc]; exact Nat.lt_succ_self _)).trans (by rw [HH.out]; exact D0.out.2.2)
      clear CN hbw1
      obtain ⟨b, o, k1, s1, l1, a1, c1, rfl, eq1, x0, x1, x2, r1⟩ := (HT.out.later B1.out).kid 0 j0
      obtain ⟨U, hU⟩ : ∃ U, formB l[0] = U := ⟨_, rfl⟩
      have HE : Hid (formL l = U) := Lib.hid (by rw [formL_lone HM.out, ← hU])
      rw [eq1] at hU
      have CT := Lib.hid (rIsForm _ (.mk k1 s1 l1) w1 _ _ _ (Nat.le_refl _) r1)
      rw [hU] at CT
      simp only [Nat.zero_mul, Nat.add_zero] at x0 x1 x2
      have nb := lt_of_cell x0
      clear eq1 hU r1
      go_wp2_with fail
      refine CT.out.mono ?_
      clear CT
      rintro e w9 ⟨rfl, hbw9⟩
      have B9 : Hid (Below w.heap.size w w9) := Lib.hid (B1.out.trans (hbw9.mono B1.out.size))
      clear hbw9 x0 x1 x2 d0 d2
      go_wp2
      go_ret
      exact ⟨by rw [HS.out, HE.out, decide_eq_true HM.out]; rfl, B9.out⟩
    · have e1 : ((l.length : Int) == 1) = false := by rw [beq_eq_false_iff_ne]; omega
      rw [decide_eq_false hll, Bool.false_and, Bool.and_false] at HS
      clear hll
      go_enter Tryz.func62, Tryz.ntmps62
      go_wp2_with fail
      refine (CN.out _).mono ?_
      rintro e w1 ⟨rfl, hbw1⟩
      have B1 : Hid (Below w.heap.size w w1) := Lib.hid (hb0.out.trans (hbw1.mono hb0.out.size))
      have d0 : w1.cell? ⟨w.heap.size, 0, none⟩ = some (.int .i64 8) := (hbw1.cell (p := ⟨w.heap.size, 0, none⟩) (by rw [World.size_alloc]; exact Nat.lt_succ_self _)).trans (by rw [HH.out]; exact D0.out.1)
      have d2 : w1.cell? ⟨w.heap.size, 2, none⟩ = some (.slice a l.length cap) := (hbw1.cell (p := ⟨w.heap.size, 2, none⟩) (by rw [World.size_alloc]; exact Nat.lt_succ_self _)).trans (by rw [HH.out]; exact D0.out.2.2)
      clear CN hbw1
      go_wp2
      go_ret
      exact ⟨by rw [HS.out]; rfl, B1.out⟩
set_option maxRecDepth 100000 in
set_option maxHeartbeats 2000000 in
theorem rIsItem_9 (s : ByteArray) (l : List Nd) (w : World) (v0 v1 v2 : Value) (ht : NdR w (.mk 9 s l) v0 v1 v2) :
    Calls Tryz.prog 62 #[.agg #[v0, v1, v2]] w fun e w' => e = .returned (.bool (itemB (.mk 9 s l))) ∧ Below w.heap.size w w' := by
  obtain ⟨k', s', l', a, cap, he, rfl, rfl, rfl, hs, hl⟩ := ht.form
  cases he
  unfold maxLen at hl
  obtain ⟨V, hV⟩ : ∃ V, nameB s = V := ⟨_, rfl⟩
  have CN := Lib.hid (fun w => rIsName_v V s w hV)
  have HV := Lib.hid hV
  obtain ⟨h, hh⟩ : ∃ h, w.heap.size = h := ⟨_, rfl⟩
  have hb0 := Lib.hid ((Below.refl w.heap.size w).alloc (Nat.le_refl _) (.cells #[.int .i64 9, .string s, .slice a l.length cap] 24))
  have D0 := Lib.hid (nd3 (w := w) (k := 9) (s := s) (v2 := .slice a l.length cap) (t := 24) hh)
  have HH := Lib.hid hh
  have HT := Lib.hid ht
  have HC := Lib.hid ht.cap
  have HL : Hid (NdL w l (.slice a l.length cap)) := Lib.hid ⟨_, _, _, _, ht⟩
  clear hh ht hV
  have HS : Hid (itemB (.mk 9 s l) = (V && (decide (l.length = 1) && formL l))) := Lib.hid (by rw [itemB, if_neg (by decide), if_neg (by decide), if_neg (by decide), if_neg (by decide), if_pos (by decide)]; rw [HV.out])
  cases V with
  | false =>
    go_enter Tryz.func62, Tryz.ntmps62
    go_wp2_with fail
    refine (CN.out _).mono ?_
    rintro e w1 ⟨rfl, hbw1⟩
    have B1 : Hid (Below w.heap.size w w1) := Lib.hid (hb0.out.trans (hbw1.mono hb0.out.size))
    have d0 : w1.cell? ⟨w.heap.size, 0, none⟩ = some (.int .i64 9) := (hbw1.cell (p := ⟨w.heap.size, 0, none⟩) (by rw [World.size_alloc]; exact Nat.lt_succ_self _)).trans (by rw [HH.out]; exact D0.out.1)
    have d2 : w1.cell? ⟨w.heap.size, 2, none⟩ = some (.slice a l.length cap) := (hbw1.cell (p := ⟨w.heap.size, 2, none⟩) (by rw [World.size_alloc]; exact Nat.lt_succ_self _)).trans (by rw [HH.out]; exact D0.out.2.2)
    clear CN hbw1
    go_wp2
    go_ret
    exact ⟨by rw [HS.out]; rfl, B1.out⟩
  | true =>
    by_cases hll : l.length = 1
    · have e1 : ((l.length : Int) == 1) = true := by rw [hll]; rfl
      have j0 : 0 < l.length := by omega
      have j1 : (0 : Int) < (l.length : Int) := by omega
      have HM := Lib.hid hll
      clear hll
      go_enter Tryz.func62, Tryz.ntmps62
      go_wp2_with fail
      refine (CN.out _).mono ?_
      rintro e w1 ⟨rfl, hbw1⟩
      have B1 : Hid (Below w.heap.size w w1) := Lib.hid (hb0.out.trans (hbw1.mono hb0.out.size))
      have d0 : w1.cell? ⟨w.heap.size, 0, none⟩ = some (.int .i64 9) := (hbw1.cell (p := ⟨w.heap.size, 0, none⟩) (by rw [World.size_alloc]; exact Nat.lt_succ_self _)).trans (by rw [HH.out]; exact D0.out.1)
      have d2 : w1.cell? ⟨w.heap.size, 2, none⟩ = some (.slice a l.length cap) := (hbw1.cell (p := ⟨w.heap.size, 2, none⟩) (by rw [World.size_alloc]; exact Nat.lt_succ_self _)).trans (by rw [HH.out]; exact D0.out.2.2)
      clear CN hbw1
      obtain ⟨b, o, k1, s1, l1, a1, c1, rfl, eq1, x0, x1, x2, r1⟩ := (HT.out.later B1.out).kid 0 j0
      obtain ⟨U, hU⟩ : ∃ U, formB l[0] = U := ⟨_, rfl⟩
      have HE : Hid (formL l = U) := Lib.hid (by rw [formL_lone HM.out, ← hU])
      rw [eq1] at hU
      have CT := Lib.hid (rIsForm _ (.mk k1 s1 l1) w1 _ _ _ (Nat.le_refl _) r1)
      rw [hU] at CT
      simp only [Nat.zero_mul, Nat.add_zero] at x0 x1 x2
      have nb := lt_of_cell x0
      clear eq1 hU r1
      go_wp2_with fail
      refine CT.out.mono ?_
      clear CT
      rintro e w9 ⟨rfl, hbw9⟩
      have B9 : Hid (Below w.heap.size w w9) := Lib.hid (B1.out.trans (hbw9.mono B1.out.size))
      clear hbw9 x0 x1 x2 d0 d2
      go_wp2
      go_ret
      exact ⟨by rw [HS.out, HE.out, decide_eq_true HM.out]; rfl, B9.out⟩
    · have e1 : ((l.length : Int) == 1) = false := by rw [beq_eq_false_iff_ne]; omega
      rw [decide_eq_false hll, Bool.false_and, Bool.and_false] at HS
      clear hll
      go_enter Tryz.func62, Tryz.ntmps62
      go_wp2_with fail
      refine (CN.out _).mono ?_
      rintro e w1 ⟨rfl, hbw1⟩
      have B1 : Hid (Below w.heap.size w w1) := Lib.hid (hb0.out.trans (hbw1.mono hb0.out.size))
      have d0 : w1.cell? ⟨w.heap.size, 0, none⟩ = some (.int .i64 9) := (hbw1.cell (p := ⟨w.heap.size, 0, none⟩) (by rw [World.size_alloc]; exact Nat.lt_succ_self _)).trans (by rw [HH.out]; exact D0.out.1)
      have d2 : w1.cell? ⟨w.heap.size, 2, none⟩ = some (.slice a l.length cap) := (hbw1.cell (p := ⟨w.heap.size, 2, none⟩) (by rw [World.size_alloc]; exact Nat.lt_succ_self _)).trans (by rw [HH.out]; exact D0.out.2.2)
      clear CN hbw1
      go_wp2
      go_ret
      exact ⟨by rw [HS.out]; rfl, B1.out⟩
set_option maxRecDepth 100000 in
set_option maxHeartbeats 2000000 in
theorem rIsItem_10 (s : ByteArray) (l : List Nd) (w : World) (v0 v1 v2 : Value) (ht : NdR w (.mk 10 s l) v0 v1 v2) :
    Calls Tryz.prog 62 #[.agg #[v0, v1, v2]] w fun e w' => e = .returned (.bool (itemB (.mk 10 s l))) ∧ Below w.heap.size w w' := by
  obtain ⟨k', s', l', a, cap, he, rfl, rfl, rfl, hs, hl⟩ := ht.form
  cases he
  unfold maxLen at hl
  obtain ⟨V, hV⟩ : ∃ V, nameB s = V := ⟨_, rfl⟩
  have CN := Lib.hid (fun w => rIsName_v V s w hV)
  have HV := Lib.hid hV
  obtain ⟨h, hh⟩ : ∃ h, w.heap.size = h := ⟨_, rfl⟩
  have hb0 := Lib.hid ((Below.refl w.heap.size w).alloc (Nat.le_refl _) (.cells #[.int .i64 10, .string s, .slice a l.length cap] 24))
  have D0 := Lib.hid (nd3 (w := w) (k := 10) (s := s) (v2 := .slice a l.length cap) (t := 24) hh)
  have HH := Lib.hid hh
  have HT := Lib.hid ht
  have HC := Lib.hid ht.cap
  have HL : Hid (NdL w l (.slice a l.length cap)) := Lib.hid ⟨_, _, _, _, ht⟩
  clear hh ht hV
  have HS : Hid (itemB (.mk 10 s l) = (V && (decide (l.length = 1) && formL l))) := Lib.hid (by rw [itemB, if_neg (by decide), if_neg (by decide), if_neg (by decide), if_neg (by decide), if_pos (by decide)]; rw [HV.out])
  cases V with
  | false =>
    go_enter Tryz.func62, Tryz.ntmps62
    go_wp2_with fail
    refine (CN.out _).mono ?_
    rintro e w1 ⟨rfl, hbw1⟩
    have B1 : Hid (Below w.heap.size w w1) := Lib.hid (hb0.out.trans (hbw1.mono hb0.out.size))
    have d0 : w1.cell? ⟨w.heap.size, 0, none⟩ = some (.int .i64 10) := (hbw1.cell (p := ⟨w.heap.size, 0, none⟩) (by rw [World.size_alloc]; exact Nat.lt_succ_self _)).trans (by rw [HH.out]; exact D0.out.1)
    have d2 : w1.cell? ⟨w.heap.size, 2, none⟩ = some (.slice a l.length cap) := (hbw1.cell (p := ⟨w.heap.size, 2, none⟩) (by rw [World.size_alloc]; exact Nat.lt_succ_self _)).trans (by rw [HH.out]; exact D0.out.2.2)
    clear CN hbw1
    go_wp2
    go_ret
    exact ⟨by rw [HS.out]; rfl, B1.out⟩
  | true =>
    by_cases hll : l.length = 1
    · have e1 : ((l.length : Int) == 1) = true := by rw [hll]; rfl
      have j0 : 0 < l.length := by omega
      have j1 : (0 : Int) < (l.length : Int) := by omega
      have HM := Lib.hid hll
      clear hll
      go_enter Tryz.func62, Tryz.ntmps62
      go_wp2_with fail
      refine (CN.out _).mono ?_
      rintro e w1 ⟨rfl, hbw1⟩
      have B1 : Hid (Below w.heap.size w w1) := Lib.hid (hb0.out.trans (hbw1.mono hb0.out.size))
      have d0 : w1.cell? ⟨w.heap.size, 0, none⟩ = some (.int .i64 10) := (hbw1.cell (p := ⟨w.heap.size, 0, none⟩) (by rw [World.size_alloc]; exact Nat.lt_succ_self _)).trans (by rw [HH.out]; exact D0.out.1)
      have d2 : w1.cell? ⟨w.heap.size, 2, none⟩ = some (.slice a l.length cap) := (hbw1.cell (p := ⟨w.heap.size, 2, none⟩) (by rw [World.size_alloc]; exact Nat.lt_succ_self _)).trans (by rw [HH.out]; exact D0.out.2.2)
      clear CN hbw1
      obtain ⟨b, o, k1, s1, l1, a1, c1, rfl, eq1, x0, x1, x2, r1⟩ := (HT.out.later B1.out).kid 0 j0
      obtain ⟨U, hU⟩ : ∃ U, formB l[0] = U := ⟨_, rfl⟩
      have HE : Hid (formL l = U) := Lib.hid (by rw [formL_lone HM.out, ← hU])
      rw [eq1] at hU
      have CT := Lib.hid (rIsForm _ (.mk k1 s1 l1) w1 _ _ _ (Nat.le_refl _) r1)
      rw [hU] at CT
      simp only [Nat.zero_mul, Nat.add_zero] at x0 x1 x2
      have nb := lt_of_cell x0
      clear eq1 hU r1
      go_wp2_with fail
      refine CT.out.mono ?_
      clear CT
      rintro e w9 ⟨rfl, hbw9⟩
      have B9 : Hid (Below w.heap.size w w9) := Lib.hid (B1.out.trans (hbw9.mono B1.out.size))
      clear hbw9 x0 x1 x2 d0 d2
      go_wp2
      go_ret
      exact ⟨by rw [HS.out, HE.out, decide_eq_true HM.out]; rfl, B9.out⟩
    · have e1 : ((l.length : Int) == 1) = false := by rw [beq_eq_false_iff_ne]; omega
      rw [decide_eq_false hll, Bool.false_and, Bool.and_false] at HS
      clear hll
      go_enter Tryz.func62, Tryz.ntmps62
      go_wp2_with fail
      refine (CN.out _).mono ?_
      rintro e w1 ⟨rfl, hbw1⟩
      have B1 : Hid (Below w.heap.size w w1) := Lib.hid (hb0.out.trans (hbw1.mono hb0.out.size))
      have d0 : w1.cell? ⟨w.heap.size, 0, none⟩ = some (.int .i64 10) := (hbw1.cell (p := ⟨w.heap.size, 0, none⟩) (by rw [World.size_alloc]; exact Nat.lt_succ_self _)).trans (by rw [HH.out]; exact D0.out.1)
      have d2 : w1.cell? ⟨w.heap.size, 2, none⟩ = some (.slice a l.length cap) := (hbw1.cell (p := ⟨w.heap.size, 2, none⟩) (by rw [World.size_alloc]; exact Nat.lt_succ_self _)).trans (by rw [HH.out]; exact D0.out.2.2)
      clear CN hbw1
      go_wp2
      go_ret
      exact ⟨by rw [HS.out]; rfl, B1.out⟩
set_option maxRecDepth 100000 in
set_option maxHeartbeats 2000000 in
theorem rIsItem_11 (s : ByteArray) (l : List Nd) (w : World) (v0 v1 v2 : Value) (ht : NdR w (.mk 11 s l) v0 v1 v2) :
    Calls Tryz.prog 62 #[.agg #[v0, v1, v2]] w fun e w' => e = .returned (.bool (itemB (.mk 11 s l))) ∧ Below w.heap.size w w' := by
  obtain ⟨k', s', l', a, cap, he, rfl, rfl, rfl, hs, hl⟩ := ht.form
  cases he
  unfold maxLen at hl
  obtain ⟨V, hV⟩ : ∃ V, nameB s = V := ⟨_, rfl⟩
  have CN := Lib.hid (fun w => rIsName_v V s w hV)
  have HV := Lib.hid hV
  obtain ⟨h, hh⟩ : ∃ h, w.heap.size = h := ⟨_, rfl⟩
  have hb0 := Lib.hid ((Below.refl w.heap.size w).alloc (Nat.le_refl _) (.cells #[.int .i64 11, .string s, .slice a l.length cap] 24))
  have D0 := Lib.hid (nd3 (w := w) (k := 11) (s := s) (v2 := .slice a l.length cap) (t := 24) hh)
  have HH := Lib.hid hh
  have HT := Lib.hid ht
  have HC := Lib.hid ht.cap
  have HL : Hid (NdL w l (.slice a l.length cap)) := Lib.hid ⟨_, _, _, _, ht⟩
  clear hh ht hV
  have HS : Hid (itemB (.mk 11 s l) = (V && (decide (l.length = 1) && formL l))) := Lib.hid (by rw [itemB, if_neg (by decide), if_neg (by decide), if_neg (by decide), if_neg (by decide), if_pos (by decide)]; rw [HV.out])
  cases V with
  | false =>
    go_enter Tryz.func62, Tryz.ntmps62
    go_wp2_with fail
    refine (CN.out _).mono ?_
    rintro e w1 ⟨rfl, hbw1⟩
    have B1 : Hid (Below w.heap.size w w1) := Lib.hid (hb0.out.trans (hbw1.mono hb0.out.size))
    have d0 : w1.cell? ⟨w.heap.size, 0, none⟩ = some (.int .i64 11) := (hbw1.cell (p := ⟨w.heap.size, 0, none⟩) (by rw [World.size_alloc]; exact Nat.lt_succ_self _)).trans (by rw [HH.out]; exact D0.out.1)
    have d2 : w1.cell? ⟨w.heap.size, 2, none⟩ = some (.slice a l.length cap) := (hbw1.cell (p := ⟨w.heap.size, 2, none⟩) (by rw [World.size_alloc]; exact Nat.lt_succ_self _)).trans (by rw [HH.out]; exact D0.out.2.2)
    clear CN hbw1
    go_wp2
    go_ret
    exact ⟨by rw [HS.out]; rfl, B1.out⟩
  | true =>
    by_cases hll : l.length = 1
    · have e1 : ((l.length : Int) == 1) = true := by rw [hll]; rfl
      have j0 : 0 < l.length := by omega
      have j1 : (0 : Int) < (l.length : Int) := by omega
      have HM := Lib.hid hll
      clear hll
      go_enter Tryz.func62, Tryz.ntmps62
      go_wp2_with fail
      refine (CN.out _).mono ?_
      rintro e w1 ⟨rfl, hbw1⟩
      have B1 : Hid (Below w.heap.size w w1) := Lib.hid (hb0.out.trans (hbw1.mono hb0.out.size))
      have d0 : w1.cell? ⟨w.heap.size, 0, none⟩ = some (.int .i64 11) := (hbw1.cell (p := ⟨w.heap.size, 0, none⟩) (by rw [World.size_alloc]; exact Nat.lt_succ_self _)).trans (by rw [HH.out]; exact D0.out.1)
      have d2 : w1.cell? ⟨w.heap.size, 2, none⟩ = some (.slice a l.length cap) := (hbw1.cell (p := ⟨w.heap.size, 2, none⟩) (by rw [World.size_alloc]; exact Nat.lt_succ_self _)).trans (by rw [HH.out]; exact D0.out.2.2)
      clear CN hbw1
      obtain ⟨b, o, k1, s1, l1, a1, c1, rfl, eq1, x0, x1, x2, r1⟩ := (HT.out.later B1.out).kid 0 j0
      obtain ⟨U, hU⟩ : ∃ U, formB l[0] = U := ⟨_, rfl⟩
      have HE : Hid (formL l = U) := Lib.hid (by rw [formL_lone HM.out, ← hU])
      rw [eq1] at hU
      have CT := Lib.hid (rIsForm _ (.mk k1 s1 l1) w1 _ _ _ (Nat.le_refl _) r1)
      rw [hU] at CT
      simp only [Nat.zero_mul, Nat.add_zero] at x0 x1 x2
      have nb := lt_of_cell x0
      clear eq1 hU r1
      go_wp2_with fail
      refine CT.out.mono ?_
      clear CT
      rintro e w9 ⟨rfl, hbw9⟩
      have B9 : Hid (Below w.heap.size w w9) := Lib.hid (B1.out.trans (hbw9.mono B1.out.size))
      clear hbw9 x0 x1 x2 d0 d2
      go_wp2
      go_ret
      exact ⟨by rw [HS.out, HE.out, decide_eq_true HM.out]; rfl, B9.out⟩
    · have e1 : ((l.length : Int) == 1) = false := by rw [beq_eq_false_iff_ne]; omega
      rw [decide_eq_false hll, Bool.false_and, Bool.and_false] at HS
      clear hll
      go_enter Tryz.func62, Tryz.ntmps62
      go_wp2_with fail
      refine (CN.out _).mono ?_
      rintro e w1 ⟨rfl, hbw1⟩
      have B1 : Hid (Below w.heap.size w w1) := Lib.hid (hb0.out.trans (hbw1.mono hb0.out.size))
      have d0 : w1.cell? ⟨w.heap.size, 0, none⟩ = some (.int .i64 11) := (hbw1.cell (p := ⟨w.heap.size, 0, none⟩) (by rw [World.size_alloc]; exact Nat.lt_succ_self _)).trans (by rw [HH.out]; exact D0.out.1)
      have d2 : w1.cell? ⟨w.heap.size, 2, none⟩ = some (.slice a l.length cap) := (hbw1.cell (p := ⟨w.heap.size, 2, none⟩) (by rw [World.size_alloc]; exact Nat.lt_succ_self _)).trans (by rw [HH.out]; exact D0.out.2.2)
      clear CN hbw1
      go_wp2
      go_ret
      exact ⟨by rw [HS.out]; rfl, B1.out⟩
set_option maxRecDepth 100000 in
set_option maxHeartbeats 2000000 in
theorem rIsItem_12 (s : ByteArray) (l : List Nd) (w : World) (v0 v1 v2 : Value) (ht : NdR w (.mk 12 s l) v0 v1 v2) :
    Calls Tryz.prog 62 #[.agg #[v0, v1, v2]] w fun e w' => e = .returned (.bool (itemB (.mk 12 s l))) ∧ Below w.heap.size w w' := by
  obtain ⟨k', s', l', a, cap, he, rfl, rfl, rfl, hs, hl⟩ := ht.form
  cases he
  unfold maxLen at hl
  obtain ⟨V, hV⟩ : ∃ V, nameB s = V := ⟨_, rfl⟩
  have CN := Lib.hid (fun w => rIsName_v V s w hV)
  have HV := Lib.hid hV
  obtain ⟨h, hh⟩ : ∃ h, w.heap.size = h := ⟨_, rfl⟩
  have hb0 := Lib.hid ((Below.refl w.heap.size w).alloc (Nat.le_refl _) (.cells #[.int .i64 12, .string s, .slice a l.length cap] 24))
  have D0 := Lib.hid (nd3 (w := w) (k := 12) (s := s) (v2 := .slice a l.length cap) (t := 24) hh)
  have HH := Lib.hid hh
  have HT := Lib.hid ht
  have HC := Lib.hid ht.cap
  have HL : Hid (NdL w l (.slice a l.length cap)) := Lib.hid ⟨_, _, _, _, ht⟩
  clear hh ht hV
  have HS : Hid (itemB (.mk 12 s l) = (V && decide (l.length = 0))) := Lib.hid (by rw [itemB, if_neg (by decide), if_neg (by decide), if_neg (by decide), if_neg (by decide), if_neg (by decide), if_pos (by decide)]; rw [HV.out])
  cases V with
  | false =>
    go_enter Tryz.func62, Tryz.ntmps62
    go_wp2_with fail
    refine (CN.out _).mono ?_
    rintro e w1 ⟨rfl, hbw1⟩
    have B1 : Hid (Below w.heap.size w w1) := Lib.hid (hb0.out.trans (hbw1.mono hb0.out.size))
    have d0 : w1.cell? ⟨w.heap.size, 0, none⟩ = some (.int .i64 12) := (hbw1.cell (p := ⟨w.heap.size, 0, none⟩) (by rw [World.size_alloc]; exact Nat.lt_succ_self _)).trans (by rw [HH.out]; exact D0.out.1)
    have d2 : w1.cell? ⟨w.heap.size, 2, none⟩ = some (.slice a l.length cap) := (hbw1.cell (p := ⟨w.heap.size, 2, none⟩) (by rw [World.size_alloc]; exact Nat.lt_succ_self _)).trans (by rw [HH.out]; exact D0.out.2.2)
    clear CN hbw1
    go_wp2
    go_ret
    exact ⟨by rw [HS.out]; rfl, B1.out⟩
  | true =>
    by_cases hll : l.length = 0
    · have e1 : ((l.length : Int) == 0) = true := by rw [hll]; rfl
      rw [decide_eq_true hll] at HS
      clear hll
      go_enter Tryz.func62, Tryz.ntmps62
      go_wp2_with fail
      refine (CN.out _).mono ?_
      rintro e w1 ⟨rfl, hbw1⟩
      have B1 : Hid (Below w.heap.size w w1) := Lib.hid (hb0.out.trans (hbw1.mono hb0.out.size))
      have d0 : w1.cell? ⟨w.heap.size, 0, none⟩ = some (.int .i64 12) := (hbw1.cell (p := ⟨w.heap.size, 0, none⟩) (by rw [World.size_alloc]; exact Nat.lt_succ_self _)).trans (by rw [HH.out]; exact D0.out.1)
      have d2 : w1.cell? ⟨w.heap.size, 2, none⟩ = some (.slice a l.length cap) := (hbw1.cell (p := ⟨w.heap.size, 2, none⟩) (by rw [World.size_alloc]; exact Nat.lt_succ_self _)).trans (by rw [HH.out]; exact D0.out.2.2)
      clear CN hbw1
      go_wp2
      go_ret
      exact ⟨by rw [HS.out]; rfl, B1.out⟩
    · have e1 : ((l.length : Int) == 0) = false := by rw [beq_eq_false_iff_ne]; omega
      rw [decide_eq_false hll, Bool.and_false] at HS
      clear hll
      go_enter Tryz.func62, Tryz.ntmps62
      go_wp2_with fail
      refine (CN.out _).mono ?_
      rintro e w1 ⟨rfl, hbw1⟩
      have B1 : Hid (Below w.heap.size w w1) := Lib.hid (hb0.out.trans (hbw1.mono hb0.out.size))
      have d0 : w1.cell? ⟨w.heap.size, 0, none⟩ = some (.int .i64 12) := (hbw1.cell (p := ⟨w.heap.size, 0, none⟩) (by rw [World.size_alloc]; exact Nat.lt_succ_self _)).trans (by rw [HH.out]; exact D0.out.1)
      have d2 : w1.cell? ⟨w.heap.size, 2, none⟩ = some (.slice a l.length cap) := (hbw1.cell (p := ⟨w.heap.size, 2, none⟩) (by rw [World.size_alloc]; exact Nat.lt_succ_self _)).trans (by rw [HH.out]; exact D0.out.2.2)
      clear CN hbw1
      go_wp2
      go_ret
      exact ⟨by rw [HS.out]; rfl, B1.out⟩
set_option maxRecDepth 100000 in
set_option maxHeartbeats 2000000 in
theorem rIsItem_13 (s : ByteArray) (l : List Nd) (w : World) (v0 v1 v2 : Value) (ht : NdR w (.mk 13 s l) v0 v1 v2) :
    Calls Tryz.prog 62 #[.agg #[v0, v1, v2]] w fun e w' => e = .returned (.bool (itemB (.mk 13 s l))) ∧ Below w.heap.size w w' := by
  obtain ⟨k', s', l', a, cap, he, rfl, rfl, rfl, hs, hl⟩ := ht.form
  cases he
  unfold maxLen at hl
  obtain ⟨V, hV⟩ : ∃ V, nameB s = V := ⟨_, rfl⟩
  have CN := Lib.hid (fun w => rIsName_v V s w hV)
  have HV := Lib.hid hV
  obtain ⟨h, hh⟩ : ∃ h, w.heap.size = h := ⟨_, rfl⟩
  have hb0 := Lib.hid ((Below.refl w.heap.size w).alloc (Nat.le_refl _) (.cells #[.int .i64 13, .string s, .slice a l.length cap] 24))
  have D0 := Lib.hid (nd3 (w := w) (k := 13) (s := s) (v2 := .slice a l.length cap) (t := 24) hh)
  have HH := Lib.hid hh
  have HT := Lib.hid ht
  have HC := Lib.hid ht.cap
  have HL : Hid (NdL w l (.slice a l.length cap)) := Lib.hid ⟨_, _, _, _, ht⟩
  clear hh ht hV
  have HS : Hid (itemB (.mk 13 s l) = (V && decide (l.length = 0))) := Lib.hid (by rw [itemB, if_neg (by decide), if_neg (by decide), if_neg (by decide), if_neg (by decide), if_neg (by decide), if_pos (by decide)]; rw [HV.out])
  cases V with
  | false =>
    go_enter Tryz.func62, Tryz.ntmps62
    go_wp2_with fail
    refine (CN.out _).mono ?_
    rintro e w1 ⟨rfl, hbw1⟩
    have B1 : Hid (Below w.heap.size w w1) := Lib.hid (hb0.out.trans (hbw1.mono hb0.out.size))
    have d0 : w1.cell? ⟨w.heap.size, 0, none⟩ = some (.int .i64 13) := (hbw1.cell (p := ⟨w.heap.size, 0, none⟩) (by rw [World.size_alloc]; exact Nat.lt_succ_self _)).trans (by rw [HH.out]; exact D0.out.1)
    have d2 : w1.cell? ⟨w.heap.size, 2, none⟩ = some (.slice a l.length cap) := (hbw1.cell (p := ⟨w.heap.size, 2, none⟩) (by rw [World.size_alloc]; exact Nat.lt_succ_self _)).trans (by rw [HH.out]; exact D0.out.2.2)
    clear CN hbw1
    go_wp2
    go_ret
    exact ⟨by rw [HS.out]; rfl, B1.out⟩
  | true =>
    by_cases hll : l.length = 0
    · have e1 : ((l.length : Int) == 0) = true := by rw [hll]; rfl
      rw [decide_eq_true hll] at HS
      clear hll
      go_enter Tryz.func62, Tryz.ntmps62
      go_wp2_with fail
      refine (CN.out _).mono ?_
      rintro e w1 ⟨rfl, hbw1⟩
      have B1 : Hid (Below w.heap.size w w1) := Lib.hid (hb0.out.trans (hbw1.mono hb0.out.size))
      have d0 : w1.cell? ⟨w.heap.size, 0, none⟩ = some (.int .i64 13) := (hbw1.cell (p := ⟨w.heap.size, 0, none⟩) (by rw [World.size_alloc]; exact Nat.lt_succ_self _)).trans (by rw [HH.out]; exact D0.out.1)
      have d2 : w1.cell? ⟨w.heap.size, 2, none⟩ = some (.slice a l.length cap) := (hbw1.cell (p := ⟨w.heap.size, 2, none⟩) (by rw [World.size_alloc]; exact Nat.lt_succ_self _)).trans (by rw [HH.out]; exact D0.out.2.2)
      clear CN hbw1
      go_wp2
      go_ret
      exact ⟨by rw [HS.out]; rfl, B1.out⟩
    · have e1 : ((l.length : Int) == 0) = false := by rw [beq_eq_false_iff_ne]; omega
      rw [decide_eq_false hll, Bool.and_false] at HS
      clear hll
      go_enter Tryz.func62, Tryz.ntmps62
      go_wp2_with fail
      refine (CN.out _).mono ?_
      rintro e w1 ⟨rfl, hbw1⟩
      have B1 : Hid (Below w.heap.size w w1) := Lib.hid (hb0.out.trans (hbw1.mono hb0.out.size))
      have d0 : w1.cell? ⟨w.heap.size, 0, none⟩ = some (.int .i64 13) := (hbw1.cell (p := ⟨w.heap.size, 0, none⟩) (by rw [World.size_alloc]; exact Nat.lt_succ_self _)).trans (by rw [HH.out]; exact D0.out.1)
      have d2 : w1.cell? ⟨w.heap.size, 2, none⟩ = some (.slice a l.length cap) := (hbw1.cell (p := ⟨w.heap.size, 2, none⟩) (by rw [World.size_alloc]; exact Nat.lt_succ_self _)).trans (by rw [HH.out]; exact D0.out.2.2)
      clear CN hbw1
      go_wp2
      go_ret
      exact ⟨by rw [HS.out]; rfl, B1.out⟩
set_option maxRecDepth 100000 in
set_option maxHeartbeats 2000000 in
theorem rIsItem_14 (s : ByteArray) (l : List Nd) (w : World) (v0 v1 v2 : Value) (ht : NdR w (.mk 14 s l) v0 v1 v2) :
    Calls Tryz.prog 62 #[.agg #[v0, v1, v2]] w fun e w' => e = .returned (.bool (itemB (.mk 14 s l))) ∧ Below w.heap.size w w' := by
  obtain ⟨k', s', l', a, cap, he, rfl, rfl, rfl, hs, hl⟩ := ht.form
  cases he
  unfold maxLen at hl
  obtain ⟨V, hV⟩ : ∃ V, nameB s = V := ⟨_, rfl⟩
  have CN := Lib.hid (fun w => rIsName_v V s w hV)
  have HV := Lib.hid hV
  obtain ⟨h, hh⟩ : ∃ h, w.heap.size = h := ⟨_, rfl⟩
  have hb0 := Lib.hid ((Below.refl w.heap.size w).alloc (Nat.le_refl _) (.cells #[.int .i64 14, .string s, .slice a l.length cap] 24))
  have D0 := Lib.hid (nd3 (w := w) (k := 14) (s := s) (v2 := .slice a l.length cap) (t := 24) hh)
  have HH := Lib.hid hh
  have HT := Lib.hid ht
  have HC := Lib.hid ht.cap
  have HL : Hid (NdL w l (.slice a l.length cap)) := Lib.hid ⟨_, _, _, _, ht⟩
  clear hh ht hV
  have HS : Hid (itemB (.mk 14 s l) = (noneB s && (decide (1 ≤ l.length) && nameL l))) := Lib.hid (by rw [itemB, if_pos (by decide)])
  cases hse : s.toList.isEmpty with
  | false =>
    have HR : Hid (itemB (.mk 14 s l) = false) := Lib.hid (by rw [HS.out]; unfold noneB; rw [hse]; rfl)
    go_enter Tryz.func62, Tryz.ntmps62
    go_wp2
    go_ret
    exact ⟨by rw [HR.out]; rfl, hb0.out⟩
  | true =>
    by_cases hll : 1 ≤ l.length
    · have e1 : (1 : Int) ≤ (l.length : Int) := by omega
      have e2 : decide (1 ≤ l.length) = true := decide_eq_true hll
      have e3 : decide (0 < l.length) = true := decide_eq_true hll
      have e5 : 0 < l.length := hll
      obtain ⟨V, hV⟩ : ∃ V, nameL l = V := ⟨_, rfl⟩
      have C := Lib.hid (fun w hv => rAreNames l (.slice a l.length cap) w hv)
      rw [hV] at C
      have HR : Hid (itemB (.mk 14 s l) = V) := Lib.hid (by rw [HS.out, decide_eq_true hll, hV]; unfold noneB; rw [hse]; rfl)
      clear hV
      go_enter Tryz.func62, Tryz.ntmps62
      go_wp2_with fail
      refine (C.out _ (HL.out.later hb0.out)).mono ?_
      rintro e w1 ⟨rfl, hbw1⟩
      have B1 : Hid (Below w.heap.size w w1) := Lib.hid (hb0.out.trans (hbw1.mono hb0.out.size))
      clear C hbw1
      go_wp2
      go_ret
      exact ⟨by rw [HR.out]; rfl, B1.out⟩
    · have e1 : ¬ ((1 : Int) ≤ (l.length : Int)) := by omega
      have e2 : decide (1 ≤ l.length) = false := decide_eq_false hll
      have e3 : decide (0 < l.length) = false := decide_eq_false hll
      have e6 : l = [] := List.length_eq_zero_iff.1 (by omega)
      have HR : Hid (itemB (.mk 14 s l) = false) := Lib.hid (by rw [HS.out, decide_eq_false hll, Bool.false_and, Bool.and_false])
      clear hll
      subst e6
      go_enter Tryz.func62, Tryz.ntmps62
      go_wp2
      go_ret
      exact ⟨by rw [HR.out]; rfl, hb0.out⟩
set_option maxRecDepth 100000 in
set_option maxHeartbeats 2000000 in
theorem rIsItem_else (k : Int) (m2 : ¬ k = 2) (m3 : ¬ k = 3) (m4 : ¬ k = 4) (m5 : ¬ k = 5) (m6 : ¬ k = 6) (m7 : ¬ k = 7) (m8 : ¬ k = 8) (m9 : ¬ k = 9) (m10 : ¬ k = 10) (m11 : ¬ k = 11) (m12 : ¬ k = 12) (m13 : ¬ k = 13) (m14 : ¬ k = 14) (s : ByteArray) (l : List Nd) (w : World) (v0 v1 v2 : Value) (ht : NdR w (.mk k s l) v0 v1 v2) :
    Calls Tryz.prog 62 #[.agg #[v0, v1, v2]] w fun e w' => e = .returned (.bool (itemB (.mk k s l))) ∧ Below w.heap.size w w' := by
  obtain ⟨k', s', l', a, cap, he, rfl, rfl, rfl, hs, hl⟩ := ht.form
  cases he
  unfold maxLen at hl
  obtain ⟨V, hV⟩ : ∃ V, nameB s = V := ⟨_, rfl⟩
  have CN := Lib.hid (fun w => rIsName_v V s w hV)
  have HV := Lib.hid hV
  obtain ⟨h, hh⟩ : ∃ h, w.heap.size = h := ⟨_, rfl⟩
  have hb0 := Lib.hid ((Below.refl w.heap.size w).alloc (Nat.le_refl _) (.cells #[.int .i64 k, .string s, .slice a l.length cap] 24))
  have D0 := Lib.hid (nd3 (w := w) (k := k) (s := s) (v2 := .slice a l.length cap) (t := 24) hh)
  have HH := Lib.hid hh
  have HT := Lib.hid ht
  have HC := Lib.hid ht.cap
  have HL : Hid (NdL w l (.slice a l.length cap)) := Lib.hid ⟨_, _, _, _, ht⟩
  clear hh ht hV
  have n2 : ((k : Int) == 2) = false := by rw [beq_eq_false_iff_ne]; exact m2
  have n3 : ((k : Int) == 3) = false := by rw [beq_eq_false_iff_ne]; exact m3
  have n4 : ((k : Int) == 4) = false := by rw [beq_eq_false_iff_ne]; exact m4
  have n5 : ((k : Int) == 5) = false := by rw [beq_eq_false_iff_ne]; exact m5
  have n6 : ((k : Int) == 6) = false := by rw [beq_eq_false_iff_ne]; exact m6
  have n7 : ((k : Int) == 7) = false := by rw [beq_eq_false_iff_ne]; exact m7
  have n8 : ((k : Int) == 8) = false := by rw [beq_eq_false_iff_ne]; exact m8
  have n9 : ((k : Int) == 9) = false := by rw [beq_eq_false_iff_ne]; exact m9
  have n10 : ((k : Int) == 10) = false := by rw [beq_eq_false_iff_ne]; exact m10
  have n11 : ((k : Int) == 11) = false := by rw [beq_eq_false_iff_ne]; exact m11
  have n12 : ((k : Int) == 12) = false := by rw [beq_eq_false_iff_ne]; exact m12
  have n13 : ((k : Int) == 13) = false := by rw [beq_eq_false_iff_ne]; exact m13
  have n14 : ((k : Int) == 14) = false := by rw [beq_eq_false_iff_ne]; exact m14
  have HS : Hid (itemB (.mk k s l) = false) := Lib.hid (by rw [itemB, if_neg (by omega), if_neg (by omega), if_neg (by omega), if_neg (by omega), if_neg (by omega), if_neg (by omega), Bool.and_false])
  clear m2 m3 m4 m5 m6 m7 m8 m9 m10 m11 m12 m13 m14
  cases V with
  | false =>
    go_enter Tryz.func62, Tryz.ntmps62
    go_wp2_with fail
    refine (CN.out _).mono ?_
    rintro e w1 ⟨rfl, hbw1⟩
    have B1 : Hid (Below w.heap.size w w1) := Lib.hid (hb0.out.trans (hbw1.mono hb0.out.size))
    have d0 : w1.cell? ⟨w.heap.size, 0, none⟩ = some (.int .i64 k) := (hbw1.cell (p := ⟨w.heap.size, 0, none⟩) (by rw [World.size_alloc]; exact Nat.lt_succ_self _)).trans (by rw [HH.out]; exact D0.out.1)
    have d2 : w1.cell? ⟨w.heap.size, 2, none⟩ = some (.slice a l.length cap) := (hbw1.cell (p := ⟨w.heap.size, 2, none⟩) (by rw [World.size_alloc]; exact Nat.lt_succ_self _)).trans (by rw [HH.out]; exact D0.out.2.2)
    clear CN hbw1
    go_wp2
    go_ret
    exact ⟨by rw [HS.out]; rfl, B1.out⟩
  | true =>
    go_enter Tryz.func62, Tryz.ntmps62
    go_wp2_with fail
    refine (CN.out _).mono ?_
    rintro e w1 ⟨rfl, hbw1⟩
    have B1 : Hid (Below w.heap.size w w1) := Lib.hid (hb0.out.trans (hbw1.mono hb0.out.size))
    have d0 : w1.cell? ⟨w.heap.size, 0, none⟩ = some (.int .i64 k) := (hbw1.cell (p := ⟨w.heap.size, 0, none⟩) (by rw [World.size_alloc]; exact Nat.lt_succ_self _)).trans (by rw [HH.out]; exact D0.out.1)
    have d2 : w1.cell? ⟨w.heap.size, 2, none⟩ = some (.slice a l.length cap) := (hbw1.cell (p := ⟨w.heap.size, 2, none⟩) (by rw [World.size_alloc]; exact Nat.lt_succ_self _)).trans (by rw [HH.out]; exact D0.out.2.2)
    clear CN hbw1
    go_wp2
    go_ret
    exact ⟨by rw [HS.out]; rfl, B1.out⟩
theorem rIsItem (t : Nd) (w : World) (v0 v1 v2 : Value) (ht : NdR w t v0 v1 v2) :
    Calls Tryz.prog 62 #[.agg #[v0, v1, v2]] w fun e w' => e = .returned (.bool (itemB t)) ∧ Below w.heap.size w w' := by
  obtain ⟨k, s, l⟩ := t
  by_cases m2 : k = 2
  · subst m2; exact rIsItem_2 s l w v0 v1 v2 ht
  by_cases m3 : k = 3
  · subst m3; exact rIsItem_3 s l w v0 v1 v2 ht
  by_cases m4 : k = 4
  · subst m4; exact rIsItem_4 s l w v0 v1 v2 ht
  by_cases m5 : k = 5
  · subst m5; exact rIsItem_5 s l w v0 v1 v2 ht
  by_cases m6 : k = 6
  · subst m6; exact rIsItem_6 s l w v0 v1 v2 ht
  by_cases m7 : k = 7
  · subst m7; exact rIsItem_7 s l w v0 v1 v2 ht
  by_cases m8 : k = 8
  · subst m8; exact rIsItem_8 s l w v0 v1 v2 ht
  by_cases m9 : k = 9
  · subst m9; exact rIsItem_9 s l w v0 v1 v2 ht
  by_cases m10 : k = 10
  · subst m10; exact rIsItem_10 s l w v0 v1 v2 ht
  by_cases m11 : k = 11
  · subst m11; exact rIsItem_11 s l w v0 v1 v2 ht
  by_cases m12 : k = 12
  · subst m12; exact rIsItem_12 s l w v0 v1 v2 ht
  by_cases m13 : k = 13
  · subst m13; exact rIsItem_13 s l w v0 v1 v2 ht
  by_cases m14 : k = 14
  · subst m14; exact rIsItem_14 s l w v0 v1 v2 ht
  exact rIsItem_else k m2 m3 m4 m5 m6 m7 m8 m9 m10 m11 m12 m13 m14 s l w v0 v1 v2 ht
end Go.Proofs.YtgikhpmdpppenaaGreatDoor
namespace Go.Proofs.YtgikhpmdpppenaaGreatDoor
open Go.RowKit
def itemL : List Nd → Bool
  | [] => true
  | a :: l => itemB a && itemL l
theorem itemL_iff : ∀ (l : List Nd), itemL l = true ↔ ∀ i, (h : i < l.length) → itemB l[i] = true
  | [] => by simp [itemL]
  | a :: l => by
    simp only [itemL, Bool.and_eq_true, itemL_iff l]
    constructor
    · rintro ⟨h1, h2⟩ i hi
      cases i with
      | zero => exact h1
      | succ i => exact h2 i (by simpa using hi)
    · intro h
      exact ⟨h 0 (by simp), fun i hi => h (i + 1) (by simpa using hi)⟩
def textB : Nd → Bool
  | .mk k s l => decide (k = 1) && (noneB s && itemL l)
set_option maxRecDepth 100000 in
set_option maxHeartbeats 2000000 in
theorem rIsText (t : Nd) (w : World) (v0 v1 v2 : Value) (ht : NdR w t v0 v1 v2) :
    Calls Tryz.prog 63 #[.agg #[v0, v1, v2]] w fun e w' => e = .returned (.bool (textB t)) ∧ Below w.heap.size w w' := by
  obtain ⟨k, s, l, a, cap, rfl, rfl, rfl, rfl, hs, hl⟩ := ht.form
  unfold maxLen at hl
  have hb0 := Lib.hid ((Below.refl w.heap.size w).alloc (Nat.le_refl _) (.cells #[.int .i64 k, .string s, .slice a l.length cap] 24))
  by_cases hk : k = 1
  · subst hk
    cases hse : s.toList.isEmpty with
    | false =>
      have HR : Hid (textB (.mk 1 s l) = false) := Lib.hid (by rw [textB]; unfold noneB; rw [hse]; rfl)
      clear ht
      go_enter Tryz.func63, Tryz.ntmps63
      go_wp2
      go_ret
      exact ⟨by rw [HR.out]; rfl, hb0.out⟩
    | true =>
      have HR : Hid (textB (.mk 1 s l) = itemL l) := Lib.hid (by rw [textB, decide_eq_true rfl]; unfold noneB; rw [hse]; rfl)
      have HT := Lib.hid ht
      clear ht hb0
      go_enter Tryz.func63, Tryz.ntmps63
      go_wp2
      obtain ⟨h, hh⟩ : ∃ h, w.heap.size = h := ⟨_, rfl⟩
      obtain ⟨wz, hwz⟩ : ∃ wz, w.alloc (Obj.cells #[Value.int IntKind.i64 1, Value.string s, Value.slice a l.length cap] 24) = wz := ⟨_, rfl⟩
      have hB : Hid (Below w.heap.size w wz) := Lib.hid (by rw [← hwz]; exact (Below.refl _ w).alloc (Nat.le_refl _) _)
      have hz : wz.heap.size = h + 1 := by rw [← hwz]; simp [hh]
      have g0 : wz.cell? ⟨h, 2, none⟩ = some (.slice a l.length cap) := by
        rw [← hwz, ← hh]; exact (World.cell?_alloc_at _ _ _ _ rfl).trans rfl
      have HG0 := Lib.hid g0
      have Hz := Lib.hid hz
      have HTz := Lib.hid (HT.out.later hB.out)
      rw [hwz, hh]
      clear hwz hh hz g0 HT
      go_loopw [3] (fun v3 wr => ∃ i : Nat, i ≤ l.length ∧ v3 = .int .i64 (i : Int) ∧ Hid (∀ j, (h : j < l.length) → j < i → itemB l[j] = true) ∧ Hid (Below wz.heap.size wz wr)) (fun v3 _ => l.length - (intOf v3).toNat)
      case atStart => exact ⟨0, Nat.zero_le _, rfl, Lib.hid (fun j _ h => absurd h (Nat.not_lt_zero _)), Below.refl _ _⟩
      case round =>
        obtain ⟨i, hi, rfl, hall, hbl⟩ := hrel
        have g0 := (hbl.out.cell (p := ⟨h, 2, none⟩) (by have := Hz.out; simp only; omega)).trans HG0.out
        by_cases hlt : i < l.length
        · have hlt' : (i : Int) < (l.length : Int) := by omega
          have hi0 : (0 : Int) ≤ (i : Int) := by omega
          obtain ⟨b, o, k1, s1, l1, a1, c1, rfl, e1, x0, x1, x2, r1⟩ := (HTz.out.later hbl.out).kid i hlt
          obtain ⟨V, hV⟩ : ∃ V, itemB l[i] = V := ⟨_, rfl⟩
          have HVi := Lib.hid hV
          rw [e1] at hV
          have C := Lib.hid (rIsItem (.mk k1 s1 l1) wr _ _ _ r1)
          rw [hV] at C
          have L0 := lt_of_cell g0
          have L2 := lt_of_cell x0
          clear e1 hV r1
          go_wp2_with fail
          refine C.out.mono ?_
          clear C
          rintro e w5 ⟨rfl, hb5⟩
          have Hb5 : Hid (Below wz.heap.size wz w5) := Lib.hid (hbl.out.trans (hb5.mono hbl.out.size))
          clear hb5 x0 x1 x2 g0
          cases V with
          | false =>
            have HS : Hid (itemL l = false) := Lib.hid (by
              rw [Bool.eq_false_iff]
              intro h
              have := (itemL_iff l).1 h i hlt
              rw [HVi.out] at this
              cases this)
            go_wp2
            go_ret
            exact ⟨by rw [HR.out, HS.out]; rfl, hB.out.trans (Hb5.out.mono hB.out.size)⟩
          | true =>
            go_wp2
            go_roundw
            case rel => exact ⟨i + 1, hlt, by push_cast; rfl, Lib.hid (fun j hj hji => by
              by_cases e : j = i
              · subst e; exact HVi.out
              · exact hall.out j hj (by omega)), Hb5⟩
            case measure => simp [intOf]; omega
        · have hlt' : ¬ ((i : Int) < (l.length : Int)) := by omega
          have HS : Hid (itemL l = true) := Lib.hid ((itemL_iff l).2 fun j hj => hall.out j hj (by omega))
          go_wp2
          go_ret
          exact ⟨by rw [HR.out, HS.out]; rfl, hB.out.trans (hbl.out.mono hB.out.size)⟩
  · have hk2 : ((k : Int) != 1) = true := by rw [bne_iff_ne]; exact hk
    have HR : Hid (textB (.mk k s l) = false) := Lib.hid (by rw [textB, decide_eq_false hk, Bool.false_and])
    clear hk ht
    go_enter Tryz.func63, Tryz.ntmps63
    go_wp2
    go_ret
    exact ⟨by rw [HR.out]; rfl, hb0.out⟩
def chkN (t : Nd) : Int := if 4000 < t.sz then 2 else if 100 < t.dp then 5 else if typB t || (termB t || (formB t || (itemB t || textB t))) then 0 else 21
set_option maxRecDepth 100000 in
set_option maxHeartbeats 2000000 in
theorem rCheckN (t : Nd) (w : World) (v0 v1 v2 : Value) (ht : NdR w t v0 v1 v2) :
    Calls Tryz.prog 13 #[.agg #[v0, v1, v2]] w fun e w' => e = .returned (.int .i64 (chkN t)) ∧ Below w.heap.size w w' := by
  obtain ⟨k, s, l, a, cap, rfl, rfl, rfl, rfl, hs, hl⟩ := ht.form
  unfold maxLen at hl
  have CC := Lib.hid (fun w h => rCount _ (.mk k s l) 4000 w (.int .i64 k) (.string s) (.slice a l.length cap) (Nat.le_refl _) (by omega) h)
  have CD := Lib.hid (fun w h => rDeep _ (.mk k s l) 100 w (.int .i64 k) (.string s) (.slice a l.length cap) (Nat.le_refl _) (by omega) h)
  have C1 := Lib.hid (fun w h => rIsType _ (.mk k s l) w (.int .i64 k) (.string s) (.slice a l.length cap) (Nat.le_refl _) h)
  have C2 := Lib.hid (fun w h => rIsTerm _ (.mk k s l) w (.int .i64 k) (.string s) (.slice a l.length cap) (Nat.le_refl _) h)
  have C3 := Lib.hid (fun w h => rIsForm _ (.mk k s l) w (.int .i64 k) (.string s) (.slice a l.length cap) (Nat.le_refl _) h)
  have C4 := Lib.hid (fun w h => rIsItem (.mk k s l) w (.int .i64 k) (.string s) (.slice a l.length cap) h)
  have C5 := Lib.hid (fun w h => rIsText (.mk k s l) w (.int .i64 k) (.string s) (.slice a l.length cap) h)
  have HS : Hid (chkN (.mk k s l) = if 4000 < (Nd.mk k s l).sz then 2 else if 100 < (Nd.mk k s l).dp then 5 else if typB (.mk k s l) || (termB (.mk k s l) || (formB (.mk k s l) || (itemB (.mk k s l) || textB (.mk k s l)))) then 0 else 21) := Lib.hid rfl
  obtain ⟨h, hh⟩ : ∃ h, w.heap.size = h := ⟨_, rfl⟩
  have hb0 := Lib.hid ((Below.refl w.heap.size w).alloc (Nat.le_refl _) (.cells #[.int .i64 k, .string s, .slice a l.length cap] 24))
  have D0 := Lib.hid (nd3 (w := w) (k := k) (s := s) (v2 := .slice a l.length cap) (t := 24) hh)
  have HH := Lib.hid hh
  have HT := Lib.hid ht
  clear hh ht
  obtain ⟨V1, hV1⟩ : ∃ V, typB (.mk k s l) = V := ⟨_, rfl⟩
  obtain ⟨V2, hV2⟩ : ∃ V, termB (.mk k s l) = V := ⟨_, rfl⟩
  obtain ⟨V3, hV3⟩ : ∃ V, formB (.mk k s l) = V := ⟨_, rfl⟩
  obtain ⟨V4, hV4⟩ : ∃ V, itemB (.mk k s l) = V := ⟨_, rfl⟩
  obtain ⟨V5, hV5⟩ : ∃ V, textB (.mk k s l) = V := ⟨_, rfl⟩
  obtain ⟨N, hN⟩ : ∃ N, (Nd.mk k s l).sz = N := ⟨_, rfl⟩
  obtain ⟨M, hM⟩ : ∃ N, (Nd.mk k s l).dp = N := ⟨_, rfl⟩
  obtain ⟨R, hR⟩ : ∃ R, chkN (.mk k s l) = R := ⟨_, rfl⟩
  rw [hV1, hV2, hV3, hV4, hV5, hN, hM, hR] at HS
  rw [hR]
  rw [hV1] at C1
  rw [hV2] at C2
  rw [hV3] at C3
  rw [hV4] at C4
  rw [hV5] at C5
  rw [hN] at CC
  rw [hM] at CD
  clear hV1 hV2 hV3 hV4 hV5 hN hM hR
  obtain ⟨Q, hQ⟩ : ∃ Q, min N (4000 + 1) = Q := ⟨_, rfl⟩
  obtain ⟨T, hT⟩ : ∃ Q, min M (100 + 1) = Q := ⟨_, rfl⟩
  rw [hQ] at CC
  rw [hT] at CD
  by_cases hn : 4000 < N
  · have HR : Hid (R = 2) := Lib.hid (by rw [HS.out, if_pos hn])
    have q : Q = 4001 := by omega
    subst q
    clear hn hQ
    go_enter Tryz.func13, Tryz.ntmps13
    go_wp2_with fail
    refine (CC.out _ (HT.out.later hb0.out)).mono ?_
    rintro e wa ⟨rfl, hbwa⟩
    have Bwa : Hid (Below w.heap.size w wa) := Lib.hid (hb0.out.trans (hbwa.mono hb0.out.size))
    have Ewa : Hid (Below (w.heap.size + 1) (w.alloc (.cells #[.int .i64 k, .string s, .slice a l.length cap] 24)) wa) := Lib.hid (by have := hbwa; rw [World.size_alloc] at this; exact this)
    clear CC hbwa
    have d0 : wa.cell? ⟨w.heap.size, 0, none⟩ = some (.int .i64 k) := (Ewa.out.cell (p := ⟨w.heap.size, 0, none⟩) (Nat.lt_succ_self _)).trans (by rw [HH.out]; exact D0.out.1)
    have d1 : wa.cell? ⟨w.heap.size, 1, none⟩ = some (.string s) := (Ewa.out.cell (p := ⟨w.heap.size, 1, none⟩) (Nat.lt_succ_self _)).trans (by rw [HH.out]; exact D0.out.2.1)
    have d2 : wa.cell? ⟨w.heap.size, 2, none⟩ = some (.slice a l.length cap) := (Ewa.out.cell (p := ⟨w.heap.size, 2, none⟩) (Nat.lt_succ_self _)).trans (by rw [HH.out]; exact D0.out.2.2)
    go_wp2
    go_ret
    exact ⟨by rw [HR.out]; rfl, Bwa.out⟩
  · have q : ¬ ((4000 : Int) < (Q : Int)) := by omega
    have q1 : decide ((4000 : Int) < (Q : Int)) = false := decide_eq_false q
    have q2 : decide (4000 < Q) = false := decide_eq_false (by omega)
    rw [if_neg hn] at HS
    clear hn hQ
    by_cases hm : 100 < M
    · have HR : Hid (R = 5) := Lib.hid (by rw [HS.out, if_pos hm])
      have q3 : T = 101 := by omega
      subst q3
      clear hm hT
      go_enter Tryz.func13, Tryz.ntmps13
      go_wp2_with fail
      refine (CC.out _ (HT.out.later hb0.out)).mono ?_
      rintro e wa ⟨rfl, hbwa⟩
      have Bwa : Hid (Below w.heap.size w wa) := Lib.hid (hb0.out.trans (hbwa.mono hb0.out.size))
      have Ewa : Hid (Below (w.heap.size + 1) (w.alloc (.cells #[.int .i64 k, .string s, .slice a l.length cap] 24)) wa) := Lib.hid (by have := hbwa; rw [World.size_alloc] at this; exact this)
      clear CC hbwa
      have d0 : wa.cell? ⟨w.heap.size, 0, none⟩ = some (.int .i64 k) := (Ewa.out.cell (p := ⟨w.heap.size, 0, none⟩) (Nat.lt_succ_self _)).trans (by rw [HH.out]; exact D0.out.1)
      have d1 : wa.cell? ⟨w.heap.size, 1, none⟩ = some (.string s) := (Ewa.out.cell (p := ⟨w.heap.size, 1, none⟩) (Nat.lt_succ_self _)).trans (by rw [HH.out]; exact D0.out.2.1)
      have d2 : wa.cell? ⟨w.heap.size, 2, none⟩ = some (.slice a l.length cap) := (Ewa.out.cell (p := ⟨w.heap.size, 2, none⟩) (Nat.lt_succ_self _)).trans (by rw [HH.out]; exact D0.out.2.2)
      go_wp2_with fail
      refine (CD.out _ (HT.out.later Bwa.out)).mono ?_
      rintro e wb ⟨rfl, hbwb⟩
      have Bwb : Hid (Below w.heap.size w wb) := Lib.hid (Bwa.out.trans (hbwb.mono Bwa.out.size))
      have Ewb : Hid (Below (w.heap.size + 1) (w.alloc (.cells #[.int .i64 k, .string s, .slice a l.length cap] 24)) wb) := Lib.hid (Ewa.out.trans (hbwb.mono (by have := Ewa.out.size; rw [World.size_alloc] at this; exact this)))
      clear CD hbwb d0 d1 d2
      have d0 : wb.cell? ⟨w.heap.size, 0, none⟩ = some (.int .i64 k) := (Ewb.out.cell (p := ⟨w.heap.size, 0, none⟩) (Nat.lt_succ_self _)).trans (by rw [HH.out]; exact D0.out.1)
      have d1 : wb.cell? ⟨w.heap.size, 1, none⟩ = some (.string s) := (Ewb.out.cell (p := ⟨w.heap.size, 1, none⟩) (Nat.lt_succ_self _)).trans (by rw [HH.out]; exact D0.out.2.1)
      have d2 : wb.cell? ⟨w.heap.size, 2, none⟩ = some (.slice a l.length cap) := (Ewb.out.cell (p := ⟨w.heap.size, 2, none⟩) (Nat.lt_succ_self _)).trans (by rw [HH.out]; exact D0.out.2.2)
      go_wp2
      go_ret
      exact ⟨by rw [HR.out]; rfl, Bwb.out⟩
    · have q3 : ¬ ((100 : Int) < (T : Int)) := by omega
      have q4 : decide ((100 : Int) < (T : Int)) = false := decide_eq_false q3
      have q5 : decide (100 < T) = false := decide_eq_false (by omega)
      rw [if_neg hm] at HS
      clear hm hT
      go_enter Tryz.func13, Tryz.ntmps13
      go_wp2_with fail
      refine (CC.out _ (HT.out.later hb0.out)).mono ?_
      rintro e wa ⟨rfl, hbwa⟩
      have Bwa : Hid (Below w.heap.size w wa) := Lib.hid (hb0.out.trans (hbwa.mono hb0.out.size))
      have Ewa : Hid (Below (w.heap.size + 1) (w.alloc (.cells #[.int .i64 k, .string s, .slice a l.length cap] 24)) wa) := Lib.hid (by have := hbwa; rw [World.size_alloc] at this; exact this)
      clear CC hbwa
      have d0 : wa.cell? ⟨w.heap.size, 0, none⟩ = some (.int .i64 k) := (Ewa.out.cell (p := ⟨w.heap.size, 0, none⟩) (Nat.lt_succ_self _)).trans (by rw [HH.out]; exact D0.out.1)
      have d1 : wa.cell? ⟨w.heap.size, 1, none⟩ = some (.string s) := (Ewa.out.cell (p := ⟨w.heap.size, 1, none⟩) (Nat.lt_succ_self _)).trans (by rw [HH.out]; exact D0.out.2.1)
      have d2 : wa.cell? ⟨w.heap.size, 2, none⟩ = some (.slice a l.length cap) := (Ewa.out.cell (p := ⟨w.heap.size, 2, none⟩) (Nat.lt_succ_self _)).trans (by rw [HH.out]; exact D0.out.2.2)
      go_wp2_with fail
      refine (CD.out _ (HT.out.later Bwa.out)).mono ?_
      rintro e wb ⟨rfl, hbwb⟩
      have Bwb : Hid (Below w.heap.size w wb) := Lib.hid (Bwa.out.trans (hbwb.mono Bwa.out.size))
      have Ewb : Hid (Below (w.heap.size + 1) (w.alloc (.cells #[.int .i64 k, .string s, .slice a l.length cap] 24)) wb) := Lib.hid (Ewa.out.trans (hbwb.mono (by have := Ewa.out.size; rw [World.size_alloc] at this; exact this)))
      clear CD hbwb d0 d1 d2
      have d0 : wb.cell? ⟨w.heap.size, 0, none⟩ = some (.int .i64 k) := (Ewb.out.cell (p := ⟨w.heap.size, 0, none⟩) (Nat.lt_succ_self _)).trans (by rw [HH.out]; exact D0.out.1)
      have d1 : wb.cell? ⟨w.heap.size, 1, none⟩ = some (.string s) := (Ewb.out.cell (p := ⟨w.heap.size, 1, none⟩) (Nat.lt_succ_self _)).trans (by rw [HH.out]; exact D0.out.2.1)
      have d2 : wb.cell? ⟨w.heap.size, 2, none⟩ = some (.slice a l.length cap) := (Ewb.out.cell (p := ⟨w.heap.size, 2, none⟩) (Nat.lt_succ_self _)).trans (by rw [HH.out]; exact D0.out.2.2)
      go_wp2_with fail
      refine (C1.out _ (HT.out.later Bwb.out)).mono ?_
      rintro e wc ⟨rfl, hbwc⟩
      have Bwc : Hid (Below w.heap.size w wc) := Lib.hid (Bwb.out.trans (hbwc.mono Bwb.out.size))
      have Ewc : Hid (Below (w.heap.size + 1) (w.alloc (.cells #[.int .i64 k, .string s, .slice a l.length cap] 24)) wc) := Lib.hid (Ewb.out.trans (hbwc.mono (by have := Ewb.out.size; rw [World.size_alloc] at this; exact this)))
      clear C1 hbwc d0 d1 d2
      have d0 : wc.cell? ⟨w.heap.size, 0, none⟩ = some (.int .i64 k) := (Ewc.out.cell (p := ⟨w.heap.size, 0, none⟩) (Nat.lt_succ_self _)).trans (by rw [HH.out]; exact D0.out.1)
      have d1 : wc.cell? ⟨w.heap.size, 1, none⟩ = some (.string s) := (Ewc.out.cell (p := ⟨w.heap.size, 1, none⟩) (Nat.lt_succ_self _)).trans (by rw [HH.out]; exact D0.out.2.1)
      have d2 : wc.cell? ⟨w.heap.size, 2, none⟩ = some (.slice a l.length cap) := (Ewc.out.cell (p := ⟨w.heap.size, 2, none⟩) (Nat.lt_succ_self _)).trans (by rw [HH.out]; exact D0.out.2.2)
      cases V1 with
      | true =>
        have HR : Hid (R = 0) := Lib.hid (by rw [HS.out]; rfl)
        go_wp2
        go_ret
        exact ⟨by rw [HR.out]; rfl, Bwc.out⟩
      | false =>
        go_wp2_with fail
        refine (C2.out _ (HT.out.later Bwc.out)).mono ?_
        rintro e wd ⟨rfl, hbwd⟩
        have Bwd : Hid (Below w.heap.size w wd) := Lib.hid (Bwc.out.trans (hbwd.mono Bwc.out.size))
        have Ewd : Hid (Below (w.heap.size + 1) (w.alloc (.cells #[.int .i64 k, .string s, .slice a l.length cap] 24)) wd) := Lib.hid (Ewc.out.trans (hbwd.mono (by have := Ewc.out.size; rw [World.size_alloc] at this; exact this)))
        clear C2 hbwd d0 d1 d2
        have d0 : wd.cell? ⟨w.heap.size, 0, none⟩ = some (.int .i64 k) := (Ewd.out.cell (p := ⟨w.heap.size, 0, none⟩) (Nat.lt_succ_self _)).trans (by rw [HH.out]; exact D0.out.1)
        have d1 : wd.cell? ⟨w.heap.size, 1, none⟩ = some (.string s) := (Ewd.out.cell (p := ⟨w.heap.size, 1, none⟩) (Nat.lt_succ_self _)).trans (by rw [HH.out]; exact D0.out.2.1)
        have d2 : wd.cell? ⟨w.heap.size, 2, none⟩ = some (.slice a l.length cap) := (Ewd.out.cell (p := ⟨w.heap.size, 2, none⟩) (Nat.lt_succ_self _)).trans (by rw [HH.out]; exact D0.out.2.2)
        cases V2 with
        | true =>
          have HR : Hid (R = 0) := Lib.hid (by rw [HS.out]; simp)
          go_wp2
          go_ret
          exact ⟨by rw [HR.out]; rfl, Bwd.out⟩
        | false =>
          go_wp2_with fail
          refine (C3.out _ (HT.out.later Bwd.out)).mono ?_
          rintro e we ⟨rfl, hbwe⟩
          have Bwe : Hid (Below w.heap.size w we) := Lib.hid (Bwd.out.trans (hbwe.mono Bwd.out.size))
          have Ewe : Hid (Below (w.heap.size + 1) (w.alloc (.cells #[.int .i64 k, .string s, .slice a l.length cap] 24)) we) := Lib.hid (Ewd.out.trans (hbwe.mono (by have := Ewd.out.size; rw [World.size_alloc] at this; exact this)))
          clear C3 hbwe d0 d1 d2
          have d0 : we.cell? ⟨w.heap.size, 0, none⟩ = some (.int .i64 k) := (Ewe.out.cell (p := ⟨w.heap.size, 0, none⟩) (Nat.lt_succ_self _)).trans (by rw [HH.out]; exact D0.out.1)
          have d1 : we.cell? ⟨w.heap.size, 1, none⟩ = some (.string s) := (Ewe.out.cell (p := ⟨w.heap.size, 1, none⟩) (Nat.lt_succ_self _)).trans (by rw [HH.out]; exact D0.out.2.1)
          have d2 : we.cell? ⟨w.heap.size, 2, none⟩ = some (.slice a l.length cap) := (Ewe.out.cell (p := ⟨w.heap.size, 2, none⟩) (Nat.lt_succ_self _)).trans (by rw [HH.out]; exact D0.out.2.2)
          cases V3 with
          | true =>
            have HR : Hid (R = 0) := Lib.hid (by rw [HS.out]; simp)
            go_wp2
            go_ret
            exact ⟨by rw [HR.out]; rfl, Bwe.out⟩
          | false =>
            go_wp2_with fail
            refine (C4.out _ (HT.out.later Bwe.out)).mono ?_
            rintro e wf ⟨rfl, hbwf⟩
            have Bwf : Hid (Below w.heap.size w wf) := Lib.hid (Bwe.out.trans (hbwf.mono Bwe.out.size))
            have Ewf : Hid (Below (w.heap.size + 1) (w.alloc (.cells #[.int .i64 k, .string s, .slice a l.length cap] 24)) wf) := Lib.hid (Ewe.out.trans (hbwf.mono (by have := Ewe.out.size; rw [World.size_alloc] at this; exact this)))
            clear C4 hbwf d0 d1 d2
            have d0 : wf.cell? ⟨w.heap.size, 0, none⟩ = some (.int .i64 k) := (Ewf.out.cell (p := ⟨w.heap.size, 0, none⟩) (Nat.lt_succ_self _)).trans (by rw [HH.out]; exact D0.out.1)
            have d1 : wf.cell? ⟨w.heap.size, 1, none⟩ = some (.string s) := (Ewf.out.cell (p := ⟨w.heap.size, 1, none⟩) (Nat.lt_succ_self _)).trans (by rw [HH.out]; exact D0.out.2.1)
            have d2 : wf.cell? ⟨w.heap.size, 2, none⟩ = some (.slice a l.length cap) := (Ewf.out.cell (p := ⟨w.heap.size, 2, none⟩) (Nat.lt_succ_self _)).trans (by rw [HH.out]; exact D0.out.2.2)
            cases V4 with
            | true =>
              have HR : Hid (R = 0) := Lib.hid (by rw [HS.out]; simp)
              go_wp2
              go_ret
              exact ⟨by rw [HR.out]; rfl, Bwf.out⟩
            | false =>
              go_wp2_with fail
              refine (C5.out _ (HT.out.later Bwf.out)).mono ?_
              rintro e wg ⟨rfl, hbwg⟩
              have Bwg : Hid (Below w.heap.size w wg) := Lib.hid (Bwf.out.trans (hbwg.mono Bwf.out.size))
              have Ewg : Hid (Below (w.heap.size + 1) (w.alloc (.cells #[.int .i64 k, .string s, .slice a l.length cap] 24)) wg) := Lib.hid (Ewf.out.trans (hbwg.mono (by have := Ewf.out.size; rw [World.size_alloc] at this; exact this)))
              clear C5 hbwg d0 d1 d2
              have d0 : wg.cell? ⟨w.heap.size, 0, none⟩ = some (.int .i64 k) := (Ewg.out.cell (p := ⟨w.heap.size, 0, none⟩) (Nat.lt_succ_self _)).trans (by rw [HH.out]; exact D0.out.1)
              have d1 : wg.cell? ⟨w.heap.size, 1, none⟩ = some (.string s) := (Ewg.out.cell (p := ⟨w.heap.size, 1, none⟩) (Nat.lt_succ_self _)).trans (by rw [HH.out]; exact D0.out.2.1)
              have d2 : wg.cell? ⟨w.heap.size, 2, none⟩ = some (.slice a l.length cap) := (Ewg.out.cell (p := ⟨w.heap.size, 2, none⟩) (Nat.lt_succ_self _)).trans (by rw [HH.out]; exact D0.out.2.2)
              cases V5 with
              | true =>
                have HR : Hid (R = 0) := Lib.hid (by rw [HS.out]; simp)
                go_wp2
                go_ret
                exact ⟨by rw [HR.out]; rfl, Bwg.out⟩
              | false =>
                have HR : Hid (R = 21) := Lib.hid (by rw [HS.out]; rfl)
                go_wp2
                go_ret
                exact ⟨by rw [HR.out]; rfl, Bwg.out⟩
end Go.Proofs.YtgikhpmdpppenaaGreatDoor
namespace Go.Proofs.YtgikhpmdpppenaaGreatDoor
open Go.RowKit
section
variable {P : Program} (w : World)
theorem row_shape {w : World} {base : Nat} {e : TypeId} {v : Value} {xs : List Value} (h : w.ownsRow base e 1 v xs.length xs) : ∃ a cap, v = .slice a xs.length cap := by
  rcases h.2 with ⟨rfl, h0⟩ | ⟨g, cap, cur, rfl, _⟩
  · exact ⟨none, 0, by rw [h0]⟩
  · exact ⟨_, _, rfl⟩
theorem row_keep {w w' : World} {base : Nat} {e : TypeId} {v : Value} {xs : List Value} (h : w.ownsRow base e 1 v xs.length xs) (hk : ∀ g, v.ownBlock = some g → w'.heap[g]? = w.heap[g]?) : w'.ownsRow base e 1 v xs.length xs := by
  refine ⟨h.1, ?_⟩
  rcases h.2 with hn | ⟨g, cap, cur, hv, hb, hg, rest⟩
  · exact .inl hn
  · exact .inr ⟨g, cap, cur, hv, hb, (hk g (by rw [hv]; rfl)).trans hg, rest⟩
theorem row_less {w w' : World} {base : Nat} {e : TypeId} {g cap : Nat} {xs ys : List Value} (h : w.ownsRow base e 1 (.slice (some ⟨g, 0, none⟩) xs.length cap) xs.length xs)
    (h' : w'.ownsRow base e 1 (.slice (some ⟨g, 0, none⟩) (xs ++ ys).length cap) (xs ++ ys).length (xs ++ ys)) : w'.ownsRow base e 1 (.slice (some ⟨g, 0, none⟩) xs.length cap) xs.length xs := by
  refine ⟨h.1, ?_⟩
  rcases h'.2 with ⟨h0, _⟩ | ⟨g', cap', cur, hv, hb, hg, hn, hm, hs, ht⟩
  · cases h0
  · cases hv
    refine .inr ⟨g, cap, cur, rfl, hb, hg, by rw [List.length_append] at hn; omega, hm, hs, ?_⟩
    have := congrArg (List.take (xs.length * 1)) ht
    rw [List.take_take, Nat.min_eq_left (by rw [List.length_append]; omega)] at this
    rw [this, Nat.mul_one, List.take_left]
theorem run_append_two (t ty : TypeId) (base : Nat) (e : TypeId) (i : TypeInfo) (z : Value) (bytes : Nat) (ht : P.underlying t = some (.slice e)) (hi : P.info? e = some i) (hz : i.zero = some z)
    (hsize : i.size = 1) (hby : i.bytes = bytes) (hzs : z.cells.size = 1)
    (v : Value) (xs : List Value) (hown : w.ownsRow base e 1 v xs.length xs)
    (ad : Addr) (c : Nat) (u : Value) (hnews : ∀ j x, [u][j]? = some x → w.cell? (ad.add j) = some x) (h1 : u.oneCell' = true)
    (h63 : xs.length + 1 ≤ maxLen) (hbytes : (xs.length + 1) * bytes ≤ 140737488355328) (hbase : base ≤ w.heap.size) :
    ∃ g cap w', (Builtin.append_ #[t, t] ty #[v, .slice (some ad) 1 c]).run P w = .ok (.slice (some ⟨g, 0, none⟩) (xs.length + 1) cap) w' ∧
      w'.ownsRow base e 1 (.slice (some ⟨g, 0, none⟩) (xs.length + 1) cap) (xs.length + 1) (xs ++ [u]) ∧ w'.ownsRow base e 1 v xs.length xs ∧ w.grownBy w' v.ownBlock ∧ (v.ownBlock = some g ∨ w.heap.size ≤ g) := by
  have hone : ∀ x ∈ [u], x.oneCell' = true := fun x hx => by rw [List.mem_singleton.1 hx]; exact h1
  rcases hown.2 with ⟨rfl, h0⟩ | ⟨g, cap, cur, rfl, hb, hg, hn, hm, hs, htk⟩
  · obtain ⟨g, cap, w', hr, h2, h3, h4, _⟩ := run_append_lies (P := P) w t ty base e i z 1 bytes ht hi hz hsize hby hzs (by decide) (.slice none 0 0) xs.length xs hown ad 1 c [u] rfl hnews hone (by decide) h63 hbytes hbase _ rfl
    refine ⟨g, cap, w', hr, h2, ?_, h3, ?_⟩
    · refine ⟨hown.1, .inl ⟨rfl, h0⟩⟩
    · rcases h4 with h4 | h4
      · exact .inl h4
      · exact .inr (by omega)
  · by_cases hroom : xs.length + 1 ≤ cap
    · obtain ⟨w', hr, h2, h3⟩ := run_append_own_spare (P := P) w base t ty e i 1 ht hi hsize g xs.length cap xs hown ad 1 c [u] rfl hnews hone hroom
      refine ⟨g, cap, w', hr, h2, row_less hown (ys := [u]) (by rw [List.length_append]; exact h2), h3, .inl rfl⟩
    · have holds : ∀ j x, xs[j]? = some x → w.cell? ((⟨g, 0, none⟩ : Addr).add j) = some x := fun j x hx => hown.cells (g := g) rfl j x hx
      obtain ⟨v', w', hr, h2, h3⟩ := run_append_arg_grows (P := P) w t ty e i z 1 bytes ht hi hz hsize hby hzs (by decide) ⟨g, 0, none⟩ xs.length cap xs (by omega) holds ad 1 c [u] rfl hnews (by omega) h63 hbytes
      obtain ⟨g', cap', rfl, hge, _⟩ := h2.form (by omega)
      refine ⟨g', cap', w', hr, ownsRow_base h2 hbase, row_keep hown fun k hk => ?_, ⟨h3.os, h3.tape, h3.output, h3.size, fun k hk _ => h3.block k hk (by simp)⟩, .inr hge⟩
      cases hk
      exact h3.block g (heap_lt hg) (by simp)
theorem wp_append_two {o : Oper} {a : Act} {K : Act → World → Prop} {Q : Exit → Act → World → Prop} (s x : Operand) (t : TypeId)
    (ho : o.op = .call { callee := .builtin .append, args := #[s, x], argTypes := #[t, t] })
    (base : Nat) (e : TypeId) (i : TypeInfo) (z : Value) (bytes : Nat) (ht : P.underlying t = some (.slice e)) (hi : P.info? e = some i) (hz : i.zero = some z)
    (hsize : i.size = 1) (hby : i.bytes = bytes) (hzs : z.cells.size = 1)
    (v : Value) (xs : List Value) (hs : a.eval s = v) (hown : w.ownsRow base e 1 v xs.length xs)
    (ad : Addr) (c : Nat) (u : Value) (hx : a.eval x = .slice (some ad) 1 c) (hnews : ∀ j x, [u][j]? = some x → w.cell? (ad.add j) = some x) (h1 : u.oneCell' = true)
    (h63 : xs.length + 1 ≤ maxLen) (hbytes : (xs.length + 1) * bytes ≤ 140737488355328) (hbase : base ≤ w.heap.size)
    (h : ∀ g cap w', w'.ownsRow base e 1 (.slice (some ⟨g, 0, none⟩) (xs.length + 1) cap) (xs.length + 1) (xs ++ [u]) → w'.ownsRow base e 1 v xs.length xs → w.grownBy w' v.ownBlock → (v.ownBlock = some g ∨ w.heap.size ≤ g) → K (a.put o.dst (.slice (some ⟨g, 0, none⟩) (xs.length + 1) cap)) w') : o.wp P a w K Q := by
  obtain ⟨g, cap, w', hr, h2, h3, h4, h5⟩ := run_append_two (P := P) w t o.type base e i z bytes ht hi hz hsize hby hzs v xs hown ad c u hnews h1 h63 hbytes hbase
  unfold Oper.wp execOp
  simp only [ho, resolve, invoke, builtin, Sem.run_bind, Sem.run_pure, Result.andThen_ok, List.map_toArray, List.map_cons, List.map_nil, hs, hx, hr]
  exact h g cap w' h2 h3 h4 h5
theorem wpList_append_two {ops : Array Oper} {rest : List Oper} {o : Oper} {a : Act} {Q : Exit → Act → World → Prop} (hgd : o.guard = none) (s x : Operand) (t : TypeId)
    (ho : o.op = .call { callee := .builtin .append, args := #[s, x], argTypes := #[t, t] })
    (base : Nat) (e : TypeId) (i : TypeInfo) (z : Value) (bytes : Nat) (ht : P.underlying t = some (.slice e)) (hi : P.info? e = some i) (hz : i.zero = some z)
    (hsize : i.size = 1) (hby : i.bytes = bytes) (hzs : z.cells.size = 1)
    (v : Value) (xs : List Value) (hs : a.eval s = v) (hown : w.ownsRow base e 1 v xs.length xs)
    (ad : Addr) (c : Nat) (u : Value) (hx : a.eval x = .slice (some ad) 1 c) (hnews : ∀ j x, [u][j]? = some x → w.cell? (ad.add j) = some x) (h1 : u.oneCell' = true)
    (h63 : xs.length + 1 ≤ maxLen) (hbytes : (xs.length + 1) * bytes ≤ 140737488355328) (hbase : base ≤ w.heap.size)
    (h : ∀ g cap w', w'.ownsRow base e 1 (.slice (some ⟨g, 0, none⟩) (xs.length + 1) cap) (xs.length + 1) (xs ++ [u]) → w'.ownsRow base e 1 v xs.length xs → w.grownBy w' v.ownBlock → (v.ownBlock = some g ∨ w.heap.size ≤ g) → wpList P ops Q rest (a.put o.dst (.slice (some ⟨g, 0, none⟩) (xs.length + 1) cap)) w') : wpList P ops Q (o :: rest) a w :=
  wpList_plain hgd fun _ hK => wp_append_two w s x t ho base e i z bytes ht hi hz hsize hby hzs v xs hs hown ad c u hx hnews h1 h63 hbytes hbase fun g cap w' h2 h3 h4 h5 => hK _ _ (h g cap w' h2 h3 h4 h5)
theorem step_append_two {ops : Array Oper} {o : Oper} {a : Act} {K : Act → World → Prop} {Q : Exit → Act → World → Prop} {E : Prop} (hgd : o.guard = none) (s x : Operand) (t : TypeId)
    (ho : o.op = .call { callee := .builtin .append, args := #[s, x], argTypes := #[t, t] })
    (base : Nat) (e : TypeId) (i : TypeInfo) (z : Value) (bytes : Nat) (ht : P.underlying t = some (.slice e)) (hi : P.info? e = some i) (hz : i.zero = some z)
    (hsize : i.size = 1) (hby : i.bytes = bytes) (hzs : z.cells.size = 1)
    (v : Value) (xs : List Value) (hs : a.eval s = v) (hown : w.ownsRow base e 1 v xs.length xs)
    (ad : Addr) (c : Nat) (u : Value) (hx : a.eval x = .slice (some ad) 1 c) (hnews : ∀ j x, [u][j]? = some x → w.cell? (ad.add j) = some x) (h1 : u.oneCell' = true)
    (h63 : xs.length + 1 ≤ maxLen) (hbytes : (xs.length + 1) * bytes ≤ 140737488355328) (hbase : base ≤ w.heap.size)
    (h : ∀ g cap w', w'.ownsRow base e 1 (.slice (some ⟨g, 0, none⟩) (xs.length + 1) cap) (xs.length + 1) (xs ++ [u]) → w'.ownsRow base e 1 v xs.length xs → w.grownBy w' v.ownBlock → (v.ownBlock = some g ∨ w.heap.size ≤ g) → K (a.put o.dst (.slice (some ⟨g, 0, none⟩) (xs.length + 1) cap)) w') :
    if Region.wanted o (yielded ops a.tmps) = true then Oper.wp P o a w K Q else E := by
  have hw : Region.wanted o (yielded ops a.tmps) = true := by simp [Region.wanted, hgd]
  rw [if_pos hw]
  exact wp_append_two w s x t ho base e i z bytes ht hi hz hsize hby hzs v xs hs hown ad c u hx hnews h1 h63 hbytes hbase h
end
end Go.Proofs.YtgikhpmdpppenaaGreatDoor
namespace Go.Proofs.YtgikhpmdpppenaaGreatDoor
structure It where
  d : Nat
  ins : List ByteArray
  wd : Bool
  t : Nd
def bindK (k : Int) : Bool := k == 17 || (k == 18 || k == 19)
mutual
def preN (d : Nat) (ins : List ByteArray) (wd : Bool) : Nd → List It
  | .mk k s l => ⟨d, ins, wd, .mk k s l⟩ :: preL (d + 1) ins (if bindK k then ins ++ [s] else ins) (k == 7) l
def preL (d : Nat) (ins il : List ByteArray) (wd : Bool) : List Nd → List It
  | [] => []
  | a :: l => preN d (if l.isEmpty then il else ins) wd a ++ preL d ins il wd l
end
mutual
theorem preN_len (d : Nat) (ins : List ByteArray) (wd : Bool) : ∀ t : Nd, (preN d ins wd t).length = t.sz
  | .mk k s l => by simp only [preN, Nd.sz, List.length_cons]; rw [preL_len]; omega
theorem preL_len (d : Nat) (ins il : List ByteArray) (wd : Bool) : ∀ l : List Nd, (preL d ins il wd l).length = Nd.szL l
  | [] => by simp only [preL, Nd.szL, List.length_nil]
  | a :: l => by simp only [preL, Nd.szL, List.length_append]; rw [preN_len, preL_len]
end
def lvs : List It → Nat
  | [] => 0
  | x :: l => max (x.d + 1) (lvs l)
theorem lvs_append : ∀ a b : List It, lvs (a ++ b) = max (lvs a) (lvs b)
  | [], b => by simp [lvs]
  | x :: a, b => by simp only [List.cons_append, lvs]; rw [lvs_append a b]; omega
theorem lvs_snoc (a : List It) (x : It) : lvs (a ++ [x]) = max (lvs a) (x.d + 1) := by rw [lvs_append]; simp [lvs]
mutual
theorem lvs_preN (d : Nat) (ins : List ByteArray) (wd : Bool) : ∀ t : Nd, lvs (preN d ins wd t) = d + t.dp
  | .mk k s l => by
    simp only [preN, Nd.dp, lvs]
    have := lvs_preL (d + 1) ins (if bindK k then ins ++ [s] else ins) (k == 7) l
    omega
theorem lvs_preL (d : Nat) (ins il : List ByteArray) (wd : Bool) : ∀ l : List Nd, max d (lvs (preL d ins il wd l)) = d + Nd.dpL l
  | [] => by simp [preL, Nd.dpL, lvs]
  | a :: l => by
    simp only [preL, Nd.dpL]
    rw [lvs_append, lvs_preN]
    have := lvs_preL d ins il wd l
    omega
end
theorem preL_drop {d : Nat} {ins il : List ByteArray} {wd : Bool} {l : List Nd} {i : Nat} (h : i < l.length) :
    preL d ins il wd (l.drop i) = preN d (if i + 1 = l.length then il else ins) wd l[i] ++ preL d ins il wd (l.drop (i + 1)) := by
  rw [List.drop_eq_getElem_cons h]
  simp only [preL]
  by_cases he : i + 1 = l.length
  · rw [if_pos he, if_pos (by rw [List.isEmpty_iff, List.drop_eq_nil_iff]; omega)]
  · rw [if_neg he, if_neg (by rw [List.isEmpty_iff, List.drop_eq_nil_iff]; omega)]
end Go.Proofs.YtgikhpmdpppenaaGreatDoor
namespace Go.Proofs.YtgikhpmdpppenaaGreatDoor
open Go.RowKit
set_option maxRecDepth 100000 in
set_option maxHeartbeats 400000 in
theorem isBinder_any (k : Int) (s : ByteArray) (a : Option Addr) (n cap : Nat) (w : World) :
    Calls Tryz.prog 158 #[.agg #[.int .i64 k, .string s, .slice a n cap]] w fun e w' => e = .returned (.bool (bindK k)) ∧ Below w.heap.size w w' := by
  have HB := Lib.hid ((Below.refl w.heap.size w).alloc (Nat.le_refl _) (.cells #[.int .i64 k, .string s, .slice a n cap] 24))
  obtain ⟨R, hR⟩ : ∃ R, bindK k = R := ⟨_, rfl⟩
  have HR := Lib.hid hR
  rw [hR]
  clear hR
  cases h1 : (k == 17) with
  | true =>
    have HS : Hid (R = true) := Lib.hid (by rw [← HR.out]; unfold bindK; rw [h1]; rfl)
    go_enter Tryz.func158, Tryz.ntmps158
    go_wp2
    go_ret
    exact ⟨by rw [HS.out]; rfl, HB.out⟩
  | false =>
    cases h2 : (k == 18) with
    | true =>
      have HS : Hid (R = true) := Lib.hid (by rw [← HR.out]; unfold bindK; rw [h1, h2]; rfl)
      go_enter Tryz.func158, Tryz.ntmps158
      go_wp2
      go_ret
      exact ⟨by rw [HS.out]; rfl, HB.out⟩
    | false =>
      cases h3 : (k == 19) with
      | true =>
        have HS : Hid (R = true) := Lib.hid (by rw [← HR.out]; unfold bindK; rw [h1, h2, h3]; rfl)
        go_enter Tryz.func158, Tryz.ntmps158
        go_wp2
        go_ret
        exact ⟨by rw [HS.out]; rfl, HB.out⟩
      | false =>
        have HS : Hid (R = false) := Lib.hid (by rw [← HR.out]; unfold bindK; rw [h1, h2, h3]; rfl)
        go_enter Tryz.func158, Tryz.ntmps158
        go_wp2
        go_ret
        exact ⟨by rw [HS.out]; rfl, HB.out⟩
theorem infoI64 : (Tryz.prog.info? 3).map (fun i => (i.zero, i.size, i.bytes)) = some (some (.int .i64 0), 1, 8) := by kernel_rfl
theorem infoStr : (Tryz.prog.info? 9).map (fun i => (i.zero, i.size, i.bytes)) = some (some (.string ⟨#[]⟩), 1, 16) := by kernel_rfl
def RowI (n₁ : Nat) (W : World) (v : Value) (ps : List Value) : Prop := W.ownsRow n₁ 3 1 v ps.length ps
def RowS (n₁ : Nat) (W : World) (v : Value) (ss : List ByteArray) : Prop := W.ownsRow n₁ 9 1 v (ss.map Value.string).length (ss.map Value.string)
def RowP (W : World) (b : Nat) (v0 v1 v2 : Value) : Prop := W.heap[b]? = some (.cells #[v0, v1, v2] 80 (0, 0))
section
variable {W : World} {b : Nat} {v0 v1 v2 : Value}
theorem RowP.cells (h : RowP W b v0 v1 v2) : (W.cell? ⟨b, 0, none⟩ = some v0 ∧ W.cell? ⟨b, 1, none⟩ = some v1 ∧ W.cell? ⟨b, 2, none⟩ = some v2) ∧ W.frozen? ⟨b, 0, none⟩ = false ∧ W.frozen? ⟨b, 1, none⟩ = false ∧ W.frozen? ⟨b, 2, none⟩ = false := by
  have h0 : W.heap[b]? = some (.cells #[v0, v1, v2] 80 (0, 0)) := h
  exact ⟨⟨cell_of_row _ _ _ _ _ _ h0, cell_of_row _ _ _ _ _ _ h0, cell_of_row _ _ _ _ _ _ h0⟩, by simp [World.frozen?, h0], by simp [World.frozen?, h0], by simp [World.frozen?, h0]⟩
theorem RowP.lt (h : RowP W b v0 v1 v2) : b < W.heap.size := heap_lt h
theorem RowP.put (h : RowP W b v0 v1 v2) (u0 u1 u2 : Value) : RowP (((W.setCell ⟨b, 0, none⟩ u0).setCell ⟨b, 1, none⟩ u1).setCell ⟨b, 2, none⟩ u2) b u0 u1 u2 := by
  have h0 : W.heap[b]? = some (.cells #[v0, v1, v2] 80 (0, 0)) := h
  exact (setCell_row (setCell_row (setCell_row h0))).trans rfl
theorem ret_place {fn : Func} {t : Nat} {a : Act} {R : Ending → World → Prop} (h : RowP W b v0 v1 v2) (hr : fn.results = #[ResultVar.cell t 80]) (hd : a.defers = []) (ha : (a.tmps[t]?).getD undef = .pointer (some ⟨b, 0, none⟩))
    (hR : R (.returned (.agg #[v0, v1, v2])) W) : bodyPost Tryz.prog fn R .ret a W := by
  obtain ⟨⟨c0, c1, c2⟩, _⟩ := h.cells
  exact bodyPost_ret (v := .agg #[v0, v1, v2]) (by simp [results, hr, go_sem, ha, c0, c1, c2]) hd hR
end
def DownO (n₁ : Nat) (vp vi : Value) (ps : List Value) (ss : List ByteArray) (p : Value) (ss' : List ByteArray) (wd : Bool) (W : World) (e : Ending) (W' : World) : Prop :=
  ∃ (ap ai : Option Addr) (cp ci : Nat), e = .returned (.agg #[.slice ap (ps ++ [p]).length cp, .slice ai ss'.length ci, .bool wd]) ∧
    RowI n₁ W' (.slice ap (ps ++ [p]).length cp) (ps ++ [p]) ∧ RowS n₁ W' (.slice ai ss'.length ci) ss' ∧ RowI n₁ W' vp ps ∧ RowS n₁ W' vi ss ∧ W.heap.size ≤ W'.heap.size ∧
    (∀ b, b < W.heap.size → vp.ownBlock ≠ some b → vi.ownBlock ≠ some b → W'.heap[b]? = W.heap[b]?) ∧
    Below n₁ W W' ∧
    (∀ g, (Value.slice ap (ps ++ [p]).length cp).ownBlock = some g → vp.ownBlock = some g ∨ W.heap.size ≤ g) ∧
    (∀ g, (Value.slice ai ss'.length ci).ownBlock = some g → vi.ownBlock = some g ∨ W.heap.size ≤ g)
theorem cells1 (W : World) (u : Value) (t : TypeId) (n : Nat) (hn : n = W.heap.size) : ∀ (j : Nat) (x : Value), [u][j]? = some x → (W.alloc (.cells #[u] t)).cell? ((⟨n, 0, none⟩ : Addr).add j) = some x := by
  intro j x hj
  have h0 : j = 0 := by
    rcases j with _ | j
    · rfl
    · simp at hj
  subst h0
  subst hn
  simp at hj
  subst hj
  have hadd : (⟨W.heap.size, 0, none⟩ : Addr).add 0 = ⟨W.heap.size, 0, none⟩ := by unfold Addr.add; split <;> simp_all
  rw [hadd, World.cell?_alloc_at _ _ _ _ rfl]
  rfl
theorem cells1x (W : World) (u : Value) (t : TypeId) (o : Obj) : ∀ (j : Nat) (x : Value), [u][j]? = some x → ((W.alloc (.cells #[u] t)).alloc o).drew.cell? ((⟨W.heap.size, 0, none⟩ : Addr).add j) = some x := by
  intro j x hj
  have h0 : j = 0 := by
    rcases j with _ | j
    · rfl
    · simp at hj
  subst h0
  have hadd : (⟨W.heap.size, 0, none⟩ : Addr).add 0 = ⟨W.heap.size, 0, none⟩ := by unfold Addr.add; split <;> simp_all
  have := cells1 W u t _ rfl 0 x hj
  rw [hadd] at this ⊢
  exact (show ((W.alloc (.cells #[u] t)).alloc o).cell? _ = _ from (World.cell?_alloc_past _ _ _ (by simp)).trans this)
def Mid (n₁ h : Nat) (W w6 : World) (ap : Value) (ai : Value) (wd : Bool) (k : Int) (s : ByteArray) (v2 : Value) (ss : List ByteArray) : Prop :=
  RowP w6 h ap ai (.bool wd) ∧ Row3 w6 (h + 1) (.int .i64 k) (.string s) v2 ∧ RowP w6 (h + 1 + 1) (.slice none 0 0) (.slice none 0 0) (.bool false) ∧ RowS n₁ w6 ai ss ∧ W.heap.size ≤ w6.heap.size ∧
    (∀ b, b < W.heap.size → ap.ownBlock ≠ some b → w6.heap[b]? = W.heap[b]?) ∧ Below n₁ W w6
theorem mid0D {n₁ h : Nat} {W w6 : World} {ap u : Value} {t : TypeId} (hz : h + 1 + 1 + 1 ≤ W.heap.size) (hown : ∀ g, ap.ownBlock = some g → n₁ ≤ g ∧ g < h)
    (hg : ((W.alloc (.cells #[u] t)).alloc (.cells #[.slice none 0 0, .slice none 0 0, .bool false] 80)).drew.grownBy w6 ap.ownBlock) : RowP w6 (W.heap.size + 1) (.slice none 0 0) (.slice none 0 0) (.bool false) := by
  refine (hg.block _ (show W.heap.size + 1 < ((W.alloc (.cells #[u] t)).alloc (.cells #[.slice none 0 0, .slice none 0 0, .bool false] 80)).heap.size by simp) (fun e => by have := hown _ e.symm; omega)).trans ?_
  exact (show ((W.alloc (.cells #[u] t)).alloc (.cells #[.slice none 0 0, .slice none 0 0, .bool false] 80)).heap[_]? = _ from alloc_at (by simp))
theorem rows_apart {W : World} {n₁ : Nat} {vp vi : Value} {ps : List Value} {ss : List ByteArray} (h : RowI n₁ W vp ps) (h' : RowS n₁ W vi ss) : ∀ g, vp.ownBlock = some g → vi.ownBlock ≠ some g := by
  intro g h1 h2
  rcases h.2 with ⟨rfl, _⟩ | ⟨g1, _, _, rfl, _, e1, _⟩
  · cases h1
  · rcases h'.2 with ⟨rfl, _⟩ | ⟨g2, _, _, rfl, _, e2, _⟩
    · cases h2
    · simp only [Value.ownBlock, Option.some.injEq] at h1 h2
      rw [h1] at e1
      rw [h2] at e2
      rw [e1] at e2
      exact absurd (Obj.cells.inj (Option.some.inj e2)).2.1 (by decide)
theorem cells1y (W : World) (u : Value) (t : TypeId) (o : Obj) : ∀ (j : Nat) (x : Value), [u][j]? = some x → ((W.alloc o).alloc (.cells #[u] t)).drew.cell? ((⟨W.heap.size + 1, 0, none⟩ : Addr).add j) = some x :=
  fun j x hj => (show ((W.alloc o).alloc (.cells #[u] t)).cell? _ = _ from cells1 (W.alloc o) u t (W.heap.size + 1) (by simp) j x hj)
theorem mid0E {n₁ h : Nat} {W w6 : World} {ap u : Value} {t : TypeId} (hz : h + 1 + 1 + 1 ≤ W.heap.size) (hown : ∀ g, ap.ownBlock = some g → n₁ ≤ g ∧ g < h)
    (hg : ((W.alloc (.cells #[.slice none 0 0, .slice none 0 0, .bool false] 80)).alloc (.cells #[u] t)).drew.grownBy w6 ap.ownBlock) : RowP w6 W.heap.size (.slice none 0 0) (.slice none 0 0) (.bool false) := by
  refine (hg.block _ (show W.heap.size < ((W.alloc (.cells #[.slice none 0 0, .slice none 0 0, .bool false] 80)).alloc (.cells #[u] t)).heap.size by simp; omega) (fun e => by have := hown _ e.symm; omega)).trans ?_
  exact (show ((W.alloc (.cells #[.slice none 0 0, .slice none 0 0, .bool false] 80)).alloc (.cells #[u] t)).heap[_]? = _ from (Below.heap_alloc _ _ _ (by simp)).trans (World.alloc_heap_new _ _))
structure MidV (n₁ h : Nat) (W V : World) (D : Nat) (v' vp vi : Value) (ps : List Value) (ss : List ByteArray) (p : Value) (wd k7 : Bool) (k : Int) (s : ByteArray) (v2 : Value) : Prop where
  d : RowP V D v' vi (.bool k7)
  a : RowP V h vp vi (.bool wd)
  n : Row3 V (h + 1) (.int .i64 k) (.string s) v2
  r : RowP V (h + 1 + 1) (.slice none 0 0) (.slice none 0 0) (.bool false)
  q : RowI n₁ V v' (ps ++ [p])
  p : RowI n₁ V vp ps
  s : RowS n₁ V vi ss
  z : h + 1 + 1 + 1 ≤ D
  k : ∀ b, b < h → vp.ownBlock ≠ some b → V.heap[b]? = W.heap[b]?
  o : ∀ g, v'.ownBlock = some g → vp.ownBlock = some g ∨ h ≤ g
  x : Below n₁ W V
theorem rowI_not {n₁ : Nat} {w : World} {v : Value} {ps : List Value} {D : Nat} {x y z : Value} (h : RowI n₁ w v ps) (hD : RowP w D x y z) : ∀ g, v.ownBlock = some g → g ≠ D := by
  intro g h1 e
  subst e
  rcases h.2 with ⟨rfl, _⟩ | ⟨g1, _, _, rfl, _, e1, _⟩
  · cases h1
  · simp only [Value.ownBlock, Option.some.injEq] at h1
    rw [h1] at e1
    have e2 : w.heap[g]? = some (.cells #[x, y, z] 80 (0, 0)) := hD
    rw [e1] at e2
    exact absurd (Obj.cells.inj (Option.some.inj e2)).2.1 (by decide)
theorem rowS_not {n₁ : Nat} {w : World} {v : Value} {ps : List ByteArray} {D : Nat} {x y z : Value} (h : RowS n₁ w v ps) (hD : RowP w D x y z) : ∀ g, v.ownBlock = some g → g ≠ D := by
  intro g h1 e
  subst e
  rcases h.2 with ⟨rfl, _⟩ | ⟨g1, _, _, rfl, _, e1, _⟩
  · cases h1
  · simp only [Value.ownBlock, Option.some.injEq] at h1
    rw [h1] at e1
    have e2 : w.heap[g]? = some (.cells #[x, y, z] 80 (0, 0)) := hD
    rw [e1] at e2
    exact absurd (Obj.cells.inj (Option.some.inj e2)).2.1 (by decide)
theorem mid2 {n₁ h : Nat} {W W3 w6 : World} {D : Nat} {v' vp vi : Value} {ps : List Value} {ss : List ByteArray} {p : Value} {wd k7 : Bool} {k : Int} {s : ByteArray} {v2 : Value} (hn : n₁ ≤ h) (hx : Below n₁ W W3) (hz3 : h + 1 + 1 + 1 ≤ W3.heap.size) (hk3 : ∀ b, b < h → W3.heap[b]? = W.heap[b]?)
    (M : Mid n₁ h W3 w6 vp vi wd k s v2 ss) (hD : RowP w6 D (.slice none 0 0) (.slice none 0 0) (.bool false)) (hDz : h + 1 + 1 + 1 ≤ D) (Q : RowI n₁ w6 v' (ps ++ [p])) (P : RowI n₁ w6 vp ps) (o : ∀ g, v'.ownBlock = some g → vp.ownBlock = some g ∨ h ≤ g) :
    MidV n₁ h W (((w6.setCell ⟨D, 0, none⟩ v').setCell ⟨D, 1, none⟩ vi).setCell ⟨D, 2, none⟩ (.bool k7)) D v' vp vi ps ss p wd k7 k s v2 := by
  obtain ⟨m1, m2, m3, m4, m5, m6, m7⟩ := M
  have far : ∀ b, b ≠ D → (((w6.setCell ⟨D, 0, none⟩ v').setCell ⟨D, 1, none⟩ vi).setCell ⟨D, 2, none⟩ (.bool k7)).heap[b]? = w6.heap[b]? := fun b hb =>
    (Below.heap_setCell _ _ _ _ (by simp only; exact hb)).trans ((Below.heap_setCell _ _ _ _ (by simp only; exact hb)).trans (Below.heap_setCell _ _ _ _ (by simp only; exact hb)))
  exact ⟨hD.put _ _ _, (far _ (by omega)).trans m1, (far _ (by omega)).trans m2, (far _ (by omega)).trans m3, row_keep Q fun g e => far g (rowI_not Q hD g e), row_keep P fun g e => far g (rowI_not P hD g e), row_keep m4 fun g e => far g (rowS_not m4 hD g e), hDz,
    fun b hb hne => (far b (by omega)).trans ((m6 b (by omega) hne).trans (hk3 b hb)), o, (((hx.trans m7).setCell (p := ⟨D, 0, none⟩) (by simp only; omega) _).setCell (p := ⟨D, 1, none⟩) (by simp only; omega) _).setCell (p := ⟨D, 2, none⟩) (by simp only; omega) _⟩
theorem mid1 {n₁ h : Nat} {W W3 w6 : World} {v' vp vi : Value} {ps : List Value} {ss : List ByteArray} {p : Value} {wd k7 : Bool} {k : Int} {s : ByteArray} {v2 : Value} (hn : n₁ ≤ h) (hx : Below n₁ W W3) (hz3 : h + 1 + 1 + 1 ≤ W3.heap.size) (hk3 : ∀ b, b < h → W3.heap[b]? = W.heap[b]?)
    (M : Mid n₁ h W3 w6 vp vi wd k s v2 ss) (Q : RowI n₁ w6 v' (ps ++ [p])) (P : RowI n₁ w6 vp ps) (o : ∀ g, v'.ownBlock = some g → vp.ownBlock = some g ∨ h ≤ g) :
    MidV n₁ h W (w6.alloc (.cells #[v', vi, .bool k7] 80)) w6.heap.size v' vp vi ps ss p wd k7 k s v2 := by
  obtain ⟨m1, m2, m3, m4, m5, m6, m7⟩ := M
  have al : ∀ b, b < w6.heap.size → (w6.alloc (.cells #[v', vi, .bool k7] 80)).heap[b]? = w6.heap[b]? := fun b hb => Below.heap_alloc _ _ _ hb
  exact ⟨World.alloc_heap_new _ _, (al _ m1.lt).trans m1, (al _ m2.lt).trans m2, (al _ m3.lt).trans m3, row_keep Q fun g e => al g (World.ownsRow.lt Q g e).2, row_keep P fun g e => al g (World.ownsRow.lt P g e).2, row_keep m4 fun g e => al g (World.ownsRow.lt m4 g e).2, by omega, fun b hb hne => (al b (by omega)).trans ((m6 b (by omega) hne).trans (hk3 b hb)), o, (hx.trans m7).alloc (by omega) _⟩
theorem MidV.later {n₁ h : Nat} {W V V' : World} {D : Nat} {v' vp vi : Value} {ps : List Value} {ss : List ByteArray} {p : Value} {wd k7 : Bool} {k : Int} {s : ByteArray} {v2 : Value} (M : MidV n₁ h W V D v' vp vi ps ss p wd k7 k s v2) (hb : Below V.heap.size V V') (hh : h ≤ V.heap.size) (hn : n₁ ≤ h) : MidV n₁ h W V' D v' vp vi ps ss p wd k7 k s v2 :=
  ⟨(hb.block _ M.d.lt).trans M.d, (hb.block _ M.a.lt).trans M.a, (hb.block _ M.n.lt).trans M.n, (hb.block _ M.r.lt).trans M.r, row_keep M.q fun g e => hb.block g (World.ownsRow.lt M.q g e).2, row_keep M.p fun g e => hb.block g (World.ownsRow.lt M.p g e).2, row_keep M.s fun g e => hb.block g (World.ownsRow.lt M.s g e).2, M.z, fun b h1 h2 => (hb.block b (by omega)).trans (M.k b h1 h2), M.o, M.x.trans (hb.mono (by omega))⟩
theorem down_of {n₁ h : Nat} {W V F : World} {D : Nat} {g cap : Nat} {vp vi : Value} {ps : List Value} {ss : List ByteArray} {p : Value} {wd k7 : Bool} {k : Int} {s : ByteArray} {v2 : Value} (M : MidV n₁ h W V D (.slice (some ⟨g, 0, none⟩) (ps ++ [p]).length cap) vp vi ps ss p wd k7 k s v2) (hh : W.heap.size = h)
    (hF : ∀ b, b < V.heap.size → b ≠ D → b ≠ h + 1 + 1 → vi.ownBlock ≠ some b → F.heap[b]? = V.heap[b]?) (hsz : V.heap.size ≤ F.heap.size) (hx : Below n₁ V F) {ai : Option Addr} {ci : Nat} {ss' : List ByteArray} (hv : RowS n₁ F (.slice ai ss'.length ci) ss') (hvi : RowS n₁ F vi ss)
    (hown : ∀ g, vp.ownBlock = some g → n₁ ≤ g ∧ g < h) (hap : ∀ g, vp.ownBlock = some g → vi.ownBlock ≠ some g) (ho : ∀ g, (Value.slice ai ss'.length ci).ownBlock = some g → vi.ownBlock = some g ∨ W.heap.size ≤ g) :
    DownO n₁ vp vi ps ss p ss' k7 W (.returned (.agg #[.slice (some ⟨g, 0, none⟩) (ps ++ [p]).length cap, .slice ai ss'.length ci, .bool k7])) F := by
  have l1 := M.r.lt
  have hz := M.z
  refine ⟨_, _, _, _, rfl, ?_, hv, ?_, hvi, by omega, fun b hb h1 h2 => ?_, M.x.trans hx, fun g' e => by rw [hh]; exact M.o g' e, ho⟩
  · exact row_keep M.q fun g' e => hF g' (World.ownsRow.lt M.q g' e).2 (rowI_not M.q M.d g' e) (rowI_not M.q M.r g' e) (rows_apart M.q M.s g' e)
  · exact row_keep M.p fun g' e => hF g' (World.ownsRow.lt M.p g' e).2 (by have := hown g' e; omega) (by have := hown g' e; omega) (hap g' e)
  · exact (hF b (by omega) (by omega) (by omega) h2).trans (M.k b (by omega) h1)
def Base (n₁ h : Nat) (W3 : World) (vp : Value) (ps : List Value) (w : World) : Prop := (∀ b, b < h + 1 + 1 + 1 → vp.ownBlock ≠ some b → w.heap[b]? = W3.heap[b]?) ∧ RowI n₁ w vp ps ∧ h + 1 + 1 + 1 ≤ w.heap.size ∧ Below n₁ W3 w
section
variable {n₁ h : Nat} {W3 : World} {vp vi u : Value} {ps : List Value} {w w' : World}
abbrev Sb (n₁ h : Nat) (W3 : World) (vp vi u : Value) (ps : List Value) (w : World) : Prop := w.cell? ⟨h, 0, none⟩ = some vp ∧ w.cell? ⟨h, 1, none⟩ = some vi ∧ w.cell? ⟨h + 1, 0, none⟩ = some u ∧ Hid (Base n₁ h W3 vp ps w)
theorem Sb_of (hk : ∀ b, b < h + 1 + 1 + 1 → vp.ownBlock ≠ some b → w'.heap[b]? = w.heap[b]?) (hr : RowI n₁ w' vp ps) (hz : w.heap.size ≤ w'.heap.size) (hx : Below n₁ w w') (hown : ∀ g, vp.ownBlock = some g → n₁ ≤ g ∧ g < h) (H : Sb n₁ h W3 vp vi u ps w) : Sb n₁ h W3 vp vi u ps w' := by
  obtain ⟨c0, c1, c2, hb⟩ := H
  have far : ∀ b, h ≤ b → vp.ownBlock ≠ some b := fun b hb e => by have := hown b e; omega
  exact ⟨(World.cell?_of_block (hk h (by omega) (far _ (by omega)))).trans c0, (World.cell?_of_block (hk h (by omega) (far _ (by omega)))).trans c1, (World.cell?_of_block (hk (h + 1) (by omega) (far _ (by omega)))).trans c2,
    Lib.hid ⟨fun b hb1 hb2 => (hk b hb1 hb2).trans (hb.out.1 b hb1 hb2), hr, Nat.le_trans hb.out.2.2.1 hz, hb.out.2.2.2.trans hx⟩⟩
theorem Sb_alloc {o : Obj} (hn : n₁ ≤ h) (hown : ∀ g, vp.ownBlock = some g → n₁ ≤ g ∧ g < h) (H : Sb n₁ h W3 vp vi u ps w) : Sb n₁ h W3 vp vi u ps (w.alloc o) :=
  Sb_of (fun b hb _ => Below.heap_alloc _ _ _ (by have := H.2.2.2.out.2.2.1; omega)) (row_keep H.2.2.2.out.2.1 fun g e => Below.heap_alloc _ _ _ (by have := hown g e; have := H.2.2.2.out.2.2.1; omega)) (by simp) ((Below.refl _ w).alloc (by have := H.2.2.2.out.2.2.1; omega) _) hown H
theorem Sb_drew (H : Sb n₁ h W3 vp vi u ps w) : Sb n₁ h W3 vp vi u ps w.drew := ⟨H.1, H.2.1, H.2.2.1, Lib.hid ⟨H.2.2.2.out.1, H.2.2.2.out.2.1, H.2.2.2.out.2.2.1, H.2.2.2.out.2.2.2.drew⟩⟩
theorem Sb_undrew (H : Sb n₁ h W3 vp vi u ps w.drew) : Sb n₁ h W3 vp vi u ps w := ⟨H.1, H.2.1, H.2.2.1, Lib.hid ⟨H.2.2.2.out.1, H.2.2.2.out.2.1, H.2.2.2.out.2.2.1, ⟨H.2.2.2.out.2.2.2.os, H.2.2.2.out.2.2.2.tape, H.2.2.2.out.2.2.2.output, H.2.2.2.out.2.2.2.size, H.2.2.2.out.2.2.2.block⟩⟩⟩
theorem Sb_allocd {o : Obj} (hn : n₁ ≤ h) (hown : ∀ g, vp.ownBlock = some g → n₁ ≤ g ∧ g < h) (H : Sb n₁ h W3 vp vi u ps w.drew) : Sb n₁ h W3 vp vi u ps (w.alloc o).drew := Sb_drew (Sb_alloc hn hown (Sb_undrew H))
theorem Sb_grown (hn : n₁ ≤ h) (hown : ∀ g, vp.ownBlock = some g → n₁ ≤ g ∧ g < h) (hg : w.grownBy w' vp.ownBlock) (hr : RowI n₁ w' vp ps) (H : Sb n₁ h W3 vp vi u ps w) : Sb n₁ h W3 vp vi u ps w' :=
  Sb_of (fun b hb hne => hg.block b (by have := H.2.2.2.out.2.2.1; omega) (fun e => hne e.symm)) hr hg.size ((Below.refl _ w).grown hg (by have := H.2.2.2.out.2.2.1; omega) (fun k e => (hown k e).1)) hown H
theorem Sb_set3 {D : Nat} {u0 u1 u2 : Value} (hn : n₁ ≤ h) (hown : ∀ g, vp.ownBlock = some g → n₁ ≤ g ∧ g < h) (hD : h + 1 + 1 + 1 ≤ D) (H : Sb n₁ h W3 vp vi u ps w) : Sb n₁ h W3 vp vi u ps (((w.setCell ⟨D, 0, none⟩ u0).setCell ⟨D, 1, none⟩ u1).setCell ⟨D, 2, none⟩ u2) := by
  have far : ∀ b, b ≠ D → (((w.setCell ⟨D, 0, none⟩ u0).setCell ⟨D, 1, none⟩ u1).setCell ⟨D, 2, none⟩ u2).heap[b]? = w.heap[b]? := fun b hb =>
    (Below.heap_setCell _ _ _ _ (by simp only; exact hb)).trans ((Below.heap_setCell _ _ _ _ (by simp only; exact hb)).trans (Below.heap_setCell _ _ _ _ (by simp only; exact hb)))
  exact Sb_of (fun b hb _ => far b (by omega)) (row_keep H.2.2.2.out.2.1 fun g e => far g (by have := hown g e; omega)) (by simp [setCell_size]) ((((Below.refl _ w).setCell (p := ⟨D, 0, none⟩) (by simp only; omega) _).setCell (p := ⟨D, 1, none⟩) (by simp only; omega) _).setCell (p := ⟨D, 2, none⟩) (by simp only; omega) _) hown H
theorem Sb_row (H : Sb n₁ h W3 vp vi u ps w) : RowI n₁ w vp ps := H.2.2.2.out.2.1
theorem Sb_mid {wd : Bool} {k : Int} {s : ByteArray} {v2 : Value} {ss : List ByteArray} (hz : W3.heap.size = h + 1 + 1 + 1) (hown : ∀ g, vp.ownBlock = some g → n₁ ≤ g ∧ g < h)
    (hA : RowP W3 h vp vi (.bool wd)) (hN : Row3 W3 (h + 1) (.int .i64 k) (.string s) v2) (hR : RowP W3 (h + 1 + 1) (.slice none 0 0) (.slice none 0 0) (.bool false)) (hS : RowS n₁ W3 vi ss) (hap : ∀ g, vp.ownBlock = some g → vi.ownBlock ≠ some g)
    (H : Sb n₁ h W3 vp vi u ps w) : Mid n₁ h W3 w vp vi wd k s v2 ss := by
  have hb := H.2.2.2.out
  have far : ∀ b, h ≤ b → vp.ownBlock ≠ some b := fun b hb e => by have := hown b e; omega
  exact ⟨(hb.1 h (by omega) (far _ (by omega))).trans hA, (hb.1 _ (by omega) (far _ (by omega))).trans hN, (hb.1 _ (by omega) (far _ (by omega))).trans hR, row_keep hS fun g e => hb.1 g (by have := (World.ownsRow.lt hS g e).2; omega) (fun e2 => hap g e2 e), by have := hb.2.2.1; omega, fun b h1 h2 => hb.1 b (by omega) h2, hb.2.2.2⟩
end
theorem cells1d (W : World) (u : Value) (t : TypeId) : ∀ (j : Nat) (x : Value), [u][j]? = some x → (W.alloc (.cells #[u] t)).drew.cell? ((⟨W.heap.size, 0, none⟩ : Addr).add j) = some x :=
  fun j x hj => (show (W.alloc (.cells #[u] t)).cell? _ = _ from cells1 W u t _ rfl j x hj)
theorem rowI_snoc {n₁ : Nat} {w : World} {g cap : Nat} {ps : List Value} {p : Value} (h : w.ownsRow n₁ 3 1 (.slice (some ⟨g, 0, none⟩) (ps.length + 1) cap) (ps.length + 1) (ps ++ [p])) : RowI n₁ w (.slice (some ⟨g, 0, none⟩) (ps.length + 1) cap) (ps ++ [p]) := by
  have e : (ps ++ [p]).length = ps.length + 1 := by simp
  unfold RowI
  rw [e]
  exact h
theorem rowS_snoc {n₁ : Nat} {w : World} {g cap : Nat} {ss : List ByteArray} {x : ByteArray} (h : w.ownsRow n₁ 9 1 (.slice (some ⟨g, 0, none⟩) ((ss.map Value.string).length + 1) cap) ((ss.map Value.string).length + 1) (ss.map Value.string ++ [.string x])) : RowS n₁ w (.slice (some ⟨g, 0, none⟩) (ss ++ [x]).length cap) (ss ++ [x]) := by
  unfold RowS
  have e1 : (ss ++ [x]).map Value.string = ss.map Value.string ++ [.string x] := by simp
  have e2 : ((ss ++ [x]).map Value.string).length = (ss.map Value.string).length + 1 := by simp
  have e3 : (ss ++ [x]).length = (ss.map Value.string).length + 1 := by simp
  rw [e2, e3, e1]
  exact h
theorem own_or {vp : Value} {g n cap h z : Nat} (hg : vp.ownBlock = some g ∨ z ≤ g) (hz : h ≤ z) : ∀ g', (Value.slice (some ⟨g, 0, none⟩) n cap).ownBlock = some g' → vp.ownBlock = some g' ∨ h ≤ g' := by
  intro g' e
  simp only [Value.ownBlock, Option.some.injEq] at e
  subst e
  rcases hg with hg | hg
  · exact .inl hg
  · exact .inr (Nat.le_trans hz hg)
set_option maxRecDepth 100000 in
set_option maxHeartbeats 2000000 in
theorem below_any (n₁ : Nat) (k : Int) (s : ByteArray) (a : Option Addr) (len cap i : Nat) (ap ai : Option Addr) (cp ci : Nat) (ps : List Value) (ss : List ByteArray) (wd : Bool) (W : World) (hn : n₁ ≤ W.heap.size)
    (hp : RowI n₁ W (.slice ap ps.length cp) ps) (hs : RowS n₁ W (.slice ai ss.length ci) ss) (hpl : ps.length ≤ 100000) (hsl : ss.length ≤ 100000) (hlen : len ≤ maxLen) (hi : i < len) (V : Bool) (hV : (bindK k && decide (i + 1 = len)) = V) (ss' : List ByteArray) (hss : (if V = true then ss ++ [s] else ss) = ss') :
    Calls Tryz.prog 121 #[.agg #[.slice ap ps.length cp, .slice ai ss.length ci, .bool wd], .agg #[.int .i64 k, .string s, .slice a len cap], .int .i64 i] W
      (DownO n₁ (.slice ap ps.length cp) (.slice ai ss.length ci) ps ss (.int .i64 i) ss' (k == 7) W) := by
  unfold maxLen at hlen
  obtain ⟨iI, hI, hIz, hIs, hIb⟩ := info_parts infoI64
  obtain ⟨iS, hS, hSz, hSs, hSb⟩ := info_parts infoStr
  have CB := Lib.hid (fun w => isBinder_any k s a len cap w)
  have hap := Lib.hid (rows_apart hp hs)
  have HX0 := Lib.hid hss
  have HL1 : Hid ((ps ++ [Value.int .i64 (i : Int)]).length = ps.length + 1) := Lib.hid (by simp)
  clear hss
  obtain ⟨h, hh⟩ : ∃ h, W.heap.size = h := ⟨_, rfl⟩
  have hownp : ∀ g, (Value.slice ap ps.length cp).ownBlock = some g → n₁ ≤ g ∧ g < h := fun g e => by rw [← hh]; exact World.ownsRow.lt hp g e
  have howns : ∀ g, (Value.slice ai ss.length ci).ownBlock = some g → n₁ ≤ g ∧ g < h := fun g e => by rw [← hh]; exact World.ownsRow.lt hs g e
  rw [hh] at hn
  obtain ⟨R, hR⟩ : ∃ R, bindK k = R := ⟨_, rfl⟩
  rw [hR] at CB hV
  obtain ⟨K7, h7⟩ : ∃ K7, (k == 7) = K7 := ⟨_, rfl⟩
  go_enter Tryz.func121, Tryz.ntmps121
  go_wp2_with fail
  obtain ⟨W3, hW3⟩ : ∃ W3, ((W.alloc (.cells #[.slice ap ps.length cp, .slice ai ss.length ci, .bool wd] 80)).alloc (.cells #[.int .i64 k, .string s, .slice a len cap] 24)).alloc (.cells #[.slice none 0 0, .slice none 0 0, .bool false] 80) = W3 := ⟨_, rfl⟩
  have z3 : W3.heap.size = h + 1 + 1 + 1 := by rw [← hW3]; simp [hh]
  have k3 : ∀ b, b < h → W3.heap[b]? = W.heap[b]? := fun b hb => by
    rw [← hW3]
    exact (Below.heap_alloc _ _ _ (by simp only [World.size_alloc]; omega)).trans ((Below.heap_alloc _ _ _ (by simp only [World.size_alloc]; omega)).trans (Below.heap_alloc _ _ _ (by omega)))
  have A3 : RowP W3 h (.slice ap ps.length cp) (.slice ai ss.length ci) (.bool wd) := by
    rw [← hW3, ← hh]; exact (Below.heap_alloc _ _ _ (by simp only [World.size_alloc]; omega)).trans ((Below.heap_alloc _ _ _ (by simp only [World.size_alloc]; omega)).trans (World.alloc_heap_new _ _))
  have N3 : Row3 W3 (h + 1) (.int .i64 k) (.string s) (.slice a len cap) := by
    rw [← hW3, ← hh]; exact (Below.heap_alloc _ _ _ (by simp only [World.size_alloc]; omega)).trans (alloc_at (by simp))
  have R3 : RowP W3 (h + 1 + 1) (.slice none 0 0) (.slice none 0 0) (.bool false) := by
    rw [← hW3, ← hh]; exact alloc_at (by simp)
  have P3 : RowI n₁ W3 (.slice ap ps.length cp) ps := row_keep hp fun g hg => k3 g (by have := hownp g hg; omega)
  have S3 : RowS n₁ W3 (.slice ai ss.length ci) ss := row_keep hs fun g hg => k3 g (by have := howns g hg; omega)
  rw [hW3]
  have HW3 := Lib.hid k3
  have HB3 : Hid (Below n₁ W W3) := Lib.hid (by rw [← hW3]; exact (((Below.refl _ W).alloc (by omega) _).alloc (by simp only [World.size_alloc]; omega) _).alloc (by simp only [World.size_alloc]; omega) _)
  have Z3 := Lib.hid z3
  have HA3 := Lib.hid A3
  have HN3 := Lib.hid N3
  have HR3 := Lib.hid R3
  have HP3 := Lib.hid P3
  have HS3 := Lib.hid S3
  have HH := Lib.hid hh
  have H7 := Lib.hid h7
  have HV := Lib.hid hV
  have HR := Lib.hid hR
  obtain ⟨⟨a0, a1, a2⟩, _⟩ := A3.cells
  obtain ⟨⟨b0, b1, b2⟩, _⟩ := N3.cells
  clear hW3 k3 z3 A3 N3 R3 P3 S3 hh hV hR hp hs
  have a0' := fun o => (World.cell?_alloc_past (w := W3) o h 0 HA3.out.lt).trans a0
  have a1' := fun o => (World.cell?_alloc_past (w := W3) o h 1 HA3.out.lt).trans a1
  have b0' := fun o => (World.cell?_alloc_past (w := W3) o (h + 1) 0 HN3.out.lt).trans b0
  have a0'' := fun o o' => (World.cell?_alloc_past (w := W3.alloc o) o' h 0 (by have := HA3.out.lt; simp; omega)).trans (a0' o)
  have a1'' := fun o o' => (World.cell?_alloc_past (w := W3.alloc o) o' h 1 (by have := HA3.out.lt; simp; omega)).trans (a1' o)
  have b0'' := fun o o' => (World.cell?_alloc_past (w := W3.alloc o) o' (h + 1) 0 (by have := HN3.out.lt; simp; omega)).trans (b0' o)
  go_upto_region 1 with fail
  go_cut [7] (fun v7 wx => ∃ D g cap', v7 = .pointer (some ⟨D, 0, none⟩) ∧ Hid (MidV n₁ h W wx D (.slice (some ⟨g, 0, none⟩) (ps ++ [Value.int .i64 i]).length cap') (.slice ap ps.length cp) (.slice ai ss.length ci) ps ss (Value.int .i64 i) wd K7 k s (.slice a len cap)))
  case first =>
    have S0 : Sb n₁ h W3 (.slice ap ps.length cp) (.slice ai ss.length ci) (.int .i64 k) ps W3 := ⟨a0, a1, b0, Lib.hid ⟨fun _ _ _ => rfl, HP3.out, by have := Z3.out; omega, Below.refl _ _⟩⟩
    have S1 := Sb_drew S0
    clear a0 a1 a2 b0 b1 b2
    go_region_held3 (fun w' => w'.cell? ⟨h, 0, none⟩ = some (.slice ap ps.length cp) ∧ w'.cell? ⟨h, 1, none⟩ = some (.slice ai ss.length ci) ∧ w'.cell? ⟨h + 1, 0, none⟩ = some (.int .i64 k) ∧ Hid (Base n₁ h W3 (.slice ap ps.length cp) ps w'))
      (first | with_reducible exact S1 | with_reducible exact S6 | (with_reducible refine Sb_allocd hn hownp ?_; with_reducible assumption) | (with_reducible refine Sb_alloc hn hownp ?_; with_reducible assumption) | exact Sb_set3 hn hownp (by have := Z3.out; have := S6.2.2.2.out.2.2.1; omega) S6 | exact Sb_set3 hn hownp (by have := Z3.out; have := S6.2.2.2.out.2.2.1; omega) (Sb_alloc hn hownp S6))
      (first
        | (refine step_append_two _ rfl _ _ 46 rfl n₁ 3 iI _ 8 Tryz.underlying46 hI hIz hIs hIb rfl (.slice ap ps.length cp) ps rfl (Sb_row (by with_reducible assumption)) _ _ (.int .i64 i) rfl (by first | with_reducible exact cells1d _ _ _ | with_reducible exact cells1x _ _ _ _ | with_reducible exact cells1y _ _ _ _) rfl (by unfold maxLen; omega) (by omega) (by have := Z3.out; simp; omega) ?_; intro g6 cap6 w6 Q6 P6 G6 hg6; have S6 := Sb_grown hn hownp G6 P6 (by with_reducible assumption); first | (with_reducible have D6 := (mid0D (Nat.le_of_eq Z3.out.symm) hownp G6).cells; obtain ⟨⟨f0, f1, f2⟩, f3, f4, f5⟩ := D6) | (with_reducible have D6 := (mid0E (Nat.le_of_eq Z3.out.symm) hownp G6).cells; obtain ⟨⟨f0, f1, f2⟩, f3, f4, f5⟩ := D6) | skip))
    all_goals (try go_wp2)
    all_goals go_meet
    · refine ⟨_, g6, cap6, rfl, Lib.hid ?_⟩
      rw [HL1.out]
      exact (mid1 hn HB3.out (Nat.le_of_eq Z3.out.symm) HW3.out (Sb_mid Z3.out hownp HA3.out HN3.out HR3.out HS3.out hap.out S6) (rowI_snoc Q6) P6 (own_or hg6 (by have := Z3.out; simp; omega)))
    · refine ⟨_, g6, cap6, rfl, Lib.hid ?_⟩
      rw [HL1.out]
      exact (mid2 hn HB3.out (Nat.le_of_eq Z3.out.symm) HW3.out (Sb_mid Z3.out hownp HA3.out HN3.out HR3.out HS3.out hap.out S6) (mid0D (Nat.le_of_eq Z3.out.symm) hownp G6) (by have := Z3.out; omega) (rowI_snoc Q6) P6 (own_or hg6 (by have := Z3.out; simp; omega)))
    · refine ⟨_, g6, cap6, rfl, Lib.hid ?_⟩
      rw [HL1.out]
      exact (mid2 hn HB3.out (Nat.le_of_eq Z3.out.symm) HW3.out (Sb_mid Z3.out hownp HA3.out HN3.out HR3.out HS3.out hap.out S6) (mid0E (Nat.le_of_eq Z3.out.symm) hownp G6) (by have := Z3.out; omega) (rowI_snoc Q6) P6 (own_or hg6 (by have := Z3.out; simp; omega)))
  case rest =>
    obtain ⟨D, g, cap', rfl, hM⟩ := hcut
    clear a0 a1 a2 b0 b1 b2
    obtain ⟨⟨n0, n1, n2⟩, _⟩ := hM.out.n.cells
    go_wp2_with fail
    refine (CB.out _).mono ?_
    rintro e w8 ⟨rfl, hb8⟩
    clear n0 n1 n2 CB
    have M8 := Lib.hid (hM.out.later hb8 (by have := hM.out.r.lt; omega) hn)
    clear hb8 hM
    obtain ⟨⟨n0, n1, n2⟩, _⟩ := M8.out.n.cells
    obtain ⟨⟨d0, d1, d2⟩, df0, df1, df2⟩ := M8.out.d.cells
    obtain ⟨⟨a0, a1, a2⟩, _⟩ := M8.out.a.cells
    obtain ⟨⟨r0, r1, r2⟩, rf0, rf1, rf2⟩ := M8.out.r.cells
    cases R with
    | false =>
      have HXs : Hid (ss' = ss) := Lib.hid (by rw [← HX0.out, if_neg (by rw [← HV.out]; simp)])
      clear HV HX0
      go_wp2
      refine ret_place (RowP.put M8.out.r _ _ _) rfl rfl rfl ?_
      rw [HXs.out, H7.out, ← HL1.out]
      refine down_of M8.out HH.out (fun b _ _ hb _ => ?_) ?_ ((((Below.refl n₁ w8).setCell (p := ⟨h + 1 + 1, 0, none⟩) (by simp only; omega) _).setCell (p := ⟨h + 1 + 1, 1, none⟩) (by simp only; omega) _).setCell (p := ⟨h + 1 + 1, 2, none⟩) (by simp only; omega) _) ?_ ?_ hownp hap.out (fun g e => .inl e)
      · exact (Below.heap_setCell _ _ _ _ (by simp only; omega)).trans ((Below.heap_setCell _ _ _ _ (by simp only; omega)).trans (Below.heap_setCell _ _ _ _ (by simp only; omega)))
      · exact Nat.le_of_eq (by rw [setCell_size, setCell_size, setCell_size])
      · exact row_keep M8.out.s fun g e => (Below.heap_setCell _ _ _ _ (by have := howns g e; simp only; omega)).trans ((Below.heap_setCell _ _ _ _ (by have := howns g e; simp only; omega)).trans (Below.heap_setCell _ _ _ _ (by have := howns g e; simp only; omega)))
      · exact row_keep M8.out.s fun g e => (Below.heap_setCell _ _ _ _ (by have := howns g e; simp only; omega)).trans ((Below.heap_setCell _ _ _ _ (by have := howns g e; simp only; omega)).trans (Below.heap_setCell _ _ _ _ (by have := howns g e; simp only; omega)))
    | true =>
      by_cases hil : i + 1 = len
      · have hc : ((i : Int) == (len : Int) - 1) = true := by rw [beq_iff_eq]; omega
        have HXs : Hid (ss' = ss ++ [s]) := Lib.hid (by rw [← HX0.out, if_pos (by rw [← HV.out, decide_eq_true hil]; rfl)])
        have HIL := Lib.hid hil
        clear HV HX0 hil
        have z8 : h + 1 + 1 + 1 < w8.heap.size + 1 := by have := M8.out.d.lt; have := M8.out.z; omega
        have Z8 := Lib.hid z8
        clear z8
        go_wp2_with (at_builtin; refine wpList_append_two _ rfl _ _ 31 rfl n₁ 9 iS _ 16 Tryz.underlying31 hS hSz hSs hSb rfl (.slice ai ss.length ci) (ss.map Value.string) rfl (row_keep M8.out.s fun g e => Below.heap_alloc _ _ _ (World.ownsRow.lt M8.out.s g e).2) _ _ (.string s) rfl (cells1 _ _ _ _ rfl) rfl (by simp only [List.length_map]; unfold maxLen; omega) (by simp only [List.length_map]; omega) (by have := Z8.out; simp only [World.size_alloc]; omega) ?_; intro g9 cap9 w9 Q9 P9 G9 hg9; have D9 := Lib.hid (show RowP w9 D _ _ _ from (G9.block D (by have := M8.out.d.lt; simp only [World.size_alloc]; omega) (fun e => by have := howns D e.symm; have := M8.out.z; omega)).trans ((Below.heap_alloc _ _ _ M8.out.d.lt).trans M8.out.d)); have R9 := Lib.hid (show RowP w9 (h + 1 + 1) _ _ _ from (G9.block (h + 1 + 1) (by have := M8.out.r.lt; simp only [World.size_alloc]; omega) (fun e => by have := howns _ e.symm; omega)).trans ((Below.heap_alloc _ _ _ M8.out.r.lt).trans M8.out.r)); obtain ⟨⟨x0, x1, x2⟩, xf0, xf1, xf2⟩ := D9.out.cells; obtain ⟨⟨y0, y1, y2⟩, yf0, yf1, yf2⟩ := R9.out.cells; have hDh : D ≠ h + 1 + 1 := by have := M8.out.z; omega)
        have Q9' : Hid (RowS n₁ w9 (.slice (some ⟨g9, 0, none⟩) (ss ++ [s]).length cap9) (ss ++ [s])) := Lib.hid (rowS_snoc Q9)
        have P9' : Hid (RowS n₁ w9 (.slice ai ss.length ci) ss) := Lib.hid P9
        have e9 : ss.length + 1 = (ss ++ [s]).length := by simp
        refine ret_place (RowP.put (show RowP (w9.setCell ⟨D, 1, none⟩ _) (h + 1 + 1) _ _ _ from (Below.heap_setCell _ _ _ _ (by simp only; omega)).trans R9.out) _ _ _) rfl rfl rfl ?_
        rw [HXs.out, H7.out, ← HL1.out, e9]
        have far : ∀ (F : World) (v9 u0 u1 u2 : Value), F = ((((w9.setCell ⟨D, 1, none⟩ v9).setCell ⟨h + 1 + 1, 0, none⟩ u0).setCell ⟨h + 1 + 1, 1, none⟩ u1).setCell ⟨h + 1 + 1, 2, none⟩ u2) → ∀ b, b ≠ D → b ≠ h + 1 + 1 → F.heap[b]? = w9.heap[b]? := fun F v9 u0 u1 u2 e b h1 h2 => by
          rw [e]
          exact (Below.heap_setCell _ _ _ _ (by simp only; exact h2)).trans ((Below.heap_setCell _ _ _ _ (by simp only; exact h2)).trans ((Below.heap_setCell _ _ _ _ (by simp only; exact h2)).trans (Below.heap_setCell _ _ _ _ (by simp only; exact h1))))
        refine down_of M8.out HH.out (fun b hb h1 h2 h3 => (far _ _ _ _ _ rfl b h1 h2).trans ((G9.block b (by simp only [World.size_alloc]; omega) (fun e => h3 e.symm)).trans (Below.heap_alloc _ _ _ hb))) ?_ ((((((Below.refl n₁ w8).alloc (by have := Z8.out; omega) _).grown G9 (by have := Z8.out; simp only [World.size_alloc]; omega) (fun k e => (howns k e).1)).setCell (p := ⟨D, 1, none⟩) (by have := M8.out.z; simp only; omega) _).setCell (p := ⟨h + 1 + 1, 0, none⟩) (by simp only; omega) _).setCell (p := ⟨h + 1 + 1, 1, none⟩) (by simp only; omega) _ |>.setCell (p := ⟨h + 1 + 1, 2, none⟩) (by simp only; omega) _) ?_ ?_ hownp hap.out ?_
        · have := G9.size
          simp only [World.size_alloc] at this
          rw [setCell_size, setCell_size, setCell_size, setCell_size]
          omega
        · exact row_keep Q9'.out fun g' e => far _ _ _ _ _ rfl g' (rowS_not Q9'.out D9.out g' e) (rowS_not Q9'.out R9.out g' e)
        · exact row_keep P9'.out fun g' e => far _ _ _ _ _ rfl g' (rowS_not P9'.out D9.out g' e) (rowS_not P9'.out R9.out g' e)
        · exact own_or hg9 (by rw [HH.out]; simp only [World.size_alloc]; have := M8.out.r.lt; omega)
      · have hc : ((i : Int) == (len : Int) - 1) = false := by rw [beq_eq_false_iff_ne]; omega
        have HXs : Hid (ss' = ss) := Lib.hid (by rw [← HX0.out, if_neg (by rw [← HV.out, decide_eq_false hil]; simp)])
        clear HV HX0 hil
        go_wp2
        refine ret_place (RowP.put M8.out.r _ _ _) rfl rfl rfl ?_
        rw [HXs.out, H7.out, ← HL1.out]
        refine down_of M8.out HH.out (fun b _ _ hb _ => ?_) ?_ ((((Below.refl n₁ w8).setCell (p := ⟨h + 1 + 1, 0, none⟩) (by simp only; omega) _).setCell (p := ⟨h + 1 + 1, 1, none⟩) (by simp only; omega) _).setCell (p := ⟨h + 1 + 1, 2, none⟩) (by simp only; omega) _) ?_ ?_ hownp hap.out (fun g e => .inl e)
        · exact (Below.heap_setCell _ _ _ _ (by simp only; omega)).trans ((Below.heap_setCell _ _ _ _ (by simp only; omega)).trans (Below.heap_setCell _ _ _ _ (by simp only; omega)))
        · exact Nat.le_of_eq (by rw [setCell_size, setCell_size, setCell_size])
        · exact row_keep M8.out.s fun g e => (Below.heap_setCell _ _ _ _ (by have := howns g e; simp only; omega)).trans ((Below.heap_setCell _ _ _ _ (by have := howns g e; simp only; omega)).trans (Below.heap_setCell _ _ _ _ (by have := howns g e; simp only; omega)))
        · exact row_keep M8.out.s fun g e => (Below.heap_setCell _ _ _ _ (by have := howns g e; simp only; omega)).trans ((Below.heap_setCell _ _ _ _ (by have := howns g e; simp only; omega)).trans (Below.heap_setCell _ _ _ _ (by have := howns g e; simp only; omega)))
end Go.Proofs.YtgikhpmdpppenaaGreatDoor
namespace Go.Proofs.YtgikhpmdpppenaaGreatDoor
open Go.RowKit Go.Shelf
attribute [local go_sem] Oper.semAt_some
theorem row_of_cell {w : World} {b o : Nat} {v : Value} (h : w.cell? ⟨b, o, none⟩ = some v) : ∃ c t z, w.heap[b]? = some (.cells c t z) := by
  unfold World.cell? at h
  split at h
  · rename_i hh
    exact ⟨_, _, _, hh⟩
  · simp at h
def Sup (w W : World) : Prop := ∀ (b : Nat) (c : Array Value) (t : TypeId) (z : Nat × Nat), w.heap[b]? = some (Obj.cells c t z) → W.heap[b]? = some (Obj.cells c t z)
theorem Sup.cell {w W : World} (h : Sup w W) {b o : Nat} {v : Value} (hc : w.cell? ⟨b, o, none⟩ = some v) : W.cell? ⟨b, o, none⟩ = some v := by
  obtain ⟨c, t, z, e⟩ := row_of_cell hc
  rw [← hc]
  exact World.cell?_of_block (w := w) ((h b c t z e).trans e.symm)
theorem NdR.sup {w W : World} (hs : Sup w W) {t : Nd} {v0 v1 v2 : Value} (h : NdR w t v0 v1 v2) : NdR W t v0 v1 v2 := by
  induction h with
  | mk k s l a cap b o f0 f1 f2 h1 hl hc ha h0 h1' h2 _ ih =>
    exact .mk k s l a cap b o f0 f1 f2 h1 hl hc ha (fun i hi => hs.cell (h0 i hi)) (fun i hi => hs.cell (h1' i hi)) (fun i hi => hs.cell (h2 i hi)) ih
def Kc (O : World → Nat → Prop) (W W' : World) : Prop := W.heap.size ≤ W'.heap.size ∧ (∀ (b : Nat) (c : Array Value) (t : TypeId) (z : Nat × Nat), ¬ O W b → W.heap[b]? = some (Obj.cells c t z) → W'.heap[b]? = some (Obj.cells c t z)) ∧ ∀ b, O W' b → O W b ∨ W.heap.size ≤ b
def Kv (O : World → Nat → Prop) (vp vi : Value) (W W' : World) : Prop := W.heap.size ≤ W'.heap.size ∧ (∀ (b : Nat) (c : Array Value) (t : TypeId) (z : Nat × Nat), ¬ O W b → vp.ownBlock ≠ some b → vi.ownBlock ≠ some b → W.heap[b]? = some (Obj.cells c t z) → W'.heap[b]? = some (Obj.cells c t z)) ∧ ∀ b, O W' b → O W b ∨ W.heap.size ≤ b
def Off (O : World → Nat → Prop) (W : World) (v : Value) : Prop := ∀ g, v.ownBlock = some g → ¬ O W g
def yieldV (l : Nat) : Value := .func (.yield l) #[] #[]
abbrev visitV (yb vb : Nat) : Value := .func (.func 120) #[] #[.pointer (some ⟨yb, 0, none⟩), .pointer (some ⟨vb, 0, none⟩)]
structure Env (O : World → Nat → Prop) (n₁ yb vb l : Nat) (w₀ W : World) : Prop where
  y : W.heap[yb]? = some (.cells #[yieldV l] 115 (0, 0))
  v : W.heap[vb]? = some (.cells #[visitV yb vb] 115 (0, 0))
  yl : yb < n₁
  vl : vb < n₁
  yx : ¬ O W yb
  vx : ¬ O W vb
  s : Sup w₀ W
  z0 : w₀.heap.size ≤ n₁
  x0 : ∀ b, O W b → w₀.heap.size ≤ b
  z : n₁ ≤ W.heap.size
section
variable {O : World → Nat → Prop} {n₁ yb vb l : Nat} {w₀ W W' : World} {vp vi : Value}
theorem Off.kv (hO : Off O W vi) (hz : ∀ g, vi.ownBlock = some g → g < W.heap.size) (h : ∀ b, O W' b → O W b ∨ W.heap.size ≤ b) : Off O W' vi := fun g e hx => by
  rcases h g hx with h1 | h1
  · exact hO g e h1
  · have := hz g e; omega
theorem Env.kv (E : Env O n₁ yb vb l w₀ W) (hp : ∀ g, vp.ownBlock = some g → n₁ ≤ g) (hi : ∀ g, vi.ownBlock = some g → n₁ ≤ g) (h : Kv O vp vi W W') : Env O n₁ yb vb l w₀ W' := by
  have far : ∀ b, b < n₁ → vp.ownBlock ≠ some b ∧ vi.ownBlock ≠ some b := fun b hb => ⟨fun e => by have := hp b e; omega, fun e => by have := hi b e; omega⟩
  have z0 := E.z
  have z1 := E.yl
  have z2 := E.vl
  have z3 := E.z0
  refine ⟨h.2.1 _ _ _ _ E.yx (far _ E.yl).1 (far _ E.yl).2 E.y, h.2.1 _ _ _ _ E.vx (far _ E.vl).1 (far _ E.vl).2 E.v, E.yl, E.vl, fun hx => ?_, fun hx => ?_, fun b c t z e => ?_, E.z0, fun b hx => ?_, Nat.le_trans E.z h.1⟩
  · rcases h.2.2 _ hx with h1 | h1
    · exact E.yx h1
    · omega
  · rcases h.2.2 _ hx with h1 | h1
    · exact E.vx h1
    · omega
  · have hb : b < w₀.heap.size := heap_lt e
    exact h.2.1 b c t z (fun hx => by have := E.x0 b hx; omega) (far b (by omega)).1 (far b (by omega)).2 (E.s b c t z e)
  · rcases h.2.2 _ hx with h1 | h1
    · exact E.x0 b h1
    · omega
theorem Kc.kv (h : Kc O W W') : Kv O vp vi W W' := ⟨h.1, fun b c t z h1 _ _ e => h.2.1 b c t z h1 e, h.2.2⟩
theorem Kv.trans {W'' : World} (a : Kv O vp vi W W') (b : Kv O vp vi W' W'') : Kv O vp vi W W'' := ⟨Nat.le_trans a.1 b.1, fun k c t z h1 h2 h3 e => b.2.1 k c t z (fun hx => by
    rcases a.2.2 k hx with h4 | h4
    · exact h1 h4
    · have := heap_lt e; omega) h2 h3 (a.2.1 k c t z h1 h2 h3 e), fun k hx => by
    have := a.1
    rcases b.2.2 k hx with h4 | h4
    · exact a.2.2 k h4
    · exact .inr (by omega)⟩
theorem Kv.alloc (o : Obj) (hO : ∀ b, O (W.alloc o) b → O W b) : Kv O vp vi W (W.alloc o) := ⟨by simp, fun b c t z _ _ _ e => (Below.heap_alloc _ _ _ (heap_lt e)).trans e, fun b hx => .inl (hO b hx)⟩
theorem Kv.drew (hO : ∀ b, O W.drew b → O W b) : Kv O vp vi W W.drew := ⟨Nat.le_refl _, fun _ _ _ _ _ _ _ e => e, fun b hx => .inl (hO b hx)⟩
end
structure Given (n₁ : Nat) (W : World) (it : It) (vp vi v0 v1 v2 : Value) (ps : List Value) : Prop where
  d : it.d = ps.length
  p : RowI n₁ W vp ps
  i : RowS n₁ W vi it.ins
  t : NdR W it.t v0 v1 v2
theorem row_sup {w w' : World} {base : Nat} {e : TypeId} {v : Value} {xs : List Value} (h : w.ownsRow base e 1 v xs.length xs) (hk : ∀ (g : Nat) (c : Array Value) (t : TypeId) (z : Nat × Nat), v.ownBlock = some g → w.heap[g]? = some (Obj.cells c t z) → w'.heap[g]? = some (Obj.cells c t z)) : w'.ownsRow base e 1 v xs.length xs := by
  refine ⟨h.1, ?_⟩
  rcases h.2 with hn | ⟨g, cap, cur, hv, hb, hg, rest⟩
  · exact .inl hn
  · exact .inr ⟨g, cap, cur, hv, hb, hk g _ _ _ (by rw [hv]; rfl) hg, rest⟩
theorem row_back {w6 w7 : World} {base : Nat} {e : TypeId} {v v' : Value} {xs ys : List Value} (h6 : w6.ownsRow base e 1 v xs.length xs) (h6' : w6.ownsRow base e 1 v' (xs ++ ys).length (xs ++ ys)) (h7 : w7.ownsRow base e 1 v' (xs ++ ys).length (xs ++ ys))
    (hk : ∀ (g : Nat) (c : Array Value) (t : TypeId) (z : Nat × Nat), v.ownBlock = some g → v'.ownBlock ≠ some g → w6.heap[g]? = some (Obj.cells c t z) → w7.heap[g]? = some (Obj.cells c t z)) : w7.ownsRow base e 1 v xs.length xs := by
  rcases h6.2 with hn | ⟨g, cap, cur, rfl, hb, hg, hnn, hm, hs, htk⟩
  · exact ⟨h6.1, .inl hn⟩
  · by_cases hv : v'.ownBlock = some g
    · rcases h6'.2 with ⟨rfl, _⟩ | ⟨g', cap', cur', rfl, hb', hg', hn', hm', hs', htk'⟩
      · cases hv
      · simp only [Value.ownBlock, Option.some.injEq] at hv
        subst hv
        rw [hg] at hg'
        obtain rfl := (Obj.cells.inj (Option.some.inj hg')).1
        obtain rfl : cap = cap' := by omega
        exact row_less h6 h7
    · exact row_sup h6 fun g2 c t z e1 e2 => by
        have : g2 = g := by simp only [Value.ownBlock, Option.some.injEq] at e1; exact e1.symm
        subst this
        exact hk g2 c t z rfl hv e2
theorem rowS_back {n₁ : Nat} {w6 w7 : World} {v v' : Value} {ss ss' ys : List ByteArray} (hys : ss' = ss ++ ys) (h6 : RowS n₁ w6 v ss) (h6' : RowS n₁ w6 v' ss') (h7 : RowS n₁ w7 v' ss')
    (hk : ∀ (g : Nat) (c : Array Value) (t : TypeId) (z : Nat × Nat), v.ownBlock = some g → v'.ownBlock ≠ some g → w6.heap[g]? = some (Obj.cells c t z) → w7.heap[g]? = some (Obj.cells c t z)) : RowS n₁ w7 v ss := by
  subst hys
  unfold RowS at *
  rw [List.map_append] at h6' h7
  exact row_back h6 h6' h7 hk
structure Fr (O : World → Nat → Prop) (n₁ yb vb l : Nat) (w₀ W : World) (h : Nat) (vp vi : Value) (ps : List Value) (ss : List ByteArray) (wd : Bool) (k : Int) (s : ByteArray) (v2 : Value) (w : World) : Prop where
  e : Env O n₁ yb vb l w₀ w
  kv : Kv O vp vi W w
  a : RowP w h vp vi (.bool wd)
  n : Row3 w (h + 1) (.int .i64 k) (.string s) v2
  p : RowI n₁ w vp ps
  i : RowS n₁ w vi ss
  op : Off O w vp
  oi : Off O w vi
  oh : ¬ O w h
  on : ¬ O w (h + 1)
section
variable {O : World → Nat → Prop} {n₁ yb vb l : Nat} {w₀ W : World} {h : Nat} {vp vi : Value} {ps : List Value} {ss : List ByteArray} {wd : Bool} {k : Int} {s : ByteArray} {v2 : Value} {w w' : World}
theorem Fr.step (F : Fr O n₁ yb vb l w₀ W h vp vi ps ss wd k s v2 w) (hh : n₁ ≤ h) (hp : ∀ g, vp.ownBlock = some g → n₁ ≤ g ∧ g < h) (hi : ∀ g, vi.ownBlock = some g → n₁ ≤ g ∧ g < h) (hk : Kv O vp vi w w') (p : RowI n₁ w' vp ps) (i : RowS n₁ w' vi ss) : Fr O n₁ yb vb l w₀ W h vp vi ps ss wd k s v2 w' := by
  have far : ∀ b, h ≤ b → vp.ownBlock ≠ some b ∧ vi.ownBlock ≠ some b := fun b hb => ⟨fun e => by have := hp b e; omega, fun e => by have := hi b e; omega⟩
  have f0 := far h (Nat.le_refl _)
  have f1 := far (h + 1) (by omega)
  have l0 := F.a.lt
  have l1 := F.n.lt
  refine ⟨F.e.kv (fun g e => (hp g e).1) (fun g e => (hi g e).1) hk, F.kv.trans hk, hk.2.1 _ _ _ _ F.oh f0.1 f0.2 F.a, hk.2.1 _ _ _ _ F.on f1.1 f1.2 F.n, p, i, F.op.kv (fun g e => by have := hp g e; omega) hk.2.2, F.oi.kv (fun g e => by have := hi g e; omega) hk.2.2, fun hx => ?_, fun hx => ?_⟩
  · rcases hk.2.2 _ hx with h1 | h1
    · exact F.oh h1
    · omega
  · rcases hk.2.2 _ hx with h1 | h1
    · exact F.on h1
    · omega
theorem Fr.alloc (F : Fr O n₁ yb vb l w₀ W h vp vi ps ss wd k s v2 w) (hh : n₁ ≤ h) (hp : ∀ g, vp.ownBlock = some g → n₁ ≤ g ∧ g < h) (hi : ∀ g, vi.ownBlock = some g → n₁ ≤ g ∧ g < h) (o : Obj) (hO : ∀ b, O (w.alloc o) b → O w b) : Fr O n₁ yb vb l w₀ W h vp vi ps ss wd k s v2 (w.alloc o) :=
  F.step hh hp hi (Kv.alloc o hO) (row_keep F.p fun g e => Below.heap_alloc _ _ _ (World.ownsRow.lt F.p g e).2) (row_keep F.i fun g e => Below.heap_alloc _ _ _ (World.ownsRow.lt F.i g e).2)
theorem Fr.drew (F : Fr O n₁ yb vb l w₀ W h vp vi ps ss wd k s v2 w) (hh : n₁ ≤ h) (hp : ∀ g, vp.ownBlock = some g → n₁ ≤ g ∧ g < h) (hi : ∀ g, vi.ownBlock = some g → n₁ ≤ g ∧ g < h) (hO : ∀ b, O w.drew b → O w b) : Fr O n₁ yb vb l w₀ W h vp vi ps ss wd k s v2 w.drew :=
  F.step hh hp hi (Kv.drew hO) F.p F.i
theorem Fr.cells (F : Fr O n₁ yb vb l w₀ W h vp vi ps ss wd k s v2 w) {X : Nat} {u0 u1 u2 : Value} (x : Row3 w X u0 u1 u2) :
    w.cell? ⟨vb, 0, none⟩ = some (visitV yb vb) ∧ w.cell? ⟨h, 0, none⟩ = some vp ∧ w.cell? ⟨h, 1, none⟩ = some vi ∧ w.cell? ⟨h, 2, none⟩ = some (.bool wd) ∧ w.cell? ⟨h + 1, 0, none⟩ = some (.int .i64 k) ∧ w.cell? ⟨h + 1, 1, none⟩ = some (.string s) ∧ w.cell? ⟨h + 1, 2, none⟩ = some v2 ∧
      w.cell? ⟨X, 0, none⟩ = some u0 ∧ w.cell? ⟨X, 1, none⟩ = some u1 ∧ w.cell? ⟨X, 2, none⟩ = some u2 :=
  ⟨cell_of_row _ _ _ _ _ _ F.e.v, F.a.cells.1.1, F.a.cells.1.2.1, F.a.cells.1.2.2, F.n.cells.1.1, F.n.cells.1.2.1, F.n.cells.1.2.2, x.cells.1.1, x.cells.1.2.1, x.cells.1.2.2⟩
theorem Kv.down (hz : w.heap.size ≤ w'.heap.size) (hk : ∀ b, b < w.heap.size → vp.ownBlock ≠ some b → vi.ownBlock ≠ some b → w'.heap[b]? = w.heap[b]?) (hO : ∀ b, O w' b → O w b) : Kv O vp vi w w' :=
  ⟨hz, fun b _ _ _ _ h1 h2 e => (hk b (heap_lt e) h1 h2).trans e, fun b hx => .inl (hO b hx)⟩
theorem Kv.up {w5 w6 w7 : World} {vp' vi' : Value} (h56 : Kv O vp vi w5 w6) (h67 : Kv O vp' vi' w6 w7) (hp : ∀ g, vp'.ownBlock = some g → vp.ownBlock = some g ∨ w5.heap.size ≤ g) (hi : ∀ g, vi'.ownBlock = some g → vi.ownBlock = some g ∨ w5.heap.size ≤ g) : Kv O vp vi w5 w7 :=
  ⟨Nat.le_trans h56.1 h67.1, fun b c t z h1 h2 h3 e => h67.2.1 b c t z (fun hx => by
    rcases h56.2.2 b hx with h4 | h4
    · exact h1 h4
    · have := heap_lt e; omega) (fun e2 => by
    rcases hp b e2 with h4 | h4
    · exact h2 h4
    · have := heap_lt e; omega) (fun e2 => by
    rcases hi b e2 with h4 | h4
    · exact h3 h4
    · have := heap_lt e; omega) (h56.2.1 b c t z h1 h2 h3 e), fun b hx => by
    have := h56.1
    rcases h67.2.2 b hx with h4 | h4
    · exact h56.2.2 b h4
    · exact .inr (by omega)⟩
end
set_option maxRecDepth 100000 in
set_option maxHeartbeats 2000000 in
theorem visit_any (all : List It) (O : World → Nat → Prop) (n₁ yb vb l : Nat) (w₀ : World) (J Jx : List It → World → Prop)
    (hJN : ∀ pre W, J pre W → pre.length ≤ 90000)
    (hJ : ∀ pre W W', J pre W → Below n₁ W W' → (∀ b, O W b → W'.heap[b]? = W.heap[b]?) → J pre W')
    (hO : ∀ A B, Below n₁ A B → ∀ b, O B b → O A b)
    (hJO : ∀ pre W, J pre W → ∀ b, O W b → b < W.heap.size)
    (hY : ∀ m pre it W vp vi v0 v1 v2 ps, J pre W → pre ++ [it] <+: all → ps.length ≤ pre.length → Given n₁ W it vp vi v0 v1 v2 ps → YieldAt Fence.wide m Tryz.prog l #[.agg #[vp, vi, .bool it.wd], .agg #[v0, v1, v2]] W
      (fun e W' => (e = .returned (.bool true) ∧ J (pre ++ [it]) W' ∧ Kc O W W') ∨ (e = .returned (.bool false) ∧ Jx (pre ++ [it]) W' ∧ Kc O W W')))
    (n : Nat) : ∀ (t : Nd) (W : World) (vp vi v0 v1 v2 : Value) (ps : List Value) (ss : List ByteArray) (wd : Bool) (pre : List It), t.sz ≤ n → NdR w₀ t v0 v1 v2 → Env O n₁ yb vb l w₀ W →
      RowI n₁ W vp ps → RowS n₁ W vi ss → ps.length ≤ pre.length → ss.length ≤ ps.length → J pre W → Off O W vp → Off O W vi → pre ++ preN ps.length ss wd t <+: all →
      Calls Tryz.prog 120 #[.agg #[vp, vi, .bool wd], .agg #[v0, v1, v2], .pointer (some ⟨yb, 0, none⟩), .pointer (some ⟨vb, 0, none⟩)] W fun e W' =>
        ∃ B : Bool, e = .returned (.bool B) ∧ Kv O vp vi W W' ∧ RowI n₁ W' vp ps ∧ RowS n₁ W' vi ss ∧ (if B = true then J (pre ++ preN ps.length ss wd t) W' else ∃ q, q <+: pre ++ preN ps.length ss wd t ∧ Jx q W') := by
  induction n with
  | zero => intro t W vp vi v0 v1 v2 ps ss wd pre h; cases t; simp only [Nd.sz] at h; omega
  | succ n ih =>
    intro t W vp vi v0 v1 v2 ps ss wd pre hsz ht E hp hi hd hsd hj hop hoi hall
    obtain ⟨k, s, l', a, cap, rfl, rfl, rfl, rfl, hs, hl⟩ := ht.form
    obtain ⟨ap, cp, rfl⟩ := row_shape hp
    obtain ⟨ai, ci, rfl⟩ := row_shape hi
    obtain ⟨L, hL⟩ : ∃ L, (ss.map Value.string).length = L := ⟨_, rfl⟩
    rw [hL] at hi hoi ⊢
    rw [List.length_map] at hL
    subst hL
    unfold maxLen at hl
    refine (callsIn_wide (n := 3)).1 ?_
    obtain ⟨h, hh⟩ : ∃ h, W.heap.size = h := ⟨_, rfl⟩
    obtain ⟨W2, hW2⟩ : ∃ W2, (W.alloc (.cells #[.slice ap ps.length cp, .slice ai ss.length ci, .bool wd] 80)).alloc (.cells #[.int .i64 k, .string s, .slice a l'.length cap] 24) = W2 := ⟨_, rfl⟩
    have B1 : Below n₁ W (W.alloc (.cells #[.slice ap ps.length cp, .slice ai ss.length ci, .bool wd] 80)) := (Below.refl _ W).alloc E.z _
    have B2 : Below n₁ W W2 := by rw [← hW2]; exact B1.alloc (by have := E.z; simp only [World.size_alloc]; omega) _
    have K2 : Kv O (.slice ap ps.length cp) (.slice ai ss.length ci) W W2 := by
      rw [← hW2]
      exact (Kv.alloc _ (hO _ _ B1)).trans (Kv.alloc _ (hO _ _ ((Below.refl _ _).alloc (by have := E.z; simp only [World.size_alloc]; omega) _)))
    have hjo := hJO pre W hj
    have O2 : ∀ b, O W2 b → b < h := fun b hb => by rw [← hh]; exact hjo b (hO _ _ B2 b hb)
    have OP2 : Off O W2 (.slice ap ps.length cp) := fun g e hx => hop g e (hO _ _ B2 g hx)
    have OI2 : Off O W2 (.slice ai ss.length ci) := fun g e hx => hoi g e (hO _ _ B2 g hx)
    have OH2 : ¬ O W2 h := fun hx => by have := O2 _ hx; omega
    have ON2 : ¬ O W2 (h + 1) := fun hx => by have := O2 _ hx; omega
    have hownp : ∀ g, (Value.slice ap ps.length cp).ownBlock = some g → n₁ ≤ g ∧ g < h := fun g e => by rw [← hh]; exact World.ownsRow.lt hp g e
    have howns : ∀ g, (Value.slice ai ss.length ci).ownBlock = some g → n₁ ≤ g ∧ g < h := fun g e => by rw [← hh]; exact World.ownsRow.lt hi g e
    have E2 := E.kv (fun g e => (hownp g e).1) (fun g e => (howns g e).1) K2
    have old2 : ∀ b, b < h → W2.heap[b]? = W.heap[b]? := fun b hb => by rw [← hW2]; exact (Below.heap_alloc _ _ _ (by simp only [World.size_alloc]; omega)).trans (Below.heap_alloc _ _ _ (by omega))
    have P2 : RowI n₁ W2 (.slice ap ps.length cp) ps := row_keep hp fun g e => old2 g (hownp g e).2
    have S2 : RowS n₁ W2 (.slice ai ss.length ci) ss := row_keep hi fun g e => old2 g (howns g e).2
    have A2 : RowP W2 h (.slice ap ps.length cp) (.slice ai ss.length ci) (.bool wd) := by rw [← hW2, ← hh]; exact (Below.heap_alloc _ _ _ (by simp only [World.size_alloc]; omega)).trans (World.alloc_heap_new _ _)
    have N2 : Row3 W2 (h + 1) (.int .i64 k) (.string s) (.slice a l'.length cap) := by rw [← hW2, ← hh]; exact alloc_at (by simp)
    have J2 := hJ pre W W2 hj B2 (fun b hb => old2 b (by have := hjo b hb; omega))
    obtain ⟨fn, tmps, assign, body, hy, hR⟩ := hY 2 pre ⟨ps.length, ss, wd, .mk k s l'⟩ W2 (.slice ap ps.length cp) (.slice ai ss.length ci) (.int .i64 k) (.string s) (.slice a l'.length cap) ps J2 (List.IsPrefix.trans ⟨preL (ps.length + 1) ss (if bindK k then ss ++ [s] else ss) (k == 7) l', by simp only [preN]; simp⟩ hall) hd ⟨rfl, P2, S2, ht.sup E2.s⟩
    have y2 : W2.cell? ⟨yb, 0, none⟩ = some (yieldV l) := cell_of_row _ _ _ _ _ _ E2.y
    have v2 : W2.cell? ⟨vb, 0, none⟩ = some (visitV yb vb) := cell_of_row _ _ _ _ _ _ E2.v
    obtain ⟨⟨a0, a1, a2⟩, _⟩ := A2.cells
    obtain ⟨⟨n0, n1, n2⟩, _⟩ := N2.cells
    unfold yieldV at y2
    have HPRE : Hid (preN ps.length ss wd (.mk k s l') = ⟨ps.length, ss, wd, .mk k s l'⟩ :: preL (ps.length + 1) ss (if bindK k then ss ++ [s] else ss) (k == 7) l') := Lib.hid (by simp only [preN])
    have HJN := Lib.hid hJN
    have HJ := Lib.hid hJ
    have HALL := Lib.hid hall
    have HO := Lib.hid hO
    have HJO := Lib.hid hJO
    have HOP2 := Lib.hid OP2
    have HOI2 := Lib.hid OI2
    have HOH2 := Lib.hid OH2
    have HON2 := Lib.hid ON2
    have HIH := Lib.hid ih
    have HT := Lib.hid ht
    have HE2 := Lib.hid E2
    have HK2 := Lib.hid K2
    have HB2 := Lib.hid B2
    have HP2 := Lib.hid P2
    have HS2 := Lib.hid S2
    have HA2 := Lib.hid A2
    have HN2 := Lib.hid N2
    have HH := Lib.hid hh
    have HSZ := Lib.hid hsz
    have hnh : n₁ ≤ h := by rw [← hh]; exact E.z
    clear hall hJN hJ hO hJO hjo O2 OP2 OI2 OH2 ON2 hop hoi B1 ih ht E E2 K2 B2 P2 S2 A2 N2 hp hi hY old2 J2 hj hsz
    refine callsIn_of_wp Tryz.func120 rfl trivial ?_ rfl
    simp only [Tryz.ntmps120, List.size_toArray, List.length_cons, List.length_nil, Nat.reduceAdd, Nat.reduceSub, Array.replicate_succ, Array.replicate_zero, List.push_toArray, List.append_toArray, List.nil_append, List.cons_append]
    gi_wp2_with fail
    refine hR.mono ?_
    clear hR hy
    rintro e W3 (⟨rfl, hJ3, hk3⟩ | ⟨rfl, hJx3, hk3⟩)
    · have nb := trivial
      have P3 := row_sup HP2.out fun g c t z e e2 => hk3.2.1 g c t z (HOP2.out g e) e2
      have S3 := row_sup HS2.out fun g c t z e e2 => hk3.2.1 g c t z (HOI2.out g e) e2
      have F3 := Lib.hid ((⟨HE2.out, HK2.out, HA2.out, HN2.out, HP2.out, HS2.out, HOP2.out, HOI2.out, HOH2.out, HON2.out⟩ : Fr O n₁ yb vb l w₀ W h (.slice ap ps.length cp) (.slice ai ss.length ci) ps ss wd k s (.slice a l'.length cap) W2).step hnh hownp howns hk3.kv P3 S3)
      have J3 := Lib.hid hJ3
      clear hJ3 hk3 nb y2 v2 a0 a1 a2 n0 n1 n2 P3 S3
      obtain ⟨⟨n0, n1, n2⟩, _⟩ := F3.out.n.cells
      gi_wp2_with fail
      refine wpIn_wide.2 ?_
      obtain ⟨il, hil⟩ : ∃ il, (if bindK k then ss ++ [s] else ss) = il := ⟨_, rfl⟩
      rw [hil] at HPRE
      have HIL := Lib.hid hil
      clear hil n0 n1 n2
      go_loopw [17] (fun v wr => ∃ (i : Nat) (pre' : List It), i ≤ l'.length ∧ v = .int .i64 i ∧ Hid (pre' ++ preL (ps.length + 1) ss il (k == 7) (l'.drop i) = pre ++ preN ps.length ss wd (.mk k s l')) ∧ Hid (J pre' wr) ∧ Hid (ps.length + 1 ≤ pre'.length) ∧
        Hid (Fr O n₁ yb vb l w₀ W h (.slice ap ps.length cp) (.slice ai ss.length ci) ps ss wd k s (.slice a l'.length cap) wr)) (fun v _ => l'.length - (intOf v).toNat)
      case atStart => exact ⟨0, _, Nat.zero_le _, rfl, Lib.hid (by rw [HPRE.out, List.drop_zero]; simp), J3, Lib.hid (by simp; omega), F3⟩
      case round =>
        obtain ⟨i, pre', hi, rfl, hrun, hJr, hlen, hF⟩ := hrel
        by_cases hlt : i < l'.length
        · have hlt' : (i : Int) < (l'.length : Int) := by omega
          have hi0 : (0 : Int) ≤ (i : Int) := by omega
          obtain ⟨b, o, k1, s1, l1, a1, c1, rfl, e1, y0, y1, y2, r1⟩ := HT.out.kid i hlt
          have x0 := hF.out.e.s.cell y0
          have x1 := hF.out.e.s.cell y1
          have x2 := hF.out.e.s.cell y2
          have HE1 := Lib.hid e1
          have HR1 := Lib.hid r1
          clear e1 r1 y0 y1 y2
          go_upto_region 6 with fail
          have X5 := Lib.hid (Row3.new wr (.int .i64 k1) (.string s1) (.slice a1 l1.length c1))
          have F5 := Lib.hid (hF.out.alloc hnh hownp howns (.cells #[.int .i64 k1, .string s1, .slice a1 l1.length c1] 24) (HO.out _ _ ((Below.refl _ wr).alloc hF.out.e.z _)))
          have hj5 := HJO.out pre' wr hJr.out
          have B5 : Hid (Below n₁ wr (wr.alloc (.cells #[.int .i64 k1, .string s1, .slice a1 l1.length c1] 24))) := Lib.hid ((Below.refl _ wr).alloc hF.out.e.z _)
          obtain ⟨X, hX⟩ : ∃ X, wr.heap.size = X := ⟨_, rfl⟩
          obtain ⟨w5, hw5⟩ : ∃ w5, wr.alloc (.cells #[.int .i64 k1, .string s1, .slice a1 l1.length c1] 24) = w5 := ⟨_, rfl⟩
          have z5 : w5.heap.size = X + 1 := by rw [← hw5, ← hX]; simp
          have hXh : h ≤ X := by have := hF.out.a.lt; omega
          rw [hX] at X5 hj5
          rw [hw5] at F5 B5 X5
          have Z5 := Lib.hid z5
          rw [hX, hw5]
          have ho5 : ∀ b, O w5.drew b → b < X := fun b hb => hj5 b (HO.out _ _ (show Below n₁ wr w5.drew from B5.out.drew) b hb)
          have HO5 := Lib.hid ho5
          have HJ5 := Lib.hid hj5
          have HOLD5 : Hid (∀ b, b < X → w5.drew.heap[b]? = wr.heap[b]?) := Lib.hid (fun b hb => show w5.heap[b]? = wr.heap[b]? from by rw [← hw5]; exact Below.heap_alloc _ _ _ (by rw [hX]; exact hb))
          have HF5 := Lib.hid (F5.out.drew hnh hownp howns (fun b hb => HO.out w5 w5.drew ((Below.refl _ w5).drew) b hb))
          have S5 := HF5.out.cells (show Row3 w5.drew X _ _ _ from X5.out)
          clear ho5 hj5
          have hdn : Hid (ps.length ≤ 90000) := Lib.hid (by have := HJN.out _ _ hJr.out; have := hlen.out; omega)
          obtain ⟨ss', hss⟩ : ∃ ss', (if (bindK k && decide (i + 1 = l'.length)) = true then ss ++ [s] else ss) = ss' := ⟨_, rfl⟩
          obtain ⟨K7, h7⟩ : ∃ K7, (k == 7) = K7 := ⟨_, rfl⟩
          have CD0 := (fun w (h1 : n₁ ≤ w.heap.size) (h2 : RowI n₁ w (.slice ap ps.length cp) ps) (h3 : RowS n₁ w (.slice ai ss.length ci) ss) => below_any n₁ k s (some ⟨b, o, none⟩) l'.length cap i ap ai cp ci ps ss wd w h1 h2 h3 (by have := hdn.out; omega) (by have := hdn.out; omega) (by unfold maxLen; omega) hlt _ rfl ss' hss)
          rw [h7] at CD0
          have CD := Lib.hid CD0
          clear CD0
          obtain ⟨ys, hys⟩ : ∃ ys, ss' = ss ++ ys := by
            rw [← hss]
            split
            · exact ⟨[s], rfl⟩
            · exact ⟨[], by simp⟩
          have hsl : ss'.length ≤ ps.length + 1 := by
            rw [← hss]
            split
            · simp; omega
            · omega
          have hil2 : (if i + 1 = l'.length then il else ss) = ss' := by
            rw [← hss, ← HIL.out]
            by_cases h1 : i + 1 = l'.length
            · rw [if_pos h1, decide_eq_true h1, Bool.and_true]
            · rw [if_neg h1, decide_eq_false h1, Bool.and_false, if_neg (by simp)]
          have HPL := Lib.hid (preL_drop (d := ps.length + 1) (ins := ss) (il := il) (wd := (k == 7)) hlt)
          rw [hil2, h7] at HPL
          have HL1 : Hid ((ps ++ [Value.int .i64 (i : Int)]).length = ps.length + 1) := Lib.hid (by simp)
          have HPX : Hid (pre' ++ preN (ps ++ [Value.int .i64 (i : Int)]).length ss' K7 (.mk k1 s1 l1) <+: all) := Lib.hid (by
            have hr := hrun.out
            have hpl := HPL.out
            rw [h7, hpl, HE1.out] at hr
            rw [HL1.out]
            refine List.IsPrefix.trans ?_ HALL.out
            rw [← hr, ← List.append_assoc]
            exact List.prefix_append _ _)
          have HYS := Lib.hid hys
          have HSL := Lib.hid hsl
          have HKL := Lib.hid (Nd.kid_lt k s l' i hlt)
          have hnX : ¬ O w5.drew X ∧ (Value.slice ap ps.length cp).ownBlock ≠ some X ∧ (Value.slice ai ss.length ci).ownBlock ≠ some X := ⟨fun hx => by have := HO5.out X hx; omega, fun e => by have := hownp X e; omega, fun e => by have := howns X e; omega⟩
          have HNX := Lib.hid hnX
          have CVf := Lib.hid (fun w7 vp' vi' (E6 : Env O n₁ yb vb l w₀ w7) p6 s6 J6 op6 oi6 => HIH.out (.mk k1 s1 l1) w7 vp' vi' (.int .i64 k1) (.string s1) (.slice a1 l1.length c1) (ps ++ [Value.int .i64 (i : Int)]) ss' K7 pre' (by have := HKL.out; rw [HE1.out] at this; have := HSZ.out; omega) HR1.out E6 p6 s6 (by rw [HL1.out]; exact hlen.out) (by rw [HL1.out]; exact HSL.out) J6 op6 oi6 HPX.out)
          have H77 := Lib.hid h7
          clear h7 hX hw5 z5 hss hys hsl hil2 hnX x0 x1 x2
          go_cut [29] (fun v wx => ∃ B : Bool, v = .bool (!B) ∧ Hid (Fr O n₁ yb vb l w₀ W h (.slice ap ps.length cp) (.slice ai ss.length ci) ps ss wd k s (.slice (some ⟨b, o, none⟩) l'.length cap) wx) ∧
            Hid (if B = true then J (pre' ++ preN (ps.length + 1) ss' K7 (.mk k1 s1 l1)) wx else ∃ q, q <+: pre' ++ preN (ps.length + 1) ss' K7 (.mk k1 s1 l1) ∧ Jx q wx))
          case first =>
            go_region_held3 (fun w' => w'.cell? ⟨vb, 0, none⟩ = some (.func (.func 120) #[] #[.pointer (some ⟨yb, 0, none⟩), .pointer (some ⟨vb, 0, none⟩)]) ∧ w'.cell? ⟨h, 0, none⟩ = some (.slice ap ps.length cp) ∧ w'.cell? ⟨h, 1, none⟩ = some (.slice ai ss.length ci) ∧ w'.cell? ⟨h, 2, none⟩ = some (.bool wd) ∧ w'.cell? ⟨h + 1, 0, none⟩ = some (.int .i64 k) ∧ w'.cell? ⟨h + 1, 1, none⟩ = some (.string s) ∧ w'.cell? ⟨h + 1, 2, none⟩ = some (.slice (some ⟨b, o, none⟩) l'.length cap) ∧ w'.cell? ⟨X, 0, none⟩ = some (.int .i64 k1) ∧ w'.cell? ⟨X, 1, none⟩ = some (.string s1) ∧ w'.cell? ⟨X, 2, none⟩ = some (.slice a1 l1.length c1))
              (first | with_reducible exact S5 | with_reducible exact SS6 | with_reducible exact SS7)
              (first
                | (go_at_call 121; refine (CD.out _ HF5.out.e.z HF5.out.p HF5.out.i).mono ?_; rintro e w6 ⟨ap', ai', cp', ci', rfl, p6, s6, pp6, ss6, z6, k6, b6, o6, oi6⟩; rw [HL1.out] at p6 o6; have O6' := Lib.hid (HO.out _ _ b6); have KD6 : Hid (Kv O (.slice ap ps.length cp) (.slice ai ss.length ci) w5.drew w6) := Lib.hid (Kv.down z6 k6 O6'.out); have F6 := Lib.hid (HF5.out.step hnh hownp howns KD6.out pp6 ss6); have sz5 : w5.drew.heap.size = X + 1 := Z5.out; have PO6 : Hid (Off O w6 (.slice ap' (ps ++ [Value.int .i64 (i : Int)]).length cp')) := Lib.hid (fun g e hx => (o6 g (by rw [HL1.out] at e; exact e)).elim (fun e2 => F6.out.op g e2 hx) (fun h9 => by have := HO5.out g (O6'.out g hx); omega)); have IO6 : Hid (Off O w6 (.slice ai' ss'.length ci')) := Lib.hid (fun g e hx => (oi6 g e).elim (fun e2 => F6.out.oi g e2 hx) (fun h9 => by have := HO5.out g (O6'.out g hx); omega)); have X6 : Row3 w6 X (.int .i64 k1) (.string s1) (.slice a1 l1.length c1) := (k6 X (show X < w5.heap.size by have := Z5.out; omega) HNX.out.2.1 HNX.out.2.2).trans X5.out; have SS6 := F6.out.cells X6; have CV := Lib.hid (CVf.out w6 _ _ F6.out.e p6 s6 (HJ.out pre' wr w6 hJr.out (B5.out.drew.trans b6) (fun b hb => (k6 b (by have := HJ5.out b hb; omega) (fun e => hF.out.op b e hb) (fun e => hF.out.oi b e hb)).trans (HOLD5.out b (HJ5.out b hb)))) (by have := PO6.out; rw [HL1.out] at this; exact this) IO6.out); have Q6 := Lib.hid p6; have T6 := Lib.hid s6; have PP6 := Lib.hid pp6; have TT6 := Lib.hid ss6; have HK6 := Lib.hid k6; have HZ6 := Lib.hid z6; have O6 := Lib.hid o6; have OI6 := Lib.hid oi6; clear p6 s6 pp6 ss6 k6 b6 o6 oi6)
                | (go_at_call 120; refine CV.out.mono ?_; rintro e w7 ⟨B, rfl, kv7, p7, s7, h7⟩; have U7 : Hid (Kv O (.slice ap ps.length cp) (.slice ai ss.length ci) w5.drew w7) := Lib.hid (Kv.up KD6.out kv7 O6.out OI6.out); have V7 : Hid (RowI n₁ w7 (.slice ap ps.length cp) ps) := Lib.hid (row_back PP6.out Q6.out p7 fun g c t z e1 e2 e3 => kv7.2.1 g c t z (F6.out.op g e1) e2 (rows_apart PP6.out T6.out g e1) e3); have I7 : Hid (RowS n₁ w7 (.slice ai ss.length ci) ss) := Lib.hid (rowS_back HYS.out TT6.out T6.out s7 fun g c t z e1 e2 e3 => kv7.2.1 g c t z (F6.out.oi g e1) (fun e4 => rows_apart Q6.out TT6.out g e4 e1) e2 e3); have F7 := Lib.hid (HF5.out.step hnh hownp howns U7.out V7.out I7.out); have SS7 := F7.out.cells (show Row3 w7 X _ _ _ from U7.out.2.1 X _ _ _ HNX.out.1 HNX.out.2.1 HNX.out.2.2 X5.out); have H7 := Lib.hid h7; clear h7 kv7 p7 s7))
            all_goals go_wp2
            all_goals go_meet
            all_goals exact ⟨B, rfl, F7, Lib.hid (by have := H7.out; rw [HL1.out] at this; exact this)⟩
          case rest =>
            obtain ⟨B, rfl, F7, H7⟩ := hcut
            clear S5 CD CVf
            cases B with
            | true =>
              have J7 := Lib.hid (show J (pre' ++ preN (ps.length + 1) ss' K7 (.mk k1 s1 l1)) _ from by have := H7.out; rw [if_pos rfl] at this; exact this)
              clear H7
              go_wp2
              go_roundw
              case rel => exact ⟨i + 1, _, hlt, by push_cast; rfl, Lib.hid (by have hr := hrun.out; rw [H77.out] at hr ⊢; rw [List.append_assoc, ← HE1.out, ← HPL.out]; exact hr), J7, Lib.hid (by have := hlen.out; simp; omega), F7⟩
              case measure => simp [intOf]; omega
            | false =>
              obtain ⟨q, hq, hjx⟩ := (show ∃ q, q <+: pre' ++ preN (ps.length + 1) ss' K7 (.mk k1 s1 l1) ∧ Jx q _ from by have := H7.out; rw [if_neg (by simp)] at this; exact this)
              have HQ := Lib.hid hq
              have HX := Lib.hid hjx
              clear H7 hq hjx
              go_wp2
              go_ret
              refine ⟨false, rfl, F7.out.kv, F7.out.p, F7.out.i, ?_⟩
              rw [if_neg (by simp), ← hrun.out, H77.out, HPL.out, HE1.out]
              exact ⟨q, by rw [← List.append_assoc]; exact HQ.out.trans (List.prefix_append _ _), HX.out⟩
        · have hlt' : ¬ ((i : Int) < (l'.length : Int)) := by omega
          go_wp2
          gi_wp2
          go_ret
          refine ⟨true, rfl, hF.out.kv, hF.out.p, hF.out.i, ?_⟩
          rw [if_pos rfl, ← hrun.out, List.drop_of_length_le (by omega)]
          simp only [preL, List.append_nil]
          exact hJr.out
    · gi_wp2
      go_ret
      refine ⟨false, rfl, HK2.out.trans hk3.kv, row_sup HP2.out fun g c t z e e2 => hk3.2.1 g c t z (HOP2.out g e) e2, row_sup HS2.out fun g c t z e e2 => hk3.2.1 g c t z (HOI2.out g e) e2, ?_⟩
      rw [if_neg (by simp), HPRE.out]
      exact ⟨_, ⟨preL (ps.length + 1) ss (if bindK k then ss ++ [s] else ss) (k == 7) l', by simp⟩, hJx3⟩
end Go.Proofs.YtgikhpmdpppenaaGreatDoor
namespace Go.Proofs.YtgikhpmdpppenaaGreatDoor
open Go.RowKit Go.Shelf
attribute [local go_sem] Oper.semAt_some
set_option maxRecDepth 100000 in
set_option maxHeartbeats 400000 in
theorem walk_any (k : Int) (s : ByteArray) (a : Option Addr) (n cap : Nat) (w : World) :
    Calls Tryz.prog 69 #[.agg #[.int .i64 k, .string s, .slice a n cap]] w fun e w' => e = .returned (.func (.func 119) #[] #[.pointer (some ⟨w.heap.size, 0, none⟩)]) ∧ w' = w.alloc (.cells #[.int .i64 k, .string s, .slice a n cap] 24) := by
  have hmf : ∀ (fn : Fn) (first cap : Array Value) (w : World), (Instr.makeFunc fn first cap).run Tryz.prog w = .ok (.func fn first cap) w := fun _ _ _ _ => rfl
  go_enter Tryz.func69, Tryz.ntmps69
  go_wp2
  go_ret
  exact ⟨rfl, rfl⟩
set_option maxRecDepth 100000 in
set_option maxHeartbeats 2000000 in
theorem walkI_any (O : World → Nat → Prop) (l nb : Nat) (w₀ W : World) (J Jx : List It → World → Prop) (k : Int) (s : ByteArray) (kids : List Nd) (a : Option Addr) (cap : Nat)
    (hJN : ∀ pre W, J pre W → pre.length ≤ 90000)
    (hJ : ∀ pre A B, J pre A → Below W.heap.size A B → (∀ b, O A b → B.heap[b]? = A.heap[b]?) → J pre B)
    (hO : ∀ A B, Below W.heap.size A B → ∀ b, O B b → O A b)
    (hJO : ∀ pre A, J pre A → ∀ b, O A b → b < A.heap.size)
    (hY : ∀ m pre it A vp vi v0 v1 v2 n₁ ps, W.heap.size ≤ n₁ → J pre A → pre ++ [it] <+: preN 0 [] false (.mk k s kids) → ps.length ≤ pre.length → Given n₁ A it vp vi v0 v1 v2 ps → YieldAt Fence.wide m Tryz.prog l #[.agg #[vp, vi, .bool it.wd], .agg #[v0, v1, v2]] A
      (fun e W' => (e = .returned (.bool true) ∧ J (pre ++ [it]) W' ∧ Kc O A W') ∨ (e = .returned (.bool false) ∧ Jx (pre ++ [it]) W' ∧ Kc O A W')))
    (ht : NdR w₀ (.mk k s kids) (.int .i64 k) (.string s) (.slice a kids.length cap)) (hn : Row3 W nb (.int .i64 k) (.string s) (.slice a kids.length cap)) (hs : Sup w₀ W) (hz : w₀.heap.size ≤ W.heap.size) (hx0 : ∀ b, O W b → w₀.heap.size ≤ b) (h0 : J [] W) :
    Calls Tryz.prog 119 #[.func (.yield l) #[] #[], .pointer (some ⟨nb, 0, none⟩)] W fun e w' => (∃ v, e = .returned v) ∧ ((J (preN 0 [] false (.mk k s kids)) w') ∨ ∃ q, q <+: preN 0 [] false (.mk k s kids) ∧ Jx q w') := by
  have hmf : ∀ (fn : Fn) (first cap : Array Value) (w : World), (Instr.makeFunc fn first cap).run Tryz.prog w = .ok (.func fn first cap) w := fun _ _ _ _ => rfl
  obtain ⟨h, hh⟩ : ∃ h, W.heap.size = h := ⟨_, rfl⟩
  rw [hh] at hz hJ hO hY
  obtain ⟨W3, hW3⟩ : ∃ W3, (W.alloc (.cells #[yieldV l] 115)).alloc (.cells #[visitV h (h + 1)] 115) = W3 := ⟨_, rfl⟩
  have z3 : W3.heap.size = h + 1 + 1 := by rw [← hW3]; simp [hh]
  have old : ∀ b, b < h → W3.heap[b]? = W.heap[b]? := fun b hb => by rw [← hW3]; exact (Below.heap_alloc _ _ _ (by simp only [World.size_alloc]; omega)).trans (Below.heap_alloc _ _ _ (by omega))
  have B3 : Below h W W3 := by rw [← hW3]; exact ((Below.refl _ W).alloc (by omega) _).alloc (by simp only [World.size_alloc]; omega) _
  have O3 : ∀ b, O W3 b → O W b := hO _ _ B3
  have hx1 : ∀ b, O W b → b < h := fun b hb => by rw [← hh]; exact hJO [] W h0 b hb
  have E3 : Env O (h + 1 + 1) h (h + 1) l w₀ W3 := by
    refine ⟨?_, ?_, by omega, by omega, fun hx => by have := hx1 _ (O3 _ hx); omega, fun hx => by have := hx1 _ (O3 _ hx); omega, fun b c t z e => (old b (by have := heap_lt e; omega)).trans (hs b c t z e), by omega, fun b hx => hx0 b (O3 b hx), by omega⟩
    · rw [← hW3, ← hh]; exact (Below.heap_alloc _ _ _ (by simp only [World.size_alloc]; omega)).trans (World.alloc_heap_new _ _)
    · rw [← hW3]; exact alloc_at (by simp [hh])
  have C := visit_any (preN 0 [] false (.mk k s kids)) O (h + 1 + 1) h (h + 1) l w₀ J Jx hJN (fun pre A B hj hb hk => hJ pre A B hj (hb.mono (by omega)) hk) (fun A B hb => hO A B (hb.mono (by omega))) hJO (fun m pre it A vp vi v0 v1 v2 ps hj hal hd hg => hY m pre it A vp vi v0 v1 v2 _ ps (by omega) hj hal hd hg) _ (.mk k s kids) W3 (.slice none 0 0) (.slice none 0 0) _ _ _ [] [] false [] (Nat.le_refl _) ht E3 (World.ownsRow_nil _ _ _ _) (World.ownsRow_nil _ _ _ _) (Nat.le_refl _) (Nat.le_refl _) (hJ [] W W3 h0 B3 (fun b hb => old b (hx1 b hb))) (fun g e => by cases e) (fun g e => by cases e) (List.prefix_refl _)
  have HC := Lib.hid C
  have N3 := (show Row3 W3 nb _ _ _ from (old nb (by have := hn.lt; omega)).trans hn)
  have n00 := hn.lt
  rw [hh] at n00
  clear C hJN hJ hO hJO hY ht hs hx0 hx1 h0 O3
  obtain ⟨⟨n0, n1, n2⟩, _⟩ := N3.cells
  have v3 : W3.cell? ⟨h + 1, 0, none⟩ = some (.func (.func 120) #[] #[.pointer (some ⟨h, 0, none⟩), .pointer (some ⟨h + 1, 0, none⟩)]) := cell_of_row _ _ _ _ _ _ E3.v
  have Z3 := Lib.hid z3
  clear E3 B3 old z3 hn N3
  go_enter Tryz.func119, Tryz.ntmps119
  go_upto_region 3 with fail
  have hW3' : (W.alloc (.cells #[.func (.yield l) #[] #[]] 115)).alloc (.cells #[.func (.func 120) #[] #[.pointer (some ⟨h, 0, none⟩), .pointer (some ⟨h + 1, 0, none⟩)]] 115) = W3 := hW3
  rw [hW3']
  clear hW3 hW3'
  go_wp2_with fail
  refine HC.out.mono ?_
  rintro e w7 ⟨B, rfl, _, _, _, h7⟩
  have H7 := Lib.hid h7
  clear h7 HC n0 n1 n2 v3
  go_wp2
  go_end0
  refine ⟨⟨_, rfl⟩, ?_⟩
  have h7 := H7.out
  simp only [List.nil_append, List.length_nil] at h7
  cases B
  · rw [if_neg (by simp)] at h7; exact .inr h7
  · rw [if_pos rfl] at h7; exact .inl h7
end Go.Proofs.YtgikhpmdpppenaaGreatDoor
namespace Go.Proofs.YtgikhpmdpppenaaGreatDoor
open Go.RowKit Go.Shelf
attribute [local go_sem] Oper.semAt_some
structure JM (h T : Nat) (w : World) (nn lv : Nat) (rl : Loop) (W : World) : Prop where
  b : Below h w W
  z : T + 1 + 1 < W.heap.size
  d : W.heap[T + 1]? = some (.deferred (some []))
  l : W.heap[T + 1 + 1]? = some (.loop rl)
  n : W.heap[h + 1]? = some (.cells #[.int .i64 nn] 3 (0, 0))
  v : W.heap[h + 1 + 1]? = some (.cells #[.int .i64 lv] 3 (0, 0))
theorem JM.below {h T : Nat} {w A B : World} {nn lv : Nat} {rl : Loop} {N : Nat} (j : JM h T w nn lv rl A) (hb : Below N A B) (hN : T + 1 + 1 < N) (hT : h + 1 + 1 < T) : JM h T w nn lv rl B :=
  ⟨j.b.trans (hb.mono (by omega)), Nat.lt_of_lt_of_le j.z hb.size, (hb.block _ (by omega)).trans j.d, (hb.block _ (by omega)).trans j.l, (hb.block _ (by omega)).trans j.n, (hb.block _ (by omega)).trans j.v⟩
set_option maxRecDepth 100000 in
set_option maxHeartbeats 2000000 in
theorem measure_any (t : Nd) (w : World) (v0 v1 v2 : Value) (ht : NdR w t v0 v1 v2) :
    Calls Tryz.prog 51 #[.agg #[v0, v1, v2]] w fun e w' => ∃ lv : Nat, e = .returned (.tuple #[.int .i64 ((min t.sz 4001 : Nat) : Int), .int .i64 (lv : Int)]) ∧ (t.sz ≤ 4000 → lv = t.dp) ∧ Below w.heap.size w w' := by
  obtain ⟨k, s, kids, a, cap, rfl, rfl, rfl, rfl, hs, hl⟩ := ht.form
  have eg : ∀ args w, (callFunc 119 args).run Tryz.prog w = .ok (.enter 119 args) w := enters_of Tryz.func119 (by kernel_rfl) rfl
  refine (callsIn_wide (n := 6)).1 ?_
  refine callsIn_of_wpAt Tryz.func51 rfl ?_
  simp only [Tryz.ntmps51, List.size_toArray, List.length_cons, List.length_nil, Nat.reduceAdd, Nat.reduceSub, Array.replicate_succ, Array.replicate_zero, List.push_toArray, List.append_toArray, List.nil_append, List.cons_append]
  refine wpAt_seq (wpAt_of_wpIn ?_)
  gi_wp2
  refine wpAt_seq (wpAt_seq (wpAt_of_wpIn ?_))
  gi_wp2_with fail
  refine ⟨trivial, ((callsIn_wide (n := 5)).2 (walk_any k s a kids.length cap _)).mono ?_⟩
  rintro e w2 ⟨rfl, rfl⟩
  gi_wp2
  refine wpAt_block (wpAt_rangeFunc_fn (gf := 119) (lb := #[.pointer (some ⟨w.heap.size + 1 + 1 + 1, 0, none⟩)]) rfl eg ?_)
  intro r hr
  have hr1 : r.state = .ready := by rw [hr]
  have hr2 : r.pending = none := by rw [hr]
  have hr3 : r.params = #[7, 8] := by rw [hr]
  obtain ⟨h, hh⟩ : ∃ h, w.heap.size = h := ⟨_, rfl⟩
  rw [hh] at hr
  obtain ⟨w3, hw3⟩ : ∃ w3, (((w.alloc (Obj.cells #[Value.int IntKind.i64 k, Value.string s, Value.slice a kids.length cap] 24)).alloc (Obj.cells #[Value.int IntKind.i64 0] 3)).alloc (Obj.cells #[Value.int IntKind.i64 0] 3)).alloc (Obj.cells #[Value.int IntKind.i64 k, Value.string s, Value.slice a kids.length cap] 24) = w3 := ⟨_, rfl⟩
  have z3 : w3.heap.size = h + 1 + 1 + 1 + 1 := by rw [← hw3]; simp [hh]
  have hB3 : Below h w w3 := by
    rw [← hw3, ← hh]; exact ((((Below.refl _ w).alloc (Nat.le_refl _) _).alloc (by simp) _).alloc (by simp only [World.size_alloc]; omega) _).alloc (by simp only [World.size_alloc]; omega) _
  have b1 : w3.heap[h + 1]? = some (.cells #[.int .i64 0] 3 (0, 0)) := by
    rw [← hw3]; exact (Below.heap_alloc _ _ _ (by simp only [World.size_alloc]; omega)).trans ((Below.heap_alloc _ _ _ (by simp only [World.size_alloc]; omega)).trans (alloc_at (by simp [hh])))
  have b2 : w3.heap[h + 1 + 1]? = some (.cells #[.int .i64 0] 3 (0, 0)) := by
    rw [← hw3]; exact (Below.heap_alloc _ _ _ (by simp only [World.size_alloc]; omega)).trans (alloc_at (by simp [hh]))
  obtain ⟨T, hT⟩ : ∃ T, h + 1 + 1 + 1 = T := ⟨_, rfl⟩
  have b3 : Row3 w3 T (.int .i64 k) (.string s) (.slice a kids.length cap) := by
    rw [← hw3, ← hT]; exact alloc_at (by simp [hh])
  rw [hw3, hh]
  rw [hT] at z3 ⊢
  have HT := Lib.hid hT
  clear hw3
  obtain ⟨W1, hW1⟩ : ∃ W1, (w3.alloc (.deferred (some []))).alloc (.loop r) = W1 := ⟨_, rfl⟩
  have old : ∀ b, b < w3.heap.size → W1.heap[b]? = w3.heap[b]? := fun b hb => by rw [← hW1]; exact (Below.heap_alloc _ _ _ (by simp only [World.size_alloc]; omega)).trans (Below.heap_alloc _ _ _ hb)
  have zW1 : W1.heap.size = T + 1 + 1 + 1 := by rw [← hW1]; simp [z3]
  have hd1 : W1.heap[T + 1]? = some (.deferred (some [])) := by rw [← hW1]; exact (Below.heap_alloc _ _ _ (by simp only [World.size_alloc]; omega)).trans (alloc_at (by omega))
  have hl1 : W1.heap[T + 1 + 1]? = some (.loop r) := by rw [← hW1]; exact alloc_at (by simp only [World.size_alloc]; omega)
  have hB1 : Below h w W1 := by rw [← hW1]; exact (hB3.alloc (by omega) _).alloc (by simp only [World.size_alloc]; omega) _
  have j0 : JM h T w 0 0 r W1 := ⟨hB1, by omega, hd1, hl1, (old _ (by omega)).trans b1, (old _ (by omega)).trans b2⟩
  have hsup : Sup w W1 := fun b c t z e => by
    have hb := heap_lt e
    rw [hh] at hb
    exact (hB1.block b hb).trans e
  have hcall : CallsIn Fence.wide 5 Tryz.prog 119 #[.func (.yield (T + 1 + 1)) #[] #[], .pointer (some ⟨T, 0, none⟩)] W1
      (fun e w' => (∃ v, e = .returned v) ∧ ((((preN 0 [] false (.mk k s kids)).length ≤ 4000 ∧ lvs (preN 0 [] false (.mk k s kids)) ≤ (preN 0 [] false (.mk k s kids)).length) ∧ JM h T w (preN 0 [] false (.mk k s kids)).length (lvs (preN 0 [] false (.mk k s kids))) r w') ∨ ∃ q, q <+: preN 0 [] false (.mk k s kids) ∧ q.length = 4001 ∧ JM h T w 4001 (lvs q) { r with state := .done, pending := some (.exit 0) } w')) := by
    refine (callsIn_wide (n := 5)).2 ?_
    refine walkI_any (fun _ b => b = h + 1 ∨ b = h + 1 + 1) (T + 1 + 1) T w W1 (fun pre W => (pre.length ≤ 4000 ∧ lvs pre ≤ pre.length) ∧ JM h T w pre.length (lvs pre) r W) (fun q W => q.length = 4001 ∧ JM h T w 4001 (lvs q) { r with state := .done, pending := some (.exit 0) } W) k s kids a cap
      (fun pre W hj => by have := hj.1.1; omega) (fun pre A B hj hb _ => ⟨hj.1, hj.2.below hb (by omega) (by omega)⟩) (fun _ _ _ b hb => hb) (fun pre A hj b hb => by have := hj.2.z; omega) ?_ ht ((old T (by omega)).trans b3) hsup (by omega) (fun b hb => by omega) ⟨⟨by simp, by simp [lvs]⟩, j0⟩
    intro m pre it A vp vi u0 u1 u2 n₁ ps hn1 hj _ hpd hg
    obtain ⟨R, hR⟩ : ∃ R : Ending → World → Prop, (fun e W' => (e = .returned (.bool true) ∧ ((((pre ++ [it]).length ≤ 4000 ∧ lvs (pre ++ [it]) ≤ (pre ++ [it]).length) ∧ JM h T w (pre ++ [it]).length (lvs (pre ++ [it])) r W')) ∧ Kc (fun _ b => b = h + 1 ∨ b = h + 1 + 1) A W') ∨ (e = .returned (.bool false) ∧ ((pre ++ [it]).length = 4001 ∧ JM h T w 4001 (lvs (pre ++ [it])) { r with state := .done, pending := some (.exit 0) } W') ∧ Kc (fun _ b => b = h + 1 ∨ b = h + 1 + 1) A W')) = R := ⟨_, rfl⟩
    show YieldAt Fence.wide m Tryz.prog (T + 1 + 1) _ A (fun e W' => (e = .returned (.bool true) ∧ ((((pre ++ [it]).length ≤ 4000 ∧ lvs (pre ++ [it]) ≤ (pre ++ [it]).length) ∧ JM h T w (pre ++ [it]).length (lvs (pre ++ [it])) r W')) ∧ Kc (fun _ b => b = h + 1 ∨ b = h + 1 + 1) A W') ∨ (e = .returned (.bool false) ∧ ((pre ++ [it]).length = 4001 ∧ JM h T w 4001 (lvs (pre ++ [it])) { r with state := .done, pending := some (.exit 0) } W') ∧ Kc (fun _ b => b = h + 1 ∨ b = h + 1 + 1) A W'))
    rw [hR]
    have HR := Lib.hid hR; clear hR
    obtain ⟨⟨hpl, hlvp⟩, hjm⟩ := hj
    obtain ⟨hgd, hgp, hgi, hgt⟩ := hg
    obtain ⟨ap, cp, rfl⟩ := row_shape hgp
    obtain ⟨ai, ci, rfl⟩ := row_shape hgi
    obtain ⟨k1, s1, l1, a1, c1, ht1, rfl, rfl, rfl, _, _⟩ := hgt.form
    refine ⟨_, _, _, _, run_yield (P := Tryz.prog) hjm.l (by rw [hr3]; rfl), ?_⟩
    have hr4 : r.fn = 51 := by rw [hr]
    rw [hr4]
    refine roundIn_of_wpIn_p trivial Tryz.func51 ?_
    have hrs := hr1
    have HJ := Lib.hid hjm
    have HRR := Lib.hid hr
    have HGD := Lib.hid hgd
    simp only [hr]
    clear hgp hgi hgt hjm hr hr1 hr2 hr3 hr4
    gi_wp2
    refine ⟨_, run_beginRound (r := r) ((Below.heap_alloc _ _ _ (heap_lt HJ.out.l)).trans HJ.out.l) hrs, ?_⟩
    obtain ⟨N, hN⟩ : ∃ N, A.heap.size = N := ⟨_, rfl⟩
    obtain ⟨W2, hW2⟩ : ∃ W2, (A.alloc (.cells #[.slice ap ps.length cp, .slice ai it.ins.length ci, .bool it.wd] 80)).putObj (T + 1 + 1) (.loop { r with state := .busy }) = W2 := ⟨_, rfl⟩
    have hTN : T + 1 + 1 < N := by have := HJ.out.z; omega
    have ko : ∀ b, b < N → b ≠ T + 1 + 1 → W2.heap[b]? = A.heap[b]? := fun b hb1 hb2 => by
      rw [← hW2]; exact (World.putObj_heap_other hb2).trans (Below.heap_alloc _ _ _ (by omega))
    have mz : W2.heap.size = N + 1 := by rw [← hW2, World.putObj_size, World.size_alloc, hN]
    have m5 : W2.heap[T + 1 + 1]? = some (.loop { r with state := .busy }) := by rw [← hW2]; exact World.putObj_heap_same (by rw [World.size_alloc]; omega)
    have mt : RowP W2 N (.slice ap ps.length cp) (.slice ai it.ins.length ci) (.bool it.wd) := by
      rw [← hW2, ← hN]; exact (World.putObj_heap_other (by omega)).trans (World.alloc_heap_new _ _)
    have mb : Below h w W2 := by rw [← hW2]; exact below_put (HJ.out.b.alloc (by omega) _) _ _ (by omega)
    have mn := (ko (h + 1) (by omega) (by omega)).trans HJ.out.n
    have mv := (ko (h + 1 + 1) (by omega) (by omega)).trans HJ.out.v
    have md := (ko (T + 1) (by omega) (by omega)).trans HJ.out.d
    have mk : Kc (fun _ b => b = h + 1 ∨ b = h + 1 + 1) A W2 := ⟨by omega, fun b c t z _ e => (ko b (by have := heap_lt e; omega) (by rintro rfl; rw [HJ.out.l] at e; cases e)).trans e, fun b hb => .inl hb⟩
    rw [hW2, hN]
    have c1 : W2.cell? ⟨h + 1, 0, none⟩ = some (.int .i64 pre.length) := cell_of_row _ _ _ _ _ _ mn
    have c2 : W2.cell? ⟨h + 1 + 1, 0, none⟩ = some (.int .i64 (lvs pre)) := cell_of_row _ _ _ _ _ _ mv
    have g1 : W2.frozen? ⟨h + 1, 0, none⟩ = false := frozen_of_row _ _ _ _ _ mn
    have g2 : W2.frozen? ⟨h + 1 + 1, 0, none⟩ = false := frozen_of_row _ _ _ _ _ mv
    obtain ⟨⟨p0, p1, p2⟩, _⟩ := mt.cells
    have HM := Lib.hid (show (Below h w W2 ∧ W2.heap.size = N + 1 ∧ W2.heap[T + 1 + 1]? = some (.loop { r with state := .busy }) ∧ W2.heap[T + 1]? = some (.deferred (some [])) ∧ W2.heap[h + 1]? = some (.cells #[.int .i64 pre.length] 3 (0, 0)) ∧ W2.heap[h + 1 + 1]? = some (.cells #[.int .i64 (lvs pre)] 3 (0, 0))) from ⟨mb, mz, m5, md, mn, mv⟩)
    have HK := Lib.hid mk
    have HN := Lib.hid hN
    obtain ⟨LV, hLV⟩ : ∃ LV, lvs pre = LV := ⟨_, rfl⟩
    obtain ⟨PL, hPL⟩ : ∃ PL, pre.length = PL := ⟨_, rfl⟩
    obtain ⟨D, hD⟩ : ∃ D, ps.length = D := ⟨_, rfl⟩
    have hlv : LV ≤ PL := by omega
    have hdd : D ≤ PL := by omega
    rw [hLV] at c2 HM
    rw [hPL] at c1 hpl HM
    clear hlvp hpd
    rw [hD] at p0
    have HLV := Lib.hid hLV
    have HPL := Lib.hid hPL
    have HDD := Lib.hid hD
    clear ko mz m5 mb mn mv md mk hW2 hN hLV hPL hD mt
    have eM : ((max LV (D + 1) : Nat) : Int) = max (LV : Int) ((D : Int) + 1) := by omega
    have EM := Lib.hid eM
    have fin : ∀ rl : Loop, JM h T w (PL + 1) (max LV (D + 1)) rl (((W2.setCell ⟨h + 1, 0, none⟩ (.int .i64 ((PL : Int) + 1))).setCell ⟨h + 1 + 1, 0, none⟩ (.int .i64 (max (LV : Int) ((D : Int) + 1)))).putObj (T + 1 + 1) (.loop rl)) ∧
        Kc (fun _ b => b = h + 1 ∨ b = h + 1 + 1) A (((W2.setCell ⟨h + 1, 0, none⟩ (.int .i64 ((PL : Int) + 1))).setCell ⟨h + 1 + 1, 0, none⟩ (.int .i64 (max (LV : Int) ((D : Int) + 1)))).putObj (T + 1 + 1) (.loop rl)) ∧
        ((W2.setCell ⟨h + 1, 0, none⟩ (.int .i64 ((PL : Int) + 1))).setCell ⟨h + 1 + 1, 0, none⟩ (.int .i64 (max (LV : Int) ((D : Int) + 1)))).heap[T + 1 + 1]? = some (.loop { r with state := .busy }) := by
      intro rl
      obtain ⟨mb, mz, m5, md, mn, mv⟩ := HM.out
      have hT0 := HT.out
      obtain ⟨W5, hW5⟩ : ∃ W5, (W2.setCell ⟨h + 1, 0, none⟩ (.int .i64 ((PL : Int) + 1))).setCell ⟨h + 1 + 1, 0, none⟩ (.int .i64 (max (LV : Int) ((D : Int) + 1))) = W5 := ⟨_, rfl⟩
      have far : ∀ b, b ≠ h + 1 → b ≠ h + 1 + 1 → W5.heap[b]? = W2.heap[b]? := fun b h1 h2 => by
        rw [← hW5]; exact (Below.heap_setCell _ _ _ _ (by simp only; exact h2)).trans (Below.heap_setCell _ _ _ _ (by simp only; exact h1))
      have s1 : W5.heap[h + 1]? = some (.cells #[.int .i64 ((PL + 1 : Nat) : Int)] 3 (0, 0)) := by
        rw [← hW5]; exact (Below.heap_setCell _ _ _ _ (by simp only; omega)).trans (heap_setCell_same _ _ 0 _ _ _ mn)
      have s2 : W5.heap[h + 1 + 1]? = some (.cells #[.int .i64 ((max LV (D + 1) : Nat) : Int)] 3 (0, 0)) := by
        rw [← hW5, EM.out]; exact heap_setCell_same _ _ 0 _ _ _ ((Below.heap_setCell _ _ _ _ (by simp only; omega)).trans mv)
      have sz : W5.heap.size = W2.heap.size := by rw [← hW5]; simp [setCell_size]
      have sb : Below h w W5 := by
        rw [← hW5]; exact (mb.setCell (p := ⟨h + 1, 0, none⟩) (by simp only; omega) _).setCell (p := ⟨h + 1 + 1, 0, none⟩) (by simp only; omega) _
      have l5 : W5.heap[T + 1 + 1]? = some (.loop { r with state := .busy }) := (far _ (by omega) (by omega)).trans m5
      have po : ∀ b, b ≠ T + 1 + 1 → (W5.putObj (T + 1 + 1) (.loop rl)).heap[b]? = W5.heap[b]? := fun b hb => World.putObj_heap_other hb
      rw [hW5]
      refine ⟨⟨below_put sb _ _ (by omega), by rw [World.putObj_size]; omega, (po _ (by omega)).trans ((far _ (by omega) (by omega)).trans md), World.putObj_heap_same (by omega), (po _ (by omega)).trans s1, (po _ (by omega)).trans s2⟩, ⟨by rw [World.putObj_size, sz]; exact HK.out.1, fun b c t z hb e => ?_, fun b hb => .inl hb⟩, l5⟩
      have hb1 : b ≠ T + 1 + 1 := by rintro rfl; rw [HJ.out.l] at e; cases e
      exact (po b hb1).trans ((far b (fun h1 => hb (.inl h1)) (fun h1 => hb (.inr h1))).trans (HK.out.2.1 b c t z hb e))
    have HF := Lib.hid fin
    have e0 : ({ ({ r with state := .busy } : Loop) with state := .ready, pending := none } : Loop) = r := by rw [HRR.out]
    have E0 := Lib.hid e0
    have HLS : Hid (lvs (pre ++ [it]) = max LV (D + 1)) := Lib.hid (by rw [lvs_snoc, HLV.out, HGD.out, HDD.out])
    have HPS : Hid ((pre ++ [it]).length = PL + 1) := Lib.hid (by rw [List.length_append, HPL.out]; rfl)
    clear fin e0 eM
    by_cases hc : PL < 4000
    · have hc' : ¬ (4000 < (PL : Int) + 1) := by omega
      gi_wp2
      refine ⟨_, _, run_endRound none (HF.out r).2.2, ?_⟩
      simp only [Option.isNone_none, if_true]
      rw [E0.out, ← HR.out]
      exact .inl ⟨rfl, ⟨⟨by rw [HPS.out]; omega, by rw [HPS.out, HLS.out]; omega⟩, by rw [HPS.out, HLS.out]; exact (HF.out r).1⟩, (HF.out r).2.1⟩
    · have hc' : (4000 < (PL : Int) + 1) := by omega
      gi_wp2
      refine ⟨_, _, run_endRound (some (.exit 0)) (HF.out r).2.2, ?_⟩
      simp only [Option.isNone_some, Bool.false_eq_true, if_false]
      rw [← HR.out]
      have hp4 : PL + 1 = 4001 := by omega
      have hj := (HF.out { r with state := .done, pending := some (.exit 0) }).1
      rw [hp4] at hj
      exact .inr ⟨rfl, ⟨by rw [HPS.out]; omega, by rw [HLS.out]; exact hj⟩, (HF.out _).2.1⟩
  rw [z3, hW1]
  refine hcall.mono ?_
  clear hcall j0 hsup hd1 hl1 old b1 b2 b3 hB3 hB1
  have HSZ := Lib.hid (preN_len 0 [] false (.mk k s kids))
  have HDP := Lib.hid (lvs_preN 0 [] false (.mk k s kids))
  rintro e w' ⟨⟨v0, rfl⟩, ⟨⟨hp4, _⟩, j⟩ | ⟨q, hq, hql, j⟩⟩
  · refine ⟨none, w'.putObj (T + 1 + 1) (.loop { r with state := .exhausted }), ?_, ?_⟩
    · refine (run_endLoop (P := Tryz.prog) j.l (by rw [hr1]; simp)).trans ?_
      rw [hr2]
    · rw [HSZ.out] at hp4 j
      rw [HDP.out, Nat.zero_add] at j
      obtain ⟨NN, hNN⟩ : ∃ NN, (Nd.mk k s kids).sz = NN := ⟨_, rfl⟩
      obtain ⟨LL, hLL⟩ : ∃ LL, (Nd.mk k s kids).dp = LL := ⟨_, rfl⟩
      rw [hNN] at hp4 j
      rw [hLL] at j
      have HNN := Lib.hid hNN
      have HLL := Lib.hid hLL
      have HP4 := Lib.hid hp4
      clear hNN hLL hp4
      obtain ⟨W4, hW4⟩ : ∃ W4, w'.putObj (T + 1 + 1) (.loop { r with state := .exhausted }) = W4 := ⟨_, rfl⟩
      rw [hW4]
      dsimp only [Exit.inBlock, Exit.then]
      have n4 : W4.heap[h + 1]? = some (.cells #[.int .i64 (NN : Nat)] 3 (0, 0)) := by rw [← hW4]; exact (World.putObj_heap_other (by have := HT.out; omega)).trans j.n
      have v4 : W4.heap[h + 1 + 1]? = some (.cells #[.int .i64 (LL : Nat)] 3 (0, 0)) := by rw [← hW4]; exact (World.putObj_heap_other (by have := HT.out; omega)).trans j.v
      have d4 : W4.heap[T + 1]? = some (.deferred (some [])) := by rw [← hW4]; exact (World.putObj_heap_other (by omega)).trans j.d
      have b4 : Below h w W4 := by rw [← hW4]; exact below_put j.b _ _ (by have := HT.out; omega)
      have q1 : W4.cell? ⟨h + 1, 0, none⟩ = some (.int .i64 (NN : Nat)) := cell_of_row _ _ _ _ _ _ n4
      have q2 : W4.cell? ⟨h + 1 + 1, 0, none⟩ = some (.int .i64 (LL : Nat)) := cell_of_row _ _ _ _ _ _ v4
      have q3 : W4.frozen? ⟨h + 1, 0, none⟩ = false := frozen_of_row _ _ _ _ _ n4
      have q4 : W4.frozen? ⟨h + 1 + 1, 0, none⟩ = false := frozen_of_row _ _ _ _ _ v4
      have N4 := Lib.hid n4
      have V4 := Lib.hid v4
      have D4 := Lib.hid d4
      have B4 := Lib.hid b4
      clear n4 v4 d4 b4 hW4 j
      refine wpAt_of_wpIn (n := 6) ?_
      refine wpIn_wide.2 ?_
      go_wp2_with fail
      go_region
      all_goals go_wp2
      obtain ⟨W5, hW5⟩ : ∃ W5, ((W4.setCell ⟨h + 1, 0, none⟩ (.int .i64 (NN : Nat))).setCell ⟨h + 1 + 1, 0, none⟩ (.int .i64 (LL : Nat))).drew = W5 := ⟨_, rfl⟩
      have hT0 := HT.out
      have far : ∀ b, b ≠ h + 1 → b ≠ h + 1 + 1 → W5.heap[b]? = W4.heap[b]? := fun b h1 h2 => by
        rw [← hW5]; exact (show ((W4.setCell ⟨h + 1, 0, none⟩ (.int .i64 (NN : Nat))).setCell ⟨h + 1 + 1, 0, none⟩ (.int .i64 (LL : Nat))).heap[b]? = W4.heap[b]? from (Below.heap_setCell _ _ _ _ (by simp only; exact h2)).trans (Below.heap_setCell _ _ _ _ (by simp only; exact h1)))
      have n5 : W5.heap[h + 1]? = some (.cells #[.int .i64 (NN : Nat)] 3 (0, 0)) := by
        rw [← hW5]; exact (show ((W4.setCell ⟨h + 1, 0, none⟩ (.int .i64 (NN : Nat))).setCell ⟨h + 1 + 1, 0, none⟩ (.int .i64 (LL : Nat))).heap[h + 1]? = _ from (Below.heap_setCell _ _ _ _ (by simp only; omega)).trans (heap_setCell_same _ _ 0 _ _ _ N4.out))
      have v5 : W5.heap[h + 1 + 1]? = some (.cells #[.int .i64 (LL : Nat)] 3 (0, 0)) := by
        rw [← hW5]; exact (show ((W4.setCell ⟨h + 1, 0, none⟩ (.int .i64 (NN : Nat))).setCell ⟨h + 1 + 1, 0, none⟩ (.int .i64 (LL : Nat))).heap[h + 1 + 1]? = _ from heap_setCell_same _ _ 0 _ _ _ ((Below.heap_setCell _ _ _ _ (by simp only; omega)).trans V4.out))
      have d5 : W5.heap[T + 1]? = some (.deferred (some [])) := (far _ (by omega) (by omega)).trans D4.out
      have b5 : Below h w W5 := by
        rw [← hW5]; exact ((B4.out.setCell (p := ⟨h + 1, 0, none⟩) (by simp only; omega) _).setCell (p := ⟨h + 1 + 1, 0, none⟩) (by simp only; omega) _).drew
      rw [hW5]
      refine ⟨by simp, .inl ⟨_, _, rfl, run_takeDeferred d5, ?_⟩⟩
      have r1 : (W5.putObj (T + 1) (.deferred none)).cell? ⟨h + 1, 0, none⟩ = some (.int .i64 (NN : Nat)) := cell_of_row _ _ _ _ _ _ ((World.putObj_heap_other (by omega)).trans n5)
      have r2 : (W5.putObj (T + 1) (.deferred none)).cell? ⟨h + 1 + 1, 0, none⟩ = some (.int .i64 (LL : Nat)) := cell_of_row _ _ _ _ _ _ ((World.putObj_heap_other (by omega)).trans v5)
      refine ⟨.tuple #[.int .i64 (NN : Nat), .int .i64 (LL : Nat)], by simp [results, Tryz.results51, go_sem, r1, r2], LL, ?_, ?_, below_put b5 _ _ (by omega)⟩
      · rw [HNN.out, Nat.min_eq_left (by have := HP4.out; omega)]
      · intro _; exact HLL.out.symm
  · refine ⟨some (.exit 0), w'.putObj (T + 1 + 1) (.loop { ({ r with state := .done, pending := some (.exit 0) } : Loop) with state := .exhausted }), ?_, ?_⟩
    · exact run_endLoop (P := Tryz.prog) j.l (by simp)
    · have h4001 : 4001 ≤ (Nd.mk k s kids).sz := by
        have := hq.length_le
        rw [HSZ.out, hql] at this
        exact this
      obtain ⟨W4, hW4⟩ : ∃ W4, w'.putObj (T + 1 + 1) (.loop { ({ r with state := .done, pending := some (.exit 0) } : Loop) with state := .exhausted }) = W4 := ⟨_, rfl⟩
      rw [hW4]
      obtain ⟨NN, hNN⟩ : ∃ NN, 4001 = NN := ⟨_, rfl⟩
      obtain ⟨LL, hLL⟩ : ∃ LL, lvs q = LL := ⟨_, rfl⟩
      rw [hNN, hLL] at j
      have HNN := Lib.hid hNN
      have H41 := Lib.hid h4001
      clear hLL hNN h4001 hq hql
      have n4 : W4.heap[h + 1]? = some (.cells #[.int .i64 (NN : Nat)] 3 (0, 0)) := by rw [← hW4]; exact (World.putObj_heap_other (by have := HT.out; omega)).trans j.n
      have v4 : W4.heap[h + 1 + 1]? = some (.cells #[.int .i64 (LL : Nat)] 3 (0, 0)) := by rw [← hW4]; exact (World.putObj_heap_other (by have := HT.out; omega)).trans j.v
      have d4 : W4.heap[T + 1]? = some (.deferred (some [])) := by rw [← hW4]; exact (World.putObj_heap_other (by omega)).trans j.d
      have b4 : Below h w W4 := by rw [← hW4]; exact below_put j.b _ _ (by have := HT.out; omega)
      have q1 : W4.cell? ⟨h + 1, 0, none⟩ = some (.int .i64 (NN : Nat)) := cell_of_row _ _ _ _ _ _ n4
      have q2 : W4.cell? ⟨h + 1 + 1, 0, none⟩ = some (.int .i64 (LL : Nat)) := cell_of_row _ _ _ _ _ _ v4
      have q3 : W4.frozen? ⟨h + 1, 0, none⟩ = false := frozen_of_row _ _ _ _ _ n4
      have q4 : W4.frozen? ⟨h + 1 + 1, 0, none⟩ = false := frozen_of_row _ _ _ _ _ v4
      clear hr hr1 hr2 hr3
      have N4 := Lib.hid n4
      have V4 := Lib.hid v4
      have D4 := Lib.hid d4
      have B4 := Lib.hid b4
      clear n4 v4 d4 b4 hW4 j
      gi_wp2
      refine wpAt_of_wpIn (n := 6) ?_
      refine wpIn_wide.2 ?_
      go_wp2_with fail
      go_region
      all_goals go_wp2
      obtain ⟨W5, hW5⟩ : ∃ W5, ((W4.setCell ⟨h + 1, 0, none⟩ (.int .i64 (NN : Nat))).setCell ⟨h + 1 + 1, 0, none⟩ (.int .i64 (LL : Nat))).drew = W5 := ⟨_, rfl⟩
      have hT0 := HT.out
      have far : ∀ b, b ≠ h + 1 → b ≠ h + 1 + 1 → W5.heap[b]? = W4.heap[b]? := fun b h1 h2 => by
        rw [← hW5]; exact (show ((W4.setCell ⟨h + 1, 0, none⟩ (.int .i64 (NN : Nat))).setCell ⟨h + 1 + 1, 0, none⟩ (.int .i64 (LL : Nat))).heap[b]? = W4.heap[b]? from (Below.heap_setCell _ _ _ _ (by simp only; exact h2)).trans (Below.heap_setCell _ _ _ _ (by simp only; exact h1)))
      have n5 : W5.heap[h + 1]? = some (.cells #[.int .i64 (NN : Nat)] 3 (0, 0)) := by
        rw [← hW5]; exact (show ((W4.setCell ⟨h + 1, 0, none⟩ (.int .i64 (NN : Nat))).setCell ⟨h + 1 + 1, 0, none⟩ (.int .i64 (LL : Nat))).heap[h + 1]? = _ from (Below.heap_setCell _ _ _ _ (by simp only; omega)).trans (heap_setCell_same _ _ 0 _ _ _ N4.out))
      have v5 : W5.heap[h + 1 + 1]? = some (.cells #[.int .i64 (LL : Nat)] 3 (0, 0)) := by
        rw [← hW5]; exact (show ((W4.setCell ⟨h + 1, 0, none⟩ (.int .i64 (NN : Nat))).setCell ⟨h + 1 + 1, 0, none⟩ (.int .i64 (LL : Nat))).heap[h + 1 + 1]? = _ from heap_setCell_same _ _ 0 _ _ _ ((Below.heap_setCell _ _ _ _ (by simp only; omega)).trans V4.out))
      have d5 : W5.heap[T + 1]? = some (.deferred (some [])) := (far _ (by omega) (by omega)).trans D4.out
      have b5 : Below h w W5 := by
        rw [← hW5]; exact ((B4.out.setCell (p := ⟨h + 1, 0, none⟩) (by simp only; omega) _).setCell (p := ⟨h + 1 + 1, 0, none⟩) (by simp only; omega) _).drew
      rw [hW5]
      refine ⟨by simp, .inl ⟨_, _, rfl, run_takeDeferred d5, ?_⟩⟩
      have r1 : (W5.putObj (T + 1) (.deferred none)).cell? ⟨h + 1, 0, none⟩ = some (.int .i64 (NN : Nat)) := cell_of_row _ _ _ _ _ _ ((World.putObj_heap_other (by omega)).trans n5)
      have r2 : (W5.putObj (T + 1) (.deferred none)).cell? ⟨h + 1 + 1, 0, none⟩ = some (.int .i64 (LL : Nat)) := cell_of_row _ _ _ _ _ _ ((World.putObj_heap_other (by omega)).trans v5)
      refine ⟨.tuple #[.int .i64 (NN : Nat), .int .i64 (LL : Nat)], by simp [results, Tryz.results51, go_sem, r1, r2], LL, ?_, ?_, below_put b5 _ _ (by omega)⟩
      · rw [Nat.min_eq_right H41.out, HNN.out]
      · intro hle; have := H41.out; omega
end Go.Proofs.YtgikhpmdpppenaaGreatDoor
namespace Go.Proofs.YtgikhpmdpppenaaGreatDoor
namespace Lx
def headP (P : UInt8 → Bool) (l : Bs) : Bool := (l[0]?.map P).getD false
theorem runLen_eq (l : Bs) : runLen l = l.length ↔ l.all part = true := by
  induction l with
  | nil => simp [runLen]
  | cons c r ih =>
    rw [runLen_cons, List.all_cons]
    cases hc : part c
    · simp
    · simp only [if_true, List.length_cons, Bool.true_and]
      rw [← ih]; omega
theorem runTo_zero (l : Bs) : runTo l 0 = runLen l := by unfold runTo; rw [List.drop_zero, Nat.zero_add]
theorem part64 : part 64 = false := by decide
theorem runLen_halt : ∀ (l : Bs) (i : Nat) (c : UInt8), l[i]? = some c → part c = false → runLen l ≤ i
  | [], i, c, h, _ => by simp at h
  | a :: r, 0, c, h, hp => by
    simp at h; subst h; rw [runLen_cons, hp]; simp
  | a :: r, i + 1, c, h, hp => by
    have := runLen_halt r i c (by simpa using h) hp
    rw [runLen_cons]; split <;> omega
theorem runLen_cut : ∀ (l : Bs) (i : Nat) (c : UInt8), l[i]? = some c → part c = false → (runLen l = i ↔ (l.take i).all part = true)
  | [], i, c, h, _ => by simp at h
  | a :: r, 0, c, h, hp => by
    simp at h; subst h; rw [runLen_cons, hp]; simp
  | a :: r, i + 1, c, h, hp => by
    have ih := runLen_cut r i c (by simpa using h) hp
    rw [runLen_cons, List.take_succ_cons, List.all_cons]
    cases hc : part a
    · simp
    · simp only [if_true, Bool.true_and]
      rw [← ih]; omega
theorem slice_all (l : Bs) : slice l 0 l.length = l := by unfold slice; simp
theorem tok_name (l : Bs) : tokAt l 0 = some (1, l.length) ↔ (headP small l = true ∧ nameTo l 0 = l.length ∧ words.contains l = false) := by
  unfold headP tokAt
  cases hl : l[0]? with
  | none => simp
  | some c =>
    simp only [Option.map_some, Option.getD_some]
    cases hs : small c
    · simp only [Bool.false_eq_true, if_false, false_and, iff_false]
      split
      · simp
      · split
        · simp
        · split <;> simp
    · simp only [if_true, true_and]
      by_cases hn : nameTo l 0 = l.length
      · rw [hn, slice_all]
        have h45 : ¬ (l = [111] ∧ l[l.length]? = some 45) := by
          rintro ⟨_, h⟩; rw [List.getElem?_eq_none (Nat.le_refl _)] at h; cases h
        rw [if_neg h45]
        cases words.contains l <;> simp
      · constructor
        · intro h
          split at h
          · simp at h
          · split at h
            · simp at h
            · simp at h; exact absurd h hn
        · intro h; exact absurd h.1 hn
theorem tok_var (l : Bs) : tokAt l 0 = some (2, l.length) ↔ (headP capital l = true ∧ l.all part = true) := by
  unfold headP tokAt
  cases hl : l[0]? with
  | none => simp
  | some c =>
    simp only [Option.map_some, Option.getD_some]
    cases hs : small c
    · simp only [Bool.false_eq_true, if_false]
      cases hc : capital c
      · simp only [Bool.false_eq_true, if_false, false_and, iff_false]
        split
        · simp
        · split <;> simp
      · simp only [if_true, true_and]
        rw [runTo_zero, ← runLen_eq]; simp
    · have hc : capital c = false := by
        have := (show small c = true from hs)
        simp only [small, Bool.and_eq_true, decide_eq_true_eq] at this
        simp only [capital, Bool.and_eq_false_iff, decide_eq_false_iff_not]
        omega
      simp only [if_true, hc, Bool.false_eq_true, false_and, iff_false]
      split
      · simp
      · split <;> simp
theorem name_miss {l : Bs} (h : Lib.indexByte l 64 = -1) : nameTo l 0 = l.length ↔ l.all part = true := by
  have hn := Lib.indexByte_none h
  unfold nameTo
  simp only
  rw [if_neg (fun hc => hn _ hc.1), runTo_zero, runLen_eq]
theorem name_hit {l : Bs} {i : Nat} (h : Lib.indexByte l 64 = i) : nameTo l 0 = l.length ↔ ((l.take i).all part = true ∧ headP small (l.drop (i + 1)) = true ∧ (l.drop (i + 1)).all part = true) := by
  obtain ⟨h64, hlow⟩ := Lib.indexByte_some h
  have hi : i < l.length := (List.getElem?_eq_some_iff.1 h64).1
  have hst := runLen_halt l i 64 h64 part64
  have hh : headP small (l.drop (i + 1)) = (l[i + 1]?.map small).getD false := by
    unfold headP; rw [List.getElem?_drop, Nat.add_zero]
  rw [hh, ← runLen_cut l i 64 h64 part64, ← runLen_eq]
  unfold nameTo
  simp only [runTo_zero]
  by_cases hr : runLen l = i
  · rw [hr]
    cases hq : (l[i + 1]?.map small) with
    | none => simp [h64]; omega
    | some b =>
      cases b
      · simp [h64]; omega
      · have : runTo l (i + 1) = i + 1 + runLen (l.drop (i + 1)) := rfl
        simp [h64, this, List.length_drop]
        omega
  · have hlt : runLen l < i := by omega
    rw [if_neg (fun hc => hlow _ hlt hc.1)]
    simp [hr]; omega
theorem head_take {P : UInt8 → Bool} {l : Bs} {i : Nat} (h : Lib.indexByte l 64 = i) (hP : P 64 = false) : headP P (l.take i) = headP P l := by
  obtain ⟨h64, hlow⟩ := Lib.indexByte_some h
  unfold headP
  cases i with
  | zero => rw [h64]; simp [hP]
  | succ i => simp
end Lx
end Go.Proofs.YtgikhpmdpppenaaGreatDoor
namespace Go.Proofs.YtgikhpmdpppenaaGreatDoor
open Go.RowKit
theorem byte_forall {P : UInt8 → Bool} (h : (List.range 256).all (fun n => P n.toUInt8) = true) (c : UInt8) : P c = true := by
  have := List.all_eq_true.1 h c.toNat (List.mem_range.2 c.toNat_lt)
  rwa [show c.toNat.toUInt8 = c from by simp] at this
theorem first_byte {l : Lx.Bs} {c : UInt8} {k j : Nat} (hc : l[0]? = some c) (h : Lx.tokAt l 0 = some (k, j)) : Lx.blank c = false ∧ c.toNat ≠ 37 := by
  have key : (Lx.small c || Lx.capital c || Lx.signB c || (c == 45 || c == 61 || c == 60)) = true := by
    unfold Lx.tokAt at h
    rw [hc] at h
    simp only at h
    cases hs : Lx.small c
    · cases hp : Lx.capital c
      · cases hg : Lx.signB c
        · rw [hs, hp, hg] at h
          simp only [Bool.false_eq_true, if_false] at h
          split at h
          · rename_i hl
            have h0 : ∀ a b, Lx.pre l 0 [a, b] = true → c = a := fun a b hab => by
              have := (Lx.pre_two hab).1
              rw [hc] at this; exact Option.some.inj this
            simp only [Lx.isLong, Bool.or_eq_true, Bool.and_eq_true] at hl
            rcases hl with ((⟨h1, _⟩ | h1) | h1) | h1 <;> (rw [h0 _ _ h1]; decide)
          · cases h
        · simp
      · simp
    · simp
  have := byte_forall (P := fun c => !(Lx.small c || Lx.capital c || Lx.signB c || (c == 45 || c == 61 || c == 60)) || (!Lx.blank c && !decide (c.toNat = 37))) (by decide +kernel) c
  simp only [key, Bool.not_true, Bool.false_or, Bool.and_eq_true, Bool.not_eq_true', decide_eq_false_iff_not] at this
  exact this
theorem refTok_iff (k : Nat) (s : ByteArray) (p : Int) : refTok ⟨k, s, p⟩ = true ↔ Lx.tokAt (bs s) 0 = some (k, (bs s).length) := by
  unfold refTok
  simp only
  cases Lx.tokAt (bs s) 0 with
  | none => simp
  | some x =>
    obtain ⟨k', j⟩ := x
    simp only [Bool.and_eq_true, decide_eq_true_eq, Option.some.injEq, Prod.mk.injEq, bs_len]
    omega
theorem check_iff (k : Nat) (s : ByteArray) (p : Int) : checkB ⟨k, s, p⟩ = true ↔ (s.size ≤ 40 ∧ Lx.tokAt (bs s) 0 = some (k, (bs s).length)) := by
  rw [check_ref, ← refTok_iff k s p]
  unfold refB
  simp only
  cases hc : (bs s)[0]? with
  | none =>
    constructor
    · intro h; cases h
    · rintro ⟨_, h⟩
      rw [refTok_iff] at h
      simp [Lx.tokAt, hc] at h
  | some c =>
    simp only [Bool.and_eq_true, decide_eq_true_eq]
    constructor
    · rintro ⟨⟨⟨h1, _⟩, _⟩, h2⟩; exact ⟨h1, h2⟩
    · rintro ⟨h1, h2⟩
      have := first_byte hc ((refTok_iff k s p).1 h2)
      exact ⟨⟨⟨h1, by rw [this.1]; rfl⟩, by simpa using this.2⟩, h2⟩
theorem check_name (s : ByteArray) (p : Int) : checkB ⟨1, s, p⟩ = (decide (s.size ≤ 40) && (Lx.headP Lx.small (bs s) && (decide (Lx.nameTo (bs s) 0 = (bs s).length) && !Lx.words.contains (bs s)))) := by
  rw [Bool.eq_iff_iff, show checkB ⟨1, s, p⟩ = checkB ⟨((1 : Nat) : Int), s, p⟩ from rfl, check_iff, Lx.tok_name]
  simp only [Bool.and_eq_true, decide_eq_true_eq, Bool.not_eq_true']
theorem check_var (s : ByteArray) (p : Int) : checkB ⟨2, s, p⟩ = (decide (s.size ≤ 40) && (Lx.headP Lx.capital (bs s) && (bs s).all Lx.part)) := by
  rw [Bool.eq_iff_iff, show checkB ⟨2, s, p⟩ = checkB ⟨((2 : Nat) : Int), s, p⟩ from rfl, check_iff, Lx.tok_var]
  simp only [Bool.and_eq_true, decide_eq_true_eq]
theorem cut_cases (s : ByteArray) : Lib.indexByte s.data.toList 64 = -1 ∨ ∃ i : Nat, i < s.size ∧ Lib.indexByte s.data.toList 64 = i := by
  have hge := Lib.indexByte_ge s.data.toList 64
  by_cases h : Lib.indexByte s.data.toList 64 = -1
  · exact .inl h
  · obtain ⟨i, hi⟩ := Int.eq_ofNat_of_zero_le (show 0 ≤ Lib.indexByte s.data.toList 64 from by omega)
    have := (List.getElem?_eq_some_iff.1 (Lib.indexByte_some hi).1).1
    exact .inr ⟨i, this, hi⟩
theorem name_plain (s : ByteArray) (h : Lib.indexByte s.data.toList 64 = -1) : checkB ⟨1, s, 0⟩ = (decide (s.size ≤ 40) && (Lx.headP Lx.small (bs s) && ((bs s).all Lx.part && !Lx.words.contains (bs s)))) := by
  rw [check_name]
  congr 3
  rw [Bool.eq_iff_iff, decide_eq_true_eq]
  exact Lx.name_miss h
theorem name_linked (s : ByteArray) (i : Nat) (h : Lib.indexByte s.data.toList 64 = i) :
    checkB ⟨1, s, 0⟩ = (decide (s.size ≤ 40) && (Lx.headP Lx.small (bs (s.extract 0 i)) && ((bs (s.extract 0 i)).all Lx.part && (Lx.headP Lx.small (bs (s.extract (i + 1) s.size)) && ((bs (s.extract (i + 1) s.size)).all Lx.part && !Lx.words.contains (bs s)))))) := by
  have e1 : bs (s.extract 0 i) = (bs s).take i := by rw [bs_extract]; unfold Lx.slice; simp
  have e2 : bs (s.extract (i + 1) s.size) = (bs s).drop (i + 1) := by
    rw [bs_extract]; unfold Lx.slice
    rw [List.take_of_length_le (by rw [List.length_drop, bs_len]; omega)]
  rw [check_name, e1, e2, Lx.head_take (l := bs s) h (by decide)]
  have := Lx.name_hit (l := bs s) h
  rw [Bool.eq_iff_iff]
  simp only [Bool.and_eq_true, decide_eq_true_eq, this]
  constructor
  · rintro ⟨a, b, ⟨c, d, e⟩, f⟩; exact ⟨a, b, c, d, e, f⟩
  · rintro ⟨a, b, c, d, e, f⟩; exact ⟨a, b, ⟨c, d, e⟩, f⟩
end Go.Proofs.YtgikhpmdpppenaaGreatDoor
namespace Go.Proofs.YtgikhpmdpppenaaGreatDoor
open Go.RowKit
def smallS : ByteArray := ⟨#[97, 98, 99, 100, 101, 102, 103, 104, 105, 106, 107, 108, 109, 110, 111, 112, 113, 114, 115, 116, 117, 118, 119, 120, 121, 122]⟩
def capS : ByteArray := ⟨#[65, 66, 67, 68, 69, 70, 71, 72, 73, 74, 75, 76, 77, 78, 79, 80, 81, 82, 83, 84, 85, 86, 87, 88, 89, 90]⟩
def partS : ByteArray := ⟨#[97, 98, 99, 100, 101, 102, 103, 104, 105, 106, 107, 108, 109, 110, 111, 112, 113, 114, 115, 116, 117, 118, 119, 120, 121, 122, 65, 66, 67, 68, 69, 70, 71, 72, 73, 74, 75, 76, 77, 78, 79, 80, 81, 82, 83, 84, 85, 86, 87, 88, 89, 90, 48, 49, 50, 51, 52, 53, 54, 55, 56, 57, 95, 39]⟩
theorem in_small (c : UInt8) : decide (0 ≤ Lib.indexByte smallS.data.toList c) = Lx.small c := by
  have := byte_forall (P := fun c => decide (0 ≤ Lib.indexByte smallS.data.toList c) == Lx.small c) (by decide +kernel) c
  exact beq_iff_eq.1 this
theorem in_cap (c : UInt8) : decide (0 ≤ Lib.indexByte capS.data.toList c) = Lx.capital c := by
  have := byte_forall (P := fun c => decide (0 ≤ Lib.indexByte capS.data.toList c) == Lx.capital c) (by decide +kernel) c
  exact beq_iff_eq.1 this
theorem in_part (c : UInt8) : decide (0 ≤ Lib.indexByte partS.data.toList c) = Lx.part c := by
  have := byte_forall (P := fun c => decide (0 ≤ Lib.indexByte partS.data.toList c) == Lx.part c) (by decide +kernel) c
  exact beq_iff_eq.1 this
set_option maxRecDepth 100000 in
set_option maxHeartbeats 400000 in
theorem nWords (w : World) : Calls Tryz.prog 155 #[] w fun e w' => e = .returned (.slice (some ⟨w.heap.size, 0, none⟩) 17 17) ∧ w' = w.alloc (.cells (wordsB.map Value.string).toArray 9) := by
  go_enter Tryz.func155, Tryz.ntmps155
  go_wp2
  go_ret
  exact ⟨rfl, rfl⟩
set_option maxRecDepth 100000 in
set_option maxHeartbeats 400000 in
theorem begins_v (P : UInt8 → Bool) (V : Bool) (s L : ByteArray) (w : World) (hP : ∀ c, decide (0 ≤ Lib.indexByte L.data.toList c) = P c) (hV : Lx.headP P (bs s) = V) :
    Calls Tryz.prog 117 #[.string s, .string L] w fun e w' => e = .returned (.bool V) ∧ w' = w := by
  by_cases h0 : s.size = 0
  · obtain rfl : s = ⟨#[]⟩ := by
      obtain ⟨⟨l⟩⟩ := s
      have : l = [] := List.eq_nil_of_length_eq_zero (by simpa [ByteArray.size] using h0)
      rw [this]
    have hVf : V = false := by rw [← hV]; rfl
    subst hVf
    clear hV hP h0
    go_enter Tryz.func117, Tryz.ntmps117
    go_wp2
    go_ret
    exact ⟨rfl, rfl⟩
  · have hpos : 0 < s.size := by omega
    have hne2 : (s.toList == []) = false := by
      rw [ByteArray.toList_eq, beq_eq_false_iff_ne]
      intro e
      have h1 : s.data.toList.length = s.size := rfl
      have h2 : s.size = ([] : List UInt8).length := h1.symm.trans (congrArg List.length e)
      simp only [List.length_nil] at h2
      omega
    have hne : (!(s.toList == [])) = true := by rw [hne2]; rfl
    have hg : (bs s)[0]? = some s[0] := by rw [List.getElem?_eq_getElem (by rw [bs_len]; exact hpos), bs_get hpos]
    have hv : decide ((0 : Int) ≤ Lib.indexByte L.data.toList s[0]) = V := by rw [← hV, hP]; unfold Lx.headP; rw [hg]; rfl
    have hlt : s[0].toNat < 256 := s[0].toNat_lt
    have C := fun w => Tryz.strings_IndexByte L (s[0].toNat : Int) w
    rw [show ((s[0].toNat : Int)).toNat.toUInt8 = s[0] from by simp] at C
    obtain ⟨I, hI⟩ : ∃ I, Lib.indexByte L.data.toList s[0] = I := ⟨_, rfl⟩
    rw [hI] at C hv
    have HC := Lib.hid C
    have HV := Lib.hid hv
    clear C hV hP hg hI h0 hv
    go_enter Tryz.func117, Tryz.ntmps117
    go_wp2_with fail
    refine (HC.out _).mono ?_
    rintro e w1 ⟨rfl, rfl⟩
    go_wp2
    go_ret
    exact ⟨by rw [← HV.out]; rfl, rfl⟩
theorem all_step {l : Lx.Bs} {k : Nat} (h : k < l.length) : (l.drop k).all Lx.part = (Lx.part l[k] && (l.drop (k + 1)).all Lx.part) := by
  rw [List.drop_eq_getElem_cons h, List.all_cons]
set_option maxRecDepth 100000 in
set_option maxHeartbeats 400000 in
theorem inName_v (V : Bool) (s : ByteArray) (w : World) (hs : s.size ≤ maxLen) (hV : (bs s).all Lx.part = V) :
    Calls Tryz.prog 118 #[.string s] w fun e w' => e = .returned (.bool V) ∧ w' = w := by
  unfold maxLen at hs
  have HV := Lib.hid hV
  have HL := Lib.hid (bs_len s)
  have hby := byte_lt
  have HC := Lib.hid (fun (c : UInt8) w => Tryz.strings_IndexByte partS (c.toNat : Int) w)
  clear hV
  go_enter Tryz.func118, Tryz.ntmps118
  go_wp2
  go_loopw [6] (fun v wr => ∃ k : Nat, k ≤ s.size ∧ v = .int .i64 k ∧ Hid (((bs s).drop k).all Lx.part = V) ∧ wr = w) (fun v _ => s.size - (intOf v).toNat)
  case atStart => exact ⟨0, Nat.zero_le _, rfl, Lib.hid (by rw [List.drop_zero]; exact HV.out), rfl⟩
  case round =>
    obtain ⟨k, hk, rfl, hall, rfl⟩ := hrel
    by_cases hlt : k < s.size
    · have hlt' : (k : Int) < (s.size : Int) := by omega
      have hst := all_step (l := bs s) (k := k) (by rw [bs_len]; exact hlt)
      rw [bs_get hlt] at hst
      have C := fun w => HC.out s[k] w
      rw [show ((s[k].toNat : Int)).toNat.toUInt8 = s[k] from by simp] at C
      have hin := in_part s[k]
      obtain ⟨I, hI⟩ : ∃ I, Lib.indexByte partS.data.toList s[k] = I := ⟨_, rfl⟩
      rw [hI] at C hin
      have Hst := Lib.hid hst
      have CC := Lib.hid C
      have Hin := Lib.hid hin
      clear hst C hI hin
      unfold partS at CC
      go_wp2_with fail
      refine (CC.out _).mono ?_
      rintro e w1 ⟨rfl, rfl⟩
      by_cases hi : I < 0
      · go_wp2
        go_ret
        exact ⟨by rw [← hall.out, Hst.out, ← Hin.out, decide_eq_false (by omega)]; rfl, rfl⟩
      · go_wp2
        go_roundw
        case rel => exact ⟨k + 1, by omega, by push_cast; rfl, Lib.hid (by rw [← hall.out, Hst.out, ← Hin.out, decide_eq_true (by omega)]; rfl), trivial⟩
        case measure => simp [intOf]; omega
    · have hlt' : ¬ (k : Int) < (s.size : Int) := by omega
      have hVt : V = true := by rw [← hall.out, List.drop_of_length_le (by rw [bs_len]; omega)]; rfl
      subst hVt
      go_wp2
      go_ret
      exact ⟨rfl, rfl⟩
set_option maxRecDepth 100000 in
set_option maxHeartbeats 400000 in
theorem liteCut_any (s : ByteArray) (w : World) (hs : s.size ≤ maxLen) :
    Calls Tryz.prog 201 #[.string s, .string ⟨#[64]⟩] w fun e w' => Below w.heap.size w w' ∧
      ((Lib.indexByte s.data.toList 64 = -1 ∧ e = .returned (.tuple #[.string s, .string ⟨#[]⟩, .bool false])) ∨
        ∃ i : Nat, i < s.size ∧ Lib.indexByte s.data.toList 64 = i ∧ e = .returned (.tuple #[.string (s.extract 0 i), .string (s.extract (i + 1) s.size), .bool true])) := by
  have hc := cut_cases s
  unfold maxLen at hs
  have HC := fun w => Tryz.stringslite_Index_one s 64 w
  rcases hc with hm | ⟨i, hi, he⟩
  · rw [hm] at HC
    have HM := Lib.hid hm
    have C := Lib.hid HC
    clear hm HC
    go_enter Tryz.func201, Tryz.ntmps201
    go_wp2_with fail
    refine (C.out _).mono ?_
    rintro e w1 ⟨rfl, rfl⟩
    go_wp2
    go_ret3
    exact ⟨Below.refl _ _, .inl ⟨HM.out, rfl⟩⟩
  · rw [he] at HC
    have HM := Lib.hid he
    have C := Lib.hid HC
    clear he HC
    have c1 : (0 : Int) ≤ (i : Int) := by omega
    have c2 : (i : Int) ≤ (s.size : Int) := by omega
    have c3 : (0 : Int) ≤ (i : Int) + 1 := by omega
    have c4 : (i : Int) + 1 ≤ (s.size : Int) := by omega
    go_enter Tryz.func201, Tryz.ntmps201
    go_wp2_with fail
    refine (C.out _).mono ?_
    rintro e w1 ⟨rfl, rfl⟩
    go_wp2_with fail
    go_quiet (fail)
    go_wp2
    go_ret3
    exact ⟨⟨rfl, rfl, rfl, Nat.le_refl _, fun _ _ => rfl⟩, .inr ⟨i, hi, HM.out, rfl⟩⟩
set_option maxRecDepth 100000 in
set_option maxHeartbeats 400000 in
theorem cut_any (s : ByteArray) (w : World) (hs : s.size ≤ maxLen) :
    Calls Tryz.prog 154 #[.string s, .string ⟨#[64]⟩] w fun e w' => Below w.heap.size w w' ∧
      ((Lib.indexByte s.data.toList 64 = -1 ∧ e = .returned (.tuple #[.string s, .string ⟨#[]⟩, .bool false])) ∨
        ∃ i : Nat, i < s.size ∧ Lib.indexByte s.data.toList 64 = i ∧ e = .returned (.tuple #[.string (s.extract 0 i), .string (s.extract (i + 1) s.size), .bool true])) := by
  have C := Lib.hid (fun w => liteCut_any s w hs)
  go_enter Tryz.func154, Tryz.ntmps154
  go_wp2_with fail
  refine (C.out _).mono ?_
  rintro e w1 ⟨hb, ⟨hm, rfl⟩ | ⟨i, hi, he, rfl⟩⟩
  · have HM := Lib.hid hm
    clear hm
    go_wp2
    go_ret3
    exact ⟨hb, .inl ⟨HM.out, rfl⟩⟩
  · have HM := Lib.hid he
    clear he
    go_wp2
    go_ret3
    exact ⟨hb, .inr ⟨i, hi, HM.out, rfl⟩⟩
theorem words_in (x : ByteArray) (w : World) (b : Nat) (hb : ∀ k, k < wordsB.length → w.cell? ⟨b, 0 + k, none⟩ = some (.string (wordsB.getD k ByteArray.empty))) :
    Calls Tryz.prog 71 #[.slice (some ⟨b, 0, none⟩) 17 17, .string x] w fun e w' => e = .returned (.bool (Lx.words.contains (bs x))) ∧ w' = w := by
  have := Tryz.slices_Contains_string b 0 17 17 wordsB x w (by decide) (by omega) hb
  rwa [contains_words] at this
theorem lit_cells (w : World) (L : List ByteArray) (t : TypeId) (k : Nat) (hk : k < L.length) : (w.alloc (.cells (L.map Value.string).toArray t)).cell? ⟨w.heap.size, 0 + k, none⟩ = some (.string (L.getD k ByteArray.empty)) := by
  rw [World.cell?_alloc_at _ _ _ _ rfl]
  simp only [Nat.zero_add, List.getElem?_toArray, List.getElem?_map, List.getD_eq_getElem?_getD]
  rw [List.getElem?_eq_getElem hk]
  rfl
set_option maxRecDepth 100000 in
set_option maxHeartbeats 1000000 in
theorem isName_plain (V : Bool) (s : ByteArray) (w : World) (hs : s.size ≤ maxLen) (hm : Lib.indexByte s.data.toList 64 = -1) (hV : checkB ⟨1, s, 0⟩ = V) :
    Calls Tryz.prog 106 #[.string s] w fun e w' => e = .returned (.bool V) ∧ Below w.heap.size w w' := by
  rw [name_plain s hm] at hV
  have C0 := Lib.hid (fun w => cut_any s w hs)
  obtain ⟨p, hp⟩ : ∃ p, s = p := ⟨_, rfl⟩
  have hx1 : p.size ≤ maxLen := by rw [← hp]; exact hs
  have CW : Hid (∀ w, Calls Tryz.prog 155 #[] w fun e w' => e = .returned (.slice (some ⟨w.heap.size, 0, none⟩) 17 17) ∧ w' = w.alloc (.cells (wordsB.map Value.string).toArray 9)) := Lib.hid nWords
  obtain ⟨VW, hW⟩ : ∃ v, Lx.words.contains (bs s) = v := ⟨_, rfl⟩
  have CC := fun w b hb => words_in s w b hb
  rw [hW] at CC
  rw [hp] at hV
  have hV := hV
  rw [← hp] at hV
  rw [hW] at hV
  obtain ⟨B1, hB1⟩ : ∃ v, Lx.headP Lx.small (bs s) = v := ⟨_, rfl⟩
  obtain ⟨P1, hP1⟩ : ∃ v, (bs s).all Lx.part = v := ⟨_, rfl⟩
  rw [hB1, hP1] at hV
  have CB1 := Lib.hid (fun w => begins_v Lx.small B1 s smallS w in_small hB1)
  have CP1 := Lib.hid (fun w => inName_v P1 s w hs hP1)
  unfold smallS at CB1
  have CH := Lib.hid CC
  have HM := Lib.hid hm
  have HV := Lib.hid hV
  have HPQ := Lib.hid hp
  by_cases h40 : (s.size : Int) ≤ 40
  · have HD := Lib.hid (decide_eq_true (show s.size ≤ 40 by omega))
    clear CC hW hm hV hp  hB1 hP1 hx1
    go_enter Tryz.func106, Tryz.ntmps106
    go_wp2_with fail
    refine (C0.out _).mono ?_
    rintro e w1 ⟨hb, ⟨_, rfl⟩ | ⟨i, _, he, _⟩⟩
    case inr => rw [HM.out] at he; omega
    clear C0
    have Hb := Lib.hid hb
    clear hb
    go_wp2_with fail
    refine (CB1.out _).mono ?_
    rintro e w2 ⟨rfl, hw⟩
    obtain rfl := hw.symm
    clear CB1
    cases B1
    · go_wp2
      go_ret
      exact ⟨by rw [← HV.out, HD.out]; rfl, Hb.out⟩
    · skip
      go_wp2_with fail
      refine (CP1.out _).mono ?_
      rintro e w2 ⟨rfl, hw⟩
      obtain rfl := hw.symm
      clear CP1
      cases P1
      · go_wp2
        go_ret
        exact ⟨by rw [← HV.out, HD.out]; rfl, Hb.out⟩
      · skip
        go_wp2_with fail
        refine (CW.out _).mono ?_
        rintro e w2 ⟨rfl, rfl⟩
        have CI := Lib.hid (CH.out _ _ (fun k hk => lit_cells w1 wordsB 9 k hk))
        clear CW CH
        go_wp2_with fail
        refine CI.out.mono ?_
        rintro e w2 ⟨rfl, rfl⟩
        clear CI
        cases VW
        · go_wp2
          go_ret
          exact ⟨by rw [← HV.out, HD.out]; rfl, Hb.out.trans ((Below.refl _ _).alloc Hb.out.size _)⟩
        · go_wp2
          go_ret
          exact ⟨by rw [← HV.out, HD.out]; rfl, Hb.out.trans ((Below.refl _ _).alloc Hb.out.size _)⟩
  · have HD := Lib.hid (decide_eq_false (show ¬ s.size ≤ 40 by omega))
    clear CC hW hm hV hp  hB1 hP1 hx1
    go_enter Tryz.func106, Tryz.ntmps106
    go_wp2_with fail
    refine (C0.out _).mono ?_
    rintro e w1 ⟨hb, ⟨_, rfl⟩ | ⟨i, _, he, _⟩⟩
    case inr => rw [HM.out] at he; omega
    clear C0
    have Hb := Lib.hid hb
    clear hb
    go_wp2
    go_ret
    exact ⟨by rw [← HV.out, HD.out]; rfl, Hb.out⟩
set_option maxRecDepth 100000 in
set_option maxHeartbeats 1000000 in
theorem isName_linked (V : Bool) (s : ByteArray) (w : World) (hs : s.size ≤ maxLen) (i : Nat) (hi : i < s.size) (hm : Lib.indexByte s.data.toList 64 = i) (hV : checkB ⟨1, s, 0⟩ = V) :
    Calls Tryz.prog 106 #[.string s] w fun e w' => e = .returned (.bool V) ∧ Below w.heap.size w w' := by
  rw [name_linked s i hm] at hV
  have hx1 : (s.extract 0 i).size ≤ maxLen := by rw [ByteArray.size_extract]; unfold maxLen at *; omega
  have hx2 : (s.extract (i + 1) s.size).size ≤ maxLen := by rw [ByteArray.size_extract]; unfold maxLen at *; omega
  have C0 := Lib.hid (fun w => cut_any s w hs)
  obtain ⟨p, hp⟩ : ∃ p, s.extract 0 i = p := ⟨_, rfl⟩
  obtain ⟨q, hq⟩ : ∃ q, s.extract (i + 1) s.size = q := ⟨_, rfl⟩
  rw [hp] at hx1
  rw [hq] at hx2
  rw [hp, hq] at hV
  have CW : Hid (∀ w, Calls Tryz.prog 155 #[] w fun e w' => e = .returned (.slice (some ⟨w.heap.size, 0, none⟩) 17 17) ∧ w' = w.alloc (.cells (wordsB.map Value.string).toArray 9)) := Lib.hid nWords
  obtain ⟨VW, hW⟩ : ∃ v, Lx.words.contains (bs s) = v := ⟨_, rfl⟩
  have CC := fun w b hb => words_in s w b hb
  rw [hW] at CC
  rw [hW] at hV
  obtain ⟨B1, hB1⟩ : ∃ v, Lx.headP Lx.small (bs p) = v := ⟨_, rfl⟩
  obtain ⟨P1, hP1⟩ : ∃ v, (bs p).all Lx.part = v := ⟨_, rfl⟩
  rw [hB1, hP1] at hV
  obtain ⟨B2, hB2⟩ : ∃ v, Lx.headP Lx.small (bs q) = v := ⟨_, rfl⟩
  obtain ⟨P2, hP2⟩ : ∃ v, (bs q).all Lx.part = v := ⟨_, rfl⟩
  rw [hB2, hP2] at hV
  have CB1 := Lib.hid (fun w => begins_v Lx.small B1 p smallS w in_small hB1)
  have CP1 := Lib.hid (fun w => inName_v P1 p w hx1 hP1)
  unfold smallS at CB1
  have CB2 := Lib.hid (fun w => begins_v Lx.small B2 q smallS w in_small hB2)
  have CP2 := Lib.hid (fun w => inName_v P2 q w hx2 hP2)
  unfold smallS at CB2
  have CH := Lib.hid CC
  have HM := Lib.hid hm
  have HV := Lib.hid hV
  have HPQ := Lib.hid hp
  have HQQ := Lib.hid hq
  by_cases h40 : (s.size : Int) ≤ 40
  · have HD := Lib.hid (decide_eq_true (show s.size ≤ 40 by omega))
    clear CC hW hm hV hp hq hB2 hP2 hx2 hi  hB1 hP1 hx1
    go_enter Tryz.func106, Tryz.ntmps106
    go_wp2_with fail
    refine (C0.out _).mono ?_
    rintro e w1 ⟨hb, ⟨hm, _⟩ | ⟨i', _, he, rfl⟩⟩
    · rw [HM.out] at hm; omega
    obtain rfl : i' = i := by rw [HM.out] at he; omega
    rw [HPQ.out, HQQ.out]
    clear C0
    have Hb := Lib.hid hb
    clear hb
    go_wp2_with fail
    refine (CB1.out _).mono ?_
    rintro e w2 ⟨rfl, hw⟩
    obtain rfl := hw.symm
    clear CB1
    cases B1
    · go_wp2
      go_ret
      exact ⟨by rw [← HV.out, HD.out]; rfl, Hb.out⟩
    · skip
      go_wp2_with fail
      refine (CP1.out _).mono ?_
      rintro e w2 ⟨rfl, hw⟩
      obtain rfl := hw.symm
      clear CP1
      cases P1
      · go_wp2
        go_ret
        exact ⟨by rw [← HV.out, HD.out]; rfl, Hb.out⟩
      · skip
        go_wp2_with fail
        refine (CB2.out _).mono ?_
        rintro e w2 ⟨rfl, hw⟩
        obtain rfl := hw.symm
        clear CB2
        cases B2
        · go_wp2
          go_ret
          exact ⟨by rw [← HV.out, HD.out]; rfl, Hb.out⟩
        · skip
          go_wp2_with fail
          refine (CP2.out _).mono ?_
          rintro e w2 ⟨rfl, hw⟩
          obtain rfl := hw.symm
          clear CP2
          cases P2
          · go_wp2
            go_ret
            exact ⟨by rw [← HV.out, HD.out]; rfl, Hb.out⟩
          · skip
            go_wp2_with fail
            refine (CW.out _).mono ?_
            rintro e w2 ⟨rfl, rfl⟩
            have CI := Lib.hid (CH.out _ _ (fun k hk => lit_cells w1 wordsB 9 k hk))
            clear CW CH
            go_wp2_with fail
            refine CI.out.mono ?_
            rintro e w2 ⟨rfl, rfl⟩
            clear CI
            cases VW
            · go_wp2
              go_ret
              exact ⟨by rw [← HV.out, HD.out]; rfl, Hb.out.trans ((Below.refl _ _).alloc Hb.out.size _)⟩
            · go_wp2
              go_ret
              exact ⟨by rw [← HV.out, HD.out]; rfl, Hb.out.trans ((Below.refl _ _).alloc Hb.out.size _)⟩
  · have HD := Lib.hid (decide_eq_false (show ¬ s.size ≤ 40 by omega))
    clear CC hW hm hV hp hq hB2 hP2 hx2 hi  hB1 hP1 hx1
    go_enter Tryz.func106, Tryz.ntmps106
    go_wp2_with fail
    refine (C0.out _).mono ?_
    rintro e w1 ⟨hb, ⟨hm, _⟩ | ⟨i', _, he, rfl⟩⟩
    · rw [HM.out] at hm; omega
    obtain rfl : i' = i := by rw [HM.out] at he; omega
    rw [HPQ.out, HQQ.out]
    clear C0
    have Hb := Lib.hid hb
    clear hb
    go_wp2
    go_ret
    exact ⟨by rw [← HV.out, HD.out]; rfl, Hb.out⟩
theorem isName_v (V : Bool) (s : ByteArray) (w : World) (hs : s.size ≤ maxLen) (hV : checkB ⟨1, s, 0⟩ = V) :
    Calls Tryz.prog 106 #[.string s] w fun e w' => e = .returned (.bool V) ∧ Below w.heap.size w w' := by
  rcases cut_cases s with hm | ⟨i, hi, he⟩
  · exact isName_plain V s w hs hm hV
  · exact isName_linked V s w hs i hi he hV
theorem isName_any (s : ByteArray) (w : World) (hs : s.size ≤ maxLen) :
    Calls Tryz.prog 106 #[.string s] w fun e w' => e = .returned (.bool (checkB ⟨1, s, 0⟩)) ∧ Below w.heap.size w w' := isName_v _ s w hs rfl
set_option maxRecDepth 100000 in
set_option maxHeartbeats 400000 in
theorem isVar_v (V : Bool) (s : ByteArray) (w : World) (hs : s.size ≤ maxLen) (hV : checkB ⟨2, s, 0⟩ = V) :
    Calls Tryz.prog 68 #[.string s] w fun e w' => e = .returned (.bool V) ∧ Below w.heap.size w w' := by
  rw [check_var] at hV
  obtain ⟨B1, hB1⟩ : ∃ v, Lx.headP Lx.capital (bs s) = v := ⟨_, rfl⟩
  obtain ⟨P1, hP1⟩ : ∃ v, (bs s).all Lx.part = v := ⟨_, rfl⟩
  rw [hB1, hP1] at hV
  have CB1 := Lib.hid (fun w => begins_v Lx.capital B1 s capS w in_cap hB1)
  have CP1 := Lib.hid (fun w => inName_v P1 s w hs hP1)
  unfold capS at CB1
  have HV := Lib.hid hV
  by_cases h40 : (s.size : Int) ≤ 40
  · have HD := Lib.hid (decide_eq_true (show s.size ≤ 40 by omega))
    clear hV hB1 hP1
    go_enter Tryz.func68, Tryz.ntmps68
    go_wp2_with fail
    refine (CB1.out _).mono ?_
    rintro e w1 ⟨rfl, rfl⟩
    clear CB1
    cases B1
    · go_wp2
      go_ret
      exact ⟨by rw [← HV.out, HD.out]; rfl, Below.refl _ _⟩
    · go_wp2_with fail
      refine (CP1.out _).mono ?_
      rintro e w2 ⟨rfl, rfl⟩
      clear CP1
      cases P1
      · go_wp2
        go_ret
        exact ⟨by rw [← HV.out, HD.out]; rfl, Below.refl _ _⟩
      · go_wp2
        go_ret
        exact ⟨by rw [← HV.out, HD.out]; rfl, Below.refl _ _⟩
  · have HD := Lib.hid (decide_eq_false (show ¬ s.size ≤ 40 by omega))
    clear hV hB1 hP1
    go_enter Tryz.func68, Tryz.ntmps68
    go_wp2
    go_ret
    exact ⟨by rw [← HV.out, HD.out]; rfl, Below.refl _ _⟩
theorem isVar_any (s : ByteArray) (w : World) (hs : s.size ≤ maxLen) :
    Calls Tryz.prog 68 #[.string s] w fun e w' => e = .returned (.bool (checkB ⟨2, s, 0⟩)) ∧ Below w.heap.size w w' := isVar_v _ s w hs rfl
end Go.Proofs.YtgikhpmdpppenaaGreatDoor
namespace Go.Proofs.YtgikhpmdpppenaaGreatDoor
open Go.RowKit Go.Shelf
def Says (g : Nat) (B : Nd → Bool) (t : Nd) : Prop := ∀ (w : World) (v0 v1 v2 : Value), NdR w t v0 v1 v2 → Calls Tryz.prog g #[.agg #[v0, v1, v2]] w fun e w' => e = .returned (.bool (B t)) ∧ Below w.heap.size w w'
theorem all_drop {B : Nd → Bool} {l : List Nd} {i : Nat} (h : i < l.length) : (l.drop i).all B = (B l[i] && (l.drop (i + 1)).all B) := by
  rw [List.drop_eq_getElem_cons h, List.all_cons]
set_option maxRecDepth 100000 in
set_option maxHeartbeats 1000000 in
theorem every1_any (g c : Nat) (eg : ∀ args w, (callFunc g args).run Tryz.prog w = .ok (.enter g args) w) (B : Nd → Bool) (t : Nd) (hB : Says g B t) (w : World) (v0 v1 v2 : Value) (ht : NdR w t v0 v1 v2) (hc : w.cell? ⟨c, 0, none⟩ = some (.func (.func g) #[] #[])) :
    Calls Tryz.prog 153 #[.agg #[v0, v1, v2], .pointer (some ⟨c, 0, none⟩)] w fun e w' => e = .returned (.bool (!B t)) ∧ Below w.heap.size w w' := by
  obtain ⟨k, s, l, a, cap, rfl, rfl, rfl, rfl, hs, hl⟩ := ht.form
  have hb0 := ((Below.refl w.heap.size w).alloc (Nat.le_refl _) (.cells #[.int .i64 k, .string s, .slice a l.length cap] 24))
  have C := Lib.hid (hB _ _ _ _ (ht.later hb0))
  have HB := Lib.hid hb0
  have hc' := (World.cell?_alloc_past (w := w) (.cells #[.int .i64 k, .string s, .slice a l.length cap] 24) c 0 (lt_of_cell hc)).trans hc
  obtain ⟨V, hV⟩ : ∃ V, B (.mk k s l) = V := ⟨_, rfl⟩
  rw [hV] at C ⊢
  clear hV hB ht hb0 hc
  go_enter Tryz.func153, Tryz.ntmps153
  go_wp2_with fail
  refine C.out.mono ?_
  rintro e w1 ⟨rfl, hb⟩
  have HB1 := Lib.hid (HB.out.trans (hb.mono HB.out.size))
  clear hb C hc'
  go_wp2
  go_ret
  exact ⟨rfl, HB1.out⟩
set_option maxRecDepth 100000 in
set_option maxHeartbeats 1000000 in
theorem indexFunc_any (g c : Nat) (eg : ∀ args w, (callFunc g args).run Tryz.prog w = .ok (.enter g args) w) (B : Nd → Bool) (k : Int) (s : ByteArray) (l : List Nd) (a : Option Addr) (cap : Nat) (w : World) (hl : l.length ≤ maxLen)
    (hB : ∀ i, (h : i < l.length) → Says g B l[i]) (ht : NdR w (.mk k s l) (.int .i64 k) (.string s) (.slice a l.length cap)) (hc : w.cell? ⟨c, 0, none⟩ = some (.func (.func g) #[] #[])) :
    Calls Tryz.prog 200 #[.slice a l.length cap, .func (.func 153) #[] #[.pointer (some ⟨c, 0, none⟩)]] w fun e w' => ∃ x : Int, e = .returned (.int .i64 x) ∧ decide (0 ≤ x) = (!l.all B) ∧ Below w.heap.size w w' := by
  unfold maxLen at hl
  have HB := Lib.hid hB
  have HT := Lib.hid ht
  have HC := Lib.hid hc
  have L0 := lt_of_cell hc
  obtain ⟨A, hA⟩ : ∃ A, l.all B = A := ⟨_, rfl⟩
  have HA := Lib.hid hA
  rw [hA]
  clear hB ht hc hA
  go_enter Tryz.func200, Tryz.ntmps200
  go_wp2
  go_loopw [8] (fun v wr => ∃ i : Nat, i ≤ l.length ∧ v = .int .i64 i ∧ Hid ((l.drop i).all B = A) ∧ Hid (Below w.heap.size w wr)) (fun v _ => l.length - (intOf v).toNat)
  case atStart => exact ⟨0, Nat.zero_le _, rfl, Lib.hid (by rw [List.drop_zero]; exact HA.out), Below.refl _ _⟩
  case round =>
    obtain ⟨i, hi, rfl, hrun, hbl⟩ := hrel
    by_cases hlt : i < l.length
    · have hlt' : (i : Int) < (l.length : Int) := by omega
      have hi0 : (0 : Int) ≤ (i : Int) := by omega
      obtain ⟨b, o, k1, s1, l1, a1, c1, rfl, e1, x0, x1, x2, r1⟩ := (HT.out.later hbl.out).kid i hlt
      obtain ⟨V, hV⟩ : ∃ V, B l[i] = V := ⟨_, rfl⟩
      have C := every1_any g c eg B l[i] (HB.out i hlt) wr (.int .i64 k1) (.string s1) (.slice a1 l1.length c1) (by rw [e1]; exact r1) ((hbl.out.cell (p := ⟨c, 0, none⟩) L0).trans HC.out)
      have Hst := Lib.hid (all_drop (B := B) hlt)
      rw [hV] at C Hst
      have CC := Lib.hid C
      clear C hV e1 r1
      go_wp2_with fail
      refine CC.out.mono ?_
      rintro e w5 ⟨rfl, hb5⟩
      have hbx : Hid (Below w.heap.size w w5) := Lib.hid (hbl.out.trans (hb5.mono hbl.out.size))
      clear hb5 CC x0 x1 x2
      cases V with
      | false =>
        go_wp2
        go_ret
        exact ⟨(i : Int), rfl, by rw [← hrun.out, Hst.out, decide_eq_true (by omega)]; rfl, hbx.out⟩
      | true =>
        go_wp2
        go_roundw
        case rel => exact ⟨i + 1, hlt, by push_cast; rfl, Lib.hid (by rw [← hrun.out, Hst.out]; rfl), hbx⟩
        case measure => simp [intOf]; omega
    · have hlt' : ¬ ((i : Int) < (l.length : Int)) := by omega
      have hAt : A = true := by rw [← hrun.out, List.drop_of_length_le (by omega)]; rfl
      subst hAt
      go_wp2
      go_ret
      exact ⟨-1, rfl, by decide, hbl.out⟩
set_option maxRecDepth 100000 in
set_option maxHeartbeats 1000000 in
theorem containsFunc_any (g c : Nat) (eg : ∀ args w, (callFunc g args).run Tryz.prog w = .ok (.enter g args) w) (B : Nd → Bool) (k : Int) (s : ByteArray) (l : List Nd) (a : Option Addr) (cap : Nat) (w : World) (hl : l.length ≤ maxLen)
    (hB : ∀ i, (h : i < l.length) → Says g B l[i]) (ht : NdR w (.mk k s l) (.int .i64 k) (.string s) (.slice a l.length cap)) (hc : w.cell? ⟨c, 0, none⟩ = some (.func (.func g) #[] #[])) :
    Calls Tryz.prog 152 #[.slice a l.length cap, .func (.func 153) #[] #[.pointer (some ⟨c, 0, none⟩)]] w fun e w' => e = .returned (.bool (!l.all B)) ∧ Below w.heap.size w w' := by
  have C := Lib.hid (indexFunc_any g c eg B k s l a cap w hl hB ht hc)
  clear hB ht hc
  obtain ⟨A, hA⟩ : ∃ A, (!l.all B) = A := ⟨_, rfl⟩
  rw [hA] at C ⊢
  clear hA
  go_enter Tryz.func152, Tryz.ntmps152
  go_wp2_with fail
  refine C.out.mono ?_
  rintro e w1 ⟨x, rfl, hx, hb⟩
  have HX := Lib.hid hx
  have HB := Lib.hid hb
  clear hx hb C
  go_wp2
  go_ret
  exact ⟨by rw [← HX.out]; rfl, HB.out⟩
set_option maxRecDepth 100000 in
set_option maxHeartbeats 1000000 in
theorem every_any (g : Nat) (eg : ∀ args w, (callFunc g args).run Tryz.prog w = .ok (.enter g args) w) (B : Nd → Bool) (k : Int) (s : ByteArray) (l : List Nd) (a : Option Addr) (cap : Nat) (w : World) (hl : l.length ≤ maxLen)
    (hB : ∀ i, (h : i < l.length) → Says g B l[i]) (ht : NdR w (.mk k s l) (.int .i64 k) (.string s) (.slice a l.length cap)) :
    Calls Tryz.prog 105 #[.slice a l.length cap, .func (.func g) #[] #[]] w fun e w' => e = .returned (.bool (l.all B)) ∧ Below w.heap.size w w' := by
  have hmf : ∀ (fn : Fn) (first cap : Array Value) (w : World), (Instr.makeFunc fn first cap).run Tryz.prog w = .ok (.func fn first cap) w := fun _ _ _ _ => rfl
  have hb0 := (Below.refl w.heap.size w).alloc (Nat.le_refl _) (.cells #[.func (.func g) #[] #[]] 29)
  have C := Lib.hid (fun w' => (show NdR w' _ _ _ _ → _ from fun h1 hc => containsFunc_any g w.heap.size eg B k s l a cap w' hl hB h1 hc))
  have HT := Lib.hid (ht.later hb0)
  have HB := Lib.hid hb0
  have HC := Lib.hid (show (w.alloc (.cells #[.func (.func g) #[] #[]] 29)).cell? ⟨w.heap.size, 0, none⟩ = some (.func (.func g) #[] #[]) from (World.cell?_alloc_at _ _ _ _ rfl).trans rfl)
  obtain ⟨A, hA⟩ : ∃ A, l.all B = A := ⟨_, rfl⟩
  rw [hA] at C ⊢
  clear hA hB ht hb0
  go_enter Tryz.func105, Tryz.ntmps105
  go_wp2_with fail
  refine (C.out _ HT.out HC.out).mono ?_
  rintro e w1 ⟨rfl, hb⟩
  have HB1 := Lib.hid (HB.out.trans (hb.mono HB.out.size))
  clear hb C HT HC
  cases A
  · go_wp2
    go_ret
    exact ⟨rfl, HB1.out⟩
  · go_wp2
    go_ret
    exact ⟨rfl, HB1.out⟩
def SaysN (g : Nat) (N : ByteArray → Bool) (s : ByteArray) : Prop := ∀ w : World, Calls Tryz.prog g #[.string s] w fun e w' => e = .returned (.bool (N s)) ∧ Below w.heap.size w w'
def hasB (N : ByteArray → Bool) (lo hi : Int) (B : Nd → Bool) (s : ByteArray) (l : List Nd) : Bool := decide (lo ≤ (l.length : Int)) && (decide ((l.length : Int) ≤ hi) && (N s && l.all B))
set_option maxRecDepth 100000 in
set_option maxHeartbeats 1000000 in
theorem has_any (gn g : Nat) (en : ∀ args w, (callFunc gn args).run Tryz.prog w = .ok (.enter gn args) w) (eg : ∀ args w, (callFunc g args).run Tryz.prog w = .ok (.enter g args) w) (N : ByteArray → Bool) (B : Nd → Bool) (lo hi : Int) (k : Int) (s : ByteArray) (l : List Nd) (a : Option Addr) (cap : Nat) (w : World) (hl : l.length ≤ maxLen)
    (hN : SaysN gn N s) (hB : ∀ i, (h : i < l.length) → Says g B l[i]) (ht : NdR w (.mk k s l) (.int .i64 k) (.string s) (.slice a l.length cap)) :
    Calls Tryz.prog 102 #[.agg #[.int .i64 k, .string s, .slice a l.length cap], .func (.func gn) #[] #[], .int .i64 lo, .int .i64 hi, .func (.func g) #[] #[]] w fun e w' => e = .returned (.bool (hasB N lo hi B s l)) ∧ Below w.heap.size w w' := by
  have hb0 := (Below.refl w.heap.size w).alloc (Nat.le_refl _) (.cells #[.int .i64 k, .string s, .slice a l.length cap] 24)
  obtain ⟨W1, hW1⟩ : ∃ W1, w.alloc (.cells #[.int .i64 k, .string s, .slice a l.length cap] 24) = W1 := ⟨_, rfl⟩
  obtain ⟨h, hh⟩ : ∃ h, w.heap.size = h := ⟨_, rfl⟩
  have R1 : Row3 W1 h (.int .i64 k) (.string s) (.slice a l.length cap) := by rw [← hW1, ← hh]; exact Row3.new _ _ _ _
  have CN := Lib.hid (hN W1)
  have CE := Lib.hid (fun w' (hb : Below W1.heap.size W1 w') => every_any g eg B k s l a cap w' hl hB (((by rw [← hW1]; exact ht.later hb0 : NdR W1 _ _ _ _)).later hb))
  obtain ⟨VN, hVN⟩ : ∃ V, N s = V := ⟨_, rfl⟩
  obtain ⟨VB, hVB⟩ : ∃ V, l.all B = V := ⟨_, rfl⟩
  obtain ⟨R, hR⟩ : ∃ R, hasB N lo hi B s l = R := ⟨_, rfl⟩
  have HR : Hid (R = (decide (lo ≤ (l.length : Int)) && (decide ((l.length : Int) ≤ hi) && (VN && VB)))) := Lib.hid (by rw [← hR, ← hVN, ← hVB]; rfl)
  rw [hVN] at CN
  rw [hVB] at CE
  rw [hR]
  rw [hW1] at hb0
  have HB := Lib.hid hb0
  have HR1 := Lib.hid R1
  obtain ⟨⟨n0, n1, n2⟩, _⟩ := R1.cells
  have HW := Lib.hid hW1
  rw [hh] at HB
  clear hVN hVB hR hb0 hN hB ht R1 hW1
  by_cases h1 : lo ≤ (l.length : Int)
  · have hD1 := Lib.hid (decide_eq_true h1)
    by_cases h2 : (l.length : Int) ≤ hi
    · have hD2 := Lib.hid (decide_eq_true h2)
      rw [hD1.out, hD2.out, Bool.true_and, Bool.true_and] at HR
      go_enter Tryz.func102, Tryz.ntmps102
      go_upto_region 1 with fail
      rw [HW.out]
      go_wp2_with fail
      refine CN.out.mono ?_
      rintro e w2 ⟨rfl, hb2⟩
      have R2 := Lib.hid (HR1.out.below hb2 HR1.out.lt)
      have HB2 := Lib.hid hb2
      clear hb2 CN n0 n1 n2
      obtain ⟨⟨n0, n1, n2⟩, _⟩ := R2.out.cells
      cases VN with
      | false =>
        go_wp2
        go_ret
        exact ⟨by rw [HR.out]; rfl, by first | exact HB.out.trans (HB2.out.mono (by have := HB.out.size; have := HR1.out.lt; omega)) | (rw [hh]; exact HB.out.trans (HB2.out.mono (by have := HB.out.size; have := HR1.out.lt; omega)))⟩
      | true =>
        go_wp2_with fail
        refine (CE.out _ HB2.out).mono ?_
        rintro e w3 ⟨rfl, hb3⟩
        have HB3 := Lib.hid hb3
        clear hb3 CE n0 n1 n2
        cases VB
        · go_wp2
          go_ret
          exact ⟨by rw [HR.out]; rfl, by first | exact HB.out.trans ((HB2.out.trans (HB3.out.mono HB2.out.size)).mono (by have := HR1.out.lt; omega)) | (rw [hh]; exact HB.out.trans ((HB2.out.trans (HB3.out.mono HB2.out.size)).mono (by have := HR1.out.lt; omega)))⟩
        · go_wp2
          go_ret
          exact ⟨by rw [HR.out]; rfl, by first | exact HB.out.trans ((HB2.out.trans (HB3.out.mono HB2.out.size)).mono (by have := HR1.out.lt; omega)) | (rw [hh]; exact HB.out.trans ((HB2.out.trans (HB3.out.mono HB2.out.size)).mono (by have := HR1.out.lt; omega)))⟩
    · have hD2 := Lib.hid (decide_eq_false h2)
      rw [hD1.out, hD2.out, Bool.true_and, Bool.false_and] at HR
      go_enter Tryz.func102, Tryz.ntmps102
      go_upto_region 1 with fail
      rw [HW.out]
      go_wp2
      go_ret
      exact ⟨by rw [HR.out]; rfl, by first | exact HB.out | (rw [hh]; exact HB.out)⟩
  · have hD1 := Lib.hid (decide_eq_false h1)
    rw [hD1.out, Bool.false_and] at HR
    go_enter Tryz.func102, Tryz.ntmps102
    go_upto_region 1 with fail
    rw [HW.out]
    go_wp2
    go_ret
    exact ⟨by rw [HR.out]; rfl, by first | exact HB.out | (rw [hh]; exact HB.out)⟩
end Go.Proofs.YtgikhpmdpppenaaGreatDoor
namespace Go.Proofs.YtgikhpmdpppenaaGreatDoor
open Go.RowKit Go.Shelf
theorem ent_isNone : ∀ args w, (callFunc 103 args).run Tryz.prog w = .ok (.enter 103 args) w := enters_of Tryz.func103 (by kernel_rfl) rfl
theorem ent_isName : ∀ args w, (callFunc 106 args).run Tryz.prog w = .ok (.enter 106 args) w := enters_of Tryz.func106 (by kernel_rfl) rfl
theorem ent_isVar : ∀ args w, (callFunc 68 args).run Tryz.prog w = .ok (.enter 68 args) w := enters_of Tryz.func68 (by kernel_rfl) rfl
theorem ent_isLone : ∀ args w, (callFunc 104 args).run Tryz.prog w = .ok (.enter 104 args) w := enters_of Tryz.func104 (by kernel_rfl) rfl
theorem ent_isMode : ∀ args w, (callFunc 107 args).run Tryz.prog w = .ok (.enter 107 args) w := enters_of Tryz.func107 (by kernel_rfl) rfl
theorem ent_isType : ∀ args w, (callFunc 56 args).run Tryz.prog w = .ok (.enter 56 args) w := enters_of Tryz.func56 (by kernel_rfl) rfl
theorem ent_isTerm : ∀ args w, (callFunc 55 args).run Tryz.prog w = .ok (.enter 55 args) w := enters_of Tryz.func55 (by kernel_rfl) rfl
theorem ent_isForm : ∀ args w, (callFunc 54 args).run Tryz.prog w = .ok (.enter 54 args) w := enters_of Tryz.func54 (by kernel_rfl) rfl
theorem ent_isItem : ∀ args w, (callFunc 53 args).run Tryz.prog w = .ok (.enter 53 args) w := enters_of Tryz.func53 (by kernel_rfl) rfl
set_option maxRecDepth 100000 in
set_option maxHeartbeats 400000 in
theorem isNone_any (s : ByteArray) : SaysN 103 noneB s := by
  intro w
  have e : (s.toList == []) = noneB s := by unfold noneB; cases s.toList <;> rfl
  obtain ⟨V, hV⟩ : ∃ V, noneB s = V := ⟨_, rfl⟩
  rw [hV] at e ⊢
  have HE := Lib.hid e
  clear hV
  go_enter Tryz.func103, Tryz.ntmps103
  go_wp2
  go_ret
  first | exact ⟨rfl, Below.refl _ _⟩ | exact ⟨by rw [← HE.out]; rfl, Below.refl _ _⟩
theorem name_says (s : ByteArray) (hs : s.size ≤ maxLen) : SaysN 106 nameB s := fun w => isName_any s w hs
theorem var_says (s : ByteArray) (hs : s.size ≤ maxLen) : SaysN 68 varB s := fun w => isVar_any s w hs
set_option maxRecDepth 100000 in
set_option maxHeartbeats 400000 in
theorem isAny_any (s : ByteArray) (hs : s.size ≤ maxLen) : SaysN 67 (fun s => nameB s || varB s) s := by
  intro w
  have C1 := name_says s hs
  have C2 := var_says s hs
  unfold SaysN at C1 C2
  obtain ⟨V1, h1⟩ : ∃ V, nameB s = V := ⟨_, rfl⟩
  obtain ⟨V2, h2⟩ : ∃ V, varB s = V := ⟨_, rfl⟩
  simp only [h1, h2] at C1 C2 ⊢
  have D1 := Lib.hid C1
  have D2 := Lib.hid C2
  clear C1 C2 h1 h2
  go_enter Tryz.func67, Tryz.ntmps67
  go_wp2_with fail
  refine (D1.out _).mono ?_
  rintro e w1 ⟨rfl, hb1⟩
  have HB1 := Lib.hid hb1
  clear hb1 D1
  cases V1 with
  | true =>
    go_wp2
    go_ret
    exact ⟨rfl, HB1.out⟩
  | false =>
    go_wp2_with fail
    refine (D2.out _).mono ?_
    rintro e w2 ⟨rfl, hb2⟩
    have HB2 := Lib.hid (HB1.out.trans (hb2.mono HB1.out.size))
    clear hb2 D2
    cases V2
    · go_wp2
      go_ret
      exact ⟨rfl, HB2.out⟩
    · go_wp2
      go_ret
      exact ⟨rfl, HB2.out⟩
theorem all_iff {B : Nd → Bool} {l : List Nd} : l.all B = true ↔ ∀ i, (h : i < l.length) → B l[i] = true := by
  rw [List.all_eq_true]
  constructor
  · intro h i hi; exact h _ (List.getElem_mem hi)
  · intro h x hx
    obtain ⟨i, hi, rfl⟩ := List.getElem_of_mem hx
    exact h i hi
theorem typL_all (l : List Nd) : typL l = l.all typB := by rw [Bool.eq_iff_iff, typL_iff, all_iff]
theorem termL_all (l : List Nd) : termL l = l.all termB := by rw [Bool.eq_iff_iff, termL_iff, all_iff]
theorem nameL_all (l : List Nd) : nameL l = l.all loneB := by rw [Bool.eq_iff_iff, nameL_iff, all_iff]
theorem modeL_all (l : List Nd) : modeL l = l.all modeB := by rw [Bool.eq_iff_iff, modeL_iff, all_iff]
theorem itemL_all (l : List Nd) : itemL l = l.all itemB := by rw [Bool.eq_iff_iff, itemL_iff, all_iff]
theorem formL_all : ∀ l : List Nd, formL l = l.all formB
  | [] => by simp [formL]
  | a :: l => by simp only [formL, List.all_cons]; rw [formL_all l]
theorem has_eq (N : ByteArray → Bool) (lo hi : Nat) (B : Nd → Bool) (s : ByteArray) (l : List Nd) : hasB N lo hi B s l = (decide (lo ≤ l.length) && (decide (l.length ≤ hi) && (N s && l.all B))) := by
  unfold hasB
  congr 1
  · by_cases h : lo ≤ l.length
    · rw [decide_eq_true h, decide_eq_true (by omega)]
    · rw [decide_eq_false h, decide_eq_false (by omega)]
  · congr 1
    by_cases h : l.length ≤ hi
    · rw [decide_eq_true h, decide_eq_true (by omega)]
    · rw [decide_eq_false h, decide_eq_false (by omega)]
theorem has_zero (N : ByteArray → Bool) (B : Nd → Bool) (s : ByteArray) (l : List Nd) : hasB N 0 0 B s l = (decide (l.length = 0) && N s) := by
  rw [show hasB N 0 0 B s l = hasB N ((0 : Nat) : Int) ((0 : Nat) : Int) B s l from rfl, has_eq]
  cases l with
  | nil => simp
  | cons a l => simp
set_option maxRecDepth 100000 in
set_option maxHeartbeats 2000000 in
theorem isLone_any (n : Nat) : ∀ t : Nd, t.sz ≤ n → Says 104 loneB t := by
  induction n with
  | zero => intro t h; cases t; simp only [Nd.sz] at h; omega
  | succ n ih =>
    intro t hsz w v0 v1 v2 ht
    obtain ⟨k, s, l, a, cap, rfl, rfl, rfl, rfl, hs, hl⟩ := ht.form
    have hb0 := (Below.refl w.heap.size w).alloc (Nat.le_refl _) (.cells #[.int .i64 k, .string s, .slice a l.length cap] 24)
    obtain ⟨h, hh⟩ : ∃ h, w.heap.size = h := ⟨_, rfl⟩
    obtain ⟨W1, hW1⟩ : ∃ W1, w.alloc (.cells #[.int .i64 k, .string s, .slice a l.length cap] 24) = W1 := ⟨_, rfl⟩
    have R1 : Row3 W1 h (.int .i64 k) (.string s) (.slice a l.length cap) := by rw [← hW1, ← hh]; exact Row3.new _ _ _ _
    have T1 := ht.later hb0
    rw [hW1] at hb0 T1
    rw [hh] at hb0
    have HB := Lib.hid hb0
    have HT1 := Lib.hid T1
    have HR1 := Lib.hid R1
    have HW := Lib.hid hW1
    obtain ⟨⟨n0, n1, n2⟩, _⟩ := R1.cells
    have CH_x := fun w' (hb : Below W1.heap.size W1 w') => has_any 106 104 ent_isName ent_isLone nameB loneB 0 0 k s l a cap w' hl (name_says s hs) (fun i hi => ih l[i] (Nat.le_of_lt_succ (Nat.lt_of_lt_of_le (Nd.kid_lt _ s l i hi) hsz))) (HT1.out.later hb)
    obtain ⟨V, hV⟩ : ∃ V, hasB nameB 0 0 loneB s l = V := ⟨_, rfl⟩
    rw [hV] at CH_x
    have CC := Lib.hid CH_x
    have HS : Hid (loneB (.mk k s l) = (decide (k = 15) && V)) := Lib.hid (by rw [loneB, ← hV, has_zero])
    clear CH_x hV ih ht hb0 T1 R1 hW1 hsz
    by_cases hk : k = 15
    · subst hk
      go_enter Tryz.func104, Tryz.ntmps104
      go_upto_region 1 with fail
      rw [HW.out]
      go_wp2_with fail
      refine (CC.out _ (Below.refl _ _)).mono ?_
      rintro e w2 ⟨rfl, hb2⟩
      have HB2 := Lib.hid hb2
      clear hb2 CC n0 n1 n2
      cases V
      · skip
        go_wp2
        go_ret
        exact ⟨by rw [HS.out]; rfl, by first | exact HB.out.trans (HB2.out.mono (by have := HR1.out.lt; omega)) | (rw [hh]; exact HB.out.trans (HB2.out.mono (by have := HR1.out.lt; omega)))⟩
      · skip
        go_wp2
        go_ret
        exact ⟨by rw [HS.out]; rfl, by first | exact HB.out.trans (HB2.out.mono (by have := HR1.out.lt; omega)) | (rw [hh]; exact HB.out.trans (HB2.out.mono (by have := HR1.out.lt; omega)))⟩
    · have e1 : (k == 15) = false := by rw [beq_eq_false_iff_ne]; exact hk
      have HS2 : Hid (loneB (.mk k s l) = false) := Lib.hid (by rw [HS.out, decide_eq_false hk]; rfl)
      clear hk
      go_enter Tryz.func104, Tryz.ntmps104
      go_upto_region 1 with fail
      rw [HW.out]
      go_wp2
      go_ret
      exact ⟨by rw [HS2.out]; rfl, by first | exact HB.out | (rw [hh]; exact HB.out)⟩
set_option maxRecDepth 100000 in
set_option maxHeartbeats 2000000 in
theorem isMode_any (t : Nd) : Says 107 modeB t := by
  intro w v0 v1 v2 ht
  obtain ⟨k, s, l, a, cap, rfl, rfl, rfl, rfl, hs, hl⟩ := ht.form
  have hb0 := (Below.refl w.heap.size w).alloc (Nat.le_refl _) (.cells #[.int .i64 k, .string s, .slice a l.length cap] 24)
  obtain ⟨h, hh⟩ : ∃ h, w.heap.size = h := ⟨_, rfl⟩
  obtain ⟨W1, hW1⟩ : ∃ W1, w.alloc (.cells #[.int .i64 k, .string s, .slice a l.length cap] 24) = W1 := ⟨_, rfl⟩
  have R1 : Row3 W1 h (.int .i64 k) (.string s) (.slice a l.length cap) := by rw [← hW1, ← hh]; exact Row3.new _ _ _ _
  have T1 := ht.later hb0
  rw [hW1] at hb0 T1
  rw [hh] at hb0
  have HB := Lib.hid hb0
  have HT1 := Lib.hid T1
  have HR1 := Lib.hid R1
  have HW := Lib.hid hW1
  obtain ⟨⟨n0, n1, n2⟩, _⟩ := R1.cells
  have CL := isLone_any _ (.mk k s l) (Nat.le_refl _) W1 _ _ _ HT1.out
  obtain ⟨V, hV⟩ : ∃ V, loneB (.mk k s l) = V := ⟨_, rfl⟩
  rw [hV] at CL
  have CC := Lib.hid CL
  have key : modeB (.mk k s l) = (V && (s.toList == [105, 110] || (s.toList == [111, 117, 116] || s.toList == [97, 110, 121]))) := by
    have e : ∀ x : List UInt8, decide (s = ⟨x.toArray⟩) = (s.toList == x) := fun x => by
      rw [ByteArray.toList_eq, Bool.eq_iff_iff, decide_eq_true_eq, beq_iff_eq]
      constructor
      · intro h; rw [h]
      · intro h; obtain ⟨⟨d⟩⟩ := s; simp only at h; rw [h]
    have m1 : nameB ⟨#[105, 110]⟩ = true := by decide +kernel
    have m2 : nameB ⟨#[111, 117, 116]⟩ = true := by decide +kernel
    have m3 : nameB ⟨#[97, 110, 121]⟩ = true := by decide +kernel
    rw [modeB, ← hV, loneB]
    rw [show (s.toList == [105, 110]) = decide (s = ⟨#[105, 110]⟩) from (e _).symm, show (s.toList == [111, 117, 116]) = decide (s = ⟨#[111, 117, 116]⟩) from (e _).symm, show (s.toList == [97, 110, 121]) = decide (s = ⟨#[97, 110, 121]⟩) from (e _).symm]
    by_cases h1 : s = ⟨#[105, 110]⟩
    · subst h1; rw [m1]; simp
    · by_cases h2 : s = ⟨#[111, 117, 116]⟩
      · subst h2; rw [m2]; simp
      · by_cases h3 : s = ⟨#[97, 110, 121]⟩
        · subst h3; rw [m3]; simp
        · simp [h1, h2, h3]
  obtain ⟨B1, hB1⟩ : ∃ B, (s.toList == [105, 110]) = B := ⟨_, rfl⟩
  obtain ⟨B2, hB2⟩ : ∃ B, (s.toList == [111, 117, 116]) = B := ⟨_, rfl⟩
  obtain ⟨B3, hB3⟩ : ∃ B, (s.toList == [97, 110, 121]) = B := ⟨_, rfl⟩
  rw [hB1, hB2, hB3] at key
  have HS := Lib.hid key
  clear CL hV ht hb0 T1 R1 hW1 key
  go_enter Tryz.func107, Tryz.ntmps107
  go_upto_region 1 with fail
  rw [HW.out]
  go_wp2_with fail
  refine CC.out.mono ?_
  rintro e w2 ⟨rfl, hb2⟩
  have R2 := Lib.hid (HR1.out.below hb2 HR1.out.lt)
  have HB2 := Lib.hid hb2
  clear hb2 n0 n1 n2
  obtain ⟨⟨n0, n1, n2⟩, _⟩ := R2.out.cells
  clear CC
  cases V with
  | false =>
    go_wp2
    go_ret
    exact ⟨by rw [HS.out]; rfl, by first | exact HB.out.trans (HB2.out.mono (by have := HR1.out.lt; omega)) | (rw [hh]; exact HB.out.trans (HB2.out.mono (by have := HR1.out.lt; omega)))⟩
  | true =>
    cases B1 with
    | true =>
      go_wp2
      go_ret
      exact ⟨by rw [HS.out]; rfl, by first | exact HB.out.trans (HB2.out.mono (by have := HR1.out.lt; omega)) | (rw [hh]; exact HB.out.trans (HB2.out.mono (by have := HR1.out.lt; omega)))⟩
    | false =>
      cases B2 with
      | true =>
        go_wp2
        go_ret
        exact ⟨by rw [HS.out]; rfl, by first | exact HB.out.trans (HB2.out.mono (by have := HR1.out.lt; omega)) | (rw [hh]; exact HB.out.trans (HB2.out.mono (by have := HR1.out.lt; omega)))⟩
      | false =>
        cases B3 with
        | true =>
          go_wp2
          go_ret
          exact ⟨by rw [HS.out]; rfl, by first | exact HB.out.trans (HB2.out.mono (by have := HR1.out.lt; omega)) | (rw [hh]; exact HB.out.trans (HB2.out.mono (by have := HR1.out.lt; omega)))⟩
        | false =>
          go_wp2
          go_ret
          exact ⟨by rw [HS.out]; rfl, by first | exact HB.out.trans (HB2.out.mono (by have := HR1.out.lt; omega)) | (rw [hh]; exact HB.out.trans (HB2.out.mono (by have := HR1.out.lt; omega)))⟩
set_option maxRecDepth 100000 in
set_option maxHeartbeats 2000000 in
theorem isType_any (n : Nat) : ∀ t : Nd, t.sz ≤ n → Says 56 typB t := by
  induction n with
  | zero => intro t h; cases t; simp only [Nd.sz] at h; omega
  | succ n ih =>
    intro t hsz w v0 v1 v2 ht
    obtain ⟨k, s, l, a, cap, rfl, rfl, rfl, rfl, hs, hl⟩ := ht.form
    have hb0 := (Below.refl w.heap.size w).alloc (Nat.le_refl _) (.cells #[.int .i64 k, .string s, .slice a l.length cap] 24)
    obtain ⟨h, hh⟩ : ∃ h, w.heap.size = h := ⟨_, rfl⟩
    obtain ⟨W1, hW1⟩ : ∃ W1, w.alloc (.cells #[.int .i64 k, .string s, .slice a l.length cap] 24) = W1 := ⟨_, rfl⟩
    have R1 : Row3 W1 h (.int .i64 k) (.string s) (.slice a l.length cap) := by rw [← hW1, ← hh]; exact Row3.new _ _ _ _
    have T1 := ht.later hb0
    rw [hW1] at hb0 T1
    rw [hh] at hb0
    have HB := Lib.hid hb0
    have HT1 := Lib.hid T1
    have HR1 := Lib.hid R1
    have HW := Lib.hid hW1
    obtain ⟨⟨n0, n1, n2⟩, _⟩ := R1.cells
    have CL := Lib.hid (isLone_any _ (.mk k s l) (Nat.le_refl _) W1 _ _ _ HT1.out)
    have CH_x := fun w' (hb : Below W1.heap.size W1 w') => has_any 103 56 ent_isNone ent_isType noneB typB 2 2 k s l a cap w' hl (isNone_any s) (fun i hi => ih l[i] (Nat.le_of_lt_succ (Nat.lt_of_lt_of_le (Nd.kid_lt _ s l i hi) hsz))) (HT1.out.later hb)
    obtain ⟨V, hV⟩ : ∃ V, hasB noneB 2 2 typB s l = V := ⟨_, rfl⟩
    rw [hV] at CH_x
    have CC := Lib.hid CH_x
    by_cases hk : k = 31
    · subst hk
      have HS : Hid (typB (.mk 31 s l) = V) := Lib.hid (by
        rw [typB, if_pos rfl, ← hV, show hasB noneB 2 2 typB s l = hasB noneB ((2 : Nat) : Int) ((2 : Nat) : Int) typB s l from rfl, has_eq, typL_all]
        by_cases h2 : l.length = 2
        · rw [decide_eq_true h2, decide_eq_true (by omega : 2 ≤ l.length), decide_eq_true (by omega : l.length ≤ 2)]; rfl
        · rw [decide_eq_false h2]
          by_cases h3 : 2 ≤ l.length
          · rw [decide_eq_false (by omega : ¬ l.length ≤ 2)]; simp
          · rw [decide_eq_false h3]; simp)
      have HL : Hid (loneB (.mk 31 s l) = false) := Lib.hid (by rw [loneB]; rfl)
      rw [HL.out] at CL
      clear CH_x hV ih ht hb0 T1 R1 hW1 hsz
      go_enter Tryz.func56, Tryz.ntmps56
      go_upto_region 1 with fail
      rw [HW.out]
      go_wp2_with fail
      refine CL.out.mono ?_
      rintro e w2 ⟨rfl, hb2⟩
      have R2 := Lib.hid (HR1.out.below hb2 HR1.out.lt)
      have HB2 := Lib.hid hb2
      clear hb2 n0 n1 n2
      obtain ⟨⟨n0, n1, n2⟩, _⟩ := R2.out.cells
      clear CL
      go_wp2_with fail
      refine (CC.out _ HB2.out).mono ?_
      rintro e w3 ⟨rfl, hb3⟩
      have HB3 := Lib.hid (HB2.out.trans (hb3.mono HB2.out.size))
      clear hb3 CC n0 n1 n2
      cases V
      · go_wp2
        go_ret
        exact ⟨by rw [HS.out]; rfl, by first | exact HB.out.trans (HB3.out.mono (by have := HR1.out.lt; omega)) | (rw [hh]; exact HB.out.trans (HB3.out.mono (by have := HR1.out.lt; omega)))⟩
      · go_wp2
        go_ret
        exact ⟨by rw [HS.out]; rfl, by first | exact HB.out.trans (HB3.out.mono (by have := HR1.out.lt; omega)) | (rw [hh]; exact HB.out.trans (HB3.out.mono (by have := HR1.out.lt; omega)))⟩
    · obtain ⟨V2, hV2⟩ : ∃ V, loneB (.mk k s l) = V := ⟨_, rfl⟩
      rw [hV2] at CL
      have HS : Hid (typB (.mk k s l) = V2) := Lib.hid (by rw [typB, if_neg hk, ← hV2, loneB])
      have e1 : (k == 31) = false := by rw [beq_eq_false_iff_ne]; exact hk
      clear CH_x CC hV hV2 ih ht hb0 T1 R1 hW1 hsz hk
      go_enter Tryz.func56, Tryz.ntmps56
      go_upto_region 1 with fail
      rw [HW.out]
      go_wp2_with fail
      refine CL.out.mono ?_
      rintro e w2 ⟨rfl, hb2⟩
      have R2 := Lib.hid (HR1.out.below hb2 HR1.out.lt)
      have HB2 := Lib.hid hb2
      clear hb2 n0 n1 n2
      obtain ⟨⟨n0, n1, n2⟩, _⟩ := R2.out.cells
      clear CL
      cases V2
      · go_wp2
        go_ret
        exact ⟨by rw [HS.out]; rfl, by first | exact HB.out.trans (HB2.out.mono (by have := HR1.out.lt; omega)) | (rw [hh]; exact HB.out.trans (HB2.out.mono (by have := HR1.out.lt; omega)))⟩
      · go_wp2
        go_ret
        exact ⟨by rw [HS.out]; rfl, by first | exact HB.out.trans (HB2.out.mono (by have := HR1.out.lt; omega)) | (rw [hh]; exact HB.out.trans (HB2.out.mono (by have := HR1.out.lt; omega)))⟩
end Go.Proofs.YtgikhpmdpppenaaGreatDoor
