/- Layer 1: the law LexPlaces, walked. -/
import Derived.Test.YtihbecfjgdlebaaLexLinesP
namespace Go.Proofs.Ytihbecfjgdlebaa
open Go.RowKit

theorem ints_get (l : List Nat) (k x : Nat) (h : l[k]? = some x) : (intsV l)[k]? = some (.int .i64 x) := by simp [intsV, h]

set_option maxRecDepth 100000 in
set_option maxHeartbeats 1000000 in
theorem places_any (s : ByteArray) (i : Int) (w : World) : Calls Try.prog 11 #[.string s, .int .i64 i] w fun e w' => e = .returned (.bool true) ∧ Below w.heap.size w w' := by
  have CS := Lib.hid sane_any
  by_cases hbig : 30000 < s.size
  · have hbig' : (30000 : Int) < (s.size : Int) := by omega
    go_enter Try.func11, Try.ntmps11
    go_wp2_with fail
    refine (CS.out _).mono ?_
    rintro e w1 ⟨rfl, hb1⟩
    have Hb1 := Lib.hid hb1
    clear CS hb1
    go_wp2
    go_ret
    exact ⟨rfl, Hb1.out⟩
  have hbig' : ¬ ((30000 : Int) < (s.size : Int)) := by omega
  have CL := Lib.hid (fun w => lines_any s w (by omega))
  by_cases hr : i < 0 ∨ (s.size : Int) < i
  · have CP := Lib.hid (fun w => place_out s i w hr)
    have hr' : decide (i < 0) = true ∨ decide (i < 0) = false ∧ (s.size : Int) < i := by
      rcases hr with h | h
      · exact .inl (decide_eq_true h)
      · by_cases h0 : i < 0
        · exact .inl (decide_eq_true h0)
        · exact .inr ⟨decide_eq_false h0, h⟩
    clear hr
    go_enter Try.func11, Try.ntmps11
    go_wp2_with fail
    refine (CS.out _).mono ?_
    rintro e w1 ⟨rfl, hb1⟩
    have Hb1 := Lib.hid hb1
    clear CS hb1
    go_wp2_with fail
    refine (CL.out _).mono ?_
    rintro e w2 ⟨v, rfl, hown, hb2⟩
    have Hb2 := Lib.hid hb2
    clear CL hb2 hown
    go_wp2_with fail
    refine (CP.out _).mono ?_
    rintro e w3 ⟨rfl, rfl⟩
    clear CP
    have HB : Hid (Below w.heap.size w w3) := Hb1.out.trans (Hb2.out.mono Hb1.out.size)
    rcases hr' with h | ⟨h, h2⟩
    · have h1 := of_decide_eq_true h
      go_wp2
      go_ret
      exact ⟨rfl, HB.out⟩
    · have h1 : ¬ (i < 0) := of_decide_eq_false h
      go_wp2
      go_ret
      exact ⟨rfl, HB.out⟩
  · obtain ⟨n, rfl⟩ : ∃ n : Nat, i = n := ⟨i.toNat, by omega⟩
    have hn : n ≤ s.size := by omega
    have h0 : ¬ ((n : Int) < 0) := by omega
    have h1 : ¬ ((s.size : Int) < (n : Int)) := by omega
    have hls := lsL_le (bs s) n
    have CP := Lib.hid (fun w => place_ok s n w (by omega) hn)
    have CQ := Lib.hid (fun w => place_ok s (lsL (bs s) n) w (by omega) (by omega))
    rw [(cnL_ls (bs s) n).1, (cnL_ls (bs s) n).2] at CQ
    have Hat := Lib.hid (lnAt_at (bs s) hn)
    have Hz := Lib.hid (lnAt_at (bs s) (Nat.zero_le s.size))
    have Hnx := Lib.hid (fun x => lnAt_next (bs s) hn (x := x))
    have hmo := cnL_mono (bs s) hn
    have hle := cnL_le (bs s) s.size
    have Hlen := Lib.hid (lnAt_length (bs s) s.size)
    obtain ⟨c, hc⟩ : ∃ c, cnL (bs s) n = c := ⟨_, rfl⟩
    obtain ⟨b, hb⟩ : ∃ b, lsL (bs s) n = b := ⟨_, rfl⟩
    obtain ⟨m, hm⟩ : ∃ m, cnL (bs s) s.size = m := ⟨_, rfl⟩
    obtain ⟨L, hL⟩ : ∃ L, lnAt (bs s) s.size = L := ⟨_, rfl⟩
    simp only [hc, hb, hm, hL] at CP CQ Hat Hz Hnx hmo hle Hlen hls CL
    clear hc hb hm hL hr
    go_enter Try.func11, Try.ntmps11
    go_wp2_with fail
    refine (CS.out _).mono ?_
    rintro e w1 ⟨rfl, hb1⟩
    have Hb1 := Lib.hid hb1
    clear CS hb1
    go_wp2_with fail
    refine (CL.out _).mono ?_
    rintro e w2 ⟨v, rfl, hown, hb2⟩
    have Hb2 := Lib.hid hb2
    have hq := hb2.size
    clear CL hb2
    have Hown := Lib.hid hown
    obtain ⟨a, cap, rfl⟩ := ownsRow_shape hown
    obtain ⟨g, rfl⟩ : ∃ g, a = some ⟨g, 0, none⟩ := by
      rcases hown.2 with ⟨_, h0⟩ | ⟨g, _, _, hv, _⟩
      · rw [Hlen.out] at h0; omega
      · simp only [Value.slice.injEq] at hv; exact ⟨g, hv.1⟩
    have hlen := Hlen.out
    have y0 : w2.cell? ⟨g, 0, none⟩ = some (.int .i64 0) := (hown.cellAt 0 (by rw [hlen]; omega)).trans (ints_get L 0 0 Hz.out)
    have yc : w2.cell? ⟨g, c, none⟩ = some (.int .i64 b) := (hown.cellAt c (by rw [hlen]; omega)).trans (ints_get L c b Hat.out)
    rw [hlen]
    go_wp2_with fail
    refine (CP.out _).mono ?_
    rintro e w3 ⟨rfl, rfl⟩
    clear CP
    have HB : Hid (Below w.heap.size w w3) := Hb1.out.trans (Hb2.out.mono Hb1.out.size)
    by_cases hcm : c < m
    · obtain ⟨x, hx⟩ : ∃ x, L[c + 1]? = some x := ⟨L[c + 1]'(by omega), List.getElem?_eq_getElem _⟩
      have hnx : (n : Int) < x := by have := Hnx.out x hx; omega
      have yn : w3.cell? ⟨g, c + 1, none⟩ = some (.int .i64 x) := (hown.cellAt (c + 1) (by rw [hlen]; omega)).trans (ints_get L (c + 1) x hx)
      have hcm' : (c : Int) < m := by omega
      clear hown Hlen hlen hx
      go_upto_region 10 with fail
      go_wp2_with fail
      refine (CQ.out _).mono ?_
      rintro e w4 ⟨rfl, rfl⟩
      go_wp2
      go_ret
      exact ⟨rfl, HB.out⟩
    · have hcm' : ¬ ((c : Int) < m) := by omega
      clear hown Hlen hlen
      go_upto_region 10 with fail
      go_wp2_with fail
      refine (CQ.out _).mono ?_
      rintro e w4 ⟨rfl, rfl⟩
      go_wp2
      go_ret
      exact ⟨rfl, HB.out⟩
end Go.Proofs.Ytihbecfjgdlebaa
