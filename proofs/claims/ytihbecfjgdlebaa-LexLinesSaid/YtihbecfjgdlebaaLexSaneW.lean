/- Walks of layer 1: the law's examples, walked. -/
import Derived.Test.YtihbecfjgdlebaaLexSane
namespace Go.Proofs.Ytihbecfjgdlebaa
open Go.RowKit

def ceT : Array Value := #[.int .i64 1, .string ⟨#[112]⟩, .int .i64 0, .int .i64 1, .string ⟨#[120]⟩, .int .i64 0, .int .i64 3, .string ⟨#[45, 111]⟩, .int .i64 0, .int .i64 1, .string ⟨#[113]⟩, .int .i64 0]
theorem tokSl_T (w : World) (n : Nat) (hn : n = w.heap.size) (cap : Nat) : TokSl (w.alloc (.cells ceT 33)) (.slice (some ⟨n, 0, none⟩) 4 cap) liT := by
  subst hn
  refine ⟨_, cap, rfl, fun _ => ⟨_, 0, rfl, fun i hi => ?_⟩⟩
  have h : i = 0 ∨ i = 1 ∨ i = 2 ∨ i = 3 := by simp only [liT, List.length_cons, List.length_nil] at hi; omega
  rcases h with rfl | rfl | rfl | rfl <;> (refine ⟨?_, ?_, ?_⟩ <;> (rw [World.cell?_alloc_at _ _ _ _ rfl]; rfl))
theorem liT_size : ∀ i, (h : i < liT.length) → liT[i].t.size ≤ maxLen := by
  have h4 : ∀ i : Fin liT.length, liT[i].t.size ≤ maxLen := by decide
  exact fun i h => h4 ⟨i, h⟩
theorem tight_T (v : Value) (w : World) (hv : TokSl w v liT) : Calls Try.prog 32 #[v] w fun e w' => e = .returned (.string ⟨#[112, 32, 120, 45, 111, 32, 113]⟩) ∧ Below w.heap.size w w' := by
  refine (tight_any v liT w hv (by decide) liT_size).mono ?_
  rintro e w' ⟨rfl, hb⟩
  rw [tiT]
  exact ⟨rfl, hb⟩
theorem join_T (v : Value) (w : World) (hv : TokSl w v liT) : Calls Try.prog 30 #[v] w fun e w' => e = .returned (.string ⟨#[112, 32, 120, 32, 45, 111, 32, 113]⟩) ∧ Below w.heap.size w w' := by
  refine (join_any v liT w hv (by decide) liT_size).mono ?_
  rintro e w' ⟨rfl, hb⟩
  rw [joT]
  exact ⟨rfl, hb⟩
theorem place_T (w : World) : Calls Try.prog 36 #[.string ⟨#[97, 98, 10, 99]⟩, .int .i64 3] w fun e w' => e = .returned (.tuple #[.int .i64 2, .int .i64 1, .int .i64 0]) ∧ w' = w := by
  refine (place_in ⟨#[97, 98, 10, 99]⟩ 3 w (by decide) (by decide)).mono ?_
  rintro e w' ⟨rfl, hb⟩
  rw [laT, ctT]
  exact ⟨rfl, hb⟩
theorem coms_T (w : World) : Calls Try.prog 42 #[.string ⟨#[97, 37, 98, 10, 37, 37]⟩] w fun e w' => ∃ a cap, e = .returned (.slice a 2 cap) ∧ Below w.heap.size w w' := by
  refine (comms_any ⟨#[97, 37, 98, 10, 37, 37]⟩ w (by decide)).mono ?_
  rintro e w' ⟨v, rfl, hc, hb⟩
  rw [coT] at hc
  obtain ⟨a, cap, rfl⟩ := ownsRow_shape hc
  exact ⟨a, cap, rfl, hb⟩

set_option maxRecDepth 100000 in
set_option maxHeartbeats 4000000 in
theorem sane_any (w : World) : Calls Try.prog 13 #[] w fun e w' => e = .returned (.bool true) ∧ Below w.heap.size w w' := by
  have CA := Lib.hid (fun w => scan_toks txA toA scA w (by decide))
  have CB := Lib.hid (fun w => scan_toks txB toB scB w (by decide))
  have CC := Lib.hid (fun w => scan_toks txC toC scC w (by decide))
  have CD := Lib.hid (fun w => scan_bads txD 6 10 scD w (by decide))
  unfold txA at CA
  unfold txB at CB
  unfold txC at CC
  unfold txD at CD
  go_enter Try.func13, Try.ntmps13
  go_wp2_with fail
  refine (CA.out _).mono ?_
  rintro e w1 ⟨va, rfl, hTa, hb1⟩
  have Hb1 := Lib.hid hb1
  obtain ⟨aa, ca, rfl, ha⟩ := hTa.sl
  obtain ⟨ba, oa, rfl, hA⟩ := ha (by decide)
  have HA := Lib.hid hA
  have na : (toA.map ofTok).length = 11 := rfl
  rw [na]
  clear CA hTa hb1 ha hA na
  go_wp2_with fail
  refine (CB.out _).mono ?_
  rintro e w2 ⟨vb, rfl, hTb, hb2⟩
  have Hb2 := Lib.hid hb2
  obtain ⟨ab, cb, rfl, hb⟩ := hTb.sl
  obtain ⟨bb, ob, rfl, hB⟩ := hb (by decide)
  have HB := Lib.hid hB
  have nb : (toB.map ofTok).length = 5 := rfl
  rw [nb]
  clear CB hTb hb2 hb hB nb
  go_wp2_with fail
  refine (CC.out _).mono ?_
  rintro e w3 ⟨vc, rfl, hTc, hb3⟩
  have Hb3 := Lib.hid hb3
  obtain ⟨ac, cc, rfl, hc⟩ := hTc.sl
  obtain ⟨bc, oc, rfl, hC⟩ := hc (by decide)
  have HC := Lib.hid hC
  have nc : (toC.map ofTok).length = 2 := rfl
  rw [nc]
  clear CC hTc hb3 hc hC nc
  go_wp2_with fail
  refine (CD.out _).mono ?_
  rintro e w4 ⟨rfl, hb4⟩
  have Hb4 := Lib.hid hb4
  clear CD hb4
  have z2 := Hb2.out.size
  have z3 := Hb3.out.size
  have B1 : Below w1.heap.size w1 w4 := Hb2.out.trans ((Hb3.out.mono z2).trans (Hb4.out.mono (Nat.le_trans z2 z3)))
  have B2 : Below w2.heap.size w2 w4 := Hb3.out.trans (Hb4.out.mono z3)
  have B3 : Below w3.heap.size w3 w4 := Hb4.out
  have BW : Hid (Below w.heap.size w w4) := Hb1.out.trans (B1.mono Hb1.out.size)
  have a0 : w4.cell? ⟨ba, oa, none⟩ = some (.int .i64 4) := ((HA.out 0 (by decide)).below B1).1
  have a1 : w4.cell? ⟨ba, oa + 3, none⟩ = some (.int .i64 1) := ((HA.out 1 (by decide)).below B1).1
  have a2 : w4.cell? ⟨ba, oa + 6 + 1, none⟩ = some (.string ⟨#[58]⟩) := ((HA.out 2 (by decide)).below B1).2.1
  have a3 : w4.cell? ⟨ba, oa + 6 + 2, none⟩ = some (.int .i64 7) := ((HA.out 2 (by decide)).below B1).2.2
  have a4 : w4.cell? ⟨ba, oa + 24, none⟩ = some (.int .i64 3) := ((HA.out 8 (by decide)).below B1).1
  have a5 : w4.cell? ⟨ba, oa + 24 + 1, none⟩ = some (.string ⟨#[45, 111]⟩) := ((HA.out 8 (by decide)).below B1).2.1
  have b1 : w4.cell? ⟨bb, ob + 3 + 1, none⟩ = some (.string ⟨#[111, 45]⟩) := ((HB.out 1 (by decide)).below B2).2.1
  have b2 : w4.cell? ⟨bb, ob + 6, none⟩ = some (.int .i64 2) := ((HB.out 2 (by decide)).below B2).1
  have b4 : w4.cell? ⟨bb, ob + 12 + 1, none⟩ = some (.string ⟨#[99, 39, 64, 109]⟩) := ((HB.out 4 (by decide)).below B2).2.1
  have c0 : w4.cell? ⟨bc, oc + 1, none⟩ = some (.string ⟨#[111, 45]⟩) := ((HC.out 0 (by decide)).below B3).2.1
  clear B1 B2 B3
  go_wp2_with fail
  refine (place_T _).mono ?_
  rintro e w5 ⟨rfl, rfl⟩
  have hv0 := Lib.hid (tokSl_T w4 w4.heap.size rfl 4)
  unfold ceT at hv0
  have CT := Lib.hid (tight_T _ _ hv0.out)
  go_wp2_with fail
  refine CT.out.mono ?_
  rintro e w5 ⟨rfl, hb5⟩
  have CJ := Lib.hid (join_T _ _ (hv0.out.below hb5))
  have Hb5 := Lib.hid hb5
  clear CT hb5 hv0 a0 a1 a2 a3 a4 a5 b1 b2 b4 c0
  go_wp2_with fail
  refine CJ.out.mono ?_
  rintro e w6 ⟨rfl, hb6⟩
  have Hb6 := Lib.hid hb6
  clear CJ hb6
  go_wp2_with fail
  refine (coms_T _).mono ?_
  rintro e w7 ⟨a7, c7, rfl, hb7⟩
  have Hb7 := Lib.hid hb7
  clear hb7
  go_wp2_with fail
  refine (isName_v false ⟨#[97, 108, 108]⟩ _ (by decide) naT).mono ?_
  rintro e w8 ⟨rfl, hb8⟩
  have Hb8 := Lib.hid hb8
  clear hb8
  go_wp2_with fail
  refine (isName_v true ⟨#[120, 64, 109]⟩ _ (by decide) naU).mono ?_
  rintro e w9 ⟨rfl, hb9⟩
  have Hb9 := Lib.hid hb9
  clear hb9
  go_wp2
  go_ret
  have q := BW.out.size
  have y5 : Below w.heap.size w w5 := BW.out.trans (((Below.refl _ w4).alloc (Nat.le_refl _) _).mono q |>.trans (Hb5.out.mono (by simp only [World.size_alloc]; omega)))
  have y6 := y5.trans (Hb6.out.mono y5.size)
  have y7 := y6.trans (Hb7.out.mono y6.size)
  have y8 := y7.trans (Hb8.out.mono y7.size)
  exact ⟨rfl, y8.trans (Hb9.out.mono y8.size)⟩
end Go.Proofs.Ytihbecfjgdlebaa
