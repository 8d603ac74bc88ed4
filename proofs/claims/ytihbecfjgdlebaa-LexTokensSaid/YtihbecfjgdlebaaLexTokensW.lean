/- Layer 1: the law LexTokens, walked. -/
import Derived.Test.YtihbecfjgdlebaaLexPlain
import Derived.Test.YtihbecfjgdlebaaLexWordsL
import Derived.Test.YtihbecfjgdlebaaLexRef7
import Derived.Test.YtihbecfjgdlebaaLexSaneW
import Derived.Test.YtihbecfjgdlebaaLexCheckV
import Derived.Deep.RegionHeld3
namespace Go.Proofs.Ytihbecfjgdlebaa
open Go.RowKit

theorem words_b {F : FuncId} {L : List ByteArray} (h : ∀ w, Calls Try.prog F #[] w fun e w' => e = .returned (.slice (some ⟨w.heap.size, 0, none⟩) 17 17) ∧ w' = w.alloc (.cells (L.map Value.string).toArray 9)) (hL : L.length = 17) (w : World) :
    Calls Try.prog F #[] w fun e w' => ∃ v, e = .returned v ∧ StrSl w' v L ∧ Below w.heap.size w w' := by
  refine (h w).mono ?_
  rintro e w' ⟨rfl, rfl⟩
  refine ⟨_, rfl, ?_, (Below.refl _ w).alloc (Nat.le_refl _) _⟩
  have := strSl_lit w L 9
  rw [hL] at this
  exact this

set_option maxRecDepth 100000 in
set_option maxHeartbeats 2000000 in
theorem lawTokens_any (k p : Int) (t s : ByteArray) (w : World) (ht : t.size ≤ maxLen) (hs : s.size ≤ maxLen) :
    Calls Try.prog 4 #[.agg #[.int .i64 k, .string t, .int .i64 p], .string s] w fun e w' => e = .returned (.bool true) ∧ Below w.heap.size w w' := by
  have CS := Lib.hid sane_any
  obtain ⟨V1, h1⟩ : ∃ V, checkB ⟨1, s, 0⟩ = V := ⟨_, rfl⟩
  obtain ⟨V2, h2⟩ : ∃ V, checkB ⟨2, s, 0⟩ = V := ⟨_, rfl⟩
  have CP := Lib.hid (fun w => isPlain_any s w hs)
  obtain ⟨V3, h3⟩ : ∃ V, plainB s = V := ⟨_, rfl⟩
  have CN := Lib.hid (fun w => isName_v V1 s w hs h1)
  have RN := Lib.hid (fun w => rIsName_v V1 s w h1)
  have CV := Lib.hid (fun w => isVar_v V2 s w hs h2)
  have RV := Lib.hid (fun w => rIsVar_v V2 s w h2)
  have RP := Lib.hid (fun w => rIsPlain_v V3 s w h3)
  rw [h3] at CP
  obtain ⟨VC, hc⟩ : ∃ V, checkB ⟨k, t, p⟩ = V := ⟨_, rfl⟩
  have CK0 := fun w => check_v VC ⟨k, t, p⟩ w ht hc
  have RK0 := fun w => rCheck_v VC ⟨k, t, p⟩ w hc
  obtain ⟨K, hK⟩ : ∃ K : Int, (if VC then 0 else 12) = K := ⟨_, rfl⟩
  rw [hK] at CK0 RK0
  have CK := Lib.hid CK0
  have RK := Lib.hid RK0
  have W1 := Lib.hid (words_b lWords rfl)
  have W2 := Lib.hid (words_b rWords rfl)
  have W3 := Lib.hid (words_b lSigns rfl)
  have W4 := Lib.hid (words_b rSigns rfl)
  have CE := Lib.hid (fun v1 v2 L w (h1 : StrSl w v1 L) (h2 : StrSl w v2 L) (h3 : L.length ≤ 1000000) => rSameStrings v1 v2 L w h1 h2 h3)
  obtain ⟨LW, hLW⟩ : ∃ L, wordsB = L := ⟨_, rfl⟩
  obtain ⟨LS, hLS⟩ : ∃ L, signsB = L := ⟨_, rfl⟩
  have lw : Hid (LW.length ≤ 1000000) := by rw [← hLW]; exact Lib.hid (by decide)
  have ls : Hid (LS.length ≤ 1000000) := by rw [← hLS]; exact Lib.hid (by decide)
  rw [hLW] at W1 W2
  rw [hLS] at W3 W4
  clear h1 h2 h3 hc hK CK0 RK0 hLW hLS
  go_enter Try.func4, Try.ntmps4
  go_wp2_with fail
  obtain ⟨N, hN⟩ : ∃ N, w.heap.size = N := ⟨_, rfl⟩
  obtain ⟨wz, hwz⟩ : ∃ wz, w.alloc (.cells #[.int .i64 k, .string t, .int .i64 p] 33) = wz := ⟨_, rfl⟩
  have T0 : Hid (wz.cell? ⟨N, 0, none⟩ = some (.int .i64 k) ∧ wz.cell? ⟨N, 1, none⟩ = some (.string t) ∧ wz.cell? ⟨N, 2, none⟩ = some (.int .i64 p)) := by
    rw [← hwz, ← hN]
    exact Lib.hid ⟨(World.cell?_alloc_at _ _ _ _ rfl).trans rfl, (World.cell?_alloc_at _ _ _ _ rfl).trans rfl, (World.cell?_alloc_at _ _ _ _ rfl).trans rfl⟩
  have hB : Hid (Below N w wz) := by rw [← hwz, ← hN]; exact Lib.hid ((Below.refl _ w).alloc (Nat.le_refl _) _)
  have hl : N < wz.heap.size := by rw [← hwz, ← hN, World.size_alloc]; omega
  have keep : Hid (∀ W W' : World, N < W.heap.size → Below W.heap.size W W' → (W.cell? ⟨N, 0, none⟩ = some (.int .i64 k) ∧ W.cell? ⟨N, 1, none⟩ = some (.string t) ∧ W.cell? ⟨N, 2, none⟩ = some (.int .i64 p)) → (W'.cell? ⟨N, 0, none⟩ = some (.int .i64 k) ∧ W'.cell? ⟨N, 1, none⟩ = some (.string t) ∧ W'.cell? ⟨N, 2, none⟩ = some (.int .i64 p)) ∧ N < W'.heap.size) :=
    Lib.hid fun W W' hW hb h => ⟨⟨(hb.cell (p := ⟨N, 0, none⟩) hW).trans h.1, (hb.cell (p := ⟨N, 1, none⟩) hW).trans h.2.1, (hb.cell (p := ⟨N, 2, none⟩) hW).trans h.2.2⟩, Nat.lt_of_lt_of_le hW hb.size⟩
  rw [hwz, hN]
  have HN := Lib.hid hN
  clear hwz hN
  have B0 := hB
  have l0 := hl
  clear hB hl
  go_wp2_with fail
  refine (CS.out _).mono ?_
  rintro e w1 ⟨rfl, hb⟩
  have q := keep.out _ _ l0 hb T0.out
  have T1 := Lib.hid q.1
  have l1 := q.2
  have B1 : Hid (Below N w w1) := Lib.hid (B0.out.trans (hb.mono (Nat.le_of_lt l0)))
  clear hb q CS T0 B0 l0
  go_wp2_with fail
  refine (CN.out _).mono ?_
  rintro e w2 ⟨rfl, hb⟩
  have q := keep.out _ _ l1 hb T1.out
  have T2 := Lib.hid q.1
  have l2 := q.2
  have B2 : Hid (Below N w w2) := Lib.hid (B1.out.trans (hb.mono (Nat.le_of_lt l1)))
  clear hb q CN T1 B1 l1
  go_wp2_with fail
  refine (RN.out _).mono ?_
  rintro e w3 ⟨rfl, hb⟩
  have q := keep.out _ _ l2 hb T2.out
  have T3 := Lib.hid q.1
  have l3 := q.2
  have B3 : Hid (Below N w w3) := Lib.hid (B2.out.trans (hb.mono (Nat.le_of_lt l2)))
  clear hb q RN T2 B2 l2
  go_wp2_with fail
  refine (CP.out _).mono ?_
  rintro e w4 ⟨rfl, hb⟩
  have q := keep.out _ _ l3 hb T3.out
  have T4 := Lib.hid q.1
  have l4 := q.2
  have B4 : Hid (Below N w w4) := Lib.hid (B3.out.trans (hb.mono (Nat.le_of_lt l3)))
  clear hb q CP T3 B3 l3
  go_wp2_with fail
  refine (RP.out _).mono ?_
  rintro e w5 ⟨rfl, hb⟩
  have q := keep.out _ _ l4 hb T4.out
  have T5 := Lib.hid q.1
  have l5 := q.2
  have B5 : Hid (Below N w w5) := Lib.hid (B4.out.trans (hb.mono (Nat.le_of_lt l4)))
  clear hb q RP T4 B4 l4
  go_wp2_with fail
  refine (CV.out _).mono ?_
  rintro e w6 ⟨rfl, hb⟩
  have q := keep.out _ _ l5 hb T5.out
  have T6 := Lib.hid q.1
  have l6 := q.2
  have B6 : Hid (Below N w w6) := Lib.hid (B5.out.trans (hb.mono (Nat.le_of_lt l5)))
  clear hb q CV T5 B5 l5
  go_wp2_with fail
  refine (RV.out _).mono ?_
  rintro e w7 ⟨rfl, hb⟩
  have q := keep.out _ _ l6 hb T6.out
  have T7 := Lib.hid q.1
  have l7 := q.2
  have B7 : Hid (Below N w w7) := Lib.hid (B6.out.trans (hb.mono (Nat.le_of_lt l6)))
  clear hb q RV T6 B6 l6
  go_wp2_with fail
  have t0 := T7.out
  obtain ⟨a0, a1, a2⟩ := t0
  go_region_held3 (fun w' => w'.cell? ⟨N, 0, none⟩ = some (.int .i64 k) ∧ w'.cell? ⟨N, 1, none⟩ = some (.string t) ∧ w'.cell? ⟨N, 2, none⟩ = some (.int .i64 p))
    (first | exact ⟨a0, a1, a2⟩ | exact S8.out | exact S9.out | exact S10.out | exact S11.out | exact S12.out | exact S13.out | exact S14.out | exact S15.out)
    (first
      | (go_at_call 23; refine (CK.out _).mono ?_; rintro e w8 ⟨rfl, hb⟩; have q := keep.out w7.drew w8 l7 hb ⟨a0, a1, a2⟩; have S8 := Lib.hid q.1; have l8 := q.2; have B8 : Hid (Below N w w8) := Lib.hid (B7.out.drew.trans (hb.mono (Nat.le_of_lt l7))); clear hb q)
      | (go_at_call 24; refine (RK.out _).mono ?_; rintro e w9 ⟨rfl, hb⟩; have q := keep.out w8 w9 l8 hb S8.out; have S9 := Lib.hid q.1; have l9 := q.2; have B9 : Hid (Below N w w9) := Lib.hid (B8.out.trans (hb.mono (Nat.le_of_lt l8))); clear hb q)
      | (go_at_call 26; refine (W1.out _).mono ?_; rintro e w10 ⟨va, rfl, ha, hb⟩; have q := keep.out w9 w10 l9 hb S9.out; have S10 := Lib.hid q.1; have l10 := q.2; have B10 : Hid (Below N w w10) := Lib.hid (B9.out.trans (hb.mono (Nat.le_of_lt l9))); have HA := Lib.hid ha; clear hb q ha)
      | (go_at_call 27; refine (W2.out _).mono ?_; rintro e w11 ⟨vb, rfl, ha, hb⟩; have q := keep.out w10 w11 l10 hb S10.out; have S11 := Lib.hid q.1; have l11 := q.2; have B11 : Hid (Below N w w11) := Lib.hid (B10.out.trans (hb.mono (Nat.le_of_lt l10))); have HA2 := Lib.hid (HA.out.below hb); have HA3 := Lib.hid ha; clear hb q ha)
      | (go_at_call 25; (with_reducible refine (CE.out va vb LW w11 HA2.out HA3.out lw.out).mono ?_); rintro e w12 ⟨rfl, hb⟩; have q := keep.out w11 w12 l11 hb S11.out; have S12 := Lib.hid q.1; have l12 := q.2; have B12 : Hid (Below N w w12) := Lib.hid (B11.out.trans (hb.mono (Nat.le_of_lt l11))); clear hb q)
      | (go_at_call 28; refine (W3.out _).mono ?_; rintro e w13 ⟨vc, rfl, ha, hb⟩; have q := keep.out w12 w13 l12 hb S12.out; have S13 := Lib.hid q.1; have l13 := q.2; have B13 : Hid (Below N w w13) := Lib.hid (B12.out.trans (hb.mono (Nat.le_of_lt l12))); have HB := Lib.hid ha; clear hb q ha)
      | (go_at_call 29; refine (W4.out _).mono ?_; rintro e w14 ⟨vd, rfl, ha, hb⟩; have q := keep.out w13 w14 l13 hb S13.out; have S14 := Lib.hid q.1; have l14 := q.2; have B14 : Hid (Below N w w14) := Lib.hid (B13.out.trans (hb.mono (Nat.le_of_lt l13))); have HB2 := Lib.hid (HB.out.below hb); have HB3 := Lib.hid ha; clear hb q ha)
      | (go_at_call 25; (with_reducible refine (CE.out vc vd LS w14 HB2.out HB3.out ls.out).mono ?_); rintro e w15 ⟨rfl, hb⟩; have q := keep.out w14 w15 l14 hb S14.out; have S15 := Lib.hid q.1; have l15 := q.2; have B15 : Hid (Below N w w15) := Lib.hid (B14.out.trans (hb.mono (Nat.le_of_lt l14))); clear hb q))
  go_wp2
  go_ret
  exact ⟨rfl, by rw [HN.out]; exact B15.out⟩
end Go.Proofs.Ytihbecfjgdlebaa
