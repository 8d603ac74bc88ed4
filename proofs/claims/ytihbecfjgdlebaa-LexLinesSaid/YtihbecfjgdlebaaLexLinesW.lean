/- Layer 1: the law LexLines, walked. -/
import Derived.Test.YtihbecfjgdlebaaLexRef16
import Derived.Test.YtihbecfjgdlebaaLexSaneW
import Derived.Test.YtihbecfjgdlebaaLexPlacesW
namespace Go.Proofs.Ytihbecfjgdlebaa
open Go.RowKit

theorem place_cn (s : ByteArray) (i : Nat) (w : World) (hs : s.size ≤ 1000000000) (h : i ≤ s.size) :
    Calls Try.prog 36 #[.string s, .int .i64 i] w fun e w' =>
      e = .returned (.tuple #[.int .i64 (cnL (bs s) i + 1), .int .i64 ((i - lsL (bs s) i : Nat) + 1), .int .i64 0]) ∧ w' = w := by
  have := place_in s i w (by omega) h
  rw [count_cn s i h, last_ls s i h] at this
  have e : (i : Int) - ((lsL (bs s) i : Int) - 1) = ((i - lsL (bs s) i : Nat) : Int) + 1 := by have := lsL_le (bs s) i; omega
  rw [e] at this
  exact this

set_option maxRecDepth 100000 in
set_option maxHeartbeats 2000000 in
theorem lawLines_out (s : ByteArray) (i : Int) (w : World) (hs : s.size ≤ 30000) (hr : i < 0 ∨ (s.size : Int) < i) :
    Calls Try.prog 6 #[.string s, .int .i64 i] w fun e w' => e = .returned (.bool true) ∧ Below w.heap.size w w' := by
  have CS := Lib.hid sane_any
  have CL := Lib.hid (fun w => lines_any s w (by omega))
  have RL := Lib.hid (fun w => rLines s w (by omega))
  have CC := Lib.hid (fun w => comms_any s w (by omega))
  have RC := Lib.hid (fun w => rComments s w (by omega))
  have CT := Lib.hid (fun w => strip_any s w (by omega))
  have RT := Lib.hid (fun w => rStrip s w (by omega))
  rw [left_strip] at RT
  have lL : Hid ((lnAt (bs s) s.size).length ≤ 1000000000) := Lib.hid (by have := lnAt_len (bs s) s.size; omega)
  have lC : Hid ((coms (bs s)).length ≤ 1000000000) := Lib.hid (by have := coms_len (bs s); rw [bs_len] at this; omega)
  obtain ⟨L, hL⟩ : ∃ L, lnAt (bs s) s.size = L := ⟨_, rfl⟩
  obtain ⟨K, hK⟩ : ∃ K, coms (bs s) = K := ⟨_, rfl⟩
  obtain ⟨S, hS⟩ : ∃ S : ByteArray, (⟨(Lx.stripL false (bs s)).toArray⟩ : ByteArray) = S := ⟨_, rfl⟩
  rw [hL] at CL RL lL
  rw [hK] at CC RC lC
  rw [hS] at CT RT
  have h30 : ¬ ((30000 : Int) < (s.size : Int)) := by omega
  have CP := Lib.hid (fun w => place_out s i w hr)
  have RP := Lib.hid (fun w => rPlace_out s i w hr)
  clear hs hr hL hK hS
  go_enter Try.func6, Try.ntmps6
  go_wp2_with fail
  refine (CS.out _).mono ?_
  rintro e w1 ⟨rfl, hb1⟩
  have Hb1 := Lib.hid hb1
  clear CS hb1
  go_wp2_with fail
  refine (CP.out _).mono ?_
  rintro e w2 ⟨rfl, rfl⟩
  clear CP
  go_wp2_with fail
  refine (RP.out _).mono ?_
  rintro e w3 ⟨rfl, hb⟩
  clear RP
  have Hb3 : Hid (Below w.heap.size w (w3.alloc (.cells #[.int .i64 0, .int .i64 0, .int .i64 1] 43))) := Lib.hid ((Hb1.out.trans (hb.mono Hb1.out.size)).alloc (Hb1.out.trans (hb.mono Hb1.out.size)).size _)
  clear hb Hb1
  go_wp2_with fail
  refine (CL.out _).mono ?_
  clear CL
  rintro e w4 ⟨v4, rfl, ho, hb⟩
  have I4 := Lib.hid (ownsInts ho)
  obtain ⟨a4, c4, rfl⟩ := ownsRow_shape ho
  have Hb4 : Hid (Below w.heap.size w w4) := Lib.hid (Hb3.out.trans (hb.mono Hb3.out.size))
  clear hb ho Hb3
  go_wp2_with fail
  refine (RL.out _).mono ?_
  clear RL
  rintro e w5 ⟨v5, rfl, ho, hb⟩
  have I5 := Lib.hid (ownsInts ho)
  obtain ⟨a5, c5, rfl⟩ := ownsRow_shape ho
  have C6 := Lib.hid (rSameInts _ _ _ _ (I4.out.below hb) I5.out lL.out)
  have Hb5 : Hid (Below w.heap.size w w5) := Lib.hid (Hb4.out.trans (hb.mono Hb4.out.size))
  clear hb ho Hb4 I4 I5
  go_wp2_with fail
  refine C6.out.mono ?_
  clear C6
  rintro e w6 ⟨rfl, hb⟩
  have Hb6 : Hid (Below w.heap.size w w6) := Lib.hid (Hb5.out.trans (hb.mono Hb5.out.size))
  clear hb Hb5
  go_wp2_with fail
  refine (CC.out _).mono ?_
  clear CC
  rintro e w7 ⟨v7, rfl, ho, hb⟩
  have I7 := Lib.hid ho.sl
  obtain ⟨a7, c7, rfl⟩ := ownsRow_shape ho
  have Hb7 : Hid (Below w.heap.size w w7) := Lib.hid (Hb6.out.trans (hb.mono Hb6.out.size))
  clear hb ho Hb6
  go_wp2_with fail
  refine (RC.out _).mono ?_
  clear RC
  rintro e w8 ⟨v8, rfl, ho, hb⟩
  have I8 := Lib.hid ho.sl
  obtain ⟨a8, c8, rfl⟩ := ownsRow_shape ho
  have C9 := Lib.hid (samePairs_self _ _ _ _ _ _ (I7.out.below hb) I8.out lC.out)
  have Hb8 : Hid (Below w.heap.size w w8) := Lib.hid (Hb7.out.trans (hb.mono Hb7.out.size))
  clear hb ho Hb7 I7 I8
  go_wp2_with fail
  refine C9.out.mono ?_
  clear C9
  rintro e w9 ⟨rfl, hb⟩
  have Hb9 : Hid (Below w.heap.size w w9) := Lib.hid (Hb8.out.trans (hb.mono Hb8.out.size))
  clear hb Hb8
  go_wp2_with fail
  refine (CT.out _).mono ?_
  clear CT
  rintro e w10 ⟨rfl, hb⟩
  have Hb10 : Hid (Below w.heap.size w w10) := Lib.hid (Hb9.out.trans (hb.mono Hb9.out.size))
  clear hb Hb9
  go_wp2_with fail
  refine (RT.out _).mono ?_
  clear RT
  rintro e w11 ⟨rfl, hb⟩
  have Hb11 : Hid (Below w.heap.size w w11) := Lib.hid (Hb10.out.trans (hb.mono Hb10.out.size))
  clear hb Hb10
  go_wp2
  go_ret
  exact ⟨rfl, Hb11.out⟩

set_option maxRecDepth 100000 in
set_option maxHeartbeats 2000000 in
theorem lawLines_in (s : ByteArray) (i : Nat) (w : World) (hs : s.size ≤ 30000) (hi : i ≤ s.size) :
    Calls Try.prog 6 #[.string s, .int .i64 i] w fun e w' => e = .returned (.bool true) ∧ Below w.heap.size w w' := by
  have CS := Lib.hid sane_any
  have CL := Lib.hid (fun w => lines_any s w (by omega))
  have RL := Lib.hid (fun w => rLines s w (by omega))
  have CC := Lib.hid (fun w => comms_any s w (by omega))
  have RC := Lib.hid (fun w => rComments s w (by omega))
  have CT := Lib.hid (fun w => strip_any s w (by omega))
  have RT := Lib.hid (fun w => rStrip s w (by omega))
  rw [left_strip] at RT
  have lL : Hid ((lnAt (bs s) s.size).length ≤ 1000000000) := Lib.hid (by have := lnAt_len (bs s) s.size; omega)
  have lC : Hid ((coms (bs s)).length ≤ 1000000000) := Lib.hid (by have := coms_len (bs s); rw [bs_len] at this; omega)
  obtain ⟨L, hL⟩ : ∃ L, lnAt (bs s) s.size = L := ⟨_, rfl⟩
  obtain ⟨K, hK⟩ : ∃ K, coms (bs s) = K := ⟨_, rfl⟩
  obtain ⟨S, hS⟩ : ∃ S : ByteArray, (⟨(Lx.stripL false (bs s)).toArray⟩ : ByteArray) = S := ⟨_, rfl⟩
  rw [hL] at CL RL lL
  rw [hK] at CC RC lC
  rw [hS] at CT RT
  have h30 : ¬ ((30000 : Int) < (s.size : Int)) := by omega
  have CP := Lib.hid (fun w => place_cn s i w (by omega) hi)
  have RP := Lib.hid (fun w => rPlace_in s i w (by omega) hi)
  obtain ⟨C, hC⟩ : ∃ C : Int, ((cnL (bs s) i : Nat) : Int) + 1 = C := ⟨_, rfl⟩
  obtain ⟨q, hq⟩ : ∃ q : Int, ((i - lsL (bs s) i : Nat) : Int) + 1 = q := ⟨_, rfl⟩
  rw [hC, hq] at CP RP
  clear hs hi hL hK hS hC hq
  go_enter Try.func6, Try.ntmps6
  go_wp2_with fail
  refine (CS.out _).mono ?_
  rintro e w1 ⟨rfl, hb1⟩
  have Hb1 := Lib.hid hb1
  clear CS hb1
  go_wp2_with fail
  refine (CP.out _).mono ?_
  rintro e w2 ⟨rfl, rfl⟩
  clear CP
  go_wp2_with fail
  refine (RP.out _).mono ?_
  rintro e w3 ⟨rfl, hb⟩
  clear RP
  have Hb3 : Hid (Below w.heap.size w (w3.alloc (.cells #[.int .i64 C, .int .i64 q, .int .i64 0] 43))) := Lib.hid ((Hb1.out.trans (hb.mono Hb1.out.size)).alloc (Hb1.out.trans (hb.mono Hb1.out.size)).size _)
  clear hb Hb1
  go_wp2_with fail
  refine (CL.out _).mono ?_
  clear CL
  rintro e w4 ⟨v4, rfl, ho, hb⟩
  have I4 := Lib.hid (ownsInts ho)
  obtain ⟨a4, c4, rfl⟩ := ownsRow_shape ho
  have Hb4 : Hid (Below w.heap.size w w4) := Lib.hid (Hb3.out.trans (hb.mono Hb3.out.size))
  clear hb ho Hb3
  go_wp2_with fail
  refine (RL.out _).mono ?_
  clear RL
  rintro e w5 ⟨v5, rfl, ho, hb⟩
  have I5 := Lib.hid (ownsInts ho)
  obtain ⟨a5, c5, rfl⟩ := ownsRow_shape ho
  have C6 := Lib.hid (rSameInts _ _ _ _ (I4.out.below hb) I5.out lL.out)
  have Hb5 : Hid (Below w.heap.size w w5) := Lib.hid (Hb4.out.trans (hb.mono Hb4.out.size))
  clear hb ho Hb4 I4 I5
  go_wp2_with fail
  refine C6.out.mono ?_
  clear C6
  rintro e w6 ⟨rfl, hb⟩
  have Hb6 : Hid (Below w.heap.size w w6) := Lib.hid (Hb5.out.trans (hb.mono Hb5.out.size))
  clear hb Hb5
  go_wp2_with fail
  refine (CC.out _).mono ?_
  clear CC
  rintro e w7 ⟨v7, rfl, ho, hb⟩
  have I7 := Lib.hid ho.sl
  obtain ⟨a7, c7, rfl⟩ := ownsRow_shape ho
  have Hb7 : Hid (Below w.heap.size w w7) := Lib.hid (Hb6.out.trans (hb.mono Hb6.out.size))
  clear hb ho Hb6
  go_wp2_with fail
  refine (RC.out _).mono ?_
  clear RC
  rintro e w8 ⟨v8, rfl, ho, hb⟩
  have I8 := Lib.hid ho.sl
  obtain ⟨a8, c8, rfl⟩ := ownsRow_shape ho
  have C9 := Lib.hid (samePairs_self _ _ _ _ _ _ (I7.out.below hb) I8.out lC.out)
  have Hb8 : Hid (Below w.heap.size w w8) := Lib.hid (Hb7.out.trans (hb.mono Hb7.out.size))
  clear hb ho Hb7 I7 I8
  go_wp2_with fail
  refine C9.out.mono ?_
  clear C9
  rintro e w9 ⟨rfl, hb⟩
  have Hb9 : Hid (Below w.heap.size w w9) := Lib.hid (Hb8.out.trans (hb.mono Hb8.out.size))
  clear hb Hb8
  go_wp2_with fail
  refine (CT.out _).mono ?_
  clear CT
  rintro e w10 ⟨rfl, hb⟩
  have Hb10 : Hid (Below w.heap.size w w10) := Lib.hid (Hb9.out.trans (hb.mono Hb9.out.size))
  clear hb Hb9
  go_wp2_with fail
  refine (RT.out _).mono ?_
  clear RT
  rintro e w11 ⟨rfl, hb⟩
  have Hb11 : Hid (Below w.heap.size w w11) := Lib.hid (Hb10.out.trans (hb.mono Hb10.out.size))
  clear hb Hb10
  go_wp2
  go_ret
  exact ⟨rfl, Hb11.out⟩

set_option maxRecDepth 100000 in
set_option maxHeartbeats 400000 in
theorem lawLines_big (s : ByteArray) (i : Int) (w : World) (hs : 30000 < s.size) :
    Calls Try.prog 6 #[.string s, .int .i64 i] w fun e w' => e = .returned (.bool true) ∧ Below w.heap.size w w' := by
  have CS := Lib.hid sane_any
  have h30 : (30000 : Int) < (s.size : Int) := by omega
  go_enter Try.func6, Try.ntmps6
  go_wp2_with fail
  refine (CS.out _).mono ?_
  rintro e w1 ⟨rfl, hb1⟩
  have Hb1 := Lib.hid hb1
  clear CS hb1
  go_wp2
  go_ret
  exact ⟨rfl, Hb1.out⟩
theorem lawLines_any (s : ByteArray) (i : Int) (w : World) :
    Calls Try.prog 6 #[.string s, .int .i64 i] w fun e w' => e = .returned (.bool true) ∧ Below w.heap.size w w' := by
  by_cases hs : 30000 < s.size
  · exact lawLines_big s i w hs
  · by_cases hr : i < 0 ∨ (s.size : Int) < i
    · exact lawLines_out s i w (by omega) hr
    · obtain ⟨n, rfl⟩ : ∃ n : Nat, i = n := ⟨i.toNat, by omega⟩
      exact lawLines_in s n w (by omega) (by omega)
end Go.Proofs.Ytihbecfjgdlebaa
