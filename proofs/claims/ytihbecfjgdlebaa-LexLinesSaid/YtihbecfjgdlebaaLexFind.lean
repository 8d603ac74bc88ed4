/- Walks of layer 1's finder: the closures that find a token's end. -/
import Derived.Test.YtihbecfjgdlebaaRows
import Derived.Test.YtihbecfjgdlebaaLexSpec
import Derived.Test.YtihbecfjgdlebaaShelf
import Derived.WalkKit
import Derived.WalkSpells
import Derived.WalkLawsBesides
import Derived.Lib.Hide
import Derived.Deep.QuietTactic
import Derived.Deep.DeepCutAuto
import Derived.Deep.RegionWith
import Derived.Deep.DeepFit
import Derived.BigQuiet
namespace Go.Proofs.Ytihbecfjgdlebaa
open Go.RowKit

/-- A text's bytes. -/
def bs (s : ByteArray) : Lx.Bs := s.data.toList

theorem bs_get {s : ByteArray} {k : Nat} (h : k < s.size) : (bs s)[k]'(by simpa [bs] using h) = s[k] := by simp [bs]; rfl
theorem ret_int {k : IntKind} {a b : Int} (h : a = b) : Ending.returned (.int k a) = Ending.returned (.int k b) := by rw [h]
theorem byte_lt (c : UInt8) : (c.toNat : Int) < 256 := by have := c.toNat_lt; omega
theorem bs_len (s : ByteArray) : (bs s).length = s.size := by simp [bs]

set_option maxRecDepth 100000 in
set_option maxHeartbeats 400000 in
theorem nameEnd_any (s : ByteArray) (bT bN : Nat) (i : Nat) (w : World) (hs : s.size ≤ maxLen) (hi : i ≤ s.size)
    (hT : w.cell? ⟨bT, 0, none⟩ = some (.string s))
    (hN : ∀ c : UInt8, w.cell? ⟨bN, c.toNat, none⟩ = some (.bool (Lx.part c))) :
    Calls Try.prog 98 #[.int .i64 i, .pointer (some ⟨bT, 0, none⟩), .pointer (some ⟨bN, 0, none⟩)] w fun e w' => e = .returned (.int .i64 (Lx.runTo (bs s) i)) ∧ w = w' := by
  unfold maxLen at hs
  go_enter Try.func98, Try.ntmps98
  go_wp2
  go_loop [0] (fun a => ∃ k : Nat, k ≤ s.size ∧ a = .int .i64 k ∧ Lx.runTo (bs s) i = Lx.runTo (bs s) k) (fun a => s.size - (intOf a).toNat)
  case atStart => exact ⟨i, hi, rfl, rfl⟩
  case round =>
    obtain ⟨k, hk, rfl, hrun⟩ := hrel
    have Hrun := Lib.hid hrun; clear hrun
    have hby := byte_lt
    by_cases hlt : k < s.size
    · go_wp2
      · have hp : Lx.part s[k] = true := by assumption
        go_round
        case rel => exact ⟨k + 1, by omega, by go_num, by rw [Hrun.out, Lx.runTo_step (by rw [bs_len]; exact hlt), bs_get hlt, if_pos hp]⟩
        case measure => simp [intOf]; omega
      · have hp : Lx.part s[k] = false := by assumption
        go_ret
        exact ⟨ret_int (by rw [Hrun.out, Lx.runTo_step (by rw [bs_len]; exact hlt), bs_get hlt, hp]; simp), rfl⟩
    · go_wp2
      go_ret
      exact ⟨ret_int (by rw [Hrun.out, Lx.runTo_end (by rw [bs_len]; omega)]), rfl⟩

theorem nameEnd_int (s : ByteArray) (bT bN : Nat) (i : Int) (w : World) (hs : s.size ≤ maxLen) (h0 : 0 ≤ i) (hi : i ≤ s.size)
    (hT : w.cell? ⟨bT, 0, none⟩ = some (.string s))
    (hN : ∀ c : UInt8, w.cell? ⟨bN, c.toNat, none⟩ = some (.bool (Lx.part c))) :
    Calls Try.prog 98 #[.int .i64 i, .pointer (some ⟨bT, 0, none⟩), .pointer (some ⟨bN, 0, none⟩)] w fun e w' => e = .returned (.int .i64 (Lx.runTo (bs s) i.toNat)) ∧ w = w' := by
  obtain ⟨n, rfl⟩ := Int.eq_ofNat_of_zero_le h0
  exact nameEnd_any s bT bN n w hs (by omega) hT hN

theorem bs_extract (s : ByteArray) (i j : Nat) : bs (s.extract i j) = Lx.slice (bs s) i j := by
  simp [bs, Lx.slice, ByteArray.data_extract, List.extract_eq_take_drop]
theorem bs_extract_end (s : ByteArray) (i : Nat) : bs (s.extract i s.size) = (bs s).drop i := by
  rw [bs_extract, Lx.slice, List.take_of_length_le (by simp [bs_len])]

set_option maxRecDepth 100000 in
set_option maxHeartbeats 400000 in
theorem token_any (s : ByteArray) (t : Nat) (kd : Int) (i j : Nat) (w : World) (_hs : s.size ≤ maxLen) (hi : i ≤ j) (hj : j ≤ s.size)
    (hT : w.cell? ⟨t, 0, none⟩ = some (.string s)) :
    Calls Try.prog 95 #[.int .i64 kd, .int .i64 i, .int .i64 j, .pointer (some ⟨t, 0, none⟩)] w fun e w' =>
      e = .returned (.agg #[.int .i64 kd, .string (s.extract i j), .int .i64 i]) ∧ w' = w.alloc (.cells #[.int .i64 kd, .string (s.extract i j), .int .i64 i] 33) := by
  unfold maxLen at _hs
  have ht := block_lt_of_cell hT
  simp only at ht
  go_enter Try.func95, Try.ntmps95
  go_wp2
  refine bodyPost_ret (v := .agg #[.int .i64 kd, .string (s.extract i j), .int .i64 i]) (by simp [results, Try.results95, go_sem]) rfl ⟨rfl, rfl⟩
theorem token_int (s : ByteArray) (t : Nat) (kd : Int) (i j : Int) (w : World) (hs : s.size ≤ maxLen) (h0 : 0 ≤ i) (hi : i ≤ j) (hj : j ≤ s.size)
    (hT : w.cell? ⟨t, 0, none⟩ = some (.string s)) :
    Calls Try.prog 95 #[.int .i64 kd, .int .i64 i, .int .i64 j, .pointer (some ⟨t, 0, none⟩)] w fun e w' =>
      e = .returned (.agg #[.int .i64 kd, .string (s.extract i.toNat j.toNat), .int .i64 i]) ∧ w' = w.alloc (.cells #[.int .i64 kd, .string (s.extract i.toNat j.toNat), .int .i64 i] 33) := by
  obtain ⟨n, rfl⟩ := Int.eq_ofNat_of_zero_le h0
  obtain ⟨m, rfl⟩ := Int.eq_ofNat_of_zero_le (show 0 ≤ j by omega)
  exact token_any s t kd n m w hs (by omega) (by omega) hT

set_option maxRecDepth 100000 in
set_option maxHeartbeats 400000 in
theorem follows_any (s p : ByteArray) (t : Nat) (i : Nat) (w : World) (_hs : s.size ≤ maxLen) (hi : i ≤ s.size)
    (hT : w.cell? ⟨t, 0, none⟩ = some (.string s)) :
    Calls Try.prog 96 #[.int .i64 i, .string p, .pointer (some ⟨t, 0, none⟩)] w fun e w' =>
      e = .returned (.bool (Lx.pre (bs s) i (bs p))) ∧ w = w' := by
  unfold maxLen at _hs
  go_enter Try.func96, Try.ntmps96
  go_wp2_with (go_at_call 97; refine (Try.strings_HasPrefix _ _ _).mono ?_; rintro e w' ⟨rfl, rfl⟩)
  go_ret
  have e1 : List.take (s.size - i) (List.drop i s.data.toList) = (bs s).drop i := List.take_of_length_le (by simp)
  exact ⟨congrArg (fun x => Ending.returned (.bool (Lib.hasPrefix x (bs p)))) e1, rfl⟩

theorem follows_int (s p : ByteArray) (t : Nat) (i : Int) (w : World) (hs : s.size ≤ maxLen) (h0 : 0 ≤ i) (hi : i ≤ s.size)
    (hT : w.cell? ⟨t, 0, none⟩ = some (.string s)) :
    Calls Try.prog 96 #[.int .i64 i, .string p, .pointer (some ⟨t, 0, none⟩)] w fun e w' =>
      e = .returned (.bool (Lx.pre (bs s) i.toNat (bs p))) ∧ w = w' := by
  obtain ⟨n, rfl⟩ := Int.eq_ofNat_of_zero_le h0
  exact follows_any s p t n w hs (by omega) hT
end Go.Proofs.Ytihbecfjgdlebaa
