/- Walks of layer 1's finder: whether a sign of two bytes stands at an offset. -/
import Derived.Test.YtihbecfjgdlebaaLexFind
namespace Go.Proofs.Ytihbecfjgdlebaa
open Go.RowKit
theorem small_max {n : Nat} (h : n ≤ 20000) : n ≤ maxLen := by unfold maxLen; omega

set_option maxRecDepth 100000 in
set_option maxHeartbeats 400000 in
theorem isLong_1 (s : ByteArray) (t fo ne nm : Nat) (i : Nat) (w : World) (hs : s.size ≤ 20000) (hi : i < s.size)
    (hT : w.cell? ⟨t, 0, none⟩ = some (.string s))
    (hN : ∀ c : UInt8, w.cell? ⟨nm, c.toNat, none⟩ = some (.bool (Lx.part c)))
    (hFo : w.cell? ⟨fo, 0, none⟩ = some (.func (.func 96) #[] #[.pointer (some ⟨t, 0, none⟩)]))
    (hNe : w.cell? ⟨ne, 0, none⟩ = some (.func (.func 98) #[] #[.pointer (some ⟨t, 0, none⟩), .pointer (some ⟨nm, 0, none⟩)]))
    (h1 : Lx.pre (bs s) i (bs ⟨#[45, 111]⟩) = true) (h2 : (((Lx.runTo (bs s) (i + 1) : Nat) : Int) == (i : Int) + 2) = true) :
    Calls Try.prog 100 #[.int .i64 i, .pointer (some ⟨fo, 0, none⟩), .pointer (some ⟨ne, 0, none⟩)] w fun e w' =>
      e = .returned (.bool true) ∧ w = w' := by
  have hm := small_max hs
  go_enter Try.func100, Try.ntmps100
  go_wp2_with (first
    | (go_at_call 96; refine (follows_int s _ t i w hm (by omega) (by omega) hT).mono ?_; rintro e w' ⟨rfl, rfl⟩)
    | (go_at_call 98; refine (nameEnd_int s t nm (i + 1) w hm (by omega) (by omega) hT hN).mono ?_; rintro e w' ⟨rfl, rfl⟩))
  go_ret
  exact ⟨rfl, rfl⟩

set_option maxRecDepth 100000 in
set_option maxHeartbeats 400000 in
theorem isLong_a1 (s : ByteArray) (t fo ne nm : Nat) (i : Nat) (w : World) (hs : s.size ≤ 20000) (hi : i < s.size)
    (hT : w.cell? ⟨t, 0, none⟩ = some (.string s))
    (hN : ∀ c : UInt8, w.cell? ⟨nm, c.toNat, none⟩ = some (.bool (Lx.part c)))
    (hFo : w.cell? ⟨fo, 0, none⟩ = some (.func (.func 96) #[] #[.pointer (some ⟨t, 0, none⟩)]))
    (hNe : w.cell? ⟨ne, 0, none⟩ = some (.func (.func 98) #[] #[.pointer (some ⟨t, 0, none⟩), .pointer (some ⟨nm, 0, none⟩)]))
    (h1 : Lx.pre (bs s) i (bs ⟨#[45, 111]⟩) = true) (h2 : (((Lx.runTo (bs s) (i + 1) : Nat) : Int) == (i : Int) + 2) = false) (h3 : Lx.pre (bs s) i (bs ⟨#[45, 62]⟩) = true) :
    Calls Try.prog 100 #[.int .i64 i, .pointer (some ⟨fo, 0, none⟩), .pointer (some ⟨ne, 0, none⟩)] w fun e w' =>
      e = .returned (.bool true) ∧ w = w' := by
  have hm := small_max hs
  go_enter Try.func100, Try.ntmps100
  go_wp2_with (first
    | (go_at_call 96; refine (follows_int s _ t i w hm (by omega) (by omega) hT).mono ?_; rintro e w' ⟨rfl, rfl⟩)
    | (go_at_call 98; refine (nameEnd_int s t nm (i + 1) w hm (by omega) (by omega) hT hN).mono ?_; rintro e w' ⟨rfl, rfl⟩))
  go_ret
  exact ⟨rfl, rfl⟩

set_option maxRecDepth 100000 in
set_option maxHeartbeats 400000 in
theorem isLong_a2 (s : ByteArray) (t fo ne nm : Nat) (i : Nat) (w : World) (hs : s.size ≤ 20000) (hi : i < s.size)
    (hT : w.cell? ⟨t, 0, none⟩ = some (.string s))
    (hN : ∀ c : UInt8, w.cell? ⟨nm, c.toNat, none⟩ = some (.bool (Lx.part c)))
    (hFo : w.cell? ⟨fo, 0, none⟩ = some (.func (.func 96) #[] #[.pointer (some ⟨t, 0, none⟩)]))
    (hNe : w.cell? ⟨ne, 0, none⟩ = some (.func (.func 98) #[] #[.pointer (some ⟨t, 0, none⟩), .pointer (some ⟨nm, 0, none⟩)]))
    (h1 : Lx.pre (bs s) i (bs ⟨#[45, 111]⟩) = true) (h2 : (((Lx.runTo (bs s) (i + 1) : Nat) : Int) == (i : Int) + 2) = false) (h3 : Lx.pre (bs s) i (bs ⟨#[45, 62]⟩) = false) (h4 : Lx.pre (bs s) i (bs ⟨#[61, 62]⟩) = true) :
    Calls Try.prog 100 #[.int .i64 i, .pointer (some ⟨fo, 0, none⟩), .pointer (some ⟨ne, 0, none⟩)] w fun e w' =>
      e = .returned (.bool true) ∧ w = w' := by
  have hm := small_max hs
  go_enter Try.func100, Try.ntmps100
  go_wp2_with (first
    | (go_at_call 96; refine (follows_int s _ t i w hm (by omega) (by omega) hT).mono ?_; rintro e w' ⟨rfl, rfl⟩)
    | (go_at_call 98; refine (nameEnd_int s t nm (i + 1) w hm (by omega) (by omega) hT hN).mono ?_; rintro e w' ⟨rfl, rfl⟩))
  go_ret
  exact ⟨rfl, rfl⟩

set_option maxRecDepth 100000 in
set_option maxHeartbeats 400000 in
theorem isLong_a3 (s : ByteArray) (t fo ne nm : Nat) (i : Nat) (w : World) (hs : s.size ≤ 20000) (hi : i < s.size)
    (hT : w.cell? ⟨t, 0, none⟩ = some (.string s))
    (hN : ∀ c : UInt8, w.cell? ⟨nm, c.toNat, none⟩ = some (.bool (Lx.part c)))
    (hFo : w.cell? ⟨fo, 0, none⟩ = some (.func (.func 96) #[] #[.pointer (some ⟨t, 0, none⟩)]))
    (hNe : w.cell? ⟨ne, 0, none⟩ = some (.func (.func 98) #[] #[.pointer (some ⟨t, 0, none⟩), .pointer (some ⟨nm, 0, none⟩)]))
    (h1 : Lx.pre (bs s) i (bs ⟨#[45, 111]⟩) = true) (h2 : (((Lx.runTo (bs s) (i + 1) : Nat) : Int) == (i : Int) + 2) = false) (h3 : Lx.pre (bs s) i (bs ⟨#[45, 62]⟩) = false) (h4 : Lx.pre (bs s) i (bs ⟨#[61, 62]⟩) = false) :
    Calls Try.prog 100 #[.int .i64 i, .pointer (some ⟨fo, 0, none⟩), .pointer (some ⟨ne, 0, none⟩)] w fun e w' =>
      e = .returned (.bool (Lx.pre (bs s) i (bs ⟨#[60, 61]⟩))) ∧ w = w' := by
  have hm := small_max hs
  go_enter Try.func100, Try.ntmps100
  go_wp2_with (first
    | (go_at_call 96; refine (follows_int s _ t i w hm (by omega) (by omega) hT).mono ?_; rintro e w' ⟨rfl, rfl⟩)
    | (go_at_call 98; refine (nameEnd_int s t nm (i + 1) w hm (by omega) (by omega) hT hN).mono ?_; rintro e w' ⟨rfl, rfl⟩))
  go_ret
  exact ⟨rfl, rfl⟩

set_option maxRecDepth 100000 in
set_option maxHeartbeats 400000 in
theorem isLong_b1 (s : ByteArray) (t fo ne nm : Nat) (i : Nat) (w : World) (hs : s.size ≤ 20000) (hi : i < s.size)
    (hT : w.cell? ⟨t, 0, none⟩ = some (.string s))
    (_hN : ∀ c : UInt8, w.cell? ⟨nm, c.toNat, none⟩ = some (.bool (Lx.part c)))
    (hFo : w.cell? ⟨fo, 0, none⟩ = some (.func (.func 96) #[] #[.pointer (some ⟨t, 0, none⟩)]))
    (_hNe : w.cell? ⟨ne, 0, none⟩ = some (.func (.func 98) #[] #[.pointer (some ⟨t, 0, none⟩), .pointer (some ⟨nm, 0, none⟩)]))
    (h1 : Lx.pre (bs s) i (bs ⟨#[45, 111]⟩) = false) (h3 : Lx.pre (bs s) i (bs ⟨#[45, 62]⟩) = true) :
    Calls Try.prog 100 #[.int .i64 i, .pointer (some ⟨fo, 0, none⟩), .pointer (some ⟨ne, 0, none⟩)] w fun e w' =>
      e = .returned (.bool true) ∧ w = w' := by
  have hm := small_max hs
  go_enter Try.func100, Try.ntmps100
  go_wp2_with (first
    | (go_at_call 96; refine (follows_int s _ t i w hm (by omega) (by omega) hT).mono ?_; rintro e w' ⟨rfl, rfl⟩)
    | (go_at_call 98; refine (nameEnd_int s t nm (i + 1) w hm (by omega) (by omega) hT hN).mono ?_; rintro e w' ⟨rfl, rfl⟩))
  go_ret
  exact ⟨rfl, rfl⟩

set_option maxRecDepth 100000 in
set_option maxHeartbeats 400000 in
theorem isLong_b2 (s : ByteArray) (t fo ne nm : Nat) (i : Nat) (w : World) (hs : s.size ≤ 20000) (hi : i < s.size)
    (hT : w.cell? ⟨t, 0, none⟩ = some (.string s))
    (_hN : ∀ c : UInt8, w.cell? ⟨nm, c.toNat, none⟩ = some (.bool (Lx.part c)))
    (hFo : w.cell? ⟨fo, 0, none⟩ = some (.func (.func 96) #[] #[.pointer (some ⟨t, 0, none⟩)]))
    (_hNe : w.cell? ⟨ne, 0, none⟩ = some (.func (.func 98) #[] #[.pointer (some ⟨t, 0, none⟩), .pointer (some ⟨nm, 0, none⟩)]))
    (h1 : Lx.pre (bs s) i (bs ⟨#[45, 111]⟩) = false) (h3 : Lx.pre (bs s) i (bs ⟨#[45, 62]⟩) = false) (h4 : Lx.pre (bs s) i (bs ⟨#[61, 62]⟩) = true) :
    Calls Try.prog 100 #[.int .i64 i, .pointer (some ⟨fo, 0, none⟩), .pointer (some ⟨ne, 0, none⟩)] w fun e w' =>
      e = .returned (.bool true) ∧ w = w' := by
  have hm := small_max hs
  go_enter Try.func100, Try.ntmps100
  go_wp2_with (first
    | (go_at_call 96; refine (follows_int s _ t i w hm (by omega) (by omega) hT).mono ?_; rintro e w' ⟨rfl, rfl⟩)
    | (go_at_call 98; refine (nameEnd_int s t nm (i + 1) w hm (by omega) (by omega) hT hN).mono ?_; rintro e w' ⟨rfl, rfl⟩))
  go_ret
  exact ⟨rfl, rfl⟩

set_option maxRecDepth 100000 in
set_option maxHeartbeats 400000 in
theorem isLong_b3 (s : ByteArray) (t fo ne nm : Nat) (i : Nat) (w : World) (hs : s.size ≤ 20000) (hi : i < s.size)
    (hT : w.cell? ⟨t, 0, none⟩ = some (.string s))
    (_hN : ∀ c : UInt8, w.cell? ⟨nm, c.toNat, none⟩ = some (.bool (Lx.part c)))
    (hFo : w.cell? ⟨fo, 0, none⟩ = some (.func (.func 96) #[] #[.pointer (some ⟨t, 0, none⟩)]))
    (_hNe : w.cell? ⟨ne, 0, none⟩ = some (.func (.func 98) #[] #[.pointer (some ⟨t, 0, none⟩), .pointer (some ⟨nm, 0, none⟩)]))
    (h1 : Lx.pre (bs s) i (bs ⟨#[45, 111]⟩) = false) (h3 : Lx.pre (bs s) i (bs ⟨#[45, 62]⟩) = false) (h4 : Lx.pre (bs s) i (bs ⟨#[61, 62]⟩) = false) :
    Calls Try.prog 100 #[.int .i64 i, .pointer (some ⟨fo, 0, none⟩), .pointer (some ⟨ne, 0, none⟩)] w fun e w' =>
      e = .returned (.bool (Lx.pre (bs s) i (bs ⟨#[60, 61]⟩))) ∧ w = w' := by
  have hm := small_max hs
  go_enter Try.func100, Try.ntmps100
  go_wp2_with (first
    | (go_at_call 96; refine (follows_int s _ t i w hm (by omega) (by omega) hT).mono ?_; rintro e w' ⟨rfl, rfl⟩)
    | (go_at_call 98; refine (nameEnd_int s t nm (i + 1) w hm (by omega) (by omega) hT hN).mono ?_; rintro e w' ⟨rfl, rfl⟩))
  go_ret
  exact ⟨rfl, rfl⟩

theorem isLong_any (s : ByteArray) (t fo ne nm : Nat) (i : Nat) (w : World) (hs : s.size ≤ 20000) (hi : i < s.size)
    (hT : w.cell? ⟨t, 0, none⟩ = some (.string s))
    (hN : ∀ c : UInt8, w.cell? ⟨nm, c.toNat, none⟩ = some (.bool (Lx.part c)))
    (hFo : w.cell? ⟨fo, 0, none⟩ = some (.func (.func 96) #[] #[.pointer (some ⟨t, 0, none⟩)]))
    (hNe : w.cell? ⟨ne, 0, none⟩ = some (.func (.func 98) #[] #[.pointer (some ⟨t, 0, none⟩), .pointer (some ⟨nm, 0, none⟩)])) :
    Calls Try.prog 100 #[.int .i64 i, .pointer (some ⟨fo, 0, none⟩), .pointer (some ⟨ne, 0, none⟩)] w fun e w' =>
      e = .returned (.bool (Lx.isLong (bs s) i)) ∧ w = w' := by
  have hd : Lx.isLong (bs s) i = ((Lx.pre (bs s) i (bs ⟨#[45, 111]⟩) && (((Lx.runTo (bs s) (i + 1) : Nat) : Int) == (i : Int) + 2)) || Lx.pre (bs s) i (bs ⟨#[45, 62]⟩) || Lx.pre (bs s) i (bs ⟨#[61, 62]⟩) || Lx.pre (bs s) i (bs ⟨#[60, 61]⟩)) := by
    have e2 : (((Lx.runTo (bs s) (i + 1) : Nat) : Int) == (i : Int) + 2) = (Lx.runTo (bs s) (i + 1) == i + 2) := by
      rw [Bool.eq_iff_iff, beq_iff_eq, beq_iff_eq]; omega
    rw [e2]; rfl
  rw [hd]
  rcases Bool.eq_false_or_eq_true (Lx.pre (bs s) i (bs ⟨#[45, 111]⟩)) with h1 | h1
  · rcases Bool.eq_false_or_eq_true (((Lx.runTo (bs s) (i + 1) : Nat) : Int) == (i : Int) + 2) with h2 | h2
    · refine (isLong_1 s t fo ne nm i w hs hi hT hN hFo hNe h1 h2).mono ?_; rintro e w' ⟨rfl, h⟩; exact ⟨by rw [h1, h2]; rfl, h⟩
    · rcases Bool.eq_false_or_eq_true (Lx.pre (bs s) i (bs ⟨#[45, 62]⟩)) with h3 | h3
      · refine (isLong_a1 s t fo ne nm i w hs hi hT hN hFo hNe h1 h2 h3).mono ?_; rintro e w' ⟨rfl, h⟩; exact ⟨by rw [h1, h2, h3]; rfl, h⟩
      · rcases Bool.eq_false_or_eq_true (Lx.pre (bs s) i (bs ⟨#[61, 62]⟩)) with h4 | h4
        · refine (isLong_a2 s t fo ne nm i w hs hi hT hN hFo hNe h1 h2 h3 h4).mono ?_; rintro e w' ⟨rfl, h⟩; exact ⟨by rw [h1, h2, h3, h4]; rfl, h⟩
        · refine (isLong_a3 s t fo ne nm i w hs hi hT hN hFo hNe h1 h2 h3 h4).mono ?_; rintro e w' ⟨rfl, h⟩; exact ⟨by rw [h1, h2, h3, h4]; rfl, h⟩
  · rcases Bool.eq_false_or_eq_true (Lx.pre (bs s) i (bs ⟨#[45, 62]⟩)) with h3 | h3
    · refine (isLong_b1 s t fo ne nm i w hs hi hT hN hFo hNe h1 h3).mono ?_; rintro e w' ⟨rfl, h⟩; exact ⟨by rw [h1, h3]; rfl, h⟩
    · rcases Bool.eq_false_or_eq_true (Lx.pre (bs s) i (bs ⟨#[61, 62]⟩)) with h4 | h4
      · refine (isLong_b2 s t fo ne nm i w hs hi hT hN hFo hNe h1 h3 h4).mono ?_; rintro e w' ⟨rfl, h⟩; exact ⟨by rw [h1, h3, h4]; rfl, h⟩
      · refine (isLong_b3 s t fo ne nm i w hs hi hT hN hFo hNe h1 h3 h4).mono ?_; rintro e w' ⟨rfl, h⟩; exact ⟨by rw [h1, h3, h4]; rfl, h⟩
end Go.Proofs.Ytihbecfjgdlebaa
