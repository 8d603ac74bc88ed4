/- Layer 1: what Check says, told by the text alone. -/
import Derived.Test.YtihbecfjgdlebaaLexRef9
import Derived.Test.YtihbecfjgdlebaaLexNameP
namespace Go.Proofs.Ytihbecfjgdlebaa
open Go.RowKit

theorem byte_forall {P : UInt8 → Bool} (h : (List.range 256).all (fun n => P n.toUInt8) = true) (c : UInt8) : P c = true := by
  have := List.all_eq_true.1 h c.toNat (List.mem_range.2 c.toNat_lt)
  rwa [show c.toNat.toUInt8 = c from by simp] at this
theorem first_byte {l : Lx.Bs} {c : UInt8} {k j : Nat} (hc : l[0]? = some c) (h : Lx.tokAt l 0 = some (k, j)) : Lx.blank c = false ∧ c.toNat ≠ 37 := by
  have key : (Lx.small c || Lx.capital c || Lx.signB c || (c == 45 || c == 61 || c == 60)) = true := by
    unfold Lx.tokAt at h
    rw [hc] at h
    simp only at h
    cases hs : Lx.small c
    · cases hp : Lx.capital c
      · cases hg : Lx.signB c
        · rw [hs, hp, hg] at h
          simp only [Bool.false_eq_true, if_false] at h
          split at h
          · rename_i hl
            have h0 : ∀ a b, Lx.pre l 0 [a, b] = true → c = a := fun a b hab => by
              have := (Lx.pre_two hab).1
              rw [hc] at this; exact Option.some.inj this
            simp only [Lx.isLong, Bool.or_eq_true, Bool.and_eq_true] at hl
            rcases hl with ((⟨h1, _⟩ | h1) | h1) | h1 <;> (rw [h0 _ _ h1]; decide)
          · cases h
        · simp
      · simp
    · simp
  have := byte_forall (P := fun c => !(Lx.small c || Lx.capital c || Lx.signB c || (c == 45 || c == 61 || c == 60)) || (!Lx.blank c && !decide (c.toNat = 37))) (by decide +kernel) c
  simp only [key, Bool.not_true, Bool.false_or, Bool.and_eq_true, Bool.not_eq_true', decide_eq_false_iff_not] at this
  exact this
theorem refTok_iff (k : Nat) (s : ByteArray) (p : Int) : refTok ⟨k, s, p⟩ = true ↔ Lx.tokAt (bs s) 0 = some (k, (bs s).length) := by
  unfold refTok
  simp only
  cases Lx.tokAt (bs s) 0 with
  | none => simp
  | some x =>
    obtain ⟨k', j⟩ := x
    simp only [Bool.and_eq_true, decide_eq_true_eq, Option.some.injEq, Prod.mk.injEq, bs_len]
    omega
theorem check_iff (k : Nat) (s : ByteArray) (p : Int) : checkB ⟨k, s, p⟩ = true ↔ (s.size ≤ 40 ∧ Lx.tokAt (bs s) 0 = some (k, (bs s).length)) := by
  rw [check_ref, ← refTok_iff k s p]
  unfold refB
  simp only
  cases hc : (bs s)[0]? with
  | none =>
    constructor
    · intro h; cases h
    · rintro ⟨_, h⟩
      rw [refTok_iff] at h
      simp [Lx.tokAt, hc] at h
  | some c =>
    simp only [Bool.and_eq_true, decide_eq_true_eq]
    constructor
    · rintro ⟨⟨⟨h1, _⟩, _⟩, h2⟩; exact ⟨h1, h2⟩
    · rintro ⟨h1, h2⟩
      have := first_byte hc ((refTok_iff k s p).1 h2)
      exact ⟨⟨⟨h1, by rw [this.1]; rfl⟩, by simpa using this.2⟩, h2⟩
theorem check_name (s : ByteArray) (p : Int) : checkB ⟨1, s, p⟩ = (decide (s.size ≤ 40) && (Lx.headP Lx.small (bs s) && (decide (Lx.nameTo (bs s) 0 = (bs s).length) && !Lx.words.contains (bs s)))) := by
  rw [Bool.eq_iff_iff, show checkB ⟨1, s, p⟩ = checkB ⟨((1 : Nat) : Int), s, p⟩ from rfl, check_iff, Lx.tok_name]
  simp only [Bool.and_eq_true, decide_eq_true_eq, Bool.not_eq_true']
theorem check_var (s : ByteArray) (p : Int) : checkB ⟨2, s, p⟩ = (decide (s.size ≤ 40) && (Lx.headP Lx.capital (bs s) && (bs s).all Lx.part)) := by
  rw [Bool.eq_iff_iff, show checkB ⟨2, s, p⟩ = checkB ⟨((2 : Nat) : Int), s, p⟩ from rfl, check_iff, Lx.tok_var]
  simp only [Bool.and_eq_true, decide_eq_true_eq]
theorem check_sign (s : ByteArray) (p : Int) : checkB ⟨3, s, p⟩ = Lx.signs.contains (bs s) := by
  rw [Bool.eq_iff_iff, show checkB ⟨3, s, p⟩ = checkB ⟨((3 : Nat) : Int), s, p⟩ from rfl, check_iff, Lx.tok_signs]
  constructor
  · exact fun h => h.2
  · intro h
    have := List.all_eq_true.1 (show Lx.signs.all (fun l => decide (l.length ≤ 40)) = true by decide) _ (List.contains_iff_mem.1 h)
    rw [bs_len] at this
    exact ⟨of_decide_eq_true this, h⟩
theorem check_word (s : ByteArray) (p : Int) : checkB ⟨4, s, p⟩ = Lx.words.contains (bs s) := by
  rw [Bool.eq_iff_iff, show checkB ⟨4, s, p⟩ = checkB ⟨((4 : Nat) : Int), s, p⟩ from rfl, check_iff, Lx.tok_word]
  constructor
  · exact fun h => h.2
  · intro h
    have := List.all_eq_true.1 (show Lx.words.all (fun l => decide (l.length ≤ 40)) = true by decide) _ (List.contains_iff_mem.1 h)
    rw [bs_len] at this
    exact ⟨of_decide_eq_true this, h⟩
theorem check_none (k : Int) (s : ByteArray) (p : Int) (h1 : k ≠ 1) (h2 : k ≠ 2) (h3 : k ≠ 3) (h4 : k ≠ 4) : checkB ⟨k, s, p⟩ = false := by
  rw [check_ref]
  have : refTok ⟨k, s, p⟩ = false := by
    unfold refTok
    simp only
    cases ht : Lx.tokAt (bs s) 0 with
    | none => rfl
    | some x =>
      obtain ⟨k', j⟩ := x
      have := Lx.tok_kinds ht
      simp only
      rw [decide_eq_false (show ¬ ((k' : Int) = k) from by rintro rfl; rcases this with rfl | rfl | rfl | rfl <;> simp at h1 h2 h3 h4)]
      rfl
  unfold refB
  split
  · rfl
  · rw [this, Bool.and_false]

/-- Where a text is cut at '@'. -/
theorem cut_cases (s : ByteArray) : Lib.indexByte s.data.toList 64 = -1 ∨ ∃ i : Nat, i < s.size ∧ Lib.indexByte s.data.toList 64 = i := by
  have hge := Lib.indexByte_ge s.data.toList 64
  by_cases h : Lib.indexByte s.data.toList 64 = -1
  · exact .inl h
  · obtain ⟨i, hi⟩ := Int.eq_ofNat_of_zero_le (show 0 ≤ Lib.indexByte s.data.toList 64 from by omega)
    have := (List.getElem?_eq_some_iff.1 (Lib.indexByte_some hi).1).1
    exact .inr ⟨i, this, hi⟩
theorem name_plain (s : ByteArray) (h : Lib.indexByte s.data.toList 64 = -1) : checkB ⟨1, s, 0⟩ = (decide (s.size ≤ 40) && (Lx.headP Lx.small (bs s) && ((bs s).all Lx.part && !Lx.words.contains (bs s)))) := by
  rw [check_name]
  congr 3
  rw [Bool.eq_iff_iff, decide_eq_true_eq]
  exact Lx.name_miss h
theorem name_linked (s : ByteArray) (i : Nat) (h : Lib.indexByte s.data.toList 64 = i) :
    checkB ⟨1, s, 0⟩ = (decide (s.size ≤ 40) && (Lx.headP Lx.small (bs (s.extract 0 i)) && ((bs (s.extract 0 i)).all Lx.part && (Lx.headP Lx.small (bs (s.extract (i + 1) s.size)) && ((bs (s.extract (i + 1) s.size)).all Lx.part && !Lx.words.contains (bs s)))))) := by
  have e1 : bs (s.extract 0 i) = (bs s).take i := by rw [bs_extract]; unfold Lx.slice; simp
  have e2 : bs (s.extract (i + 1) s.size) = (bs s).drop (i + 1) := by
    rw [bs_extract]; unfold Lx.slice
    rw [List.take_of_length_le (by rw [List.length_drop, bs_len]; omega)]
  rw [check_name, e1, e2, Lx.head_take (l := bs s) h (by decide)]
  have := Lx.name_hit (l := bs s) h
  rw [Bool.eq_iff_iff]
  simp only [Bool.and_eq_true, decide_eq_true_eq, this]
  constructor
  · rintro ⟨a, b, ⟨c, d, e⟩, f⟩; exact ⟨a, b, c, d, e, f⟩
  · rintro ⟨a, b, c, d, e, f⟩; exact ⟨a, b, ⟨c, d, e⟩, f⟩
end Go.Proofs.Ytihbecfjgdlebaa
