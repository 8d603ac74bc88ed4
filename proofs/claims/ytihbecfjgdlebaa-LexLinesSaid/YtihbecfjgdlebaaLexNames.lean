/- Layer 1: Check, IsName, IsVar of the program, which look at the text alone (written by gen_names.py). -/
import Derived.Test.YtihbecfjgdlebaaLexSpec
import Derived.Lib.IndexLaws
import Derived.Test.YtihbecfjgdlebaaLexRef9
namespace Go.Proofs.Ytihbecfjgdlebaa
namespace Lx

def headP (P : UInt8 → Bool) (l : Bs) : Bool := (l[0]?.map P).getD false

theorem runLen_eq (l : Bs) : runLen l = l.length ↔ l.all part = true := by
  induction l with
  | nil => simp [runLen]
  | cons c r ih =>
    rw [runLen_cons, List.all_cons]
    cases hc : part c
    · simp
    · simp only [if_true, List.length_cons, Bool.true_and]
      rw [← ih]; omega
theorem runTo_zero (l : Bs) : runTo l 0 = runLen l := by unfold runTo; rw [List.drop_zero, Nat.zero_add]
theorem part64 : part 64 = false := by decide
theorem runLen_halt : ∀ (l : Bs) (i : Nat) (c : UInt8), l[i]? = some c → part c = false → runLen l ≤ i
  | [], i, c, h, _ => by simp at h
  | a :: r, 0, c, h, hp => by
    simp at h; subst h; rw [runLen_cons, hp]; simp
  | a :: r, i + 1, c, h, hp => by
    have := runLen_halt r i c (by simpa using h) hp
    rw [runLen_cons]; split <;> omega
theorem runLen_cut : ∀ (l : Bs) (i : Nat) (c : UInt8), l[i]? = some c → part c = false → (runLen l = i ↔ (l.take i).all part = true)
  | [], i, c, h, _ => by simp at h
  | a :: r, 0, c, h, hp => by
    simp at h; subst h; rw [runLen_cons, hp]; simp
  | a :: r, i + 1, c, h, hp => by
    have ih := runLen_cut r i c (by simpa using h) hp
    rw [runLen_cons, List.take_succ_cons, List.all_cons]
    cases hc : part a
    · simp
    · simp only [if_true, Bool.true_and]
      rw [← ih]; omega

theorem slice_all (l : Bs) : slice l 0 l.length = l := by unfold slice; simp
theorem tok_name (l : Bs) : tokAt l 0 = some (1, l.length) ↔ (headP small l = true ∧ nameTo l 0 = l.length ∧ words.contains l = false) := by
  unfold headP tokAt
  cases hl : l[0]? with
  | none => simp
  | some c =>
    simp only [Option.map_some, Option.getD_some]
    cases hs : small c
    · simp only [Bool.false_eq_true, if_false, false_and, iff_false]
      split
      · simp
      · split
        · simp
        · split <;> simp
    · simp only [if_true, true_and]
      by_cases hn : nameTo l 0 = l.length
      · rw [hn, slice_all]
        have h45 : ¬ (l = [111] ∧ l[l.length]? = some 45) := by
          rintro ⟨_, h⟩; rw [List.getElem?_eq_none (Nat.le_refl _)] at h; cases h
        rw [if_neg h45]
        cases words.contains l <;> simp
      · constructor
        · intro h
          split at h
          · simp at h
          · split at h
            · simp at h
            · simp at h; exact absurd h hn
        · intro h; exact absurd h.1 hn
theorem tok_var (l : Bs) : tokAt l 0 = some (2, l.length) ↔ (headP capital l = true ∧ l.all part = true) := by
  unfold headP tokAt
  cases hl : l[0]? with
  | none => simp
  | some c =>
    simp only [Option.map_some, Option.getD_some]
    cases hs : small c
    · simp only [Bool.false_eq_true, if_false]
      cases hc : capital c
      · simp only [Bool.false_eq_true, if_false, false_and, iff_false]
        split
        · simp
        · split <;> simp
      · simp only [if_true, true_and]
        rw [runTo_zero, ← runLen_eq]; simp
    · have hc : capital c = false := by
        have := (show small c = true from hs)
        simp only [small, Bool.and_eq_true, decide_eq_true_eq] at this
        simp only [capital, Bool.and_eq_false_iff, decide_eq_false_iff_not]
        omega
      simp only [if_true, hc, Bool.false_eq_true, false_and, iff_false]
      split
      · simp
      · split <;> simp
theorem tok_word (l : Bs) : tokAt l 0 = some (4, l.length) ↔ words.contains l = true := by
  constructor
  · intro h
    unfold tokAt at h
    split at h
    · cases h
    · split at h
      · simp only at h
        split at h
        · simp at h
        · split at h
          · rename_i hw
            simp at h
            rw [h, slice_all] at hw
            exact hw
          · simp at h
      · split at h
        · simp at h
        · split at h
          · simp at h
          · split at h
            · simp at h
            · cases h
  · intro h
    have key : words.all (fun l => decide (tokAt l 0 = some (4, l.length))) = true := by decide +kernel
    exact of_decide_eq_true (List.all_eq_true.1 key l (List.contains_iff_mem.1 h))

def signs : List Bs := [[45, 111], [111, 45], [61, 62], [60, 61], [45, 62], [42], [38], [43], [33], [123], [125], [40], [41], [46], [44], [58], [92]]
theorem prefix_two {a b : UInt8} {l : Bs} (h : pre l 0 [a, b] = true) (hl : l.length = 2) : l = [a, b] := by
  unfold pre at h
  rw [List.drop_zero, List.isPrefixOf_iff_prefix] at h
  exact (h.eq_of_length (by rw [hl]; rfl)).symm
theorem tok_signs (l : Bs) : tokAt l 0 = some (3, l.length) ↔ signs.contains l = true := by
  constructor
  · intro h
    unfold tokAt at h
    split at h
    · cases h
    · rename_i c hc
      split at h
      · simp only at h
        split at h
        · rename_i h2
          simp at h
          have hj : nameTo l 0 = 1 := by
            have h3 := congrArg List.length h2.1
            unfold slice at h3
            simp at h3
            omega
          rw [hj] at h h2
          obtain ⟨ha, hb⟩ := h2
          have : l = [111, 45] := by
            match l, h, ha, hb with
            | [x, y], _, ha, hb => simp [slice] at ha hb; rw [ha, hb]
          rw [this]; decide
        · split at h
          · simp at h
          · simp at h
      · split at h
        · simp at h
        · split at h
          · rename_i hsg
            simp at h
            have : l = [c] := by
              match l, h, hc with
              | [x], _, hc => simp at hc; rw [hc]
            subst this
            unfold signB at hsg
            have hm := List.contains_iff_mem.1 hsg
            simp only [List.mem_cons, List.not_mem_nil, or_false] at hm
            rcases hm with rfl | rfl | rfl | rfl | rfl | rfl | rfl | rfl | rfl | rfl | rfl | rfl <;> decide
          · split at h
            · rename_i hlg
              simp at h
              have h2 : l.length = 2 := by omega
              simp only [isLong, Bool.or_eq_true, Bool.and_eq_true] at hlg
              rcases hlg with ((⟨h1, _⟩ | h1) | h1) | h1 <;> (rw [prefix_two h1 h2]; decide)
            · cases h
  · intro h
    have key : signs.all (fun l => decide (tokAt l 0 = some (3, l.length))) = true := by decide +kernel
    exact of_decide_eq_true (List.all_eq_true.1 key l (List.contains_iff_mem.1 h))
theorem tok_kinds {l : Bs} {k j : Nat} (h : tokAt l 0 = some (k, j)) : k = 1 ∨ k = 2 ∨ k = 3 ∨ k = 4 := by
  unfold tokAt at h
  split at h
  · cases h
  · split at h
    · simp only at h
      split at h
      · simp at h; omega
      · split at h <;> (simp at h; omega)
    · split at h
      · simp at h; omega
      · split at h
        · simp at h; omega
        · split at h
          · simp at h; omega
          · cases h

/-- A text without '@' is a name's if it is name characters alone. -/
theorem name_miss {l : Bs} (h : Lib.indexByte l 64 = -1) : nameTo l 0 = l.length ↔ l.all part = true := by
  have hn := Lib.indexByte_none h
  unfold nameTo
  simp only
  rw [if_neg (fun hc => hn _ hc.1), runTo_zero, runLen_eq]
/-- A text with '@': the name characters ahead of it, and the linked name behind it. -/
theorem name_hit {l : Bs} {i : Nat} (h : Lib.indexByte l 64 = i) : nameTo l 0 = l.length ↔ ((l.take i).all part = true ∧ headP small (l.drop (i + 1)) = true ∧ (l.drop (i + 1)).all part = true) := by
  obtain ⟨h64, hlow⟩ := Lib.indexByte_some h
  have hi : i < l.length := (List.getElem?_eq_some_iff.1 h64).1
  have hst := runLen_halt l i 64 h64 part64
  have hh : headP small (l.drop (i + 1)) = (l[i + 1]?.map small).getD false := by
    unfold headP; rw [List.getElem?_drop, Nat.add_zero]
  rw [hh, ← runLen_cut l i 64 h64 part64, ← runLen_eq]
  unfold nameTo
  simp only [runTo_zero]
  by_cases hr : runLen l = i
  · rw [hr]
    cases hq : (l[i + 1]?.map small) with
    | none => simp [h64]; omega
    | some b =>
      cases b
      · simp [h64]; omega
      · have : runTo l (i + 1) = i + 1 + runLen (l.drop (i + 1)) := rfl
        simp [h64, this, List.length_drop]
        omega
  · have hlt : runLen l < i := by omega
    rw [if_neg (fun hc => hlow _ hlt hc.1)]
    simp [hr]; omega
theorem head_take {P : UInt8 → Bool} {l : Bs} {i : Nat} (h : Lib.indexByte l 64 = i) (hP : P 64 = false) : headP P (l.take i) = headP P l := by
  obtain ⟨h64, hlow⟩ := Lib.indexByte_some h
  unfold headP
  cases i with
  | zero => rw [h64]; simp [hP]
  | succ i => simp
end Lx
end Go.Proofs.Ytihbecfjgdlebaa
namespace Go.Proofs.Ytihbecfjgdlebaa
open Go.RowKit

theorem byte_forall {P : UInt8 → Bool} (h : (List.range 256).all (fun n => P n.toUInt8) = true) (c : UInt8) : P c = true := by
  have := List.all_eq_true.1 h c.toNat (List.mem_range.2 c.toNat_lt)
  rwa [show c.toNat.toUInt8 = c from by simp] at this
theorem first_byte {l : Lx.Bs} {c : UInt8} {k j : Nat} (hc : l[0]? = some c) (h : Lx.tokAt l 0 = some (k, j)) : Lx.blank c = false ∧ c.toNat ≠ 37 := by
  have key : (Lx.small c || Lx.capital c || Lx.signB c || (c == 45 || c == 61 || c == 60)) = true := by
    unfold Lx.tokAt at h
    rw [hc] at h
    simp only at h
    cases hs : Lx.small c
    · cases hp : Lx.capital c
      · cases hg : Lx.signB c
        · rw [hs, hp, hg] at h
          simp only [Bool.false_eq_true, if_false] at h
          split at h
          · rename_i hl
            have h0 : ∀ a b, Lx.pre l 0 [a, b] = true → c = a := fun a b hab => by
              have := (Lx.pre_two hab).1
              rw [hc] at this; exact Option.some.inj this
            simp only [Lx.isLong, Bool.or_eq_true, Bool.and_eq_true] at hl
            rcases hl with ((⟨h1, _⟩ | h1) | h1) | h1 <;> (rw [h0 _ _ h1]; decide)
          · cases h
        · simp
      · simp
    · simp
  have := byte_forall (P := fun c => !(Lx.small c || Lx.capital c || Lx.signB c || (c == 45 || c == 61 || c == 60)) || (!Lx.blank c && !decide (c.toNat = 37))) (by decide +kernel) c
  simp only [key, Bool.not_true, Bool.false_or, Bool.and_eq_true, Bool.not_eq_true', decide_eq_false_iff_not] at this
  exact this
theorem refTok_iff (k : Nat) (s : ByteArray) (p : Int) : refTok ⟨k, s, p⟩ = true ↔ Lx.tokAt (bs s) 0 = some (k, (bs s).length) := by
  unfold refTok
  simp only
  cases Lx.tokAt (bs s) 0 with
  | none => simp
  | some x =>
    obtain ⟨k', j⟩ := x
    simp only [Bool.and_eq_true, decide_eq_true_eq, Option.some.injEq, Prod.mk.injEq, bs_len]
    omega
theorem check_iff (k : Nat) (s : ByteArray) (p : Int) : checkB ⟨k, s, p⟩ = true ↔ (s.size ≤ 40 ∧ Lx.tokAt (bs s) 0 = some (k, (bs s).length)) := by
  rw [check_ref, ← refTok_iff k s p]
  unfold refB
  simp only
  cases hc : (bs s)[0]? with
  | none =>
    constructor
    · intro h; cases h
    · rintro ⟨_, h⟩
      rw [refTok_iff] at h
      simp [Lx.tokAt, hc] at h
  | some c =>
    simp only [Bool.and_eq_true, decide_eq_true_eq]
    constructor
    · rintro ⟨⟨⟨h1, _⟩, _⟩, h2⟩; exact ⟨h1, h2⟩
    · rintro ⟨h1, h2⟩
      have := first_byte hc ((refTok_iff k s p).1 h2)
      exact ⟨⟨⟨h1, by rw [this.1]; rfl⟩, by simpa using this.2⟩, h2⟩
theorem check_name (s : ByteArray) (p : Int) : checkB ⟨1, s, p⟩ = (decide (s.size ≤ 40) && (Lx.headP Lx.small (bs s) && (decide (Lx.nameTo (bs s) 0 = (bs s).length) && !Lx.words.contains (bs s)))) := by
  rw [Bool.eq_iff_iff, show checkB ⟨1, s, p⟩ = checkB ⟨((1 : Nat) : Int), s, p⟩ from rfl, check_iff, Lx.tok_name]
  simp only [Bool.and_eq_true, decide_eq_true_eq, Bool.not_eq_true']
theorem check_var (s : ByteArray) (p : Int) : checkB ⟨2, s, p⟩ = (decide (s.size ≤ 40) && (Lx.headP Lx.capital (bs s) && (bs s).all Lx.part)) := by
  rw [Bool.eq_iff_iff, show checkB ⟨2, s, p⟩ = checkB ⟨((2 : Nat) : Int), s, p⟩ from rfl, check_iff, Lx.tok_var]
  simp only [Bool.and_eq_true, decide_eq_true_eq]
theorem check_sign (s : ByteArray) (p : Int) : checkB ⟨3, s, p⟩ = Lx.signs.contains (bs s) := by
  rw [Bool.eq_iff_iff, show checkB ⟨3, s, p⟩ = checkB ⟨((3 : Nat) : Int), s, p⟩ from rfl, check_iff, Lx.tok_signs]
  constructor
  · exact fun h => h.2
  · intro h
    have := List.all_eq_true.1 (show Lx.signs.all (fun l => decide (l.length ≤ 40)) = true by decide) _ (List.contains_iff_mem.1 h)
    rw [bs_len] at this
    exact ⟨of_decide_eq_true this, h⟩
theorem check_word (s : ByteArray) (p : Int) : checkB ⟨4, s, p⟩ = Lx.words.contains (bs s) := by
  rw [Bool.eq_iff_iff, show checkB ⟨4, s, p⟩ = checkB ⟨((4 : Nat) : Int), s, p⟩ from rfl, check_iff, Lx.tok_word]
  constructor
  · exact fun h => h.2
  · intro h
    have := List.all_eq_true.1 (show Lx.words.all (fun l => decide (l.length ≤ 40)) = true by decide) _ (List.contains_iff_mem.1 h)
    rw [bs_len] at this
    exact ⟨of_decide_eq_true this, h⟩
theorem check_none (k : Int) (s : ByteArray) (p : Int) (h1 : k ≠ 1) (h2 : k ≠ 2) (h3 : k ≠ 3) (h4 : k ≠ 4) : checkB ⟨k, s, p⟩ = false := by
  rw [check_ref]
  have : refTok ⟨k, s, p⟩ = false := by
    unfold refTok
    simp only
    cases ht : Lx.tokAt (bs s) 0 with
    | none => rfl
    | some x =>
      obtain ⟨k', j⟩ := x
      have := Lx.tok_kinds ht
      simp only
      rw [decide_eq_false (show ¬ ((k' : Int) = k) from by rintro rfl; rcases this with rfl | rfl | rfl | rfl <;> simp at h1 h2 h3 h4)]
      rfl
  unfold refB
  split
  · rfl
  · rw [this, Bool.and_false]

/-- Where a text is cut at '@'. -/
theorem cut_cases (s : ByteArray) : Lib.indexByte s.data.toList 64 = -1 ∨ ∃ i : Nat, i < s.size ∧ Lib.indexByte s.data.toList 64 = i := by
  have hge := Lib.indexByte_ge s.data.toList 64
  by_cases h : Lib.indexByte s.data.toList 64 = -1
  · exact .inl h
  · obtain ⟨i, hi⟩ := Int.eq_ofNat_of_zero_le (show 0 ≤ Lib.indexByte s.data.toList 64 from by omega)
    have := (List.getElem?_eq_some_iff.1 (Lib.indexByte_some hi).1).1
    exact .inr ⟨i, this, hi⟩
theorem name_plain (s : ByteArray) (h : Lib.indexByte s.data.toList 64 = -1) : checkB ⟨1, s, 0⟩ = (decide (s.size ≤ 40) && (Lx.headP Lx.small (bs s) && ((bs s).all Lx.part && !Lx.words.contains (bs s)))) := by
  rw [check_name]
  congr 3
  rw [Bool.eq_iff_iff, decide_eq_true_eq]
  exact Lx.name_miss h
theorem name_linked (s : ByteArray) (i : Nat) (h : Lib.indexByte s.data.toList 64 = i) :
    checkB ⟨1, s, 0⟩ = (decide (s.size ≤ 40) && (Lx.headP Lx.small (bs (s.extract 0 i)) && ((bs (s.extract 0 i)).all Lx.part && (Lx.headP Lx.small (bs (s.extract (i + 1) s.size)) && ((bs (s.extract (i + 1) s.size)).all Lx.part && !Lx.words.contains (bs s)))))) := by
  have e1 : bs (s.extract 0 i) = (bs s).take i := by rw [bs_extract]; unfold Lx.slice; simp
  have e2 : bs (s.extract (i + 1) s.size) = (bs s).drop (i + 1) := by
    rw [bs_extract]; unfold Lx.slice
    rw [List.take_of_length_le (by rw [List.length_drop, bs_len]; omega)]
  rw [check_name, e1, e2, Lx.head_take (l := bs s) h (by decide)]
  have := Lx.name_hit (l := bs s) h
  rw [Bool.eq_iff_iff]
  simp only [Bool.and_eq_true, decide_eq_true_eq, this]
  constructor
  · rintro ⟨a, b, ⟨c, d, e⟩, f⟩; exact ⟨a, b, c, d, e, f⟩
  · rintro ⟨a, b, c, d, e, f⟩; exact ⟨a, b, ⟨c, d, e⟩, f⟩
end Go.Proofs.Ytihbecfjgdlebaa
namespace Go.Proofs.Ytihbecfjgdlebaa
open Go.RowKit

def smallS : ByteArray := ⟨#[97, 98, 99, 100, 101, 102, 103, 104, 105, 106, 107, 108, 109, 110, 111, 112, 113, 114, 115, 116, 117, 118, 119, 120, 121, 122]⟩
def capS : ByteArray := ⟨#[65, 66, 67, 68, 69, 70, 71, 72, 73, 74, 75, 76, 77, 78, 79, 80, 81, 82, 83, 84, 85, 86, 87, 88, 89, 90]⟩
def partS : ByteArray := ⟨#[97, 98, 99, 100, 101, 102, 103, 104, 105, 106, 107, 108, 109, 110, 111, 112, 113, 114, 115, 116, 117, 118, 119, 120, 121, 122, 65, 66, 67, 68, 69, 70, 71, 72, 73, 74, 75, 76, 77, 78, 79, 80, 81, 82, 83, 84, 85, 86, 87, 88, 89, 90, 48, 49, 50, 51, 52, 53, 54, 55, 56, 57, 95, 39]⟩
theorem in_small (c : UInt8) : decide (0 ≤ Lib.indexByte smallS.data.toList c) = Lx.small c := by
  have := byte_forall (P := fun c => decide (0 ≤ Lib.indexByte smallS.data.toList c) == Lx.small c) (by decide +kernel) c
  exact beq_iff_eq.1 this
theorem in_cap (c : UInt8) : decide (0 ≤ Lib.indexByte capS.data.toList c) = Lx.capital c := by
  have := byte_forall (P := fun c => decide (0 ≤ Lib.indexByte capS.data.toList c) == Lx.capital c) (by decide +kernel) c
  exact beq_iff_eq.1 this
theorem in_part (c : UInt8) : decide (0 ≤ Lib.indexByte partS.data.toList c) = Lx.part c := by
  have := byte_forall (P := fun c => decide (0 ≤ Lib.indexByte partS.data.toList c) == Lx.part c) (by decide +kernel) c
  exact beq_iff_eq.1 this
set_option maxRecDepth 100000 in
set_option maxHeartbeats 400000 in
theorem nWords (w : World) : Calls Try.prog 26 #[] w fun e w' => e = .returned (.slice (some ⟨w.heap.size, 0, none⟩) 17 17) ∧ w' = w.alloc (.cells (wordsB.map Value.string).toArray 9) := by
  go_enter Try.func26, Try.ntmps26
  go_wp2
  go_ret
  exact ⟨rfl, rfl⟩

set_option maxRecDepth 100000 in
set_option maxHeartbeats 400000 in
theorem begins_v (P : UInt8 → Bool) (V : Bool) (s L : ByteArray) (w : World) (hP : ∀ c, decide (0 ≤ Lib.indexByte L.data.toList c) = P c) (hV : Lx.headP P (bs s) = V) :
    Calls Try.prog 53 #[.string s, .string L] w fun e w' => e = .returned (.bool V) ∧ w' = w := by
  by_cases h0 : s.size = 0
  · obtain rfl : s = ⟨#[]⟩ := by
      obtain ⟨⟨l⟩⟩ := s
      have : l = [] := List.eq_nil_of_length_eq_zero (by simpa [ByteArray.size] using h0)
      rw [this]
    have hVf : V = false := by rw [← hV]; rfl
    subst hVf
    clear hV hP h0
    go_enter Try.func53, Try.ntmps53
    go_wp2
    go_ret
    exact ⟨rfl, rfl⟩
  · have hpos : 0 < s.size := by omega
    have hne2 : (s.toList == []) = false := by
      rw [ByteArray.toList_eq, beq_eq_false_iff_ne]
      intro e
      have h1 : s.data.toList.length = s.size := rfl
      have h2 : s.size = ([] : List UInt8).length := h1.symm.trans (congrArg List.length e)
      simp only [List.length_nil] at h2
      omega
    have hne : (!(s.toList == [])) = true := by rw [hne2]; rfl
    have hg : (bs s)[0]? = some s[0] := by rw [List.getElem?_eq_getElem (by rw [bs_len]; exact hpos), bs_get hpos]
    have hv : decide ((0 : Int) ≤ Lib.indexByte L.data.toList s[0]) = V := by rw [← hV, hP]; unfold Lx.headP; rw [hg]; rfl
    have hlt : s[0].toNat < 256 := s[0].toNat_lt
    have C := fun w => Try.strings_IndexByte L (s[0].toNat : Int) w
    rw [show ((s[0].toNat : Int)).toNat.toUInt8 = s[0] from by simp] at C
    obtain ⟨I, hI⟩ : ∃ I, Lib.indexByte L.data.toList s[0] = I := ⟨_, rfl⟩
    rw [hI] at C hv
    have HC := Lib.hid C
    have HV := Lib.hid hv
    clear C hV hP hg hI h0 hv
    go_enter Try.func53, Try.ntmps53
    go_wp2_with fail
    refine (HC.out _).mono ?_
    rintro e w1 ⟨rfl, rfl⟩
    go_wp2
    go_ret
    exact ⟨by rw [← HV.out]; rfl, rfl⟩

theorem all_step {l : Lx.Bs} {k : Nat} (h : k < l.length) : (l.drop k).all Lx.part = (Lx.part l[k] && (l.drop (k + 1)).all Lx.part) := by
  rw [List.drop_eq_getElem_cons h, List.all_cons]
set_option maxRecDepth 100000 in
set_option maxHeartbeats 400000 in
theorem inName_v (V : Bool) (s : ByteArray) (w : World) (hs : s.size ≤ maxLen) (hV : (bs s).all Lx.part = V) :
    Calls Try.prog 54 #[.string s] w fun e w' => e = .returned (.bool V) ∧ w' = w := by
  unfold maxLen at hs
  have HV := Lib.hid hV
  have HL := Lib.hid (bs_len s)
  have hby := byte_lt
  have HC := Lib.hid (fun (c : UInt8) w => Try.strings_IndexByte partS (c.toNat : Int) w)
  clear hV
  go_enter Try.func54, Try.ntmps54
  go_wp2
  go_loopw [6] (fun v wr => ∃ k : Nat, k ≤ s.size ∧ v = .int .i64 k ∧ Hid (((bs s).drop k).all Lx.part = V) ∧ wr = w) (fun v _ => s.size - (intOf v).toNat)
  case atStart => exact ⟨0, Nat.zero_le _, rfl, Lib.hid (by rw [List.drop_zero]; exact HV.out), rfl⟩
  case round =>
    obtain ⟨k, hk, rfl, hall, rfl⟩ := hrel
    by_cases hlt : k < s.size
    · have hlt' : (k : Int) < (s.size : Int) := by omega
      have hst := all_step (l := bs s) (k := k) (by rw [bs_len]; exact hlt)
      rw [bs_get hlt] at hst
      have C := fun w => HC.out s[k] w
      rw [show ((s[k].toNat : Int)).toNat.toUInt8 = s[k] from by simp] at C
      have hin := in_part s[k]
      obtain ⟨I, hI⟩ : ∃ I, Lib.indexByte partS.data.toList s[k] = I := ⟨_, rfl⟩
      rw [hI] at C hin
      have Hst := Lib.hid hst
      have CC := Lib.hid C
      have Hin := Lib.hid hin
      clear hst C hI hin
      unfold partS at CC
      go_wp2_with fail
      refine (CC.out _).mono ?_
      rintro e w1 ⟨rfl, rfl⟩
      by_cases hi : I < 0
      · go_wp2
        go_ret
        exact ⟨by rw [← hall.out, Hst.out, ← Hin.out, decide_eq_false (by omega)]; rfl, rfl⟩
      · go_wp2
        go_roundw
        case rel => exact ⟨k + 1, by omega, by push_cast; rfl, Lib.hid (by rw [← hall.out, Hst.out, ← Hin.out, decide_eq_true (by omega)]; rfl), trivial⟩
        case measure => simp [intOf]; omega
    · have hlt' : ¬ (k : Int) < (s.size : Int) := by omega
      have hVt : V = true := by rw [← hall.out, List.drop_of_length_le (by rw [bs_len]; omega)]; rfl
      subst hVt
      go_wp2
      go_ret
      exact ⟨rfl, rfl⟩

set_option maxRecDepth 100000 in
set_option maxHeartbeats 400000 in
theorem liteCut_any (s : ByteArray) (w : World) (hs : s.size ≤ maxLen) :
    Calls Try.prog 80 #[.string s, .string ⟨#[64]⟩] w fun e w' => Below w.heap.size w w' ∧
      ((Lib.indexByte s.data.toList 64 = -1 ∧ e = .returned (.tuple #[.string s, .string ⟨#[]⟩, .bool false])) ∨
        ∃ i : Nat, i < s.size ∧ Lib.indexByte s.data.toList 64 = i ∧ e = .returned (.tuple #[.string (s.extract 0 i), .string (s.extract (i + 1) s.size), .bool true])) := by
  have hc := cut_cases s
  unfold maxLen at hs
  have HC := fun w => Try.stringslite_Index_one s 64 w
  rcases hc with hm | ⟨i, hi, he⟩
  · rw [hm] at HC
    have HM := Lib.hid hm
    have C := Lib.hid HC
    clear hm HC
    go_enter Try.func80, Try.ntmps80
    go_wp2_with fail
    refine (C.out _).mono ?_
    rintro e w1 ⟨rfl, rfl⟩
    go_wp2
    go_ret3
    exact ⟨Below.refl _ _, .inl ⟨HM.out, rfl⟩⟩
  · rw [he] at HC
    have HM := Lib.hid he
    have C := Lib.hid HC
    clear he HC
    have c1 : (0 : Int) ≤ (i : Int) := by omega
    have c2 : (i : Int) ≤ (s.size : Int) := by omega
    have c3 : (0 : Int) ≤ (i : Int) + 1 := by omega
    have c4 : (i : Int) + 1 ≤ (s.size : Int) := by omega
    go_enter Try.func80, Try.ntmps80
    go_wp2_with fail
    refine (C.out _).mono ?_
    rintro e w1 ⟨rfl, rfl⟩
    go_wp2_with fail
    go_quiet (fail)
    go_wp2
    go_ret3
    exact ⟨⟨rfl, rfl, rfl, Nat.le_refl _, fun _ _ => rfl⟩, .inr ⟨i, hi, HM.out, rfl⟩⟩
set_option maxRecDepth 100000 in
set_option maxHeartbeats 400000 in
theorem cut_any (s : ByteArray) (w : World) (hs : s.size ≤ maxLen) :
    Calls Try.prog 52 #[.string s, .string ⟨#[64]⟩] w fun e w' => Below w.heap.size w w' ∧
      ((Lib.indexByte s.data.toList 64 = -1 ∧ e = .returned (.tuple #[.string s, .string ⟨#[]⟩, .bool false])) ∨
        ∃ i : Nat, i < s.size ∧ Lib.indexByte s.data.toList 64 = i ∧ e = .returned (.tuple #[.string (s.extract 0 i), .string (s.extract (i + 1) s.size), .bool true])) := by
  have C := Lib.hid (fun w => liteCut_any s w hs)
  go_enter Try.func52, Try.ntmps52
  go_wp2_with fail
  refine (C.out _).mono ?_
  rintro e w1 ⟨hb, ⟨hm, rfl⟩ | ⟨i, hi, he, rfl⟩⟩
  · have HM := Lib.hid hm
    clear hm
    go_wp2
    go_ret3
    exact ⟨hb, .inl ⟨HM.out, rfl⟩⟩
  · have HM := Lib.hid he
    clear he
    go_wp2
    go_ret3
    exact ⟨hb, .inr ⟨i, hi, HM.out, rfl⟩⟩

theorem words_in (x : ByteArray) (w : World) (b : Nat) (hb : ∀ k, k < wordsB.length → w.cell? ⟨b, 0 + k, none⟩ = some (.string (wordsB.getD k ByteArray.empty))) :
    Calls Try.prog 55 #[.slice (some ⟨b, 0, none⟩) 17 17, .string x] w fun e w' => e = .returned (.bool (Lx.words.contains (bs x))) ∧ w' = w := by
  have := Try.slices_Contains_string b 0 17 17 wordsB x w (by decide) (by omega) hb
  rwa [contains_words] at this
theorem lit_cells (w : World) (L : List ByteArray) (t : TypeId) (k : Nat) (hk : k < L.length) : (w.alloc (.cells (L.map Value.string).toArray t)).cell? ⟨w.heap.size, 0 + k, none⟩ = some (.string (L.getD k ByteArray.empty)) := by
  rw [World.cell?_alloc_at _ _ _ _ rfl]
  simp only [Nat.zero_add, List.getElem?_toArray, List.getElem?_map, List.getD_eq_getElem?_getD]
  rw [List.getElem?_eq_getElem hk]
  rfl
set_option maxRecDepth 100000 in
set_option maxHeartbeats 1000000 in
theorem isName_plain (V : Bool) (s : ByteArray) (w : World) (hs : s.size ≤ maxLen) (hm : Lib.indexByte s.data.toList 64 = -1) (hV : checkB ⟨1, s, 0⟩ = V) :
    Calls Try.prog 17 #[.string s] w fun e w' => e = .returned (.bool V) ∧ Below w.heap.size w w' := by
  rw [name_plain s hm] at hV
  have C0 := Lib.hid (fun w => cut_any s w hs)
  obtain ⟨p, hp⟩ : ∃ p, s = p := ⟨_, rfl⟩
  have hx1 : p.size ≤ maxLen := by rw [← hp]; exact hs
  have CW : Hid (∀ w, Calls Try.prog 26 #[] w fun e w' => e = .returned (.slice (some ⟨w.heap.size, 0, none⟩) 17 17) ∧ w' = w.alloc (.cells (wordsB.map Value.string).toArray 9)) := Lib.hid nWords
  obtain ⟨VW, hW⟩ : ∃ v, Lx.words.contains (bs s) = v := ⟨_, rfl⟩
  have CC := fun w b hb => words_in s w b hb
  rw [hW] at CC
  rw [hp] at hV
  have hV := hV
  rw [← hp] at hV
  rw [hW] at hV
  obtain ⟨B1, hB1⟩ : ∃ v, Lx.headP Lx.small (bs s) = v := ⟨_, rfl⟩
  obtain ⟨P1, hP1⟩ : ∃ v, (bs s).all Lx.part = v := ⟨_, rfl⟩
  rw [hB1, hP1] at hV
  have CB1 := Lib.hid (fun w => begins_v Lx.small B1 s smallS w in_small hB1)
  have CP1 := Lib.hid (fun w => inName_v P1 s w hs hP1)
  unfold smallS at CB1
  have CH := Lib.hid CC
  have HM := Lib.hid hm
  have HV := Lib.hid hV
  have HPQ := Lib.hid hp
  by_cases h40 : (s.size : Int) ≤ 40
  · have HD := Lib.hid (decide_eq_true (show s.size ≤ 40 by omega))
    clear CC hW hm hV hp  hB1 hP1 hx1
    go_enter Try.func17, Try.ntmps17
    go_wp2_with fail
    refine (C0.out _).mono ?_
    rintro e w1 ⟨hb, ⟨_, rfl⟩ | ⟨i, _, he, _⟩⟩
    case inr => rw [HM.out] at he; omega
    clear C0
    have Hb := Lib.hid hb
    clear hb
    go_wp2_with fail
    refine (CB1.out _).mono ?_
    rintro e w2 ⟨rfl, hw⟩
    obtain rfl := hw.symm
    clear CB1
    cases B1
    · go_wp2
      go_ret
      exact ⟨by rw [← HV.out, HD.out]; rfl, Hb.out⟩
    · skip
      go_wp2_with fail
      refine (CP1.out _).mono ?_
      rintro e w2 ⟨rfl, hw⟩
      obtain rfl := hw.symm
      clear CP1
      cases P1
      · go_wp2
        go_ret
        exact ⟨by rw [← HV.out, HD.out]; rfl, Hb.out⟩
      · skip
        go_wp2_with fail
        refine (CW.out _).mono ?_
        rintro e w2 ⟨rfl, rfl⟩
        have CI := Lib.hid (CH.out _ _ (fun k hk => lit_cells w1 wordsB 9 k hk))
        clear CW CH
        go_wp2_with fail
        refine CI.out.mono ?_
        rintro e w2 ⟨rfl, rfl⟩
        clear CI
        cases VW
        · go_wp2
          go_ret
          exact ⟨by rw [← HV.out, HD.out]; rfl, Hb.out.trans ((Below.refl _ _).alloc Hb.out.size _)⟩
        · go_wp2
          go_ret
          exact ⟨by rw [← HV.out, HD.out]; rfl, Hb.out.trans ((Below.refl _ _).alloc Hb.out.size _)⟩
  · have HD := Lib.hid (decide_eq_false (show ¬ s.size ≤ 40 by omega))
    clear CC hW hm hV hp  hB1 hP1 hx1
    go_enter Try.func17, Try.ntmps17
    go_wp2_with fail
    refine (C0.out _).mono ?_
    rintro e w1 ⟨hb, ⟨_, rfl⟩ | ⟨i, _, he, _⟩⟩
    case inr => rw [HM.out] at he; omega
    clear C0
    have Hb := Lib.hid hb
    clear hb
    go_wp2
    go_ret
    exact ⟨by rw [← HV.out, HD.out]; rfl, Hb.out⟩
set_option maxRecDepth 100000 in
set_option maxHeartbeats 1000000 in
theorem isName_linked (V : Bool) (s : ByteArray) (w : World) (hs : s.size ≤ maxLen) (i : Nat) (hi : i < s.size) (hm : Lib.indexByte s.data.toList 64 = i) (hV : checkB ⟨1, s, 0⟩ = V) :
    Calls Try.prog 17 #[.string s] w fun e w' => e = .returned (.bool V) ∧ Below w.heap.size w w' := by
  rw [name_linked s i hm] at hV
  have hx1 : (s.extract 0 i).size ≤ maxLen := by rw [ByteArray.size_extract]; unfold maxLen at *; omega
  have hx2 : (s.extract (i + 1) s.size).size ≤ maxLen := by rw [ByteArray.size_extract]; unfold maxLen at *; omega
  have C0 := Lib.hid (fun w => cut_any s w hs)
  obtain ⟨p, hp⟩ : ∃ p, s.extract 0 i = p := ⟨_, rfl⟩
  obtain ⟨q, hq⟩ : ∃ q, s.extract (i + 1) s.size = q := ⟨_, rfl⟩
  rw [hp] at hx1
  rw [hq] at hx2
  rw [hp, hq] at hV
  have CW : Hid (∀ w, Calls Try.prog 26 #[] w fun e w' => e = .returned (.slice (some ⟨w.heap.size, 0, none⟩) 17 17) ∧ w' = w.alloc (.cells (wordsB.map Value.string).toArray 9)) := Lib.hid nWords
  obtain ⟨VW, hW⟩ : ∃ v, Lx.words.contains (bs s) = v := ⟨_, rfl⟩
  have CC := fun w b hb => words_in s w b hb
  rw [hW] at CC
  rw [hW] at hV
  obtain ⟨B1, hB1⟩ : ∃ v, Lx.headP Lx.small (bs p) = v := ⟨_, rfl⟩
  obtain ⟨P1, hP1⟩ : ∃ v, (bs p).all Lx.part = v := ⟨_, rfl⟩
  rw [hB1, hP1] at hV
  obtain ⟨B2, hB2⟩ : ∃ v, Lx.headP Lx.small (bs q) = v := ⟨_, rfl⟩
  obtain ⟨P2, hP2⟩ : ∃ v, (bs q).all Lx.part = v := ⟨_, rfl⟩
  rw [hB2, hP2] at hV
  have CB1 := Lib.hid (fun w => begins_v Lx.small B1 p smallS w in_small hB1)
  have CP1 := Lib.hid (fun w => inName_v P1 p w hx1 hP1)
  unfold smallS at CB1
  have CB2 := Lib.hid (fun w => begins_v Lx.small B2 q smallS w in_small hB2)
  have CP2 := Lib.hid (fun w => inName_v P2 q w hx2 hP2)
  unfold smallS at CB2
  have CH := Lib.hid CC
  have HM := Lib.hid hm
  have HV := Lib.hid hV
  have HPQ := Lib.hid hp
  have HQQ := Lib.hid hq
  by_cases h40 : (s.size : Int) ≤ 40
  · have HD := Lib.hid (decide_eq_true (show s.size ≤ 40 by omega))
    clear CC hW hm hV hp hq hB2 hP2 hx2 hi  hB1 hP1 hx1
    go_enter Try.func17, Try.ntmps17
    go_wp2_with fail
    refine (C0.out _).mono ?_
    rintro e w1 ⟨hb, ⟨hm, _⟩ | ⟨i', _, he, rfl⟩⟩
    · rw [HM.out] at hm; omega
    obtain rfl : i' = i := by rw [HM.out] at he; omega
    rw [HPQ.out, HQQ.out]
    clear C0
    have Hb := Lib.hid hb
    clear hb
    go_wp2_with fail
    refine (CB1.out _).mono ?_
    rintro e w2 ⟨rfl, hw⟩
    obtain rfl := hw.symm
    clear CB1
    cases B1
    · go_wp2
      go_ret
      exact ⟨by rw [← HV.out, HD.out]; rfl, Hb.out⟩
    · skip
      go_wp2_with fail
      refine (CP1.out _).mono ?_
      rintro e w2 ⟨rfl, hw⟩
      obtain rfl := hw.symm
      clear CP1
      cases P1
      · go_wp2
        go_ret
        exact ⟨by rw [← HV.out, HD.out]; rfl, Hb.out⟩
      · skip
        go_wp2_with fail
        refine (CB2.out _).mono ?_
        rintro e w2 ⟨rfl, hw⟩
        obtain rfl := hw.symm
        clear CB2
        cases B2
        · go_wp2
          go_ret
          exact ⟨by rw [← HV.out, HD.out]; rfl, Hb.out⟩
        · skip
          go_wp2_with fail
          refine (CP2.out _).mono ?_
          rintro e w2 ⟨rfl, hw⟩
          obtain rfl := hw.symm
          clear CP2
          cases P2
          · go_wp2
            go_ret
            exact ⟨by rw [← HV.out, HD.out]; rfl, Hb.out⟩
          · skip
            go_wp2_with fail
            refine (CW.out _).mono ?_
            rintro e w2 ⟨rfl, rfl⟩
            have CI := Lib.hid (CH.out _ _ (fun k hk => lit_cells w1 wordsB 9 k hk))
            clear CW CH
            go_wp2_with fail
            refine CI.out.mono ?_
            rintro e w2 ⟨rfl, rfl⟩
            clear CI
            cases VW
            · go_wp2
              go_ret
              exact ⟨by rw [← HV.out, HD.out]; rfl, Hb.out.trans ((Below.refl _ _).alloc Hb.out.size _)⟩
            · go_wp2
              go_ret
              exact ⟨by rw [← HV.out, HD.out]; rfl, Hb.out.trans ((Below.refl _ _).alloc Hb.out.size _)⟩
  · have HD := Lib.hid (decide_eq_false (show ¬ s.size ≤ 40 by omega))
    clear CC hW hm hV hp hq hB2 hP2 hx2 hi  hB1 hP1 hx1
    go_enter Try.func17, Try.ntmps17
    go_wp2_with fail
    refine (C0.out _).mono ?_
    rintro e w1 ⟨hb, ⟨hm, _⟩ | ⟨i', _, he, rfl⟩⟩
    · rw [HM.out] at hm; omega
    obtain rfl : i' = i := by rw [HM.out] at he; omega
    rw [HPQ.out, HQQ.out]
    clear C0
    have Hb := Lib.hid hb
    clear hb
    go_wp2
    go_ret
    exact ⟨by rw [← HV.out, HD.out]; rfl, Hb.out⟩
theorem isName_v (V : Bool) (s : ByteArray) (w : World) (hs : s.size ≤ maxLen) (hV : checkB ⟨1, s, 0⟩ = V) :
    Calls Try.prog 17 #[.string s] w fun e w' => e = .returned (.bool V) ∧ Below w.heap.size w w' := by
  rcases cut_cases s with hm | ⟨i, hi, he⟩
  · exact isName_plain V s w hs hm hV
  · exact isName_linked V s w hs i hi he hV
theorem isName_any (s : ByteArray) (w : World) (hs : s.size ≤ maxLen) :
    Calls Try.prog 17 #[.string s] w fun e w' => e = .returned (.bool (checkB ⟨1, s, 0⟩)) ∧ Below w.heap.size w w' := isName_v _ s w hs rfl

set_option maxRecDepth 100000 in
set_option maxHeartbeats 400000 in
theorem isVar_v (V : Bool) (s : ByteArray) (w : World) (hs : s.size ≤ maxLen) (hV : checkB ⟨2, s, 0⟩ = V) :
    Calls Try.prog 21 #[.string s] w fun e w' => e = .returned (.bool V) ∧ Below w.heap.size w w' := by
  rw [check_var] at hV
  obtain ⟨B1, hB1⟩ : ∃ v, Lx.headP Lx.capital (bs s) = v := ⟨_, rfl⟩
  obtain ⟨P1, hP1⟩ : ∃ v, (bs s).all Lx.part = v := ⟨_, rfl⟩
  rw [hB1, hP1] at hV
  have CB1 := Lib.hid (fun w => begins_v Lx.capital B1 s capS w in_cap hB1)
  have CP1 := Lib.hid (fun w => inName_v P1 s w hs hP1)
  unfold capS at CB1
  have HV := Lib.hid hV
  by_cases h40 : (s.size : Int) ≤ 40
  · have HD := Lib.hid (decide_eq_true (show s.size ≤ 40 by omega))
    clear hV hB1 hP1
    go_enter Try.func21, Try.ntmps21
    go_wp2_with fail
    refine (CB1.out _).mono ?_
    rintro e w1 ⟨rfl, rfl⟩
    clear CB1
    cases B1
    · go_wp2
      go_ret
      exact ⟨by rw [← HV.out, HD.out]; rfl, Below.refl _ _⟩
    · go_wp2_with fail
      refine (CP1.out _).mono ?_
      rintro e w2 ⟨rfl, rfl⟩
      clear CP1
      cases P1
      · go_wp2
        go_ret
        exact ⟨by rw [← HV.out, HD.out]; rfl, Below.refl _ _⟩
      · go_wp2
        go_ret
        exact ⟨by rw [← HV.out, HD.out]; rfl, Below.refl _ _⟩
  · have HD := Lib.hid (decide_eq_false (show ¬ s.size ≤ 40 by omega))
    clear hV hB1 hP1
    go_enter Try.func21, Try.ntmps21
    go_wp2
    go_ret
    exact ⟨by rw [← HV.out, HD.out]; rfl, Below.refl _ _⟩
theorem isVar_any (s : ByteArray) (w : World) (hs : s.size ≤ maxLen) :
    Calls Try.prog 21 #[.string s] w fun e w' => e = .returned (.bool (checkB ⟨2, s, 0⟩)) ∧ Below w.heap.size w w' := isVar_v _ s w hs rfl
end Go.Proofs.Ytihbecfjgdlebaa
