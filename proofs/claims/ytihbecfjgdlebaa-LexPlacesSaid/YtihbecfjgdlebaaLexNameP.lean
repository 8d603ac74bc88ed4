/- Layer 1, plain: what a text is whose first token is the whole of it: a name, a capital name, a sign, a word. -/
import Derived.Test.YtihbecfjgdlebaaLexSpec
import Derived.Lib.IndexLaws
namespace Go.Proofs.Ytihbecfjgdlebaa
namespace Lx

def headP (P : UInt8 → Bool) (l : Bs) : Bool := (l[0]?.map P).getD false

theorem runLen_eq (l : Bs) : runLen l = l.length ↔ l.all part = true := by
  induction l with
  | nil => simp [runLen]
  | cons c r ih =>
    rw [runLen_cons, List.all_cons]
    cases hc : part c
    · simp
    · simp only [if_true, List.length_cons, Bool.true_and]
      rw [← ih]; omega
theorem runTo_zero (l : Bs) : runTo l 0 = runLen l := by unfold runTo; rw [List.drop_zero, Nat.zero_add]
theorem part64 : part 64 = false := by decide
theorem runLen_halt : ∀ (l : Bs) (i : Nat) (c : UInt8), l[i]? = some c → part c = false → runLen l ≤ i
  | [], i, c, h, _ => by simp at h
  | a :: r, 0, c, h, hp => by
    simp at h; subst h; rw [runLen_cons, hp]; simp
  | a :: r, i + 1, c, h, hp => by
    have := runLen_halt r i c (by simpa using h) hp
    rw [runLen_cons]; split <;> omega
theorem runLen_cut : ∀ (l : Bs) (i : Nat) (c : UInt8), l[i]? = some c → part c = false → (runLen l = i ↔ (l.take i).all part = true)
  | [], i, c, h, _ => by simp at h
  | a :: r, 0, c, h, hp => by
    simp at h; subst h; rw [runLen_cons, hp]; simp
  | a :: r, i + 1, c, h, hp => by
    have ih := runLen_cut r i c (by simpa using h) hp
    rw [runLen_cons, List.take_succ_cons, List.all_cons]
    cases hc : part a
    · simp
    · simp only [if_true, Bool.true_and]
      rw [← ih]; omega

theorem slice_all (l : Bs) : slice l 0 l.length = l := by unfold slice; simp
theorem tok_name (l : Bs) : tokAt l 0 = some (1, l.length) ↔ (headP small l = true ∧ nameTo l 0 = l.length ∧ words.contains l = false) := by
  unfold headP tokAt
  cases hl : l[0]? with
  | none => simp
  | some c =>
    simp only [Option.map_some, Option.getD_some]
    cases hs : small c
    · simp only [Bool.false_eq_true, if_false, false_and, iff_false]
      split
      · simp
      · split
        · simp
        · split <;> simp
    · simp only [if_true, true_and]
      by_cases hn : nameTo l 0 = l.length
      · rw [hn, slice_all]
        have h45 : ¬ (l = [111] ∧ l[l.length]? = some 45) := by
          rintro ⟨_, h⟩; rw [List.getElem?_eq_none (Nat.le_refl _)] at h; cases h
        rw [if_neg h45]
        cases words.contains l <;> simp
      · constructor
        · intro h
          split at h
          · simp at h
          · split at h
            · simp at h
            · simp at h; exact absurd h hn
        · intro h; exact absurd h.1 hn
theorem tok_var (l : Bs) : tokAt l 0 = some (2, l.length) ↔ (headP capital l = true ∧ l.all part = true) := by
  unfold headP tokAt
  cases hl : l[0]? with
  | none => simp
  | some c =>
    simp only [Option.map_some, Option.getD_some]
    cases hs : small c
    · simp only [Bool.false_eq_true, if_false]
      cases hc : capital c
      · simp only [Bool.false_eq_true, if_false, false_and, iff_false]
        split
        · simp
        · split <;> simp
      · simp only [if_true, true_and]
        rw [runTo_zero, ← runLen_eq]; simp
    · have hc : capital c = false := by
        have := (show small c = true from hs)
        simp only [small, Bool.and_eq_true, decide_eq_true_eq] at this
        simp only [capital, Bool.and_eq_false_iff, decide_eq_false_iff_not]
        omega
      simp only [if_true, hc, Bool.false_eq_true, false_and, iff_false]
      split
      · simp
      · split <;> simp
theorem tok_word (l : Bs) : tokAt l 0 = some (4, l.length) ↔ words.contains l = true := by
  constructor
  · intro h
    unfold tokAt at h
    split at h
    · cases h
    · split at h
      · simp only at h
        split at h
        · simp at h
        · split at h
          · rename_i hw
            simp at h
            rw [h, slice_all] at hw
            exact hw
          · simp at h
      · split at h
        · simp at h
        · split at h
          · simp at h
          · split at h
            · simp at h
            · cases h
  · intro h
    have key : words.all (fun l => decide (tokAt l 0 = some (4, l.length))) = true := by decide +kernel
    exact of_decide_eq_true (List.all_eq_true.1 key l (List.contains_iff_mem.1 h))

def signs : List Bs := [[45, 111], [111, 45], [61, 62], [60, 61], [45, 62], [42], [38], [43], [33], [123], [125], [40], [41], [46], [44], [58], [92]]
theorem prefix_two {a b : UInt8} {l : Bs} (h : pre l 0 [a, b] = true) (hl : l.length = 2) : l = [a, b] := by
  unfold pre at h
  rw [List.drop_zero, List.isPrefixOf_iff_prefix] at h
  exact (h.eq_of_length (by rw [hl]; rfl)).symm
theorem tok_signs (l : Bs) : tokAt l 0 = some (3, l.length) ↔ signs.contains l = true := by
  constructor
  · intro h
    unfold tokAt at h
    split at h
    · cases h
    · rename_i c hc
      split at h
      · simp only at h
        split at h
        · rename_i h2
          simp at h
          have hj : nameTo l 0 = 1 := by
            have h3 := congrArg List.length h2.1
            unfold slice at h3
            simp at h3
            omega
          rw [hj] at h h2
          obtain ⟨ha, hb⟩ := h2
          have : l = [111, 45] := by
            match l, h, ha, hb with
            | [x, y], _, ha, hb => simp [slice] at ha hb; rw [ha, hb]
          rw [this]; decide
        · split at h
          · simp at h
          · simp at h
      · split at h
        · simp at h
        · split at h
          · rename_i hsg
            simp at h
            have : l = [c] := by
              match l, h, hc with
              | [x], _, hc => simp at hc; rw [hc]
            subst this
            unfold signB at hsg
            have hm := List.contains_iff_mem.1 hsg
            simp only [List.mem_cons, List.not_mem_nil, or_false] at hm
            rcases hm with rfl | rfl | rfl | rfl | rfl | rfl | rfl | rfl | rfl | rfl | rfl | rfl <;> decide
          · split at h
            · rename_i hlg
              simp at h
              have h2 : l.length = 2 := by omega
              simp only [isLong, Bool.or_eq_true, Bool.and_eq_true] at hlg
              rcases hlg with ((⟨h1, _⟩ | h1) | h1) | h1 <;> (rw [prefix_two h1 h2]; decide)
            · cases h
  · intro h
    have key : signs.all (fun l => decide (tokAt l 0 = some (3, l.length))) = true := by decide +kernel
    exact of_decide_eq_true (List.all_eq_true.1 key l (List.contains_iff_mem.1 h))
theorem tok_kinds {l : Bs} {k j : Nat} (h : tokAt l 0 = some (k, j)) : k = 1 ∨ k = 2 ∨ k = 3 ∨ k = 4 := by
  unfold tokAt at h
  split at h
  · cases h
  · split at h
    · simp only at h
      split at h
      · simp at h; omega
      · split at h <;> (simp at h; omega)
    · split at h
      · simp at h; omega
      · split at h
        · simp at h; omega
        · split at h
          · simp at h; omega
          · cases h

/-- A text without '@' is a name's if it is name characters alone. -/
theorem name_miss {l : Bs} (h : Lib.indexByte l 64 = -1) : nameTo l 0 = l.length ↔ l.all part = true := by
  have hn := Lib.indexByte_none h
  unfold nameTo
  simp only
  rw [if_neg (fun hc => hn _ hc.1), runTo_zero, runLen_eq]
/-- A text with '@': the name characters ahead of it, and the linked name behind it. -/
theorem name_hit {l : Bs} {i : Nat} (h : Lib.indexByte l 64 = i) : nameTo l 0 = l.length ↔ ((l.take i).all part = true ∧ headP small (l.drop (i + 1)) = true ∧ (l.drop (i + 1)).all part = true) := by
  obtain ⟨h64, hlow⟩ := Lib.indexByte_some h
  have hi : i < l.length := (List.getElem?_eq_some_iff.1 h64).1
  have hst := runLen_halt l i 64 h64 part64
  have hh : headP small (l.drop (i + 1)) = (l[i + 1]?.map small).getD false := by
    unfold headP; rw [List.getElem?_drop, Nat.add_zero]
  rw [hh, ← runLen_cut l i 64 h64 part64, ← runLen_eq]
  unfold nameTo
  simp only [runTo_zero]
  by_cases hr : runLen l = i
  · rw [hr]
    cases hq : (l[i + 1]?.map small) with
    | none => simp [h64]; omega
    | some b =>
      cases b
      · simp [h64]; omega
      · have : runTo l (i + 1) = i + 1 + runLen (l.drop (i + 1)) := rfl
        simp [h64, this, List.length_drop]
        omega
  · have hlt : runLen l < i := by omega
    rw [if_neg (fun hc => hlow _ hlt hc.1)]
    simp [hr]; omega
theorem head_take {P : UInt8 → Bool} {l : Bs} {i : Nat} (h : Lib.indexByte l 64 = i) (hP : P 64 = false) : headP P (l.take i) = headP P l := by
  obtain ⟨h64, hlow⟩ := Lib.indexByte_some h
  unfold headP
  cases i with
  | zero => rw [h64]; simp [hP]
  | succ i => simp
end Lx
end Go.Proofs.Ytihbecfjgdlebaa
