/- The plain mathematics of layer 1: what a token is, how a text is scanned. It imports nothing of the program. -/
namespace Go.Proofs.Ytihbecfjgdlebaa
namespace Lx

abbrev Bs := List UInt8

def small (c : UInt8) : Bool := decide (97 ≤ c.toNat) && decide (c.toNat ≤ 122)
def capital (c : UInt8) : Bool := decide (65 ≤ c.toNat) && decide (c.toNat ≤ 90)
def part (c : UInt8) : Bool := small c || capital c || (decide (48 ≤ c.toNat) && decide (c.toNat ≤ 57)) || decide (c.toNat = 95) || decide (c.toNat = 39)
def signB (c : UInt8) : Bool := [42, 38, 43, 33, 123, 125, 40, 41, 46, 44, 58, 92].contains c
def blank (c : UInt8) : Bool := decide (c.toNat = 32) || decide (c.toNat = 9) || decide (c.toNat = 10)

def words : List Bs := [
  [116, 121, 112, 101], [99, 111, 110, 115, 116], [112, 114, 101, 100], [102, 97, 99, 116], [108, 97, 115, 116, 105, 110, 103], [109, 111, 100, 101],
  [114, 117, 108, 101], [111, 110, 99, 101], [109, 111, 115, 116], [113, 117, 101, 114, 121], [109, 111, 100, 117, 108, 101], [117, 115, 101],
  [101, 120, 112, 111, 114, 116], [97, 108, 108], [101, 120], [111, 110, 101], [116, 111, 112]]

/-- How many name characters stand at the beginning. -/
def runLen (r : Bs) : Nat := (r.takeWhile part).length
/-- The index behind the name characters from i on. -/
def runTo (l : Bs) (i : Nat) : Nat := i + runLen (l.drop i)

/-- How many bytes of a text's beginning are blanks or in comments ('b': a comment is under way). -/
def skipC : Bool → Bs → Nat
  | _, [] => 0
  | true, c :: r => if c.toNat = 10 then 1 + skipC false r else 1 + skipC true r
  | false, c :: r => if blank c then 1 + skipC false r else if c.toNat = 37 then 1 + skipC true r else 0

/-- The index of the first byte from i on that is neither a blank nor in a comment. -/
def skipTo (l : Bs) (i : Nat) : Nat := i + skipC false (l.drop i)

/-- The index of the next line feed from i on, or the end. -/
def lineTo (l : Bs) (i : Nat) : Nat := i + ((l.drop i).takeWhile (fun c => decide (c.toNat ≠ 10))).length

/-- The end of the name that begins at i. -/
def nameTo (l : Bs) (i : Nat) : Nat :=
  let j := runTo l i
  if l[j]? = some 64 ∧ (l[j + 1]?.map small) = some true then runTo l (j + 1) else j

def slice (l : Bs) (i j : Nat) : Bs := (l.drop i).take (j - i)

/-- Does p stand at i? -/
def pre (l : Bs) (i : Nat) (p : Bs) : Bool := p.isPrefixOf (l.drop i)
def isLong (l : Bs) (i : Nat) : Bool :=
  (pre l i [45, 111] && runTo l (i + 1) == i + 2) || pre l i [45, 62] || pre l i [61, 62] || pre l i [60, 61]

theorem pre_two {l : Bs} {i : Nat} {a b : UInt8} (h : pre l i [a, b] = true) : l[i]? = some a ∧ l[i + 1]? = some b := by
  unfold pre at h
  rw [List.isPrefixOf_iff_prefix] at h
  obtain ⟨r, hr⟩ := h
  have h0 : (l.drop i)[0]? = some a := by rw [← hr]; rfl
  have h1 : (l.drop i)[1]? = some b := by rw [← hr]; rfl
  rw [List.getElem?_drop] at h0 h1
  exact ⟨by simpa using h0, h1⟩

/-- The kind of the token that begins at i, and the index behind it. -/
def tokAt (l : Bs) (i : Nat) : Option (Nat × Nat) :=
  match l[i]? with
  | none => none
  | some c =>
    if small c then
      let j := nameTo l i
      if slice l i j = [111] ∧ l[j]? = some 45 then some (3, j + 1)
      else if words.contains (slice l i j) then some (4, j) else some (1, j)
    else if capital c then some (2, runTo l i)
    else if signB c then some (3, i + 1)
    else if isLong l i then some (3, i + 2) else none

structure Tok where
  kind : Nat
  text : Bs
  pos : Nat
  deriving DecidableEq, Repr

/-- What scanning ends with: tokens, or where it is wrong, and how. -/
inductive Res where
  | toks (l : List Tok)
  | bad (pos : Nat) (err : Nat)
  deriving DecidableEq, Repr

/-- Scanning on from i, behind the tokens pre. -/
def scanT (l : Bs) : Nat → List Tok → Nat → Res
  | 0, pre, _ => .toks pre
  | f + 1, pre, i =>
    if l.length ≤ i then .toks pre
    else match tokAt l i with
      | none => .bad i 10
      | some (k, j) =>
        if pre.length = 6000 then .bad i 2
        else if 40 < j - i then .bad i 11
        else scanT l f (pre ++ [⟨k, slice l i j, i⟩]) (skipTo l j)

def scan (l : Bs) : Res := if 20000 < l.length then .bad 0 2 else scanT l (l.length + 1) [] (skipTo l 0)

def str (s : String) : Bs := s.toUTF8.data.toList

theorem runLen_le (r : Bs) : runLen r ≤ r.length := by
  unfold runLen; exact (List.takeWhile_prefix _).length_le
theorem runTo_le {l : Bs} {i : Nat} (h : i ≤ l.length) : i ≤ runTo l i ∧ runTo l i ≤ l.length := by
  unfold runTo; have := runLen_le (l.drop i); simp at this; omega
theorem runLen_cons (c : UInt8) (r : Bs) : runLen (c :: r) = if part c then 1 + runLen r else 0 := by
  unfold runLen; rw [List.takeWhile_cons]; split <;> simp [Nat.add_comm]
theorem runTo_step {l : Bs} {k : Nat} (h : k < l.length) : runTo l k = if part l[k] then runTo l (k + 1) else k := by
  unfold runTo; rw [List.drop_eq_getElem_cons h, runLen_cons]; split <;> omega
theorem runTo_end {l : Bs} {k : Nat} (h : l.length ≤ k) : runTo l k = k := by
  unfold runTo; rw [List.drop_of_length_le h]; rfl

theorem skipC_le (b : Bool) (r : Bs) : skipC b r ≤ r.length := by
  induction r generalizing b with
  | nil => simp [skipC]
  | cons c r ih =>
    cases b
    · simp only [skipC, List.length_cons]
      split
      · have := ih false; omega
      · split
        · have := ih true; omega
        · omega
    · simp only [skipC, List.length_cons]
      split
      · have := ih false; omega
      · have := ih true; omega
theorem skipTo_le {l : Bs} {i : Nat} (h : i ≤ l.length) : i ≤ skipTo l i ∧ skipTo l i ≤ l.length := by
  unfold skipTo; have := skipC_le false (l.drop i); simp at this; omega
theorem skipTo_blank {l : Bs} {k : Nat} (h : k < l.length) (hb : blank l[k] = true) : skipTo l k = skipTo l (k + 1) := by
  unfold skipTo; rw [List.drop_eq_getElem_cons h]; simp only [skipC, hb, if_true]; omega
theorem skipTo_stop {l : Bs} {k : Nat} (h : k < l.length) (hb : blank l[k] = false) (hp : l[k].toNat ≠ 37) : skipTo l k = k := by
  unfold skipTo; rw [List.drop_eq_getElem_cons h]; simp [skipC, hb, hp]
theorem skipTo_end {l : Bs} {k : Nat} (h : l.length ≤ k) : skipTo l k = k := by
  unfold skipTo; rw [List.drop_of_length_le h]; rfl
theorem skipC_true (r : Bs) : skipC true r = (r.takeWhile (fun c => decide (c.toNat ≠ 10))).length + skipC false (r.drop (r.takeWhile (fun c => decide (c.toNat ≠ 10))).length) := by
  induction r with
  | nil => simp [skipC]
  | cons c r ih =>
    by_cases h : c.toNat = 10
    · simp [skipC, h, blank]
    · have e : (c :: r).takeWhile (fun c => decide (c.toNat ≠ 10)) = c :: r.takeWhile (fun c => decide (c.toNat ≠ 10)) := by
        rw [List.takeWhile_cons, if_pos (by simp [h])]
      rw [e]
      simp only [skipC, List.length_cons, List.drop_succ_cons]
      rw [if_neg h, ih]; omega
theorem lineTo_le {l : Bs} {i : Nat} (h : i ≤ l.length) : i ≤ lineTo l i ∧ lineTo l i ≤ l.length := by
  unfold lineTo; have := (List.takeWhile_prefix (p := fun c : UInt8 => decide (c.toNat ≠ 10)) (l := l.drop i)).length_le; simp at this ⊢; omega
theorem skipTo_comment {l : Bs} {k : Nat} (h : k < l.length) (hp : l[k].toNat = 37) : skipTo l k = skipTo l (lineTo l k) ∧ k < lineTo l k := by
  have e : lineTo l k = k + 1 + ((l.drop (k + 1)).takeWhile (fun c => decide (c.toNat ≠ 10))).length := by
    unfold lineTo; rw [List.drop_eq_getElem_cons h, List.takeWhile_cons]; simp [hp]; omega
  refine ⟨?_, by omega⟩
  have hb : blank l[k] = false := by simp [blank, hp]
  have : skipTo l k = k + (1 + skipC true (l.drop (k + 1))) := by
    unfold skipTo; rw [List.drop_eq_getElem_cons h]; simp [skipC, hb, hp]
  rw [this, skipC_true]
  unfold skipTo; rw [e, List.drop_drop]; omega

theorem nameTo_le {l : Bs} {i : Nat} (h : i ≤ l.length) : i ≤ nameTo l i ∧ nameTo l i ≤ l.length := by
  unfold nameTo
  have h1 := runTo_le h
  simp only
  split
  · rename_i hc
    have : runTo l i < l.length := by
      rcases Nat.lt_or_ge (runTo l i) l.length with h | h
      · exact h
      · rw [List.getElem?_eq_none h] at hc; simp at hc
    have := runTo_le (l := l) (i := runTo l i + 1) (by omega)
    omega
  · exact h1
theorem nameTo_lt {l : Bs} {i : Nat} (h : i < l.length) (hp : part l[i] = true) : i < nameTo l i := by
  have h0 : i < runTo l i := by rw [runTo_step h, if_pos hp]; have := runTo_le (l := l) (i := i + 1) (by omega); omega
  unfold nameTo
  simp only
  split
  · rename_i hc
    have : runTo l i < l.length := by
      rcases Nat.lt_or_ge (runTo l i) l.length with h | h
      · exact h
      · rw [List.getElem?_eq_none h] at hc; simp at hc
    have := runTo_le (l := l) (i := runTo l i + 1) (by omega)
    omega
  · exact h0
theorem small_part {c : UInt8} (h : small c = true) : part c = true := by simp [part, h]
theorem capital_part {c : UInt8} (h : capital c = true) : part c = true := by simp [part, h]

/-- A token has a byte at least, and ends within the text. -/
theorem tokAt_lt {l : Bs} {i k j : Nat} (h : tokAt l i = some (k, j)) : i < j ∧ j ≤ l.length := by
  have hi : i < l.length := by
    rcases Nat.lt_or_ge i l.length with h' | h'
    · exact h'
    · simp [tokAt, List.getElem?_eq_none h'] at h
  have hlen : ∀ {j : Nat} {c : UInt8}, l[j]? = some c → j < l.length := fun {j c} h => (List.getElem?_eq_some_iff.1 h).1
  simp only [tokAt, List.getElem?_eq_getElem hi] at h
  split at h
  · rename_i hs
    have h1 := nameTo_lt hi (small_part hs)
    have h2 := nameTo_le (l := l) (i := i) (by omega)
    split at h
    · rename_i hc; have := hlen hc.2; simp at h; omega
    · split at h <;> (simp at h; omega)
  · split at h
    · rename_i hc
      have : i < runTo l i := by rw [runTo_step hi, if_pos (capital_part hc)]; have := runTo_le (l := l) (i := i + 1) (by omega); omega
      have := runTo_le (l := l) (i := i) (by omega)
      simp at h; omega
    · split at h
      · simp at h; omega
      · split at h
        · rename_i hl
          have : i + 1 < l.length := by
            simp only [isLong, Bool.or_eq_true, Bool.and_eq_true, beq_iff_eq] at hl
            rcases hl with ((⟨h2, _⟩ | h2) | h2) | h2 <;> exact hlen (pre_two h2).2
          simp at h; omega
        · simp at h

end Lx
end Go.Proofs.Ytihbecfjgdlebaa
