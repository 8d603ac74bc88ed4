/- The plain mathematics of layer 1, on: scanning said of what is left of a text; two texts with a line feed between them. -/
import Derived.Test.YtihbecfjgdlebaaLexSpec
namespace Go.Proofs.Ytihbecfjgdlebaa
namespace Lx

def nameLen (r : Bs) : Nat :=
  let j := runLen r
  if r[j]? = some 64 ∧ (r[j + 1]?.map small) = some true then j + 1 + runLen (r.drop (j + 1)) else j
def longR (r : Bs) : Bool :=
  ([45, 111].isPrefixOf r && runLen (r.drop 1) == 1) || [45, 62].isPrefixOf r || [61, 62].isPrefixOf r || [60, 61].isPrefixOf r
/-- The token at the beginning: its kind, its length. -/
def tokR (r : Bs) : Option (Nat × Nat) :=
  match r[0]? with
  | none => none
  | some c =>
    if small c then
      let j := nameLen r
      if r.take j = [111] ∧ r[j]? = some 45 then some (3, j + 1)
      else if words.contains (r.take j) then some (4, j) else some (1, j)
    else if capital c then some (2, runLen r)
    else if signB c then some (3, 1)
    else if longR r then some (3, 2) else none

theorem nameTo_rel (l : Bs) (i : Nat) : nameTo l i = i + nameLen (l.drop i) := by
  have h1 : (l.drop i)[runLen (l.drop i)]? = l[runTo l i]? := List.getElem?_drop
  have h2 : (l.drop i)[runLen (l.drop i) + 1]? = l[runTo l i + 1]? := by rw [List.getElem?_drop]; rfl
  unfold nameTo nameLen
  simp only [h1, h2]
  by_cases h : l[runTo l i]? = some 64 ∧ (l[runTo l i + 1]?.map small) = some true
  · simp only [if_pos h]
    show runTo l i + 1 + runLen (l.drop (runTo l i + 1)) = _
    rw [List.drop_drop, show i + (runLen (l.drop i) + 1) = runTo l i + 1 from rfl]
    unfold runTo
    omega
  · simp only [if_neg h]; rfl
theorem isLong_rel (l : Bs) (i : Nat) : isLong l i = longR (l.drop i) := by
  simp only [isLong, longR, pre, runTo, List.drop_drop]
  congr 4
  by_cases h : runLen (l.drop (i + 1)) = 1
  · rw [h]; simp
  · rw [show (runLen (l.drop (i + 1)) == 1) = false from by simpa using h, show (i + 1 + runLen (l.drop (i + 1)) == i + 2) = false from by rw [beq_eq_false_iff_ne]; omega]
theorem tokAt_rel (l : Bs) (i : Nat) : tokAt l i = (tokR (l.drop i)).map fun p => (p.1, i + p.2) := by
  unfold tokAt tokR
  rw [List.getElem?_drop, Nat.add_zero]
  cases l[i]? with
  | none => rfl
  | some c =>
    simp only [slice, nameTo_rel, isLong_rel, runTo, List.getElem?_drop, Nat.add_sub_cancel_left]
    split
    · split
      · rfl
      · split <;> rfl
    · split
      · rfl
      · split
        · rfl
        · split <;> rfl

/-- Scanning what is left, from the offset o on. -/
def scanS : Nat → List Tok → Nat → Bs → Res
  | 0, pre, _, _ => .toks pre
  | f + 1, pre, o, r =>
    if r = [] then .toks pre
    else match tokR r with
      | none => .bad o 10
      | some (k, n) =>
        if pre.length = 6000 then .bad o 2
        else if 40 < n then .bad o 11
        else scanS f (pre ++ [⟨k, r.take n, o⟩]) (o + n + skipC false (r.drop n)) ((r.drop n).drop (skipC false (r.drop n)))
theorem scanT_rel (l : Bs) : ∀ (f : Nat) (pre : List Tok) (i : Nat), scanT l f pre i = scanS f pre i (l.drop i)
  | 0, _, _ => rfl
  | f + 1, pre, i => by
    simp only [scanT, scanS]
    by_cases h : l.length ≤ i
    · rw [if_pos h, if_pos (List.drop_of_length_le h)]
    · rw [if_neg h, if_neg (by intro e; have := congrArg List.length e; simp at this; omega), tokAt_rel]
      cases tokR (l.drop i) with
      | none => rfl
      | some p =>
        obtain ⟨k, n⟩ := p
        simp only [Option.map_some]
        split
        · rfl
        · rw [Nat.add_sub_cancel_left]
          split
          · rfl
          · rw [scanT_rel l f, slice, Nat.add_sub_cancel_left, skipTo, List.drop_drop, List.drop_drop]
/-- Skip, then scan. -/
def scanP (f : Nat) (pre : List Tok) (o : Nat) (r : Bs) : Res := scanS f pre (o + skipC false r) (r.drop (skipC false r))
theorem scanS_step {f : Nat} {pre : List Tok} {o k n : Nat} {r : Bs} (h0 : r ≠ []) (h : tokR r = some (k, n)) (h6 : pre.length ≠ 6000) (h4 : ¬ 40 < n) :
    scanS (f + 1) pre o r = scanP f (pre ++ [⟨k, r.take n, o⟩]) (o + n) (r.drop n) := by
  simp only [scanS, scanP]; rw [if_neg h0, h]; simp only; rw [if_neg h6, if_neg h4]
theorem scan_rel (l : Bs) : scan l = if 20000 < l.length then .bad 0 2 else scanP (l.length + 1) [] 0 l := by
  unfold scan; rw [scanT_rel]; unfold skipTo scanP; simp only [List.drop_zero, Nat.zero_add]

theorem tokR_lt {r : Bs} {k n : Nat} (h : tokR r = some (k, n)) : 0 < n ∧ n ≤ r.length := by
  have e := tokAt_rel r 0
  rw [List.drop_zero, h] at e
  have := tokAt_lt (l := r) (i := 0) (k := k) (j := 0 + n) (by rw [e]; rfl)
  omega

/-- What scanning says when it hands tokens back: how it went. -/
theorem scanS_inv {f : Nat} {pre l : List Tok} {o : Nat} {r : Bs} (h : scanS (f + 1) pre o r = .toks l) :
    (r = [] ∧ l = pre) ∨ ∃ k n, r ≠ [] ∧ tokR r = some (k, n) ∧ pre.length ≠ 6000 ∧ ¬ 40 < n ∧ scanP f (pre ++ [⟨k, r.take n, o⟩]) (o + n) (r.drop n) = .toks l := by
  simp only [scanS] at h
  by_cases h0 : r = []
  · rw [if_pos h0] at h; exact .inl ⟨h0, by simpa using h.symm⟩
  · rw [if_neg h0] at h
    cases ht : tokR r with
    | none => rw [ht] at h; simp at h
    | some p =>
      obtain ⟨k, n⟩ := p
      rw [ht] at h
      simp only at h
      by_cases h6 : pre.length = 6000
      · rw [if_pos h6] at h; simp at h
      · rw [if_neg h6] at h
        by_cases h4 : 40 < n
        · rw [if_pos h4] at h; simp at h
        · rw [if_neg h4] at h; exact .inr ⟨k, n, h0, rfl, h6, h4, h⟩

/-- Fuel beyond the text's length changes nothing. -/
theorem scanS_fuel : ∀ (f g : Nat) (pre : List Tok) (o : Nat) (r : Bs), r.length ≤ f → r.length ≤ g → scanS f pre o r = scanS g pre o r
  | 0, 0, _, _, _, _, _ => rfl
  | 0, g + 1, pre, o, r, h, _ => by
    have : r = [] := List.length_eq_zero_iff.1 (by omega)
    subst this; simp [scanS]
  | f + 1, 0, pre, o, r, _, h => by
    have : r = [] := List.length_eq_zero_iff.1 (by omega)
    subst this; simp [scanS]
  | f + 1, g + 1, pre, o, r, h, h' => by
    simp only [scanS]
    split
    · rfl
    · cases ht : tokR r with
      | none => rfl
      | some p =>
        obtain ⟨k, n⟩ := p
        have hn := tokR_lt ht
        simp only
        split
        · rfl
        · split
          · rfl
          · exact scanS_fuel f g _ _ _ (by simp only [List.length_drop]; omega) (by simp only [List.length_drop]; omega)

def sh (d : Nat) (t : Tok) : Tok := ⟨t.kind, t.text, t.pos + d⟩

/-- The same tokens behind other tokens, at another offset. -/
theorem scanS_shift (d : Nat) : ∀ (f : Nat) (pre P l : List Tok) (o : Nat) (r : Bs), P.length ≤ 6000 → scanS f pre o r = .toks l →
    ∃ rest, l = pre ++ rest ∧ ((P.length + rest.length ≤ 6000 ∧ scanS f P (o + d) r = .toks (P ++ rest.map (sh d))) ∨ (6000 < P.length + rest.length ∧ ∃ p, scanS f P (o + d) r = .bad p 2))
  | 0, pre, P, l, o, r, hP, h => by
    simp only [scanS, Res.toks.injEq] at h
    subst h
    exact ⟨[], by simp, .inl ⟨by simpa using hP, by simp [scanS]⟩⟩
  | f + 1, pre, P, l, o, r, hP, h => by
    rcases scanS_inv h with ⟨rfl, rfl⟩ | ⟨k, n, h0, ht, h6, h4, hs⟩
    · exact ⟨[], by simp, .inl ⟨by simpa using hP, by simp [scanS]⟩⟩
    · by_cases hP6 : P.length = 6000
      · obtain ⟨rest, hl, _⟩ := scanS_shift d f _ [] l _ _ (by simp) hs
        refine ⟨⟨k, r.take n, o⟩ :: rest, by rw [hl, List.append_assoc]; rfl, .inr ⟨by simp; omega, o + d, ?_⟩⟩
        simp only [scanS]
        rw [if_neg h0, ht]
        simp only
        rw [if_pos hP6]
      · obtain ⟨rest, hl, hc⟩ := scanS_shift d f _ (P ++ [⟨k, r.take n, o + d⟩]) l _ _ (by rw [List.length_append, List.length_singleton]; omega) hs
        refine ⟨⟨k, r.take n, o⟩ :: rest, by rw [hl, List.append_assoc]; rfl, ?_⟩
        rw [scanS_step h0 ht hP6 h4]
        unfold scanP
        rw [show o + d + n + skipC false (r.drop n) = o + n + skipC false (r.drop n) + d from by omega]
        rcases hc with ⟨h1, h2⟩ | ⟨h1, p, h2⟩
        · refine .inl ⟨by simp only [List.length_append, List.length_cons, List.length_nil] at h1 ⊢; omega, ?_⟩
          rw [h2, List.append_assoc]; rfl
        · exact .inr ⟨by simp only [List.length_append, List.length_cons, List.length_nil] at h1 ⊢; omega, p, h2⟩

theorem runLen_feed (b : Bs) : ∀ r : Bs, runLen (r ++ 10 :: b) = runLen r
  | [] => by rw [List.nil_append, runLen_cons]; rfl
  | c :: r => by rw [List.cons_append, runLen_cons, runLen_cons, runLen_feed b r]
theorem get_feed (b r : Bs) {j : Nat} (h : j ≤ r.length) {c : UInt8} (hc : c ≠ 10) : ((r ++ 10 :: b)[j]? = some c) ↔ (r[j]? = some c) := by
  by_cases e : j < r.length
  · rw [List.getElem?_append_left e]
  · obtain rfl : j = r.length := by omega
    rw [List.getElem?_append_right (Nat.le_refl _), Nat.sub_self, List.getElem?_eq_none (Nat.le_refl _)]
    simp only [List.getElem?_cons_zero, Option.some.injEq, reduceCtorEq, iff_false]
    exact fun h => hc h.symm
theorem small_feed (b r : Bs) {j : Nat} (h : j ≤ r.length) : (((r ++ 10 :: b)[j]?.map small) = some true) ↔ ((r[j]?.map small) = some true) := by
  by_cases e : j < r.length
  · rw [List.getElem?_append_left e]
  · obtain rfl : j = r.length := by omega
    rw [List.getElem?_append_right (Nat.le_refl _), Nat.sub_self, List.getElem?_eq_none (Nat.le_refl _)]
    simp [small]
theorem nameLen_feed (b r : Bs) : nameLen (r ++ 10 :: b) = nameLen r := by
  have hl := runLen_le r
  simp only [nameLen, runLen_feed]
  by_cases h : r[runLen r]? = some 64
  · have hlt : runLen r < r.length := by
      rcases Nat.lt_or_ge (runLen r) r.length with h1 | h1
      · exact h1
      · rw [List.getElem?_eq_none h1] at h; cases h
    have h1 : ((r ++ 10 :: b)[runLen r]? = some 64) := (get_feed b r hl (by decide)).2 h
    have hd : (r ++ 10 :: b).drop (runLen r + 1) = r.drop (runLen r + 1) ++ 10 :: b := List.drop_append_of_le_length (by omega)
    by_cases h2 : (r[runLen r + 1]?.map small) = some true
    · rw [if_pos ⟨h1, (small_feed b r (by omega)).2 h2⟩, if_pos ⟨h, h2⟩, hd, runLen_feed]
    · rw [if_neg (fun x => h2 ((small_feed b r (by omega)).1 x.2)), if_neg (fun x => h2 x.2)]
  · rw [if_neg (fun x => h ((get_feed b r hl (by decide)).1 x.1)), if_neg (fun x => h x.1)]
theorem nameLen_le (r : Bs) : nameLen r ≤ r.length := by
  have := nameTo_le (l := r) (i := 0) (Nat.zero_le _)
  rw [nameTo_rel, List.drop_zero] at this
  omega
theorem longR_feed (b r : Bs) (h : r ≠ []) : longR (r ++ 10 :: b) = longR r := by
  cases r with
  | nil => exact absurd rfl h
  | cons c r =>
    have h1 : (c :: r ++ 10 :: b).drop 1 = r ++ 10 :: b := rfl
    have h2 : (c :: r).drop 1 = r := rfl
    simp only [longR, h1, h2, runLen_feed]
    cases r with
    | nil => simp [List.isPrefixOf]
    | cons d r => simp [List.isPrefixOf]
theorem tokR_feed (b r : Bs) (h : r ≠ []) : tokR (r ++ 10 :: b) = tokR r := by
  have h0 : (r ++ 10 :: b)[0]? = r[0]? := by cases r with
    | nil => exact absurd rfl h
    | cons c r => rfl
  have hn := nameLen_le r
  have ht : (r ++ 10 :: b).take (nameLen r) = r.take (nameLen r) := List.take_append_of_le_length hn
  unfold tokR
  rw [h0, nameLen_feed, longR_feed b r h, runLen_feed]
  simp only [ht]
  cases r[0]? with
  | none => rfl
  | some c =>
    simp only
    by_cases hm : r[nameLen r]? = some 45
    · have hm' := (get_feed b r hn (c := 45) (by decide)).2 hm
      simp only [hm, hm']
    · have hm' : ¬ ((r ++ 10 :: b)[nameLen r]? = some 45) := fun x => hm ((get_feed b r hn (by decide)).1 x)
      simp only [hm, hm']
theorem skip_feed (b : Bs) : ∀ (m : Bool) (r : Bs), (skipC m r < r.length ∧ skipC m (r ++ 10 :: b) = skipC m r) ∨ (skipC m r = r.length ∧ skipC m (r ++ 10 :: b) = r.length + 1 + skipC false b)
  | m, [] => by
    right
    refine ⟨by cases m <;> rfl, ?_⟩
    cases m <;> simp [skipC, blank]
  | true, c :: r => by
    simp only [List.cons_append, skipC, List.length_cons]
    by_cases h : c.toNat = 10
    · simp only [if_pos h]
      rcases skip_feed b false r with ⟨h1, h2⟩ | ⟨h1, h2⟩ <;> omega
    · simp only [if_neg h]
      rcases skip_feed b true r with ⟨h1, h2⟩ | ⟨h1, h2⟩ <;> omega
  | false, c :: r => by
    simp only [List.cons_append, skipC, List.length_cons]
    by_cases h : blank c = true
    · simp only [if_pos h]
      rcases skip_feed b false r with ⟨h1, h2⟩ | ⟨h1, h2⟩ <;> omega
    · simp only [if_neg h]
      by_cases h3 : c.toNat = 37
      · simp only [if_pos h3]
        rcases skip_feed b true r with ⟨h1, h2⟩ | ⟨h1, h2⟩ <;> omega
      · simp only [if_neg h3]
        left; exact ⟨by omega, trivial⟩

/-- A text that is scanned, with a line feed and another text behind it. -/
theorem scanP_feed (b : Bs) : ∀ (f : Nat) (pre l : List Tok) (o : Nat) (r : Bs) (F : Nat), r.length < f → r.length + b.length < F → scanP f pre o r = .toks l →
    ∃ F', b.length ≤ F' ∧ scanP F pre o (r ++ 10 :: b) = scanP F' l (o + r.length + 1) b
  | 0, _, _, _, _, _, h, _, _ => absurd h (Nat.not_lt_zero _)
  | f + 1, pre, l, o, r, F, hf, hF, h => by
    obtain ⟨F, rfl⟩ : ∃ F1, F = F1 + 1 := ⟨F - 1, by omega⟩
    unfold scanP at h
    rcases skip_feed b false r with ⟨h1, h2⟩ | ⟨h1, h2⟩
    · have hne : r.drop (skipC false r) ≠ [] := by intro e; have := congrArg List.length e; simp at this; omega
      rcases scanS_inv h with ⟨e, _⟩ | ⟨k, n, _, ht, h6, h4, hs⟩
      · exact absurd e hne
      · have hn := tokR_lt ht
        have hd : (r ++ 10 :: b).drop (skipC false r) = r.drop (skipC false r) ++ 10 :: b := List.drop_append_of_le_length (by omega)
        have hz : (r.drop (skipC false r)).length = r.length - skipC false r := List.length_drop
        obtain ⟨F', hF', hE⟩ := scanP_feed b f _ l _ _ F (by rw [List.length_drop, hz]; omega) (by rw [List.length_drop, hz]; omega) hs
        refine ⟨F', hF', ?_⟩
        conv => lhs; unfold scanP
        rw [h2, hd, scanS_step (by simp) ((tokR_feed b _ hne).trans ht) h6 h4]
        rw [List.take_append_of_le_length (by omega), List.drop_append_of_le_length (by omega), hE]
        congr 1
        rw [List.length_drop, hz]; omega
    · rw [h1, List.drop_of_length_le (Nat.le_refl _)] at h
      rcases scanS_inv h with ⟨_, rfl⟩ | ⟨k, n, h0, _⟩
      · refine ⟨F + 1, by omega, ?_⟩
        unfold scanP
        rw [h2]
        have : (r ++ 10 :: b).drop (r.length + 1 + skipC false b) = b.drop (skipC false b) := by
          rw [show r.length + 1 + skipC false b = r.length + (1 + skipC false b) from by omega, ← List.drop_drop, List.drop_left, Nat.add_comm 1, List.drop_succ_cons]
        rw [this, show o + (r.length + 1 + skipC false b) = o + r.length + 1 + skipC false b from by omega]
      · exact absurd rfl h0

theorem scan_pieces (a b : Bs) (la lb : List Tok) (ha : scan a = .toks la) (hb : scan b = .toks lb) (h6 : la.length ≤ 6000) :
    ((20000 < a.length + 1 + b.length ∨ 6000 < la.length + lb.length) → ∃ p, scan (a ++ 10 :: b) = .bad p 2) ∧
    (¬ (20000 < a.length + 1 + b.length ∨ 6000 < la.length + lb.length) → scan (a ++ 10 :: b) = .toks (la ++ lb.map (sh (a.length + 1)))) := by
  have hL : (a ++ 10 :: b).length = a.length + 1 + b.length := by simp; omega
  rw [scan_rel] at ha hb
  rw [scan_rel, hL]
  by_cases hbig : 20000 < a.length + 1 + b.length
  · rw [if_pos hbig]
    exact ⟨fun _ => ⟨0, rfl⟩, fun h => absurd (.inl hbig) h⟩
  · rw [if_neg hbig]
    rw [if_neg (by omega)] at ha hb
    obtain ⟨F', hF', hE⟩ := scanP_feed b (a.length + 1) [] la 0 a (a.length + 1 + b.length + 1) (by omega) (by omega) ha
    rw [hE]
    unfold scanP at hb ⊢
    obtain ⟨rest, hl, hc⟩ := scanS_shift (a.length + 1) (b.length + 1) [] la lb _ _ h6 hb
    rw [List.nil_append] at hl
    subst hl
    rw [scanS_fuel F' (b.length + 1) _ _ _ (by rw [List.length_drop]; omega) (by rw [List.length_drop]; omega), show 0 + a.length + 1 + skipC false b = 0 + skipC false b + (a.length + 1) from by omega]
    rcases hc with ⟨h1, h2⟩ | ⟨h1, p, h2⟩
    · exact ⟨fun h => by omega, fun _ => h2⟩
    · exact ⟨fun _ => ⟨p, h2⟩, fun h => absurd (.inr h1) h⟩
end Lx
end Go.Proofs.Ytihbecfjgdlebaa
