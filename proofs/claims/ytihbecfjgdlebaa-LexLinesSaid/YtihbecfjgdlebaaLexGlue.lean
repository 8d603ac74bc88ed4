/- The plain mathematics of layer 1, on: a token looks no further than to the byte behind it; what is written of tokens is scanned as these tokens. -/
import Derived.Test.YtihbecfjgdlebaaLexRel
namespace Go.Proofs.Ytihbecfjgdlebaa
namespace Lx

theorem runLen_app (x s : Bs) : runLen (x ++ s) = if runLen x = x.length then x.length + runLen s else runLen x := by
  induction x with
  | nil => simp [runLen]
  | cons c x ih =>
    rw [List.cons_append, runLen_cons, runLen_cons, ih]
    by_cases hp : part c = true
    · simp only [if_pos hp, List.length_cons]
      by_cases h : runLen x = x.length
      · rw [if_pos h, if_pos (by omega)]; omega
      · rw [if_neg h, if_neg (by omega)]
    · simp only [if_neg hp, List.length_cons]
      rw [if_neg (by omega)]
theorem runLen_stop (x : Bs) (c : UInt8) (y : Bs) : runLen (x ++ c :: y) = x.length ↔ (runLen x = x.length ∧ part c = false) := by
  rw [runLen_app, runLen_cons]
  by_cases h : runLen x = x.length
  · rw [if_pos h]
    by_cases hp : part c = true
    · rw [if_pos hp]; constructor
      · intro e; omega
      · intro e; rw [hp] at e; simp at e
    · rw [if_neg hp]; simp [h, hp]
  · rw [if_neg h]; simp [h]

theorem nameLen_stop (x : Bs) (c : UInt8) (y : Bs) (hc : c ≠ 64) : nameLen (x ++ c :: y) = x.length ↔ (nameLen x = x.length ∧ part c = false) := by
  have hle := runLen_le x
  have happ := runLen_app x (c :: y)
  by_cases h : runLen x = x.length
  · rw [if_pos h] at happ
    have hx : nameLen x = x.length := by
      unfold nameLen
      simp only [h]
      rw [if_neg (by rw [List.getElem?_eq_none (Nat.le_refl _)]; simp)]
    by_cases hp : part c = true
    · rw [runLen_cons, if_pos hp] at happ
      constructor
      · intro e
        exfalso
        unfold nameLen at e
        simp only [happ] at e
        split at e <;> omega
      · intro e; rw [hp] at e; simp at e
    · rw [runLen_cons, if_neg hp, Nat.add_zero] at happ
      have : nameLen (x ++ c :: y) = x.length := by
        unfold nameLen
        simp only [happ]
        rw [if_neg]
        intro e
        have e1 := e.1
        rw [List.getElem?_append_right (Nat.le_refl _), Nat.sub_self] at e1
        simp only [List.getElem?_cons_zero, Option.some.injEq] at e1
        exact hc e1
      simp [this, hx, hp]
  · rw [if_neg h] at happ
    have hlt : runLen x < x.length := by omega
    have h0 : (x ++ c :: y)[runLen x]? = x[runLen x]? := List.getElem?_append_left hlt
    unfold nameLen
    simp only [happ, h0]
    by_cases h64 : x[runLen x]? = some 64
    · by_cases h1 : runLen x + 1 < x.length
      · rw [List.getElem?_append_left h1]
        by_cases hs : (x[runLen x + 1]?.map small) = some true
        · rw [if_pos ⟨h64, hs⟩, if_pos ⟨h64, hs⟩, List.drop_append_of_le_length (by omega)]
          have := runLen_stop (x.drop (runLen x + 1)) c y
          rw [List.length_drop] at this
          constructor
          · intro e
            obtain ⟨a, b⟩ := this.1 (by omega)
            exact ⟨by omega, b⟩
          · intro e
            have := this.2 ⟨by omega, e.2⟩
            omega
        · rw [if_neg (fun e => hs e.2), if_neg (fun e => hs e.2)]
          simp [h]
      · have e1 : runLen x + 1 = x.length := by omega
        rw [e1, List.getElem?_append_right (Nat.le_refl _), Nat.sub_self, List.getElem?_eq_none (Nat.le_refl x.length)]
        simp only [List.getElem?_cons_zero, Option.map_some, Option.map_none, reduceCtorEq, and_false, if_false, h, false_and, iff_false]
        split
        · rename_i hs
          have hsm : small c = true := by simpa using hs.2
          rw [show (x ++ c :: y).drop x.length = c :: y from List.drop_left, runLen_cons, if_pos (small_part hsm)]
          omega
        · omega
    · rw [if_neg (fun e => h64 e.1), if_neg (fun e => h64 e.1)]
      simp [h]

/-- May the token x have the byte c behind it? -/
def stopC (x : Bs) (c : UInt8) : Bool := match x with
  | [] => false
  | a :: _ => if small a then decide (x = [111, 45]) || (!part c && !(decide (x = [111]) && decide (c = 45))) else if capital a then !part c else if signB a then true else !(decide (x = [45, 111]) && part c)

theorem tokR_oo (w : Bs) : tokR (111 :: 45 :: w) = some (3, 2) := by
  have h1 : runLen (111 :: 45 :: w) = 1 := by rw [runLen_cons, runLen_cons]; rfl
  have h2 : nameLen (111 :: 45 :: w) = 1 := by unfold nameLen; simp only [h1]; rfl
  unfold tokR
  simp only [h2]
  rfl

theorem tokR_small {a : UInt8} {x : Bs} (ha : small a = true) (k n : Nat) (hx : ¬ ∃ w, a :: x = 111 :: 45 :: w) :
    tokR (a :: x) = some (k, n) ↔ (nameLen (a :: x) = n ∧ k = if words.contains ((a :: x).take n) then 4 else 1) := by
  have hno : ¬ ((a :: x).take (nameLen (a :: x)) = [111] ∧ (a :: x)[nameLen (a :: x)]? = some 45) := by
    rintro ⟨h1, h2⟩
    apply hx
    generalize nameLen (a :: x) = j at h1 h2
    cases j with
    | zero => simp at h1
    | succ j =>
      simp only [List.take_succ_cons, List.cons.injEq] at h1
      obtain ⟨rfl, h3⟩ := h1
      cases x with
      | nil => simp at h2
      | cons b x =>
        cases j with
        | zero => simp at h2; subst h2; exact ⟨x, rfl⟩
        | succ j => simp at h3
  unfold tokR
  simp only [List.getElem?_cons_zero, ha, if_true, if_neg hno]
  constructor
  · intro h
    split at h
    · rename_i hw
      simp only [Option.some.injEq, Prod.mk.injEq] at h
      obtain ⟨rfl, rfl⟩ := h
      exact ⟨rfl, by rw [if_pos hw]⟩
    · rename_i hw
      simp only [Option.some.injEq, Prod.mk.injEq] at h
      obtain ⟨rfl, rfl⟩ := h
      exact ⟨rfl, by rw [if_neg hw]⟩
  · rintro ⟨rfl, rfl⟩
    split <;> rfl

theorem longR_two {a b c : UInt8} {y : Bs} : longR (a :: b :: c :: y) = (longR [a, b] && !(decide ([a, b] = ([45, 111] : Bs)) && part c)) := by
  have e1 : runLen (b :: c :: y) = if part b then 1 + (if part c then 1 + runLen y else 0) else 0 := by rw [runLen_cons, runLen_cons]
  have e2 : runLen [b] = if part b then 1 else 0 := by rw [runLen_cons]; rfl
  unfold longR
  simp only [List.drop_succ_cons, List.drop_zero, e1, e2, List.isPrefixOf, Bool.and_true]
  by_cases h : [a, b] = ([45, 111] : Bs)
  · simp only [List.cons.injEq, and_true] at h
    obtain ⟨rfl, rfl⟩ := h
    have hp : part 111 = true := by decide
    simp only [hp, if_true]
    cases hc : part c
    · simp
    · simp
  · have h' : ((45 : UInt8) == a && (111 : UInt8) == b) = false := by
      rw [Bool.eq_false_iff]
      intro e
      simp only [Bool.and_eq_true, beq_iff_eq] at e
      exact h (by rw [← e.1, ← e.2])
    rw [h', decide_eq_false h]
    simp

/-- A token looks no further than to the byte behind it. -/
theorem tokR_stop (x : Bs) (c : UInt8) (y : Bs) (k : Nat) (hc : c ≠ 64) :
    tokR (x ++ c :: y) = some (k, x.length) ↔ (tokR x = some (k, x.length) ∧ stopC x c = true) := by
  cases x with
  | nil =>
    constructor
    · intro h; have := tokR_lt h; simp at this
    · intro h; have := tokR_lt h.1; simp at this
  | cons a x =>
    by_cases hs : small a = true
    · by_cases hoo : ∃ w, a :: x = 111 :: 45 :: w
      · obtain ⟨w, hw⟩ := hoo
        rw [hw, List.cons_append, List.cons_append, tokR_oo, tokR_oo]
        unfold stopC
        have : small 111 = true := by decide
        simp only [this, if_true, List.length_cons]
        cases w with
        | nil => simp
        | cons d w => simp
      · have hoo' : (x = [] ∧ a = 111 ∧ c = 45) ∨ ¬ ∃ w, a :: (x ++ c :: y) = 111 :: 45 :: w := by
          by_cases h : x = [] ∧ a = 111 ∧ c = 45
          · exact .inl h
          · refine .inr ?_
            rintro ⟨w, hw⟩
            cases x with
            | nil => simp at hw; exact h ⟨rfl, hw.1, hw.2.1⟩
            | cons b x => simp at hw; exact hoo ⟨x, by rw [hw.1, hw.2.1]⟩
        rcases hoo' with ⟨rfl, rfl, rfl⟩ | hoo'
        · rw [List.cons_append, List.nil_append, tokR_oo]
          have : stopC [111] 45 = false := by decide
          simp [this]
        · rw [List.cons_append, tokR_small hs k _ hoo', tokR_small hs k _ hoo, ← List.cons_append, nameLen_stop _ c y hc, List.take_append_of_le_length (Nat.le_refl _)]
          have hst : stopC (a :: x) c = !part c := by
            unfold stopC
            simp only [hs, if_true]
            have h1 : decide (a :: x = [111, 45]) = false := decide_eq_false fun e => hoo ⟨[], e⟩
            rw [h1, Bool.false_or]
            cases hp : part c
            · have h2 : (decide (a :: x = [111]) && decide (c = 45)) = false := by
                rw [Bool.eq_false_iff]
                intro e
                simp only [Bool.and_eq_true, decide_eq_true_eq, List.cons.injEq] at e
                exact hoo' ⟨y, by rw [e.1.1, e.1.2, e.2]; rfl⟩
              rw [h2]; rfl
            · rfl
          rw [hst]
          cases part c <;> simp
    · by_cases hcap : capital a = true
      · have hst : stopC (a :: x) c = !part c := by unfold stopC; simp [hs, hcap]
        unfold tokR
        simp only [List.cons_append, List.getElem?_cons_zero, hs, hcap, if_true, hst, Bool.false_eq_true, if_false]
        have := runLen_stop (a :: x) c y
        rw [List.cons_append] at this
        constructor
        · intro e
          simp only [Option.some.injEq, Prod.mk.injEq] at e
          obtain ⟨rfl, e⟩ := e
          obtain ⟨h1, h2⟩ := this.1 e
          rw [h1, h2]; exact ⟨rfl, rfl⟩
        · rintro ⟨e, h2⟩
          simp only [Option.some.injEq, Prod.mk.injEq] at e
          obtain ⟨rfl, e⟩ := e
          rw [this.2 ⟨e, by simpa using h2⟩]
      · by_cases hsg : signB a = true
        · have hst : stopC (a :: x) c = true := by unfold stopC; simp only [hs, hcap, hsg, if_true, Bool.false_eq_true, if_false]
          unfold tokR
          simp only [List.cons_append, List.getElem?_cons_zero, hs, hcap, hsg, if_true, Bool.false_eq_true, if_false, hst, and_true]
        · have hst : stopC (a :: x) c = !(decide (a :: x = [45, 111]) && part c) := by unfold stopC; simp only [hs, hcap, hsg, Bool.false_eq_true, if_false]
          rw [hst]
          unfold tokR
          simp only [List.cons_append, List.getElem?_cons_zero, hs, hcap, hsg, Bool.false_eq_true, if_false]
          match x with
          | [] => simp
          | [b] =>
            simp only [List.nil_append, List.cons_append, longR_two, List.length_cons, List.length_nil]
            cases longR [a, b] <;> cases (!(decide ([a, b] = ([45, 111] : Bs)) && part c)) <;> simp
          | b :: d :: x => simp

/-- What a token is made of. -/
abbrev tokC (c : UInt8) : Prop := blank c = false ∧ c.toNat ≠ 37
theorem part_tokC {c : UInt8} (h : part c = true) : tokC c := by
  simp only [part, small, capital, Bool.or_eq_true, Bool.and_eq_true, decide_eq_true_eq] at h
  refine ⟨?_, by omega⟩
  simp only [blank, Bool.or_eq_false_iff, decide_eq_false_iff_not]
  omega
theorem part_ne64 {c : UInt8} (h : part c = true) : c ≠ 64 := by
  rintro rfl; revert h; decide
theorem signB_tokC {c : UInt8} (h : signB c = true) : tokC c ∧ c ≠ 64 := by
  simp only [signB, List.contains_eq_mem, List.mem_cons, List.not_mem_nil, or_false, decide_eq_true_eq] at h
  rcases h with rfl | rfl | rfl | rfl | rfl | rfl | rfl | rfl | rfl | rfl | rfl | rfl <;> decide
theorem longR_tokC {x : Bs} (h : longR x = true) : ∃ a b w, x = a :: b :: w ∧ tokC a ∧ tokC b ∧ a ≠ 64 := by
  unfold longR at h
  simp only [Bool.or_eq_true, Bool.and_eq_true, List.isPrefixOf_iff_prefix] at h
  rcases h with ((⟨⟨w, rfl⟩, _⟩ | ⟨w, rfl⟩) | ⟨w, rfl⟩) | ⟨w, rfl⟩
  · exact ⟨45, 111, w, rfl, by decide, by decide, by decide⟩
  · exact ⟨45, 62, w, rfl, by decide, by decide, by decide⟩
  · exact ⟨61, 62, w, rfl, by decide, by decide, by decide⟩
  · exact ⟨60, 61, w, rfl, by decide, by decide, by decide⟩
theorem runLen_mem {x : Bs} (h : runLen x = x.length) : ∀ c ∈ x, part c = true := by
  intro c hc
  have e : x.takeWhile part = x := by
    have hp : x.takeWhile part <+: x := List.takeWhile_prefix _
    exact hp.eq_of_length h
  rw [← e] at hc
  exact List.all_eq_true.1 (List.all_takeWhile (p := part) (l := x)) c hc
theorem runLen_take (x : Bs) : ∀ c ∈ x.take (runLen x), part c = true := by
  intro c hc
  have e : x.takeWhile part = x.take (runLen x) := by
    have hp : x.takeWhile part <+: x := List.takeWhile_prefix _
    exact List.prefix_iff_eq_take.1 hp
  rw [← e] at hc
  exact List.all_eq_true.1 (List.all_takeWhile (p := part) (l := x)) c hc
theorem nameLen_mem {x : Bs} (h : nameLen x = x.length) : ∀ c ∈ x, tokC c := by
  unfold nameLen at h
  simp only at h
  split at h
  · rename_i hc
    intro c hm
    have hlt : runLen x < x.length := by
      rcases Nat.lt_or_ge (runLen x) x.length with h1 | h1
      · exact h1
      · rw [List.getElem?_eq_none h1] at hc; simp at hc
    have e : x = x.take (runLen x) ++ 64 :: x.drop (runLen x + 1) := by
      have := List.getElem?_eq_some_iff.1 hc.1
      obtain ⟨h1, h2⟩ := this
      conv => lhs; rw [← List.take_append_drop (runLen x) x, List.drop_eq_getElem_cons h1, h2]
    rw [e] at hm
    rcases List.mem_append.1 hm with hm | hm
    · exact part_tokC (runLen_take x c hm)
    · rcases List.mem_cons.1 hm with rfl | hm
      · exact ⟨by decide, by decide⟩
      · exact part_tokC (runLen_mem (by rw [List.length_drop]; omega) c hm)
  · intro c hm
    exact part_tokC (runLen_mem h c hm)
theorem tokR_cons {r : Bs} {k n : Nat} (h : tokR r = some (k, n)) : ∃ a w, r = a :: w ∧ tokC a ∧ a ≠ 64 := by
  cases r with
  | nil => simp [tokR] at h
  | cons a w =>
    refine ⟨a, w, rfl, ?_⟩
    unfold tokR at h
    simp only [List.getElem?_cons_zero] at h
    by_cases hs : small a = true
    · exact ⟨part_tokC (small_part hs), part_ne64 (small_part hs)⟩
    · by_cases hcap : capital a = true
      · exact ⟨part_tokC (capital_part hcap), part_ne64 (capital_part hcap)⟩
      · by_cases hsg : signB a = true
        · exact signB_tokC hsg
        · by_cases hl : longR (a :: w) = true
          · obtain ⟨a', b', w', he, h1, _, h3⟩ := longR_tokC hl
            simp only [List.cons.injEq] at he
            obtain ⟨rfl, _⟩ := he
            exact ⟨h1, h3⟩
          · simp [hs, hcap, hsg, hl] at h
theorem tokR_kind {r : Bs} {k n : Nat} (h : tokR r = some (k, n)) : k ≠ 0 ∧ k ≤ 4 := by
  unfold tokR at h
  split at h
  · cases h
  · split at h
    · simp only at h
      split at h
      · simp at h; omega
      · split at h <;> (simp at h; omega)
    · split at h
      · simp at h; omega
      · split at h
        · simp at h; omega
        · split at h
          · simp at h; omega
          · cases h
theorem tokR_mem {x : Bs} {k : Nat} (h : tokR x = some (k, x.length)) : ∀ c ∈ x, tokC c := by
  cases x with
  | nil => simp
  | cons a x =>
    by_cases hs : small a = true
    · by_cases hoo : ∃ w, a :: x = 111 :: 45 :: w
      · obtain ⟨w, hw⟩ := hoo
        rw [hw, tokR_oo] at h
        simp at h
        have hw0 : w = [] := h.2
        rw [hw, hw0]
        decide
      · rw [tokR_small hs k _ hoo] at h
        exact nameLen_mem h.1
    · by_cases hcap : capital a = true
      · unfold tokR at h
        simp only [List.getElem?_cons_zero, hs, hcap, if_true, Bool.false_eq_true, if_false, Option.some.injEq, Prod.mk.injEq] at h
        intro c hc
        exact part_tokC (runLen_mem h.2 c hc)
      · by_cases hsg : signB a = true
        · unfold tokR at h
          simp only [List.getElem?_cons_zero, hs, hcap, hsg, if_true, Bool.false_eq_true, if_false, Option.some.injEq, Prod.mk.injEq, List.length_cons] at h
          have : x = [] := List.length_eq_zero_iff.1 (by omega)
          subst this
          intro c hc
          rw [List.mem_singleton] at hc
          subst hc
          exact (signB_tokC hsg).1
        · by_cases hl : longR (a :: x) = true
          · unfold tokR at h
            simp only [List.getElem?_cons_zero, hs, hcap, hsg, hl, if_true, Bool.false_eq_true, if_false, Option.some.injEq, Prod.mk.injEq, List.length_cons] at h
            obtain ⟨a', b', w', he, h1, h2, _⟩ := longR_tokC hl
            have hlen := congrArg List.length he
            simp only [List.length_cons] at hlen
            have : w' = [] := List.length_eq_zero_iff.1 (by omega)
            subst this
            rw [he]
            intro c hc
            simp only [List.mem_cons, List.not_mem_nil, or_false] at hc
            rcases hc with rfl | rfl
            · exact h1
            · exact h2
          · simp [tokR, hs, hcap, hsg, hl] at h
theorem stopC_space {x : Bs} {k : Nat} (h : tokR x = some (k, x.length)) : stopC x 32 = true := by
  cases x with
  | nil => simp [tokR] at h
  | cons a x =>
    have hp : part 32 = false := by decide
    unfold stopC
    simp [hp]
theorem tokR_space {x : Bs} {k : Nat} (h : tokR x = some (k, x.length)) (y : Bs) : tokR (x ++ 32 :: y) = some (k, x.length) :=
  (tokR_stop x 32 y k (by decide)).2 ⟨h, stopC_space h⟩

/-- A kind and a text. -/
structure KT where
  k : Nat
  x : Bs
  deriving DecidableEq
def Tok.kt (t : Tok) : KT := ⟨t.kind, t.text⟩
/-- Is it a token? -/
def IsTok (a : KT) : Prop := tokR a.x = some (a.k, a.x.length) ∧ a.x.length ≤ 40
/-- From the left, the tokens of a text are these. -/
def Runs : Bs → List KT → Prop
  | r, [] => skipC false r = r.length
  | r, a :: l => tokR (r.drop (skipC false r)) = some (a.k, a.x.length) ∧ (r.drop (skipC false r)).take a.x.length = a.x ∧ a.x.length ≤ 40 ∧ Runs ((r.drop (skipC false r)).drop a.x.length) l

theorem scanP_runs : ∀ (f : Nat) (pre l : List Tok) (o : Nat) (r : Bs), r.length < f → scanP f pre o r = .toks l → ∃ ts, l = pre ++ ts ∧ Runs r (ts.map Tok.kt)
  | 0, _, _, _, _, h, _ => absurd h (Nat.not_lt_zero _)
  | f + 1, pre, l, o, r, hf, h => by
    unfold scanP at h
    have hle := skipC_le false r
    rcases scanS_inv h with ⟨e, rfl⟩ | ⟨k, n, h0, ht, h6, h4, hs⟩
    · refine ⟨[], by simp, ?_⟩
      have := congrArg List.length e
      simp at this
      show skipC false r = r.length
      omega
    · have hn := tokR_lt ht
      obtain ⟨ts, hl, hr⟩ := scanP_runs f _ l _ _ (by rw [List.length_drop, List.length_drop] at *; omega) hs
      refine ⟨⟨k, (r.drop (skipC false r)).take n, o + skipC false r⟩ :: ts, by rw [hl, List.append_assoc]; rfl, ?_⟩
      have hlen : ((r.drop (skipC false r)).take n).length = n := by rw [List.length_take]; omega
      show tokR _ = some (k, ((r.drop (skipC false r)).take n).length) ∧ _
      refine ⟨by rw [hlen]; exact ht, by show (r.drop (skipC false r)).take ((r.drop (skipC false r)).take n).length = _; rw [hlen]; rfl, by show ((r.drop (skipC false r)).take n).length ≤ 40; omega, ?_⟩
      show Runs ((r.drop (skipC false r)).drop ((r.drop (skipC false r)).take n).length) _
      rw [hlen]; exact hr
theorem runs_scanP : ∀ (l : List KT) (f : Nat) (pre : List Tok) (o : Nat) (r : Bs), r.length < f → pre.length + l.length ≤ 6000 → Runs r l → ∃ ts, scanP f pre o r = .toks (pre ++ ts) ∧ ts.map Tok.kt = l
  | [], 0, _, _, _, h, _, _ => absurd h (Nat.not_lt_zero _)
  | _ :: _, 0, _, _, _, h, _, _ => absurd h (Nat.not_lt_zero _)
  | [], f + 1, pre, o, r, _, _, h => by
    have h' : skipC false r = r.length := h
    refine ⟨[], ?_, rfl⟩
    unfold scanP scanS
    rw [if_pos (by rw [h']; exact List.drop_of_length_le (Nat.le_refl _)), List.append_nil]
  | a :: l, f + 1, pre, o, r, hf, h6, h => by
    obtain ⟨ht, hx, h4, hr⟩ := h
    have hn := tokR_lt ht
    have hne : r.drop (skipC false r) ≠ [] := by intro e; rw [e] at ht; simp [tokR] at ht
    obtain ⟨ts, hs, hm⟩ := runs_scanP l f (pre ++ [⟨a.k, (r.drop (skipC false r)).take a.x.length, o + skipC false r⟩]) (o + skipC false r + a.x.length) _ (by rw [List.length_drop, List.length_drop] at *; omega) (by simp only [List.length_append, List.length_cons, List.length_nil] at h6 ⊢; omega) hr
    refine ⟨⟨a.k, (r.drop (skipC false r)).take a.x.length, o + skipC false r⟩ :: ts, ?_, ?_⟩
    · unfold scanP
      rw [scanS_step hne ht (by simp only [List.length_cons] at h6; omega) (by omega), hs, List.append_assoc]
      rfl
    · rw [List.map_cons, hm, hx]; rfl
theorem scan_runs {r : Bs} {ts : List Tok} (h : scan r = .toks ts) : Runs r (ts.map Tok.kt) ∧ r.length ≤ 20000 := by
  rw [scan_rel] at h
  split at h
  · cases h
  · obtain ⟨ts', he, hr⟩ := scanP_runs _ _ _ _ _ (by omega) h
    rw [List.nil_append] at he
    subst he
    exact ⟨hr, by omega⟩
theorem runs_scan {r : Bs} {l : List KT} (h : Runs r l) (h2 : r.length ≤ 20000) (h6 : l.length ≤ 6000) : ∃ ts, scan r = .toks ts ∧ ts.map Tok.kt = l := by
  rw [scan_rel, if_neg (by omega)]
  obtain ⟨ts, hs, hm⟩ := runs_scanP l (r.length + 1) [] 0 r (by omega) (by simpa using h6) h
  exact ⟨ts, by simpa using hs, hm⟩

/-- Of texts that are scanned the tokens are tokens, each by itself. -/
theorem tokR_alone {r : Bs} {k n : Nat} (h : tokR r = some (k, n)) (h64 : r[n]? ≠ some 64) : tokR (r.take n) = some (k, n) := by
  have hn := tokR_lt h
  have hlen : (r.take n).length = n := by rw [List.length_take]; omega
  cases hd : r.drop n with
  | nil =>
    have : n = r.length := by have := congrArg List.length hd; simp at this; omega
    subst this
    rw [List.take_of_length_le (Nat.le_refl _)]; exact h
  | cons c y =>
    have e : r = r.take n ++ c :: y := by rw [← hd, List.take_append_drop]
    have hc : r[n]? = some c := by
      have : (r.drop n)[0]? = some c := by rw [hd]; rfl
      rw [List.getElem?_drop] at this
      simpa using this
    have := (tokR_stop (r.take n) c y k (by rintro rfl; exact h64 hc)).1 (by rw [← e, hlen]; exact h)
    rw [hlen] at this
    exact this.1
theorem runs_head : ∀ (l : List KT) (r : Bs), Runs r l → r[0]? ≠ some 64
  | [], r, h => by
    intro e
    cases r with
    | nil => simp at e
    | cons c r =>
      simp at e
      subst e
      have : skipC false (64 :: r) = 0 := rfl
      have h' : skipC false (64 :: r) = (64 :: r).length := h
      rw [this] at h'
      simp at h'
  | a :: l, r, h => by
    intro e
    cases r with
    | nil => simp at e
    | cons c r =>
      simp at e
      subst e
      have hs : skipC false (64 :: r) = 0 := rfl
      have h1 := h.1
      rw [hs, List.drop_zero] at h1
      obtain ⟨a', w, he, _, h3⟩ := tokR_cons h1
      simp at he
      exact h3 he.1.symm
theorem runs_tok : ∀ (l : List KT) (r : Bs), Runs r l → ∀ a ∈ l, IsTok a
  | [], _, _, _, h => absurd h List.not_mem_nil
  | b :: l, r, h, a, ha => by
    rcases List.mem_cons.1 ha with rfl | ha
    · refine ⟨?_, h.2.2.1⟩
      have := tokR_alone h.1 (by have := runs_head _ _ h.2.2.2; rwa [List.getElem?_drop] at this)
      rw [h.2.1] at this
      exact this
    · exact runs_tok l _ h.2.2.2 a ha

/-- What is written of tokens, with the given spaces. -/
def G : List (Bool × KT) → Bs
  | [] => []
  | (g, a) :: l => (if g then [32] else []) ++ (a.x ++ G l)
theorem skip_tok {a : KT} (h : IsTok a) (y : Bs) : skipC false (a.x ++ y) = 0 := by
  obtain ⟨c, w, he, hc, _⟩ := tokR_cons h.1
  rw [he, List.cons_append]
  simp only [skipC]
  rw [if_neg (by rw [hc.1]; simp), if_neg hc.2]
theorem skip_gap (g : Bool) {a : KT} (h : IsTok a) (y : Bs) : skipC false ((if g then [32] else []) ++ (a.x ++ y)) = (if g then 1 else 0) := by
  cases g
  · exact skip_tok h y
  · show skipC false (32 :: (a.x ++ y)) = 1
    simp only [skipC]
    rw [if_pos (by decide), skip_tok h y]
theorem drop_gap (g : Bool) (y : Bs) : ((if g then [32] else []) ++ y : Bs).drop (if g then 1 else 0) = y := by cases g <;> rfl

def glued (a b : KT) : Bool := decide (tokR (a.x ++ b.x) = some (a.k, a.x.length))
theorem glued_iff {a b : KT} (hb : IsTok b) (y : Bs) : tokR (a.x ++ (b.x ++ y)) = some (a.k, a.x.length) ↔ glued a b = true := by
  obtain ⟨c, w, he, hc, h64⟩ := tokR_cons hb.1
  unfold glued
  rw [decide_eq_true_eq, he, List.cons_append, tokR_stop _ _ _ _ h64, tokR_stop _ _ _ _ h64]
/-- Where no space stands, it can be left out. -/
def Fits : List (Bool × KT) → Prop
  | (_, a) :: (g, b) :: l => (g = false → glued a b = true) ∧ Fits ((g, b) :: l)
  | _ => True
theorem G_runs : ∀ l : List (Bool × KT), (∀ a ∈ l, IsTok a.2) → Fits l → Runs (G l) (l.map (·.2))
  | [], _, _ => rfl
  | (g, a) :: l, h, hf => by
    have ha : IsTok a := h _ List.mem_cons_self
    have hrest : Runs (G l) (l.map (·.2)) := by
      refine G_runs l (fun b hb => h b (List.mem_cons_of_mem _ hb)) ?_
      cases l with
      | nil => trivial
      | cons b l => obtain ⟨g', b⟩ := b; exact hf.2
    show Runs ((if g then [32] else []) ++ (a.x ++ G l)) (a :: l.map (·.2))
    unfold Runs
    rw [skip_gap g ha, drop_gap]
    refine ⟨?_, List.take_left, ha.2, by rw [List.drop_left]; exact hrest⟩
    cases l with
    | nil => simpa [G] using ha.1
    | cons b l =>
      obtain ⟨g', b⟩ := b
      have hb : IsTok b := h _ (List.mem_cons_of_mem _ List.mem_cons_self)
      cases g'
      · show tokR (a.x ++ (b.x ++ G l)) = _
        exact (glued_iff hb _).2 (hf.1 rfl)
      · exact tokR_space ha.1 _
theorem runs_fits : ∀ l : List (Bool × KT), (∀ a ∈ l, IsTok a.2) → Runs (G l) (l.map (·.2)) → Fits l
  | [], _, _ => trivial
  | [_], _, _ => trivial
  | (g, a) :: (g', b) :: l, h, hr => by
    have ha : IsTok a := h _ List.mem_cons_self
    have hb : IsTok b := h _ (List.mem_cons_of_mem _ List.mem_cons_self)
    have hr' : Runs ((if g then [32] else []) ++ (a.x ++ G ((g', b) :: l))) (a :: ((g', b) :: l).map (·.2)) := hr
    unfold Runs at hr'
    rw [skip_gap g ha, drop_gap] at hr'
    obtain ⟨h1, _, _, h4⟩ := hr'
    rw [List.drop_left] at h4
    refine ⟨?_, runs_fits _ (fun c hc => h c (List.mem_cons_of_mem _ hc)) h4⟩
    rintro rfl
    exact (glued_iff hb _).1 h1

/-- The spaces that are needed. -/
def gaps (sep : KT → KT → Bool) : Option KT → List KT → List (Bool × KT)
  | _, [] => []
  | none, a :: l => (false, a) :: gaps sep (some a) l
  | some p, a :: l => (sep p a, a) :: gaps sep (some a) l
theorem gaps_snd (sep : KT → KT → Bool) : ∀ (p : Option KT) (l : List KT), (gaps sep p l).map (·.2) = l
  | none, [] => rfl
  | some _, [] => rfl
  | none, a :: l => by simp only [gaps, List.map_cons, gaps_snd sep (some a) l]
  | some p, a :: l => by simp only [gaps, List.map_cons, gaps_snd sep (some a) l]
theorem gaps_fits (sep : KT → KT → Bool) (h : ∀ a b, sep a b = false → glued a b = true) : ∀ (p : Option KT) (l : List KT), Fits (gaps sep p l)
  | none, [] => trivial
  | some _, [] => trivial
  | none, [_] => trivial
  | some _, [_] => trivial
  | none, a :: b :: l => ⟨h a b, gaps_fits sep h (some a) (b :: l)⟩
  | some _, a :: b :: l => ⟨h a b, gaps_fits sep h (some a) (b :: l)⟩
def tightK (a b : KT) : Bool := !glued a b
def joinK (_ _ : KT) : Bool := true
theorem gaps_runs (sep : KT → KT → Bool) (h : ∀ a b, sep a b = false → glued a b = true) (l : List KT) (ht : ∀ a ∈ l, IsTok a) : Runs (G (gaps sep none l)) l := by
  have := G_runs (gaps sep none l) (fun a ha => ht _ (by rw [← gaps_snd sep none l]; exact List.mem_map_of_mem ha)) (gaps_fits sep h none l)
  rwa [gaps_snd] at this
theorem tight_le_join : ∀ (p : Option KT) (l : List KT), (G (gaps tightK p l)).length ≤ (G (gaps joinK p l)).length
  | none, [] => Nat.le_refl _
  | some _, [] => Nat.le_refl _
  | none, a :: l => by have := tight_le_join (some a) l; simp only [gaps, G, List.length_append]; omega
  | some p, a :: l => by
    have := tight_le_join (some a) l
    simp only [gaps, G, List.length_append, joinK, if_true]
    split <;> simp <;> omega
/-- Tight writes no more than any text of these tokens has. -/
theorem tight_le_text : ∀ (l : List KT) (r : Bs) (p : KT), IsTok p → tokR (p.x ++ r) = some (p.k, p.x.length) → Runs r l → (G (gaps tightK (some p) l)).length ≤ r.length
  | [], _, _, _, _, _ => by simp [gaps, G]
  | b :: l, r, p, hp, hpr, h => by
    have hb : IsTok b := runs_tok _ _ h b List.mem_cons_self
    obtain ⟨h1, h2, h3, h4⟩ := h
    have hsk := skipC_le false r
    have hd : r.drop (skipC false r) = b.x ++ (r.drop (skipC false r)).drop b.x.length := by
      conv => lhs; rw [← List.take_append_drop b.x.length (r.drop (skipC false r)), h2]
    have ih := tight_le_text l ((r.drop (skipC false r)).drop b.x.length) b hb (by rw [← hd]; exact h1) h4
    have hlen := congrArg List.length hd
    simp only [List.length_append, List.length_drop] at hlen ih
    simp only [gaps, G, List.length_append]
    by_cases h0 : skipC false r = 0
    · rw [h0, List.drop_zero] at hd
      have : tightK p b = false := by
        unfold tightK
        rw [(glued_iff hb (r.drop b.x.length)).1 (by rw [← hd]; exact hpr)]
        rfl
      rw [this]
      simp only [Bool.false_eq_true, if_false, List.length_nil]
      omega
    · split <;> simp <;> omega
theorem tight_le {r : Bs} {l : List KT} (h : Runs r l) : (G (gaps tightK none l)).length ≤ r.length := by
  cases l with
  | nil => simp [gaps, G]
  | cons b l =>
    have hb : IsTok b := runs_tok _ _ h b List.mem_cons_self
    obtain ⟨h1, h2, h3, h4⟩ := h
    have hsk := skipC_le false r
    have hd : r.drop (skipC false r) = b.x ++ (r.drop (skipC false r)).drop b.x.length := by
      conv => lhs; rw [← List.take_append_drop b.x.length (r.drop (skipC false r)), h2]
    have ih := tight_le_text l ((r.drop (skipC false r)).drop b.x.length) b hb (by rw [← hd]; exact h1) h4
    have hlen := congrArg List.length hd
    simp only [List.length_append, List.length_drop] at hlen ih
    simp only [gaps, G, List.length_append, Bool.false_eq_true, if_false, List.length_nil]
    omega
theorem G_empty {l : List KT} (sep : KT → KT → Bool) (ht : ∀ a ∈ l, IsTok a) (h : G (gaps sep none l) = []) : l = [] := by
  cases l with
  | nil => rfl
  | cons a l =>
    have ha := ht a List.mem_cons_self
    obtain ⟨c, w, he, _⟩ := tokR_cons ha.1
    simp [gaps, G, he] at h

/-- A space that Tight writes: what is around it. -/
theorem G_space : ∀ (l : List (Bool × KT)) (i : Nat), (∀ a ∈ l, IsTok a.2) → (G l)[i]? = some 32 → ∃ p a q, l = p ++ (true, a) :: q ∧ (G l).eraseIdx i = G (p ++ (false, a) :: q)
  | [], _, _, h => by simp [G] at h
  | (g, a) :: l, i, ht, h => by
    have ha : IsTok a := ht _ List.mem_cons_self
    have go : ∀ j, (a.x ++ G l)[j]? = some 32 → ∃ p b q, l = p ++ (true, b) :: q ∧ (a.x ++ G l).eraseIdx j = a.x ++ G (p ++ (false, b) :: q) := by
      intro j hj
      by_cases hlt : j < a.x.length
      · exfalso
        rw [List.getElem?_append_left hlt] at hj
        have := (tokR_mem ha.1 32 (List.mem_of_getElem? hj)).1
        revert this; decide
      · rw [List.getElem?_append_right (by omega)] at hj
        obtain ⟨p, b, q, e1, e2⟩ := G_space l (j - a.x.length) (fun c hc => ht c (List.mem_cons_of_mem _ hc)) hj
        refine ⟨p, b, q, e1, ?_⟩
        rw [List.eraseIdx_append_of_length_le (by omega), e2]
    cases g
    · obtain ⟨p, b, q, e1, e2⟩ := go i h
      refine ⟨(false, a) :: p, b, q, by rw [e1]; rfl, ?_⟩
      exact e2
    · cases i with
      | zero => exact ⟨[], a, l, rfl, rfl⟩
      | succ i =>
        obtain ⟨p, b, q, e1, e2⟩ := go i h
        refine ⟨(true, a) :: p, b, q, by rw [e1]; rfl, ?_⟩
        show 32 :: ((a.x ++ G l).eraseIdx i) = 32 :: (a.x ++ G (p ++ (false, b) :: q))
        rw [e2]
theorem fits_mid (a : Bool × KT) (b : KT) (q : List (Bool × KT)) : ∀ p : List (Bool × KT), Fits (p ++ a :: (false, b) :: q) → glued a.2 b = true
  | [], h => h.1 rfl
  | [_], h => h.2.1 rfl
  | _ :: y :: p, h => fits_mid a b q (y :: p) h.2
theorem gaps_mid (sep : KT → KT → Bool) (a : Bool × KT) (b : KT) (q : List (Bool × KT)) : ∀ (p : List (Bool × KT)) (o : Option KT) (l : List KT), gaps sep o l = p ++ a :: (true, b) :: q → sep a.2 b = true
  | [], none, [], h => by simp [gaps] at h
  | [], some _, [], h => by simp [gaps] at h
  | _ :: _, none, [], h => by simp [gaps] at h
  | _ :: _, some _, [], h => by simp [gaps] at h
  | [], none, _ :: l, h => by
    simp only [gaps, List.nil_append, List.cons.injEq] at h
    obtain ⟨rfl, h⟩ := h
    cases l with
    | nil => simp [gaps] at h
    | cons y l => simp only [gaps, List.cons.injEq, Prod.mk.injEq] at h; obtain ⟨⟨h1, rfl⟩, _⟩ := h; exact h1
  | [], some _, _ :: l, h => by
    simp only [gaps, List.nil_append, List.cons.injEq] at h
    obtain ⟨rfl, h⟩ := h
    cases l with
    | nil => simp [gaps] at h
    | cons y l => simp only [gaps, List.cons.injEq, Prod.mk.injEq] at h; obtain ⟨⟨h1, rfl⟩, _⟩ := h; exact h1
  | _ :: p, none, _ :: l, h => by
    simp only [gaps, List.cons_append, List.cons.injEq] at h
    exact gaps_mid sep a b q p _ l h.2
  | _ :: p, some _, _ :: l, h => by
    simp only [gaps, List.cons_append, List.cons.injEq] at h
    exact gaps_mid sep a b q p _ l h.2
/-- Without any one of its spaces, what Tight writes has not the same tokens. -/
theorem tight_least (l : List KT) (i : Nat) (ht : ∀ a ∈ l, IsTok a) (h : (G (gaps tightK none l))[i]? = some 32) : ¬ Runs ((G (gaps tightK none l)).eraseIdx i) l := by
  intro hr
  have hts : ∀ a ∈ gaps tightK none l, IsTok a.2 := fun a ha => ht _ (by rw [← gaps_snd tightK none l]; exact List.mem_map_of_mem ha)
  obtain ⟨p, b, q, e1, e2⟩ := G_space _ i hts h
  rcases List.eq_nil_or_concat p with rfl | ⟨p', a, rfl⟩
  · cases l with
    | nil => simp [gaps] at e1
    | cons c l => simp [gaps] at e1
  · rw [List.concat_eq_append, List.append_assoc, List.singleton_append] at e1 e2
    have h1 := gaps_mid _ _ _ _ _ _ _ e1
    rw [e2] at hr
    have hl : l = (p' ++ a :: (false, b) :: q).map (·.2) := by
      rw [← gaps_snd tightK none l, e1]; simp
    have h2 := fits_mid a b q p' (runs_fits _ (by
      intro c hc
      refine ht _ ?_
      rw [hl]
      exact List.mem_map_of_mem hc) (by rw [← hl]; exact hr))
    unfold tightK at h1
    rw [h2] at h1
    cases h1
end Lx
end Go.Proofs.Ytihbecfjgdlebaa
