/- Layer 1: which places of a text are marked. Pure mathematics. -/
import Derived.Test.YtihbecfjgdlebaaLexComP
namespace Go.Proofs.Ytihbecfjgdlebaa

def inC (cs : List (Nat × Nat)) (k : Nat) : Bool := cs.any fun c => decide (c.1 ≤ k) && decide (k < c.2)
def upB (P : Nat → Bool) (a k : Nat) : Nat → Bool := fun q => P q || (decide (a ≤ q) && decide (q < k))
def orAt (P : Nat → Bool) (k : Nat) : Nat → Bool := fun q => P q || (q == k)
theorem inC_snoc (cs : List (Nat × Nat)) (c : Nat × Nat) : inC (cs ++ [c]) = upB (inC cs) c.1 c.2 := by
  funext k
  simp only [inC, upB, List.any_append, List.any_cons, List.any_nil, Bool.or_false]
theorem inC_said (cs : List (Nat × Nat)) (k : Nat) : inC cs k = true ↔ Said cs k := by
  unfold inC Said
  rw [List.any_eq_true]
  constructor
  · rintro ⟨c, hc, h⟩
    rw [Bool.and_eq_true, decide_eq_true_eq, decide_eq_true_eq] at h
    exact ⟨c, hc, h⟩
  · rintro ⟨c, hc, h⟩
    refine ⟨c, hc, ?_⟩
    rw [Bool.and_eq_true, decide_eq_true_eq, decide_eq_true_eq]
    exact h
theorem upB_none (P : Nat → Bool) (a : Nat) : upB P a a = P := by
  funext q
  unfold upB
  by_cases h : a ≤ q
  · rw [decide_eq_false (show ¬ q < a by omega), Bool.and_false, Bool.or_false]
  · rw [decide_eq_false h, Bool.false_and, Bool.or_false]
theorem upB_step {P : Nat → Bool} {a k : Nat} (h : a ≤ k) : orAt (upB P a k) k = upB P a (k + 1) := by
  funext q
  unfold orAt upB
  by_cases e : q = k
  · subst e
    rw [decide_eq_true h, decide_eq_true (show q < q + 1 by omega)]
    simp
  · rw [show (q == k) = false from by rw [beq_eq_false_iff_ne]; exact e, Bool.or_false]
    by_cases h2 : q < k
    · rw [decide_eq_true h2, decide_eq_true (show q < k + 1 by omega)]
    · rw [decide_eq_false h2, decide_eq_false (show ¬ q < k + 1 by omega)]
theorem take_snoc' {α : Type} {l : List α} {i : Nat} (h : i < l.length) : l.take (i + 1) = l.take i ++ [l[i]] := List.take_succ_eq_append_getElem h

/-- What stands between two tokens: marked, or blank; what comes: marked where comments are. -/
structure CovI (l : Lx.Bs) (E : Nat) (P : Nat → Bool) (us : List Lx.Tok) : Prop where
  done : ∀ k, k < E → k < l.length → P k = true ∨ l[k]?.map Lx.blank = some true
  ahead : ∀ k, E ≤ k → k < l.length → (P k = true ↔ (Lx.cm false l)[k]? = some true)
  cov : Lx.Cov l (Lx.cm false l) E us
theorem CovI.start {l : Lx.Bs} {ts : List Lx.Tok} (h : Lx.scan l = .toks ts) : CovI l 0 (inC (coms l)) ts :=
  ⟨fun k h => absurd h (Nat.not_lt_zero _), fun k _ hk => by rw [inC_said]; exact ((coms_all l).2 k hk).symm, Lx.scan_cov h⟩
theorem CovI.step {l : Lx.Bs} {E : Nat} {P : Nat → Bool} {t : Lx.Tok} {us : List Lx.Tok} (h : CovI l E P (t :: us)) :
    E ≤ t.pos ∧ t.pos + t.text.length ≤ l.length ∧ Lx.slice l t.pos (t.pos + t.text.length) = t.text ∧ Lx.IsTok t.kt ∧
    (∀ k, t.pos ≤ k → k < t.pos + t.text.length → P k = false) ∧ CovI l (t.pos + t.text.length) (upB P t.pos (t.pos + t.text.length)) us := by
  obtain ⟨h1, h2, h3⟩ := h
  obtain ⟨c1, c2, c3, c4, c5, c6, c7⟩ := h3
  refine ⟨c1, c3, c4, c6, fun k hk1 hk2 => ?_, ?_, ?_, c7⟩
  · rw [Bool.eq_false_iff]
    intro e
    have := (h2 k (by omega) (by omega)).1 e
    rw [c5 k hk1 hk2] at this
    cases this
  · intro k hk hl
    by_cases hE : k < E
    · rcases h1 k hE hl with h | h
      · exact .inl (by unfold upB; rw [h]; rfl)
      · exact .inr h
    · by_cases hp : k < t.pos
      · rcases c2 k (by omega) hp with h | h
        · exact .inl (by unfold upB; rw [(h2 k (by omega) hl).2 h]; rfl)
        · exact .inr h
      · refine .inl ?_
        unfold upB
        rw [decide_eq_true (show t.pos ≤ k by omega), decide_eq_true hk]
        simp
  · intro k hk hl
    rw [← h2 k (by omega) hl]
    unfold upB
    rw [decide_eq_false (show ¬ k < t.pos + t.text.length by omega), Bool.and_false, Bool.or_false]
theorem CovI.last {l : Lx.Bs} {E : Nat} {P : Nat → Bool} (h : CovI l E P []) : ∀ k, k < l.length → P k = true ∨ l[k]?.map Lx.blank = some true := by
  intro k hk
  by_cases hE : k < E
  · exact h.done k hE hk
  · obtain ⟨_, c⟩ := h.cov
    rcases c k (by omega) hk with h' | h'
    · exact .inl ((h.ahead k (by omega) hk).2 h')
    · exact .inr h'
theorem comsF_len (l : Lx.Bs) : ∀ (f : Nat) (pre : List (Nat × Nat)) (i : Nat), (comsF l f pre i).length ≤ pre.length + f
  | 0, pre, i => Nat.le_refl _
  | f + 1, pre, i => by
    simp only [comsF]
    split
    · omega
    · split
      · have := comsF_len l f (pre ++ [(i, Lx.lineTo l i)]) (Lx.lineTo l i + 1)
        rw [List.length_append, List.length_singleton] at this
        omega
      · have := comsF_len l f pre (i + 1)
        omega
theorem coms_len (l : Lx.Bs) : (coms l).length ≤ l.length + 1 := by
  have := comsF_len l (l.length + 1) [] 0
  rw [List.length_nil, Nat.zero_add] at this
  exact this
end Go.Proofs.Ytihbecfjgdlebaa
