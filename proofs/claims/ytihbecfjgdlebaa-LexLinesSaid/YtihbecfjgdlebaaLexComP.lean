/- The plain mathematics of layer 1, on: a text's comments, and what is left without them. -/
import Derived.Test.YtihbecfjgdlebaaLexComs
import Derived.Test.YtihbecfjgdlebaaLexStripP
import Derived.Test.YtihbecfjgdlebaaLexCovP
namespace Go.Proofs.Ytihbecfjgdlebaa

theorem drop_cons {α : Type} {l : List α} {i : Nat} (h : i < l.length) : l.drop i = l[i] :: l.drop (i + 1) := List.drop_eq_getElem_cons h
theorem slice_snoc {l : Lx.Bs} {a i : Nat} (h : i < l.length) (ha : a ≤ i) : Lx.slice l a (i + 1) = Lx.slice l a i ++ [l[i]] := by
  unfold Lx.slice
  rw [show i + 1 - a = (i - a) + 1 from by omega, List.take_succ_eq_append_getElem (by rw [List.length_drop]; omega), List.getElem_drop]
  congr 3
  omega
theorem slice_end {l : Lx.Bs} {a i : Nat} (h : l.length ≤ i) : Lx.slice l a i = l.drop a := by
  unfold Lx.slice; exact List.take_of_length_le (by rw [List.length_drop]; omega)
theorem slice_none (l : Lx.Bs) (a : Nat) : Lx.slice l a a = [] := by unfold Lx.slice; rw [Nat.sub_self]; rfl
theorem line_bounds {l : Lx.Bs} {i : Nat} (h : i < l.length) (h37 : l[i]? = some 37) : i < Lx.lineTo l i ∧ Lx.lineTo l i ≤ l.length := by
  have hg : l[i] = 37 := by have := List.getElem?_eq_getElem h; rw [h37] at this; exact (Option.some.inj this).symm
  exact ⟨(Lx.skipTo_comment h (by rw [hg]; rfl)).2, (Lx.lineTo_le (by omega)).2⟩

/-- What Strip leaves. -/
def leftOf (l : Lx.Bs) (cs : List (Nat × Nat)) : Lx.Bs := (Lx.stripF l cs).1 ++ l.drop (Lx.stripF l cs).2
theorem coms_strip (l : Lx.Bs) : ∀ (f : Nat) (pre : List (Nat × Nat)) (i : Nat), l.length + 1 ≤ i + f → (Lx.stripF l pre).2 ≤ i →
    leftOf l (comsF l f pre i) = (Lx.stripF l pre).1 ++ Lx.slice l (Lx.stripF l pre).2 i ++ Lx.stripL false (l.drop i)
  | 0, pre, i, hf, _ => by
    simp only [comsF]
    rw [slice_end (by omega), List.drop_of_length_le (by omega : l.length ≤ i)]
    simp [leftOf, Lx.stripL]
  | f + 1, pre, i, hf, ha => by
    by_cases hi : l.length ≤ i
    · rw [coms_end hi, slice_end hi, List.drop_of_length_le hi]
      simp [leftOf, Lx.stripL]
    · have hlt : i < l.length := by omega
      by_cases h37 : l[i]? = some 37
      · have hb := line_bounds hlt h37
        rw [coms_hit hlt h37, coms_strip l f _ _ (by omega) (by rw [Lx.stripF_snoc]; simp only; omega), Lx.stripF_snoc, Lx.stripL_line hlt h37, List.append_assoc]
      · have hne : l[i].toNat ≠ 37 := by
          intro e; apply h37; rw [List.getElem?_eq_getElem hlt]; congr 1; rw [← UInt8.toNat_inj]; exact e
        rw [coms_not hlt h37, coms_strip l f pre (i + 1) (by omega) (by omega), slice_snoc hlt ha, drop_cons hlt]
        simp only [Lx.stripL]
        rw [if_neg hne]
        simp
theorem left_strip (l : Lx.Bs) : leftOf l (coms l) = Lx.stripL false l := by
  unfold coms
  rw [coms_strip l (l.length + 1) [] 0 (by omega) (Nat.zero_le _)]
  rfl
theorem coms_none (l : Lx.Bs) (h : ∀ c ∈ l, c.toNat ≠ 37) : coms l = [] := by
  have : ∀ (f : Nat) (i : Nat), comsF l f [] i = [] := by
    intro f
    induction f with
    | zero => intro i; rfl
    | succ f ih =>
      intro i
      by_cases hi : l.length ≤ i
      · exact coms_end hi
      · rw [coms_not (by omega) (by
          intro e
          have := h 37 (List.mem_of_getElem? e)
          exact this rfl)]
        exact ih _
  exact this _ _
theorem cm_line : ∀ (r : Lx.Bs), (∀ k, k < (r.takeWhile (fun c => decide (c.toNat ≠ 10))).length → (Lx.cm true r)[k]? = some true) ∧
    (Lx.cm true r).drop ((r.takeWhile (fun c => decide (c.toNat ≠ 10))).length) = Lx.cm false (r.drop ((r.takeWhile (fun c => decide (c.toNat ≠ 10))).length))
  | [] => ⟨fun k h => by simp at h, rfl⟩
  | c :: r => by
    obtain ⟨h1, h2⟩ := cm_line r
    simp only [Lx.cm]
    by_cases hc : c.toNat = 10
    · rw [if_pos hc, List.takeWhile_cons, if_neg (by simp [hc])]
      refine ⟨fun k h => by simp at h, ?_⟩
      simp only [List.length_nil, List.drop_zero, Lx.cm]
      rw [if_neg (by omega)]
    · rw [if_neg hc, List.takeWhile_cons, if_pos (by simp [hc])]
      refine ⟨fun k h => ?_, by simp only [List.length_cons, List.drop_succ_cons]; exact h2⟩
      cases k with
      | zero => rfl
      | succ k => exact h1 k (by simp only [List.length_cons] at h; omega)
/-- Which bytes are in comments. -/
def Said (cs : List (Nat × Nat)) (k : Nat) : Prop := ∃ c ∈ cs, c.1 ≤ k ∧ k < c.2
theorem coms_said (l : Lx.Bs) : ∀ (f : Nat) (pre : List (Nat × Nat)) (i : Nat), l.length + 1 ≤ i + f → (∀ c ∈ pre, c.1 < c.2 ∧ c.2 ≤ i ∧ c.2 ≤ l.length) → (Lx.cm false l).drop i = Lx.cm false (l.drop i) →
    (∀ k, k < i → k < l.length → ((Lx.cm false l)[k]? = some true ↔ Said pre k)) →
    (∀ c ∈ comsF l f pre i, c.1 < c.2 ∧ c.2 ≤ l.length) ∧ ∀ k, k < l.length → ((Lx.cm false l)[k]? = some true ↔ Said (comsF l f pre i) k)
  | 0, pre, i, hf, hp, _, h => ⟨fun c hc => ⟨(hp c hc).1, (hp c hc).2.2⟩, fun k hk => h k (by omega) hk⟩
  | f + 1, pre, i, hf, hp, hC, h => by
    by_cases hi : l.length ≤ i
    · rw [coms_end hi]
      exact ⟨fun c hc => ⟨(hp c hc).1, (hp c hc).2.2⟩, fun k hk => h k (by omega) hk⟩
    · have hlt : i < l.length := by omega
      have hcl : (Lx.cm false l).length = l.length := Lx.cm_len false l
      by_cases h37 : l[i]? = some 37
      · have hb := line_bounds hlt h37
        have hg : l[i] = 37 := by have := List.getElem?_eq_getElem hlt; rw [h37] at this; exact (Option.some.inj this).symm
        have e : Lx.lineTo l i = i + 1 + ((l.drop (i + 1)).takeWhile (fun c => decide (c.toNat ≠ 10))).length := by
          unfold Lx.lineTo; rw [drop_cons hlt, List.takeWhile_cons, hg]; simp; omega
        obtain ⟨c1, c2⟩ := cm_line (l.drop (i + 1))
        have hC1 : (Lx.cm false l).drop i = true :: Lx.cm true (l.drop (i + 1)) := by
          rw [hC, drop_cons hlt, hg]; rfl
        have hin : ∀ k, i ≤ k → k < Lx.lineTo l i → (Lx.cm false l)[k]? = some true := by
          intro k h1 h2
          have : ((Lx.cm false l).drop i)[k - i]? = some true := by
            rw [hC1]
            by_cases hk : k = i
            · subst hk; rw [Nat.sub_self]; rfl
            · rw [show k - i = (k - i - 1) + 1 from by omega, List.getElem?_cons_succ]
              exact c1 _ (by omega)
          rw [List.getElem?_drop, show i + (k - i) = k from by omega] at this
          exact this
        have hCe : (Lx.cm false l).drop (Lx.lineTo l i) = Lx.cm false (l.drop (Lx.lineTo l i)) := by
          have : (Lx.cm false l).drop (Lx.lineTo l i) = ((Lx.cm false l).drop i).drop (Lx.lineTo l i - i) := by rw [List.drop_drop]; congr 1; omega
          rw [this, hC1, show Lx.lineTo l i - i = ((l.drop (i + 1)).takeWhile (fun c => decide (c.toNat ≠ 10))).length + 1 from by omega, List.drop_succ_cons, c2, List.drop_drop]
          congr 2
          omega
        have hnl : ∀ hq : Lx.lineTo l i < l.length, l[Lx.lineTo l i].toNat = 10 := by
          intro hq
          have hd := List.head?_dropWhile_not (p := fun c : UInt8 => decide (c.toNat ≠ 10)) (l := l.drop i)
          have hde : (l.drop i).dropWhile (fun c => decide (c.toNat ≠ 10)) = (l.drop i).drop ((l.drop i).takeWhile (fun c => decide (c.toNat ≠ 10))).length := by
            have := List.takeWhile_append_dropWhile (p := fun c : UInt8 => decide (c.toNat ≠ 10)) (l := l.drop i)
            have h3 := List.drop_left (l₁ := (l.drop i).takeWhile (fun c : UInt8 => decide (c.toNat ≠ 10))) (l₂ := (l.drop i).dropWhile (fun c : UInt8 => decide (c.toNat ≠ 10)))
            rw [this] at h3
            exact h3.symm
          rw [hde, List.drop_drop, show i + ((l.drop i).takeWhile (fun c => decide (c.toNat ≠ 10))).length = Lx.lineTo l i from rfl, drop_cons hq] at hd
          simpa [List.getElem?_eq_getElem hq] using hd
        have hC3 : (Lx.cm false l).drop (Lx.lineTo l i + 1) = Lx.cm false (l.drop (Lx.lineTo l i + 1)) := by
          by_cases hq : Lx.lineTo l i < l.length
          · have h10 := hnl hq
            rw [drop_cons hq] at hCe
            simp only [Lx.cm] at hCe
            rw [if_neg (by omega)] at hCe
            have := congrArg (List.drop 1) hCe
            rw [List.drop_drop] at this
            exact this
          · rw [List.drop_of_length_le (by omega), List.drop_of_length_le (by omega)]; rfl
        have h10f : ∀ hq : Lx.lineTo l i < l.length, (Lx.cm false l)[Lx.lineTo l i]? = some false := by
          intro hq
          have h10 := hnl hq
          rw [drop_cons hq] at hCe
          simp only [Lx.cm] at hCe
          rw [if_neg (by omega)] at hCe
          have := congrArg (fun x => x[0]?) hCe
          simp only [List.getElem?_drop, List.getElem?_cons_zero, Nat.add_zero] at this
          exact this
        rw [coms_hit hlt h37]
        refine coms_said l f _ _ (by omega) ?_ hC3 ?_
        · intro c hc
          rcases List.mem_append.1 hc with hc | hc
          · have := hp c hc; exact ⟨this.1, by omega, this.2.2⟩
          · rw [List.mem_singleton] at hc; subst hc; exact ⟨hb.1, Nat.le_succ _, hb.2⟩
        · intro k h1 h2
          by_cases hk : k < i
          · rw [h k hk h2]
            constructor
            · rintro ⟨c, hc, hk1⟩; exact ⟨c, List.mem_append_left _ hc, hk1⟩
            · rintro ⟨c, hc, hk1⟩
              rcases List.mem_append.1 hc with hc | hc
              · exact ⟨c, hc, hk1⟩
              · rw [List.mem_singleton] at hc; subst hc
                have := hk1.1
                simp only at this
                omega
          · by_cases hk2 : k < Lx.lineTo l i
            · rw [hin k (by omega) hk2]
              simp only [true_iff]
              exact ⟨_, List.mem_append_right _ List.mem_cons_self, by show i ≤ k; omega, hk2⟩
            · obtain rfl : k = Lx.lineTo l i := by omega
              rw [h10f h2]
              simp only [Option.some.injEq, Bool.false_eq_true, false_iff]
              rintro ⟨c, hc, hk1⟩
              rcases List.mem_append.1 hc with hc | hc
              · have := hp c hc; omega
              · rw [List.mem_singleton] at hc; subst hc
                have := hk1.2
                simp only at this
                omega
      · have hne : l[i].toNat ≠ 37 := by
          intro e; apply h37; rw [List.getElem?_eq_getElem hlt]; congr 1; rw [← UInt8.toNat_inj]; exact e
        have hC1 : (Lx.cm false l).drop i = false :: Lx.cm false (l.drop (i + 1)) := by
          rw [hC, drop_cons hlt]; simp only [Lx.cm]; rw [if_neg hne]
        rw [coms_not hlt h37]
        refine coms_said l f pre (i + 1) (by omega) (fun c hc => ⟨(hp c hc).1, by have := (hp c hc).2.1; omega, (hp c hc).2.2⟩) ?_ ?_
        · have := congrArg (List.drop 1) hC1
          rw [List.drop_drop] at this
          exact this
        · intro k h1 h2
          by_cases hk : k < i
          · exact h k hk h2
          · obtain rfl : k = i := by omega
            have : (Lx.cm false l)[k]? = some false := by
              have := congrArg (fun x => x[0]?) hC1
              simp only [List.getElem?_drop, List.getElem?_cons_zero, Nat.add_zero] at this
              exact this
            rw [this]
            simp only [Option.some.injEq, Bool.false_eq_true, false_iff]
            rintro ⟨c, hc, hk1⟩
            have := hp c hc
            omega
theorem coms_all (l : Lx.Bs) : (∀ c ∈ coms l, c.1 < c.2 ∧ c.2 ≤ l.length) ∧ ∀ k, k < l.length → ((Lx.cm false l)[k]? = some true ↔ Said (coms l) k) :=
  coms_said l (l.length + 1) [] 0 (by omega) (by simp) rfl (fun k h => absurd h (Nat.not_lt_zero _))
end Go.Proofs.Ytihbecfjgdlebaa
