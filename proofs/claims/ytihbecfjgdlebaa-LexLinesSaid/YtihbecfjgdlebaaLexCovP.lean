/- The plain mathematics of layer 1, on: tokens and comments cover a text but for its blanks. -/
import Derived.Test.YtihbecfjgdlebaaLexGlue
namespace Go.Proofs.Ytihbecfjgdlebaa
namespace Lx

/-- Of each byte: is it in a comment? ('b': one is under way) -/
def cm : Bool → Bs → List Bool
  | _, [] => []
  | true, c :: r => if c.toNat = 10 then false :: cm false r else true :: cm true r
  | false, c :: r => if c.toNat = 37 then true :: cm true r else false :: cm false r

theorem cm_len : ∀ (b : Bool) (r : Bs), (cm b r).length = r.length
  | b, [] => by cases b <;> rfl
  | true, c :: r => by
    simp only [cm]; split
    · simp [cm_len false r]
    · simp [cm_len true r]
  | false, c :: r => by
    simp only [cm]; split
    · simp [cm_len true r]
    · simp [cm_len false r]
theorem cm_skip : ∀ (b : Bool) (r : Bs), (cm b r).drop (skipC b r) = cm false (r.drop (skipC b r))
  | b, [] => by cases b <;> rfl
  | true, c :: r => by
    simp only [cm, skipC]
    by_cases h : c.toNat = 10
    · rw [if_pos h, if_pos h, Nat.add_comm, List.drop_succ_cons, List.drop_succ_cons, cm_skip false r]
    · rw [if_neg h, if_neg h, Nat.add_comm, List.drop_succ_cons, List.drop_succ_cons, cm_skip true r]
  | false, c :: r => by
    simp only [cm, skipC]
    by_cases hb : blank c = true
    · have h37 : c.toNat ≠ 37 := by
        simp only [blank, Bool.or_eq_true, decide_eq_true_eq] at hb; omega
      rw [if_pos hb, if_neg h37, Nat.add_comm, List.drop_succ_cons, List.drop_succ_cons, cm_skip false r]
    · by_cases h37 : c.toNat = 37
      · rw [if_pos h37, if_neg hb, if_pos h37, Nat.add_comm, List.drop_succ_cons, List.drop_succ_cons, cm_skip true r]
      · rw [if_neg h37, if_neg hb, if_neg h37, List.drop_zero, List.drop_zero]
        simp only [cm]
        rw [if_neg h37]
theorem cm_blank : ∀ (b : Bool) (r : Bs) (k : Nat), k < skipC b r → (cm b r)[k]? = some true ∨ r[k]?.map blank = some true
  | b, [], k, h => by cases b <;> simp [skipC] at h
  | true, c :: r, k, h => by
    simp only [cm, skipC] at h ⊢
    by_cases hc : c.toNat = 10
    · rw [if_pos hc] at h ⊢
      cases k with
      | zero => right; simp [blank, hc]
      | succ k => exact cm_blank false r k (by omega)
    · rw [if_neg hc] at h ⊢
      cases k with
      | zero => left; rfl
      | succ k => exact cm_blank true r k (by omega)
  | false, c :: r, k, h => by
    simp only [cm, skipC] at h ⊢
    by_cases hb : blank c = true
    · have h37 : c.toNat ≠ 37 := by
        simp only [blank, Bool.or_eq_true, decide_eq_true_eq] at hb; omega
      rw [if_neg h37]
      rw [if_pos hb] at h
      cases k with
      | zero => right; simp [hb]
      | succ k => exact cm_blank false r k (by omega)
    · rw [if_neg hb] at h
      by_cases h37 : c.toNat = 37
      · rw [if_pos h37] at h ⊢
        cases k with
        | zero => left; rfl
        | succ k => exact cm_blank true r k (by omega)
      · rw [if_neg h37] at h; omega
theorem cm_app : ∀ (x r : Bs), (∀ c ∈ x, c.toNat ≠ 37) → cm false (x ++ r) = x.map (fun _ => false) ++ cm false r
  | [], _, _ => rfl
  | c :: x, r, h => by
    rw [List.cons_append]
    simp only [cm]
    rw [if_neg (h c List.mem_cons_self), cm_app x r fun d hd => h d (List.mem_cons_of_mem _ hd)]
    rfl

/-- From i on, these tokens and the comments cover the text. -/
def Cov (l : Bs) (C : List Bool) : Nat → List Tok → Prop
  | i, [] => i ≤ l.length ∧ ∀ k, i ≤ k → k < l.length → C[k]? = some true ∨ l[k]?.map blank = some true
  | i, t :: ts => i ≤ t.pos ∧ (∀ k, i ≤ k → k < t.pos → C[k]? = some true ∨ l[k]?.map blank = some true) ∧ t.pos + t.text.length ≤ l.length ∧
      slice l t.pos (t.pos + t.text.length) = t.text ∧ (∀ k, t.pos ≤ k → k < t.pos + t.text.length → C[k]? = some false) ∧ IsTok t.kt ∧ Cov l C (t.pos + t.text.length) ts

theorem scanP_cov (l : Bs) : ∀ (f : Nat) (pre ts : List Tok) (o : Nat), l.length < o + f → o ≤ l.length → (cm false l).drop o = cm false (l.drop o) → scanP f pre o (l.drop o) = .toks (pre ++ ts) → Cov l (cm false l) o ts
  | 0, _, _, _, h, h2, _, _ => absurd h (by omega)
  | f + 1, pre, ts, o, hf, ho, hC, h => by
    have hruns : ∃ us, pre ++ ts = pre ++ us ∧ Runs (l.drop o) (us.map Tok.kt) := scanP_runs (f + 1) pre _ o _ (by rw [List.length_drop]; omega) h
    obtain ⟨us, hus, hR⟩ := hruns
    have := List.append_cancel_left hus
    subst this
    unfold scanP at h
    obtain ⟨s, hs⟩ : ∃ s, skipC false (l.drop o) = s := ⟨_, rfl⟩
    have hsk : ∀ k, o ≤ k → k < o + s → (cm false l)[k]? = some true ∨ l[k]?.map blank = some true := by
      intro k h1 h2
      have := cm_blank false (l.drop o) (k - o) (by omega)
      rw [← hC, List.getElem?_drop, List.getElem?_drop, show o + (k - o) = k from by omega] at this
      exact this
    have hle := skipC_le false (l.drop o)
    rw [List.length_drop] at hle
    have hC2 : (cm false l).drop (o + s) = cm false (l.drop (o + s)) := by
      rw [← List.drop_drop, hC, ← List.drop_drop, ← hs, cm_skip]
    rw [hs] at h hle
    rw [List.drop_drop] at h
    rcases scanS_inv h with ⟨e, he⟩ | ⟨k, n, h0, ht, h6, h4, hsn⟩
    · have : ts = [] := by
        have := congrArg List.length he
        simp only [List.length_append] at this
        exact List.length_eq_zero_iff.1 (by omega)
      subst this
      have hl := congrArg List.length e
      simp at hl
      exact ⟨ho, fun k h1 h2 => hsk k h1 (by omega)⟩
    · have hn := tokR_lt ht
      rw [List.length_drop] at hn
      obtain ⟨vs, hvs, _⟩ := scanP_runs f _ _ _ _ (by rw [List.length_drop, List.length_drop]; omega) hsn
      rw [List.append_assoc] at hvs
      have := List.append_cancel_left hvs
      subst this
      have hlen : ((l.drop (o + s)).take n).length = n := by rw [List.length_take, List.length_drop]; omega
      have hit : IsTok ⟨k, (l.drop (o + s)).take n⟩ := runs_tok _ _ hR _ (by simp [Tok.kt])
      have happ : l.drop (o + s) = (l.drop (o + s)).take n ++ l.drop (o + s + n) := by
        conv => lhs; rw [← List.take_append_drop n (l.drop (o + s)), List.drop_drop]
      have hcm : cm false (l.drop (o + s)) = ((l.drop (o + s)).take n).map (fun _ => false) ++ cm false (l.drop (o + s + n)) := by
        conv => lhs; rw [happ]
        exact cm_app _ _ fun c hc => (tokR_mem hit.1 c hc).2
      have hC3 : (cm false l).drop (o + s + n) = cm false (l.drop (o + s + n)) := by
        rw [← List.drop_drop, hC2, hcm]
        exact List.drop_left' (by rw [List.length_map]; exact hlen)
      rw [List.drop_drop, ← List.append_assoc] at hsn
      have ih := scanP_cov l f _ vs (o + s + n) (by omega) (by omega) hC3 hsn
      rw [List.singleton_append]
      refine ⟨by show o ≤ o + s; omega, fun k h1 h2 => hsk k h1 h2, ?_, ?_, ?_, hit, ?_⟩
      · show o + s + ((l.drop (o + s)).take n).length ≤ l.length
        omega
      · show slice l (o + s) (o + s + ((l.drop (o + s)).take n).length) = (l.drop (o + s)).take n
        rw [hlen]; unfold slice; rw [Nat.add_sub_cancel_left]
      · intro k h1 h2
        have h1 : o + s ≤ k := h1
        have h2 : k < o + s + ((l.drop (o + s)).take n).length := h2
        rw [hlen] at h2
        have : ((cm false l).drop (o + s))[k - (o + s)]? = some false := by
          rw [hC2, hcm, List.getElem?_append_left (by rw [List.length_map, hlen]; omega), List.getElem?_map, List.getElem?_eq_getElem (by rw [hlen]; omega)]
          rfl
        rw [List.getElem?_drop, show o + s + (k - (o + s)) = k from by omega] at this
        exact this
      · show Cov l (cm false l) (o + s + ((l.drop (o + s)).take n).length) vs
        rw [hlen]; exact ih
theorem scan_cov {l : Bs} {ts : List Tok} (h : scan l = .toks ts) : Cov l (cm false l) 0 ts := by
  rw [scan_rel] at h
  split at h
  · cases h
  · exact scanP_cov l (l.length + 1) [] ts 0 (by omega) (Nat.zero_le _) rfl h
end Lx
end Go.Proofs.Ytihbecfjgdlebaa
