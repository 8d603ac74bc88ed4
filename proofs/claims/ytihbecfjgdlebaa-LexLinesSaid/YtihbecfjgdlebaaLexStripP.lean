/- The plain mathematics of layer 1, on: a text without its comments. -/
import Derived.Test.YtihbecfjgdlebaaLexGlue
namespace Go.Proofs.Ytihbecfjgdlebaa
namespace Lx

/-- The text without its comments ('b': a comment is under way). -/
def stripL : Bool → Bs → Bs
  | _, [] => []
  | true, c :: r => if c.toNat = 10 then c :: stripL false r else stripL true r
  | false, c :: r => if c.toNat = 37 then stripL true r else c :: stripL false r

theorem stripL_len : ∀ (b : Bool) (r : Bs), (stripL b r).length ≤ r.length
  | _, [] => by simp [stripL]
  | true, c :: r => by
    simp only [stripL]
    have h1 := stripL_len true r
    have h2 := stripL_len false r
    split <;> simp <;> omega
  | false, c :: r => by
    simp only [stripL]
    have h1 := stripL_len true r
    have h2 := stripL_len false r
    split <;> simp <;> omega
theorem stripL_none : ∀ (b : Bool) (r : Bs), ∀ c ∈ stripL b r, c.toNat ≠ 37
  | _, [], c, h => by simp [stripL] at h
  | true, a :: r, c, h => by
    simp only [stripL] at h
    split at h
    · rename_i ha
      rcases List.mem_cons.1 h with rfl | h
      · omega
      · exact stripL_none false r c h
    · exact stripL_none true r c h
  | false, a :: r, c, h => by
    simp only [stripL] at h
    split at h
    · exact stripL_none true r c h
    · rename_i ha
      rcases List.mem_cons.1 h with rfl | h
      · exact ha
      · exact stripL_none false r c h
theorem stripL_same : ∀ r : Bs, (∀ c ∈ r, c.toNat ≠ 37) → stripL false r = r
  | [], _ => rfl
  | c :: r, h => by
    simp only [stripL]
    rw [if_neg (h c List.mem_cons_self), stripL_same r fun d hd => h d (List.mem_cons_of_mem _ hd)]
theorem stripL_app : ∀ (x r : Bs), (∀ c ∈ x, c.toNat ≠ 37) → stripL false (x ++ r) = x ++ stripL false r
  | [], _, _ => rfl
  | c :: x, r, h => by
    rw [List.cons_append]
    simp only [stripL]
    rw [if_neg (h c List.mem_cons_self), stripL_app x r fun d hd => h d (List.mem_cons_of_mem _ hd), List.cons_append]
theorem ten {c : UInt8} (h : c.toNat = 10) : c = 10 := by rw [← UInt8.toNat_inj]; exact h
theorem stripL_count : ∀ (b : Bool) (r : Bs), (stripL b r).count 10 = r.count 10
  | _, [] => by simp [stripL]
  | true, c :: r => by
    simp only [stripL]
    split
    · rw [List.count_cons, List.count_cons, stripL_count false r]
    · rename_i h
      rw [stripL_count true r, List.count_cons, if_neg (by simp; intro e; exact h (by rw [e]; rfl))]
      rfl
  | false, c :: r => by
    simp only [stripL]
    split
    · rename_i h
      rw [stripL_count true r, List.count_cons, if_neg (by simp; intro e; rw [e] at h; cases h)]
      rfl
    · rw [List.count_cons, List.count_cons, stripL_count false r]

theorem strip_skip : ∀ (b : Bool) (r : Bs), (stripL b r).drop (skipC false (stripL b r)) = stripL false (r.drop (skipC b r))
  | b, [] => by cases b <;> rfl
  | true, c :: r => by
    simp only [stripL, skipC]
    by_cases h : c.toNat = 10
    · rw [if_pos h, if_pos h]
      have hb : blank c = true := by simp [blank, h]
      simp only [skipC]
      rw [if_pos hb, Nat.add_comm, List.drop_succ_cons, strip_skip false r, Nat.add_comm, List.drop_succ_cons]
    · rw [if_neg h, if_neg h, strip_skip true r, Nat.add_comm, List.drop_succ_cons]
  | false, c :: r => by
    simp only [stripL, skipC]
    by_cases hb : blank c = true
    · have h37 : c.toNat ≠ 37 := by
        simp only [blank, Bool.or_eq_true, decide_eq_true_eq] at hb; omega
      rw [if_neg h37, if_pos hb]
      simp only [skipC]
      rw [if_pos hb, Nat.add_comm, List.drop_succ_cons, strip_skip false r, Nat.add_comm, List.drop_succ_cons]
    · by_cases h37 : c.toNat = 37
      · rw [if_pos h37, if_neg hb, if_pos h37, strip_skip true r, Nat.add_comm, List.drop_succ_cons]
      · rw [if_neg h37, if_neg hb, if_neg h37]
        simp only [skipC]
        rw [if_neg hb, if_neg h37, List.drop_zero, List.drop_zero]
        simp only [stripL]
        rw [if_neg h37]
theorem stripL_true (r : Bs) : stripL true r = [] ∨ ∃ y, stripL true r = 10 :: y := by
  induction r with
  | nil => exact .inl rfl
  | cons c r ih =>
    simp only [stripL]
    split
    · rename_i h; exact .inr ⟨_, by rw [ten h]⟩
    · exact ih
theorem stopC_feed {x : Bs} {k : Nat} (h : tokR x = some (k, x.length)) : stopC x 10 = true := by
  cases x with
  | nil => simp [tokR] at h
  | cons a x =>
    have hp : part 10 = false := by decide
    unfold stopC
    simp [hp]
theorem strip_tok {x r : Bs} {k : Nat} (hx : tokR x = some (k, x.length)) (h : tokR (x ++ r) = some (k, x.length)) (h64 : r[0]? ≠ some 64) : tokR (x ++ stripL false r) = some (k, x.length) := by
  cases r with
  | nil => simpa [stripL] using hx
  | cons c y =>
    have hc : c ≠ 64 := by rintro rfl; exact h64 rfl
    have hst := ((tokR_stop x c y k hc).1 h).2
    simp only [stripL]
    split
    · rcases stripL_true y with e | ⟨z, e⟩
      · rw [e, List.append_nil]; exact hx
      · rw [e]; exact (tokR_stop x 10 z k (by decide)).2 ⟨hx, stopC_feed hx⟩
    · exact (tokR_stop x c _ k hc).2 ⟨hx, hst⟩
theorem skip_all {r : Bs} (h : skipC false r = r.length) : r.drop (skipC false r) = [] := by rw [h]; exact List.drop_of_length_le (Nat.le_refl _)
/-- Without its comments a text has the same tokens. -/
theorem strip_runs : ∀ (l : List KT) (r : Bs), Runs r l → Runs (stripL false r) l
  | [], r, h => by
    have h' : skipC false r = r.length := h
    have e := strip_skip false r
    rw [skip_all h'] at e
    have e2 := congrArg List.length e
    simp [stripL] at e2
    have := skipC_le false (stripL false r)
    show skipC false (stripL false r) = _
    omega
  | a :: l, r, h => by
    have ha : IsTok a := runs_tok _ _ h a List.mem_cons_self
    obtain ⟨h1, h2, h3, h4⟩ := h
    have hd : r.drop (skipC false r) = a.x ++ (r.drop (skipC false r)).drop a.x.length := by
      conv => lhs; rw [← List.take_append_drop a.x.length (r.drop (skipC false r)), h2]
    obtain ⟨y, hy⟩ : ∃ y, (r.drop (skipC false r)).drop a.x.length = y := ⟨_, rfl⟩
    rw [hy] at hd h4
    have e := strip_skip false r
    rw [hd, stripL_app _ _ (fun c hc => (tokR_mem ha.1 c hc).2)] at e
    unfold Runs
    rw [e]
    exact ⟨strip_tok ha.1 (by rw [← hd]; exact h1) (runs_head _ _ h4), List.take_left, h3, by rw [List.drop_left]; exact strip_runs l y h4⟩

/-- What Strip has written behind these comments, and where it goes on. -/
def stripF (l : Bs) (pre : List (Nat × Nat)) : Bs × Nat := pre.foldl (fun p c => (p.1 ++ slice l p.2 c.1, c.2)) ([], 0)
theorem stripF_snoc (l : Bs) (pre : List (Nat × Nat)) (c : Nat × Nat) : stripF l (pre ++ [c]) = ((stripF l pre).1 ++ slice l (stripF l pre).2 c.1, c.2) := by
  unfold stripF; rw [List.foldl_append]; rfl
theorem stripL_line {l : Bs} {i : Nat} (hi : i < l.length) (h : l[i]? = some 37) : stripL false (l.drop i) = slice l (lineTo l i) (lineTo l i + 1) ++ stripL false (l.drop (lineTo l i + 1)) := by
  have key : ∀ r : Bs, stripL true r = (r.drop ((r.takeWhile (fun c => decide (c.toNat ≠ 10))).length)).take 1 ++ stripL false (r.drop ((r.takeWhile (fun c => decide (c.toNat ≠ 10))).length + 1)) := by
    intro r
    induction r with
    | nil => rfl
    | cons c r ih =>
      simp only [stripL]
      by_cases hc : c.toNat = 10
      · rw [if_pos hc, List.takeWhile_cons, if_neg (by simp [hc])]; rfl
      · rw [if_neg hc, List.takeWhile_cons, if_pos (by simp [hc]), ih]; rfl
  have hg : l[i] = 37 := by have := List.getElem?_eq_getElem hi; rw [h] at this; exact (Option.some.inj this).symm
  have e : lineTo l i = i + 1 + ((l.drop (i + 1)).takeWhile (fun c => decide (c.toNat ≠ 10))).length := by
    unfold lineTo; rw [List.drop_eq_getElem_cons hi, List.takeWhile_cons, hg]; simp; omega
  rw [e, List.drop_eq_getElem_cons hi, hg]
  simp only [stripL]
  rw [if_pos (show UInt8.toNat 37 = 37 from rfl), key]
  unfold slice
  rw [List.drop_drop, List.drop_drop, Nat.add_sub_cancel_left]
  rfl
end Lx
end Go.Proofs.Ytihbecfjgdlebaa
