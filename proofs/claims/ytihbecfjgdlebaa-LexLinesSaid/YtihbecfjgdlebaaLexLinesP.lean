/- Layer 1: lines and places, without walks. -/
import Derived.Test.YtihbecfjgdlebaaLexSaneW
namespace Go.Proofs.Ytihbecfjgdlebaa
open Go.RowKit

/-- Line feeds among the first k bytes; where the line of k begins. -/
def cnL (l : Lx.Bs) : Nat → Nat
  | 0 => 0
  | k + 1 => cnL l k + (if l[k]? = some 10 then 1 else 0)
def lsL (l : Lx.Bs) : Nat → Nat
  | 0 => 0
  | k + 1 => if l[k]? = some 10 then k + 1 else lsL l k

theorem lsL_le (l : Lx.Bs) (k : Nat) : lsL l k ≤ k := by
  induction k with
  | zero => exact Nat.le_refl _
  | succ k ih => simp only [lsL]; split <;> omega
theorem cnL_le (l : Lx.Bs) (k : Nat) : cnL l k ≤ k := by
  induction k with
  | zero => exact Nat.le_refl _
  | succ k ih => simp only [cnL]; split <;> omega
theorem cnL_ls (l : Lx.Bs) (k : Nat) : cnL l (lsL l k) = cnL l k ∧ lsL l (lsL l k) = lsL l k := by
  induction k with
  | zero => exact ⟨rfl, rfl⟩
  | succ k ih =>
    by_cases h : l[k]? = some 10
    · have e : lsL l (k + 1) = k + 1 := by simp only [lsL]; rw [if_pos h]
      rw [e]; exact ⟨rfl, e⟩
    · have e : lsL l (k + 1) = lsL l k := by simp only [lsL]; rw [if_neg h]
      have e2 : cnL l (k + 1) = cnL l k := by simp only [cnL]; rw [if_neg h]; rfl
      rw [e, e2]; exact ih
theorem lnAt_length (l : Lx.Bs) (k : Nat) : (lnAt l k).length = cnL l k + 1 := by
  induction k with
  | zero => rfl
  | succ k ih => simp only [lnAt, cnL, List.length_append, ih]; split <;> simp <;> omega
theorem lnAt_last (l : Lx.Bs) (k : Nat) : (lnAt l k)[cnL l k]? = some (lsL l k) := by
  induction k with
  | zero => rfl
  | succ k ih =>
    by_cases h : l[k]? = some 10
    · simp only [lnAt, cnL, lsL, if_pos h]
      rw [List.getElem?_append_right (by rw [lnAt_length]; omega), lnAt_length]
      simp
    · simp only [lnAt, cnL, lsL, if_neg h, List.append_nil, Nat.add_zero]
      exact ih
theorem lnAt_split (l : Lx.Bs) (i : Nat) : ∀ n, i ≤ n → ∃ r, lnAt l n = lnAt l i ++ r ∧ ∀ x ∈ r, i < x := by
  intro n
  induction n with
  | zero => intro h; obtain rfl : i = 0 := by omega
            exact ⟨[], by simp, by simp⟩
  | succ n ih =>
    intro h
    by_cases e : i = n + 1
    · subst e; exact ⟨[], by simp, by simp⟩
    · obtain ⟨r, h1, h2⟩ := ih (by omega)
      refine ⟨r ++ (if l[n]? = some 10 then [n + 1] else []), by simp only [lnAt]; rw [h1, List.append_assoc], fun x hx => ?_⟩
      rcases List.mem_append.1 hx with hx | hx
      · exact h2 x hx
      · split at hx
        · obtain rfl := List.mem_singleton.1 hx; omega
        · cases hx
theorem lnAt_at (l : Lx.Bs) {i n : Nat} (h : i ≤ n) : (lnAt l n)[cnL l i]? = some (lsL l i) := by
  obtain ⟨r, h1, _⟩ := lnAt_split l i n h
  rw [h1, List.getElem?_append_left (by rw [lnAt_length]; omega)]
  exact lnAt_last l i
theorem lnAt_next (l : Lx.Bs) {i n : Nat} (h : i ≤ n) {x : Nat} (hx : (lnAt l n)[cnL l i + 1]? = some x) : i < x := by
  obtain ⟨r, h1, h2⟩ := lnAt_split l i n h
  rw [h1, List.getElem?_append_right (by rw [lnAt_length]; omega)] at hx
  exact h2 x (List.mem_of_getElem? hx)
theorem cnL_mono (l : Lx.Bs) {i n : Nat} (h : i ≤ n) : cnL l i ≤ cnL l n := by
  obtain ⟨r, h1, _⟩ := lnAt_split l i n h
  have h3 := congrArg List.length h1
  rw [List.length_append, lnAt_length, lnAt_length] at h3
  omega

theorem count_cn (s : ByteArray) (i : Nat) (h : i ≤ s.size) : Lib.countByte (s.extract 0 i).data.toList 10 = cnL (bs s) i := by
  have e : (s.extract 0 i).data.toList = (bs s).take i := by simp [bs]
  rw [e]
  unfold Lib.countByte
  clear e
  induction i with
  | zero => rfl
  | succ k ih =>
    have hk : k < (bs s).length := by rw [bs_len]; omega
    rw [List.take_succ_eq_append_getElem hk, List.count_append, ih (by omega)]
    simp only [cnL]
    rw [List.getElem?_eq_getElem hk]
    by_cases h10 : (bs s)[k] = 10
    · rw [h10]; rfl
    · rw [if_neg (by simpa using h10), List.count_singleton, if_neg (by simpa using h10)]
theorem last_ls (s : ByteArray) (i : Nat) (h : i ≤ s.size) : Lib.lastIndexByte (s.extract 0 i) 10 = (lsL (bs s) i : Int) - 1 := by
  have hz : (s.extract 0 i).size = i := by rw [ByteArray.size_extract]; omega
  have key : ∀ k, k ≤ i → Lib.lastIdx (s.extract 0 i) 10 k = (lsL (bs s) k : Int) - 1 := by
    intro k
    induction k with
    | zero => intro _; rfl
    | succ k ih =>
      intro hk
      have hb : (s.extract 0 i).data[k]! = s[k]'(by omega) := by
        rw [getElem!_pos _ k (by have := hz; simp only [ByteArray.size] at this; omega)]
        simp
        rfl
      have hbk : (bs s)[k]? = some (s[k]'(by omega)) := by rw [List.getElem?_eq_getElem (by rw [bs_len]; omega), bs_get (by omega)]
      simp only [Lib.lastIdx, lsL]
      rw [hb, hbk]
      by_cases h10 : s[k]'(by omega) = 10
      · rw [if_pos (by rw [h10]; rfl), if_pos (by rw [h10])]; omega
      · rw [if_neg (by intro e; exact h10 (by rw [← UInt8.toNat_inj]; exact Int.ofNat_inj.1 e)), if_neg (by simpa using h10)]
        exact ih (by omega)
  have := key i (Nat.le_refl _)
  unfold Lib.lastIndexByte
  rw [hz]
  exact this

/-- Place, within the text. -/
theorem place_ok (s : ByteArray) (i : Nat) (w : World) (hs : s.size ≤ 4611686018427387000) (h : i ≤ s.size) :
    Calls Try.prog 36 #[.string s, .int .i64 i] w fun e w' =>
      e = .returned (.tuple #[.int .i64 ((cnL (bs s) i : Int) + 1), .int .i64 ((i : Int) - lsL (bs s) i + 1), .int .i64 0]) ∧ w' = w := by
  refine (place_in s i w hs h).mono ?_
  rintro e w' ⟨rfl, hw⟩
  rw [count_cn s i h, last_ls s i h, show ((i : Int) - ((lsL (bs s) i : Int) - 1)) = (i : Int) - lsL (bs s) i + 1 from by omega]
  exact ⟨rfl, hw⟩
end Go.Proofs.Ytihbecfjgdlebaa
