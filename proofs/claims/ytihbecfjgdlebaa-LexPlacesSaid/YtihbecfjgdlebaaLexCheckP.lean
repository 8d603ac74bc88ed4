/- Layer 1: what Check answers, said of scanning. -/
import Derived.Test.YtihbecfjgdlebaaLexAT
namespace Go.Proofs.Ytihbecfjgdlebaa
open Go.RowKit

theorem scanT_bad (l : Lx.Bs) : ∀ (f : Nat) (pre : List Lx.Tok) (i p er : Nat), Lx.scanT l f pre i = .bad p er → (er = 2 ∨ er = 10 ∨ er = 11) ∧ p ≤ l.length
  | 0, _, _, _, _, h => by simp [Lx.scanT] at h
  | f + 1, pre, i, p, er, h => by
    unfold Lx.scanT at h
    split at h
    · simp at h
    · split at h
      · simp at h; obtain ⟨rfl, rfl⟩ := h; exact ⟨.inr (.inl rfl), by omega⟩
      · split at h
        · simp at h; obtain ⟨rfl, rfl⟩ := h; exact ⟨.inl rfl, by omega⟩
        · split at h
          · simp at h; obtain ⟨rfl, rfl⟩ := h; exact ⟨.inr (.inr rfl), by omega⟩
          · exact scanT_bad l f _ _ _ _ h
theorem scan_err {l : Lx.Bs} {p er : Nat} (h : Lx.scan l = .bad p er) : er = 2 ∨ er = 10 ∨ er = 11 := by
  unfold Lx.scan at h
  split at h
  · simp at h; exact .inl h.2.symm
  · exact (scanT_bad _ _ _ _ _ _ h).1
theorem scanT_len (l : Lx.Bs) : ∀ (f : Nat) (pre : List Lx.Tok) (i : Nat) (ts : List Lx.Tok), pre.length ≤ 6000 → Lx.scanT l f pre i = .toks ts → ts.length ≤ 6000
  | 0, _, _, _, hp, h => by simp [Lx.scanT] at h; subst h; exact hp
  | f + 1, pre, i, ts, hp, h => by
    unfold Lx.scanT at h
    split at h
    · simp at h; subst h; exact hp
    · split at h
      · simp at h
      · split at h
        · simp at h
        · split at h
          · simp at h
          · exact scanT_len l f _ _ _ (by rw [List.length_append, List.length_singleton]; omega) h
theorem scan_len {l : Lx.Bs} {ts : List Lx.Tok} (h : Lx.scan l = .toks ts) : ts.length ≤ 6000 := by
  unfold Lx.scan at h
  split at h
  · simp at h
  · exact scanT_len _ _ _ _ _ (Nat.zero_le _) h

theorem flat_get (l : List Lx.Tok) : ∀ (i : Nat) (h : i < l.length), (flat l)[i * 3]? = some (.int .i64 l[i].kind) ∧ (flat l)[i * 3 + 1]? = some (.string ⟨l[i].text.toArray⟩) ∧ (flat l)[i * 3 + 2]? = some (.int .i64 l[i].pos) := by
  induction l with
  | nil => intro i h; simp at h
  | cons t l ih =>
    intro i h
    have e : flat (t :: l) = [.int .i64 t.kind, .string ⟨t.text.toArray⟩, .int .i64 t.pos] ++ flat l := rfl
    rw [e]
    cases i with
    | zero => exact ⟨rfl, rfl, rfl⟩
    | succ i =>
      obtain ⟨h0, h1, h2⟩ := ih i (by simpa using h)
      rw [show (i + 1) * 3 = i * 3 + 3 from by omega, show i * 3 + 3 + 1 = i * 3 + 1 + 3 from by omega, show i * 3 + 3 + 2 = i * 3 + 2 + 3 from by omega]
      exact ⟨h0, h1, h2⟩
theorem Toks.sl {B : Nat} {v : Value} {l : List Lx.Tok} {w : World} (h : Toks B v l w) : TokSl w v (l.map ofTok) := by
  obtain ⟨h1, h2⟩ := h
  rcases h2 with ⟨rfl, hn⟩ | ⟨g, cap, cur, rfl, hg, hh, r⟩
  · have : l = [] := List.length_eq_zero_iff.1 hn
    subst this
    exact ⟨none, 0, rfl, fun hne => absurd rfl hne⟩
  · refine ⟨some ⟨g, 0, none⟩, cap, by rw [List.length_map], fun _ => ⟨g, 0, rfl, fun i hi => ?_⟩⟩
    have hi' : i < l.length := by simpa using hi
    have hk : ∀ j, j < l.length * 3 → cur[j]? = (flat l)[j]? := fun j hj => by
      rw [← r.2.2.2, List.getElem?_take_of_lt hj, Array.getElem?_toList]
    obtain ⟨f0, f1, f2⟩ := flat_get l i hi'
    have he : (l.map ofTok)[i] = ofTok l[i] := List.getElem_map _
    rw [he]
    refine ⟨?_, ?_, ?_⟩
    · rw [cell_of_row _ _ _ _ _ _ hh, hk _ (by omega), show 0 + i * 3 = i * 3 from by omega, f0]; rfl
    · rw [cell_of_row _ _ _ _ _ _ hh, hk _ (by omega), show 0 + i * 3 + 1 = i * 3 + 1 from by omega, f1]; rfl
    · rw [cell_of_row _ _ _ _ _ _ hh, hk _ (by omega), show 0 + i * 3 + 2 = i * 3 + 2 from by omega, f2]; rfl

/-- What scansAs answers. -/
def scansB (s : ByteArray) (l : List AT) : Bool := match Lx.scan (bs s) with
  | .toks t => sameB (t.map ofTok) l
  | .bad _ _ => false

/-- What Check answers. -/
def checkB (a : AT) : Bool := scansB a.t [a]
end Go.Proofs.Ytihbecfjgdlebaa
