/- Layer 1: a list of comments' places, read. -/
import Derived.Test.YtihbecfjgdlebaaLexComments
namespace Go.Proofs.Ytihbecfjgdlebaa
open Go.RowKit

/-- The cells of one comment's place. -/
theorem flatC_get (l : List (Nat × Nat)) : ∀ (i : Nat) (h : i < l.length), (flatC l)[i * 2]? = some (.int .i64 l[i].1) ∧ (flatC l)[i * 2 + 1]? = some (.int .i64 l[i].2) := by
  induction l with
  | nil => intro i h; simp at h
  | cons t l ih =>
    intro i h
    have e : flatC (t :: l) = [.int .i64 t.1, .int .i64 t.2] ++ flatC l := rfl
    rw [e]
    cases i with
    | zero => exact ⟨rfl, rfl⟩
    | succ i =>
      obtain ⟨h0, h1⟩ := ih i (by simpa using h)
      rw [show (i + 1) * 2 = i * 2 + 2 from by omega, show i * 2 + 2 + 1 = i * 2 + 1 + 2 from by omega]
      exact ⟨h0, h1⟩
/-- A slice value that reads as these places, in blocks from B on. -/
def ComSl (w : World) (B : Nat) (v : Value) (l : List (Nat × Nat)) : Prop :=
  ∃ a cap, v = .slice a l.length cap ∧ (l ≠ [] → ∃ b, a = some ⟨b, 0, none⟩ ∧ B ≤ b ∧ b < w.heap.size ∧ ∀ i, (h : i < l.length) → w.cell? ⟨b, i * 2, none⟩ = some (.int .i64 l[i].1) ∧ w.cell? ⟨b, i * 2 + 1, none⟩ = some (.int .i64 l[i].2))
theorem Coms.sl {B : Nat} {v : Value} {l : List (Nat × Nat)} {w : World} (h : Coms B v l w) : ComSl w B v l := by
  obtain ⟨h1, h2⟩ := h
  rcases h2 with ⟨rfl, hn⟩ | ⟨g, cap, cur, rfl, hg, hh, r⟩
  · have : l = [] := List.length_eq_zero_iff.1 hn
    subst this
    exact ⟨none, 0, rfl, fun hne => absurd rfl hne⟩
  · refine ⟨some ⟨g, 0, none⟩, cap, rfl, fun _ => ⟨g, rfl, hg, heap_lt hh, fun i hi => ?_⟩⟩
    have hk : ∀ j, j < l.length * 2 → cur[j]? = (flatC l)[j]? := fun j hj => by
      rw [← r.2.2.2, List.getElem?_take_of_lt hj, Array.getElem?_toList]
    obtain ⟨f0, f1⟩ := flatC_get l i hi
    refine ⟨?_, ?_⟩
    · rw [cell_of_row _ _ _ _ _ _ hh, hk _ (by omega), f0]
    · rw [cell_of_row _ _ _ _ _ _ hh, hk _ (by omega), f1]

/-- A slice value that reads as these numbers. -/
def IntSl (w : World) (v : Value) (l : List Nat) : Prop :=
  ∃ a cap, v = .slice a l.length cap ∧ (l ≠ [] → ∃ b, a = some ⟨b, 0, none⟩ ∧ ∀ i, (h : i < l.length) → w.cell? ⟨b, i, none⟩ = some (.int .i64 l[i]))
theorem ownsInts {w : World} {B : Nat} {v : Value} {l : List Nat} (h : w.ownsRow B 3 1 v l.length (intsV l)) : IntSl w v l := by
  obtain ⟨h1, h2⟩ := h
  rcases h2 with ⟨rfl, hn⟩ | ⟨g, cap, cur, rfl, hg, hh, r⟩
  · have : l = [] := List.length_eq_zero_iff.1 hn
    subst this
    exact ⟨none, 0, rfl, fun hne => absurd rfl hne⟩
  · refine ⟨some ⟨g, 0, none⟩, cap, rfl, fun _ => ⟨g, rfl, fun i hi => ?_⟩⟩
    rw [cell_of_row _ _ _ _ _ _ hh]
    have : cur.toList[i]? = (intsV l)[i]? := by rw [← r.2.2.2, List.getElem?_take_of_lt (by omega)]
    rw [Array.getElem?_toList] at this
    rw [this]
    unfold intsV
    rw [List.getElem?_map, List.getElem?_eq_getElem hi]; rfl
theorem IntSl.below {w w' : World} {v : Value} {l : List Nat} (h : IntSl w v l) (hb : Below w.heap.size w w') : IntSl w' v l := by
  obtain ⟨a, cap, rfl, hl⟩ := h
  refine ⟨a, cap, rfl, fun hne => ?_⟩
  obtain ⟨b, rfl, hc⟩ := hl hne
  exact ⟨b, rfl, fun i hi => (hb.cell (p := ⟨b, i, none⟩) (block_lt_of_cell (hc i hi))).trans (hc i hi)⟩
theorem ComSl.below {w w' : World} {B : Nat} {v : Value} {l : List (Nat × Nat)} (h : ComSl w B v l) (hb : Below w.heap.size w w') : ComSl w' B v l := by
  obtain ⟨a, cap, rfl, hl⟩ := h
  refine ⟨a, cap, rfl, fun hne => ?_⟩
  obtain ⟨b, rfl, h1, h2, hc⟩ := hl hne
  exact ⟨b, rfl, h1, Nat.lt_of_lt_of_le h2 hb.size, fun i hi => ⟨(hb.cell (p := ⟨b, i * 2, none⟩) h2).trans (hc i hi).1, (hb.cell (p := ⟨b, i * 2 + 1, none⟩) h2).trans (hc i hi).2⟩⟩
end Go.Proofs.Ytihbecfjgdlebaa
