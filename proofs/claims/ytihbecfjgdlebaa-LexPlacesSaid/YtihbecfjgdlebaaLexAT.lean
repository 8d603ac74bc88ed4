/- Layer 1: lists of tokens, of whatever values. -/
import Derived.Test.YtihbecfjgdlebaaLexScan
namespace Go.Proofs.Ytihbecfjgdlebaa
open Go.RowKit

/-- A token of whatever values. -/
structure AT where
  k : Int
  t : ByteArray
  p : Int
def AT.v (a : AT) : Value := .agg #[.int .i64 a.k, .string a.t, .int .i64 a.p]
def ofTok (t : Lx.Tok) : AT := ⟨t.kind, ⟨t.text.toArray⟩, t.pos⟩

/-- The cells of one token at an address. -/
def TokAt (w : World) (b o : Nat) (a : AT) : Prop :=
  w.cell? ⟨b, o, none⟩ = some (.int .i64 a.k) ∧ w.cell? ⟨b, o + 1, none⟩ = some (.string a.t) ∧ w.cell? ⟨b, o + 2, none⟩ = some (.int .i64 a.p)
/-- A slice value that reads as these tokens. -/
def TokSl (w : World) (v : Value) (l : List AT) : Prop :=
  ∃ a cap, v = .slice a l.length cap ∧ (l ≠ [] → ∃ b o, a = some ⟨b, o, none⟩ ∧ ∀ i, (h : i < l.length) → TokAt w b (o + i * 3) l[i])

theorem TokAt.below {w w' : World} {b o : Nat} {a : AT} (h : TokAt w b o a) (hb : Below w.heap.size w w') : TokAt w' b o a := by
  have hlt := block_lt_of_cell h.1
  exact ⟨(hb.cell (p := ⟨b, o, none⟩) hlt).trans h.1, (hb.cell (p := ⟨b, o + 1, none⟩) hlt).trans h.2.1, (hb.cell (p := ⟨b, o + 2, none⟩) hlt).trans h.2.2⟩
theorem TokSl.below {w w' : World} {v : Value} {l : List AT} (h : TokSl w v l) (hb : Below w.heap.size w w') : TokSl w' v l := by
  obtain ⟨a, cap, rfl, hl⟩ := h
  refine ⟨a, cap, rfl, fun hne => ?_⟩
  obtain ⟨b, o, rfl, hc⟩ := hl hne
  exact ⟨b, o, rfl, fun i hi => (hc i hi).below hb⟩

/-- Kinds and Texts are the same. -/
def sameB : List AT → List AT → Bool
  | [], [] => true
  | a :: l, b :: m => (a.k == b.k && (a.t.toList == b.t.toList)) && sameB l m
  | _, _ => false
theorem sameB_len {l m : List AT} (h : l.length ≠ m.length) : sameB l m = false := by
  induction l generalizing m with
  | nil => cases m with
    | nil => exact absurd rfl h
    | cons b m => rfl
  | cons a l ih => cases m with
    | nil => rfl
    | cons b m => simp only [sameB]; rw [ih (by simpa using h)]; simp
end Go.Proofs.Ytihbecfjgdlebaa
