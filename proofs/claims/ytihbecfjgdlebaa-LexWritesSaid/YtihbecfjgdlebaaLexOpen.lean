/- A list of tokens that came in, opened. -/
import Derived.Test.YtihbecfjgdlebaaLexArgs
import Derived.Test.YtihbecfjgdlebaaLexSame
import Derived.Deep.Slices
import Derived.Deep.Fields
import Derived.ChangeSame
namespace Go.Proofs.Ytihbecfjgdlebaa
open Go.ChangeShapes Go.WideShapes Go.Deep Go.ChangeMaps Go.RowKit

section
variable {H : Type} {enc : TypeId × Value → H} {P : Program} {w : World} {base : Nat} {spare : Nat → Bool} {held : Bool}
/-- Every element of a slice of structs of one-cell fields, field by field. -/
theorem slice_fields {t e : TypeId} {fs : Array Field} {fuel : Nat} {cs : List Value} {x : DataW H × List MemPlace} (ht : P.underlying t = some (.slice e)) (he : P.underlying e = some (.struct fs))
    (hone : oneCellFields P fs = true) (hC : P.cellsOf e = fs.size) (h : DataW.trod enc P w base spare held fuel t cs = some x) :
    cs = [.slice none 0 0] ∨
    ∃ (a : Addr) (len cap : Nat), cs = [.slice (some a) len cap] ∧ len ≤ cap ∧ cap ≤ maxLen ∧
      ∀ i, i < len → ∃ n : Nat, ∀ (j : Nat) (f : Field), fs[j]? = some f → ∃ (v : Value) (y : DataW H × List MemPlace), w.cell? (a.add (i * fs.size + j)) = some v ∧ DataW.trod enc P w base spare held n f.type [v] = some y := by
  rcases open_slice ht h with h0 | ⟨a, len, cap, m, n, D, Pl, hcs, hb, hl, hm, hmm, hx, hi⟩
  · exact .inl h0.1
  · refine .inr ⟨a, len, cap, hcs, hl, hm, fun i him => ?_⟩
    obtain ⟨cs', hc, ht'⟩ := hi i (by rw [hmm]; split <;> omega)
    rw [hC] at hc
    obtain ⟨ys, n', hn', hy, hlen, hyl, hf⟩ := DataW.trod_struct he ht'
    obtain ⟨_, hcl, hat⟩ := World.cells?_some hc
    refine ⟨n', fun j f hj => ?_⟩
    obtain ⟨ho, hk⟩ := hone_of hone j f hj
    have hjl : j < fs.size := (Array.getElem?_eq_some_iff.1 hj).1
    have hcell := hat j hjl
    have hv : cs'[j]? = some (cs'[j]'(by omega)) := List.getElem?_eq_getElem (by omega)
    have h1 := hf j f hj
    rw [ho, hk] at h1
    have hone' : (cs'.drop j).take 1 = [cs'[j]'(by omega)] := by
      rw [List.drop_eq_getElem_cons (by omega)]
      rfl
    rw [hone'] at h1
    have hys : ys[j]? = some (ys[j]'(by omega)) := List.getElem?_eq_getElem (by omega)
    refine ⟨_, _, ?_, h1.trans hys⟩
    rw [← Go.Deep.add_add, hcell, hv]
end
theorem list_of {α : Type} {Q : Nat → α → Prop} : ∀ n : Nat, (∀ i, i < n → ∃ a, Q i a) → ∃ l : List α, l.length = n ∧ ∀ i, (h : i < l.length) → Q i l[i]
  | 0, _ => ⟨[], rfl, fun i h => absurd h (Nat.not_lt_zero _)⟩
  | n + 1, h => by
    obtain ⟨l, hl, hq⟩ := list_of n fun i hi => h i (by omega)
    obtain ⟨a, ha⟩ := h n (by omega)
    refine ⟨l ++ [a], by rw [List.length_append, hl]; rfl, fun i hi => ?_⟩
    rw [List.getElem_append]
    split
    · exact hq i _
    · have : i = n := by rw [List.length_append, List.length_singleton] at hi; omega
      subst this
      simpa using ha
theorem addr_add (b o j : Nat) : (⟨b, o, none⟩ : Addr).add j = ⟨b, o + j, none⟩ := by unfold Addr.add; split <;> simp_all
set_option maxRecDepth 100000 in
set_option maxHeartbeats 400000 in
theorem open_toks {H : Type} {enc : TypeId × Value → H} {w : World} {base b0 : Nat} {spare : Nat → Bool} {held : Bool} {r : Reach} {v : Value} {d : DataW H} {p : List MemPlace}
    (hv : Value.okWide Try.prog w r b0 23 v) (h : DataW.Trod enc Try.prog w base spare held 23 v d p) :
    ∃ l : List AT, TokSl w v l ∧ l.length ≤ maxLen ∧ ∀ i, (hi : i < l.length) → l[i].t.size ≤ maxLen := by
  obtain ⟨a, len, cap, rfl⟩ := okWide_slice Try.underlying23 hv
  obtain ⟨fuel, hf⟩ := h
  rcases slice_fields Try.underlying23 Try.underlying33 (by kernel_rfl) (by kernel_rfl) hf with hc | ⟨a', len', cap', hc, h1, h2, h3⟩
  · have hc' : Value.slice a len cap = .slice none 0 0 := List.cons.inj hc |>.1
    simp only [Value.slice.injEq] at hc'
    obtain ⟨rfl, rfl, rfl⟩ := hc'
    exact ⟨[], ⟨none, 0, rfl, fun h => absurd rfl h⟩, Nat.zero_le _, fun i hi => absurd hi (Nat.not_lt_zero _)⟩
  · have hc' : Value.slice a len cap = .slice (some a') len' cap' := List.cons.inj hc |>.1
    simp only [Value.slice.injEq] at hc'
    obtain ⟨rfl, rfl, rfl⟩ := hc'
    clear hc hf hv
    obtain ⟨l, hl, hq⟩ := list_of (Q := fun i (A : AT) => w.cell? (a'.add (i * 3)) = some (.int .i64 A.k) ∧ w.cell? (a'.add (i * 3 + 1)) = some (.string A.t) ∧ w.cell? (a'.add (i * 3 + 2)) = some (.int .i64 A.p) ∧ A.t.size ≤ maxLen) len (fun i hi => by
      obtain ⟨n, hn⟩ := h3 i hi
      obtain ⟨v0, y0, c0, t0⟩ := hn 0 _ rfl
      obtain ⟨v1, y1, c1, t1⟩ := hn 1 _ rfl
      obtain ⟨v2, y2, c2, t2⟩ := hn 2 _ rfl
      obtain ⟨x, e0, rfl, wx⟩ := DataW.trod_int Try.underlying3 t0
      obtain ⟨y, e1, rfl, wy⟩ := DataW.trod_string Try.underlying9 t1
      obtain ⟨z, e2, rfl, wz⟩ := DataW.trod_int Try.underlying3 t2
      simp only [List.cons.injEq, and_true] at e0 e1 e2
      subst e0 e1 e2
      exact ⟨⟨x, y, z⟩, c0, c1, c2, wy⟩)
    refine ⟨l, ⟨some a', cap, by rw [hl], fun hne => ?_⟩, by omega, fun i hi => (hq i hi).2.2.2⟩
    have h0 : 0 < l.length := List.length_pos_iff.2 hne
    obtain ⟨b, o, sp⟩ := a'
    have hsp : sp = none := by
      have := World.cell?_spot (hq 0 h0).1
      simpa [Addr.add] using this
    subst hsp
    refine ⟨b, o, rfl, fun i hi => ?_⟩
    obtain ⟨q0, q1, q2, _⟩ := hq i hi
    rw [addr_add] at q0 q1 q2
    exact ⟨q0, by rw [Nat.add_assoc]; exact q1, by rw [Nat.add_assoc]; exact q2⟩
end Go.Proofs.Ytihbecfjgdlebaa
