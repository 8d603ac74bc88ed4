/- Walks of layer 1: lists of tokens are compared; a text is scanned as a list. -/
import Derived.Test.YtihbecfjgdlebaaLexScan
namespace Go.Proofs.Ytihbecfjgdlebaa
open Go.RowKit

/-- A token of whatever values. -/
structure AT where
  k : Int
  t : ByteArray
  p : Int
def AT.v (a : AT) : Value := .agg #[.int .i64 a.k, .string a.t, .int .i64 a.p]
def ofTok (t : Lx.Tok) : AT := ⟨t.kind, ⟨t.text.toArray⟩, t.pos⟩

/-- The cells of one token at an address. -/
def TokAt (w : World) (b o : Nat) (a : AT) : Prop :=
  w.cell? ⟨b, o, none⟩ = some (.int .i64 a.k) ∧ w.cell? ⟨b, o + 1, none⟩ = some (.string a.t) ∧ w.cell? ⟨b, o + 2, none⟩ = some (.int .i64 a.p)
/-- A slice value that reads as these tokens. -/
def TokSl (w : World) (v : Value) (l : List AT) : Prop :=
  ∃ a cap, v = .slice a l.length cap ∧ (l ≠ [] → ∃ b o, a = some ⟨b, o, none⟩ ∧ ∀ i, (h : i < l.length) → TokAt w b (o + i * 3) l[i])

theorem TokAt.below {w w' : World} {b o : Nat} {a : AT} (h : TokAt w b o a) (hb : Below w.heap.size w w') : TokAt w' b o a := by
  have hlt := block_lt_of_cell h.1
  exact ⟨(hb.cell (p := ⟨b, o, none⟩) hlt).trans h.1, (hb.cell (p := ⟨b, o + 1, none⟩) hlt).trans h.2.1, (hb.cell (p := ⟨b, o + 2, none⟩) hlt).trans h.2.2⟩
theorem TokSl.below {w w' : World} {v : Value} {l : List AT} (h : TokSl w v l) (hb : Below w.heap.size w w') : TokSl w' v l := by
  obtain ⟨a, cap, rfl, hl⟩ := h
  refine ⟨a, cap, rfl, fun hne => ?_⟩
  obtain ⟨b, o, rfl, hc⟩ := hl hne
  exact ⟨b, o, rfl, fun i hi => (hc i hi).below hb⟩

/-- Kinds and Texts are the same. -/
def sameB : List AT → List AT → Bool
  | [], [] => true
  | a :: l, b :: m => (a.k == b.k && (a.t.toList == b.t.toList)) && sameB l m
  | _, _ => false
theorem sameB_len {l m : List AT} (h : l.length ≠ m.length) : sameB l m = false := by
  induction l generalizing m with
  | nil => cases m with
    | nil => exact absurd rfl h
    | cons b m => rfl
  | cons a l ih => cases m with
    | nil => rfl
    | cons b m => simp only [sameB]; rw [ih (by simpa using h)]; simp
end Go.Proofs.Ytihbecfjgdlebaa
namespace Go.Proofs.Ytihbecfjgdlebaa
open Go.RowKit

theorem scanT_bad (l : Lx.Bs) : ∀ (f : Nat) (pre : List Lx.Tok) (i p er : Nat), Lx.scanT l f pre i = .bad p er → (er = 2 ∨ er = 10 ∨ er = 11) ∧ p ≤ l.length
  | 0, _, _, _, _, h => by simp [Lx.scanT] at h
  | f + 1, pre, i, p, er, h => by
    unfold Lx.scanT at h
    split at h
    · simp at h
    · split at h
      · simp at h; obtain ⟨rfl, rfl⟩ := h; exact ⟨.inr (.inl rfl), by omega⟩
      · split at h
        · simp at h; obtain ⟨rfl, rfl⟩ := h; exact ⟨.inl rfl, by omega⟩
        · split at h
          · simp at h; obtain ⟨rfl, rfl⟩ := h; exact ⟨.inr (.inr rfl), by omega⟩
          · exact scanT_bad l f _ _ _ _ h
theorem scan_err {l : Lx.Bs} {p er : Nat} (h : Lx.scan l = .bad p er) : er = 2 ∨ er = 10 ∨ er = 11 := by
  unfold Lx.scan at h
  split at h
  · simp at h; exact .inl h.2.symm
  · exact (scanT_bad _ _ _ _ _ _ h).1
theorem scanT_len (l : Lx.Bs) : ∀ (f : Nat) (pre : List Lx.Tok) (i : Nat) (ts : List Lx.Tok), pre.length ≤ 6000 → Lx.scanT l f pre i = .toks ts → ts.length ≤ 6000
  | 0, _, _, _, hp, h => by simp [Lx.scanT] at h; subst h; exact hp
  | f + 1, pre, i, ts, hp, h => by
    unfold Lx.scanT at h
    split at h
    · simp at h; subst h; exact hp
    · split at h
      · simp at h
      · split at h
        · simp at h
        · split at h
          · simp at h
          · exact scanT_len l f _ _ _ (by rw [List.length_append, List.length_singleton]; omega) h
theorem scan_len {l : Lx.Bs} {ts : List Lx.Tok} (h : Lx.scan l = .toks ts) : ts.length ≤ 6000 := by
  unfold Lx.scan at h
  split at h
  · simp at h
  · exact scanT_len _ _ _ _ _ (Nat.zero_le _) h

theorem flat_get (l : List Lx.Tok) : ∀ (i : Nat) (h : i < l.length), (flat l)[i * 3]? = some (.int .i64 l[i].kind) ∧ (flat l)[i * 3 + 1]? = some (.string ⟨l[i].text.toArray⟩) ∧ (flat l)[i * 3 + 2]? = some (.int .i64 l[i].pos) := by
  induction l with
  | nil => intro i h; simp at h
  | cons t l ih =>
    intro i h
    have e : flat (t :: l) = [.int .i64 t.kind, .string ⟨t.text.toArray⟩, .int .i64 t.pos] ++ flat l := rfl
    rw [e]
    cases i with
    | zero => exact ⟨rfl, rfl, rfl⟩
    | succ i =>
      obtain ⟨h0, h1, h2⟩ := ih i (by simpa using h)
      rw [show (i + 1) * 3 = i * 3 + 3 from by omega, show i * 3 + 3 + 1 = i * 3 + 1 + 3 from by omega, show i * 3 + 3 + 2 = i * 3 + 2 + 3 from by omega]
      exact ⟨h0, h1, h2⟩
theorem Toks.sl {B : Nat} {v : Value} {l : List Lx.Tok} {w : World} (h : Toks B v l w) : TokSl w v (l.map ofTok) := by
  obtain ⟨h1, h2⟩ := h
  rcases h2 with ⟨rfl, hn⟩ | ⟨g, cap, cur, rfl, hg, hh, r⟩
  · have : l = [] := List.length_eq_zero_iff.1 hn
    subst this
    exact ⟨none, 0, rfl, fun hne => absurd rfl hne⟩
  · refine ⟨some ⟨g, 0, none⟩, cap, by rw [List.length_map], fun _ => ⟨g, 0, rfl, fun i hi => ?_⟩⟩
    have hi' : i < l.length := by simpa using hi
    have hk : ∀ j, j < l.length * 3 → cur[j]? = (flat l)[j]? := fun j hj => by
      rw [← r.2.2.2, List.getElem?_take_of_lt hj, Array.getElem?_toList]
    obtain ⟨f0, f1, f2⟩ := flat_get l i hi'
    have he : (l.map ofTok)[i] = ofTok l[i] := List.getElem_map _
    rw [he]
    refine ⟨?_, ?_, ?_⟩
    · rw [cell_of_row _ _ _ _ _ _ hh, hk _ (by omega), show 0 + i * 3 = i * 3 from by omega, f0]; rfl
    · rw [cell_of_row _ _ _ _ _ _ hh, hk _ (by omega), show 0 + i * 3 + 1 = i * 3 + 1 from by omega, f1]; rfl
    · rw [cell_of_row _ _ _ _ _ _ hh, hk _ (by omega), show 0 + i * 3 + 2 = i * 3 + 2 from by omega, f2]; rfl

/-- What scansAs answers. -/
def scansB (s : ByteArray) (l : List AT) : Bool := match Lx.scan (bs s) with
  | .toks t => sameB (t.map ofTok) l
  | .bad _ _ => false

/-- What Check answers. -/
def checkB (a : AT) : Bool := scansB a.t [a]
end Go.Proofs.Ytihbecfjgdlebaa
namespace Go.Proofs.Ytihbecfjgdlebaa
open Go.RowKit

set_option maxRecDepth 100000 in
set_option maxHeartbeats 400000 in
theorem same1_any (k1 k2 p1 p2 : Int) (t1 t2 : ByteArray) (w : World) :
    Calls Try.prog 64 #[.agg #[.int .i64 k1, .string t1, .int .i64 p1], .agg #[.int .i64 k2, .string t2, .int .i64 p2]] w fun e w' =>
      e = .returned (.bool (k1 == k2 && (t1.toList == t2.toList))) ∧ w' = (w.alloc (.cells #[.int .i64 k1, .string t1, .int .i64 p1] 33)).alloc (.cells #[.int .i64 k2, .string t2, .int .i64 p2] 33) := by
  go_enter Try.func64, Try.ntmps64
  go_wp2
  · rename_i h
    subst h
    go_ret
    exact ⟨by simp, rfl⟩
  · rename_i h
    go_ret
    exact ⟨by simp [h], rfl⟩

theorem sameB_step {l m : List AT} {k : Nat} (h : k < l.length) (hl : l.length = m.length) :
    sameB (l.drop k) (m.drop k) = ((l[k].k == (m[k]'(by omega)).k && (l[k].t.toList == (m[k]'(by omega)).t.toList)) && sameB (l.drop (k + 1)) (m.drop (k + 1))) := by
  rw [List.drop_eq_getElem_cons h, List.drop_eq_getElem_cons (show k < m.length by omega)]; rfl
theorem sameB_end {l m : List AT} {k : Nat} (h : l.length ≤ k) (hl : l.length = m.length) : sameB (l.drop k) (m.drop k) = true := by
  rw [List.drop_of_length_le h, List.drop_of_length_le (by omega)]; rfl

set_option maxRecDepth 100000 in
set_option maxHeartbeats 1000000 in
theorem alike_any (va vb : Value) (la lb : List AT) (w : World) (ha : TokSl w va la) (hb : TokSl w vb lb) (hm : la.length ≤ maxLen) (hm2 : lb.length ≤ maxLen) :
    Calls Try.prog 63 #[va, vb, .func (.func 64) #[] #[]] w fun e w' => e = .returned (.bool (sameB la lb)) ∧ Below w.heap.size w w' := by
  obtain ⟨a, ca, rfl, hca⟩ := ha
  obtain ⟨b, cb, rfl, hcb⟩ := hb
  unfold maxLen at hm hm2
  by_cases hl : la.length = lb.length
  · have hl' : ((la.length : Int) != (lb.length : Int)) = false := by rw [hl]; simp
    have HL := Lib.hid hl
    by_cases hne : la = []
    · subst hne
      have hlb : lb = [] := List.length_eq_zero_iff.1 hl.symm
      subst hlb
      clear hca hcb
      go_enter Try.func63, Try.ntmps63
      go_wp2
      refine wp_loop_rounds 1 ?_
      rw [rounds_succ]
      go_wp2
      go_ret
      exact ⟨rfl, Below.refl _ _⟩
    have hne2 : lb ≠ [] := fun e => hne (List.length_eq_zero_iff.1 (by rw [hl, e]; rfl))
    obtain ⟨ba, oa, rfl, hA⟩ := hca hne
    obtain ⟨bb, ob, rfl, hB⟩ := hcb hne2
    clear hca hcb hl hne hne2
    go_enter Try.func63, Try.ntmps63
    go_wp2
    go_loopw [16] (fun v wr => ∃ k : Nat, k ≤ la.length ∧ v = .int .i64 k ∧ Hid (sameB la lb = sameB (la.drop k) (lb.drop k)) ∧ Hid (Below w.heap.size w wr)) (fun v _ => la.length - (intOf v).toNat)
    case atStart => exact ⟨0, Nat.zero_le _, rfl, rfl, Below.refl _ _⟩
    case round =>
      obtain ⟨k, hk, rfl, hrun, hbl⟩ := hrel
      by_cases hlt : k < la.length
      · have hlt2 : k < lb.length := by have := HL.out; omega
        obtain ⟨x0, x1, x2⟩ := (hA k hlt).below hbl.out
        obtain ⟨y0, y1, y2⟩ := (hB k hlt2).below hbl.out
        have n0 := block_lt_of_cell x0
        have n1 := block_lt_of_cell y0
        simp only at n0 n1
        have Hst := Lib.hid (sameB_step hlt HL.out)
        generalize la[k] = A at x0 x1 x2 Hst
        generalize lb[k] = B at y0 y1 y2 Hst
        go_upto_region 6 with fail
        go_cut [28] (fun v wx => v = .bool (!(A.k == B.k && A.t.toList == B.t.toList)) ∧ Hid (Below w.heap.size w wx))
        case first =>
          go_region_with (go_at_call 64; refine (same1_any _ _ _ _ _ _ _).mono ?_; rintro e w' ⟨rfl, rfl⟩)
          all_goals go_wp2
          all_goals go_meet
          all_goals have hsz := hbl.out.size
          all_goals exact ⟨by rw [Bool.not_and], Lib.hid (((hbl.out.alloc hsz _).alloc (by simp only [World.size_alloc]; omega) _).alloc (by simp only [World.size_alloc]; omega) _).drew⟩
        case rest =>
          obtain ⟨rfl, hbx⟩ := hcut
          cases hb2 : (A.k == B.k && A.t.toList == B.t.toList)
          · rw [hb2] at Hst
            go_wp2
            go_ret
            exact ⟨by rw [hrun.out, Hst.out]; rfl, hbx.out⟩
          · rw [hb2] at Hst
            go_wp2
            go_roundw
            case rel => exact ⟨k + 1, hlt, by push_cast; rfl, Lib.hid (by rw [hrun.out, Hst.out]; rfl), hbx⟩
            case measure => simp [intOf]; omega
      · go_wp2
        go_ret
        exact ⟨by rw [hrun.out, sameB_end (by omega) HL.out]; rfl, hbl.out⟩
  · have hl' : ((la.length : Int) != (lb.length : Int)) = true := by rw [bne_iff_ne]; omega
    have HS := Lib.hid (sameB_len hl)
    clear hca hcb hl
    go_enter Try.func63, Try.ntmps63
    go_wp2
    go_ret
    exact ⟨by rw [HS.out]; rfl, Below.refl _ _⟩

set_option maxRecDepth 100000 in
set_option maxHeartbeats 400000 in
theorem same_any (va vb : Value) (la lb : List AT) (w : World) (ha : TokSl w va la) (hb : TokSl w vb lb) (hm : la.length ≤ maxLen) (hm2 : lb.length ≤ maxLen) :
    Calls Try.prog 34 #[va, vb] w fun e w' => e = .returned (.bool (sameB la lb)) ∧ Below w.heap.size w w' := by
  have C := Lib.hid (alike_any va vb la lb w ha hb hm hm2)
  clear ha hb
  go_enter Try.func34, Try.ntmps34
  go_wp2_with fail
  refine C.out.mono ?_
  rintro e w' ⟨rfl, hb⟩
  go_wp2
  go_ret
  exact ⟨rfl, hb⟩
end Go.Proofs.Ytihbecfjgdlebaa
