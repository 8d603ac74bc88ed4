/- Walks of layer 1: Check, and the three that ask it. -/
import Derived.Test.YtcbhmfhnaemglaaLexSame
namespace Go.Proofs.Ytcbhmfhnaemglaa
open Go.RowKit

theorem scanT_bad (l : Lx.Bs) : ∀ (f : Nat) (pre : List Lx.Tok) (i p er : Nat), Lx.scanT l f pre i = .bad p er → (er = 2 ∨ er = 10 ∨ er = 11) ∧ p ≤ l.length
  | 0, _, _, _, _, h => by simp [Lx.scanT] at h
  | f + 1, pre, i, p, er, h => by
    unfold Lx.scanT at h
    split at h
    · simp at h
    · split at h
      · simp at h; obtain ⟨rfl, rfl⟩ := h; exact ⟨.inr (.inl rfl), by omega⟩
      · split at h
        · simp at h; obtain ⟨rfl, rfl⟩ := h; exact ⟨.inl rfl, by omega⟩
        · split at h
          · simp at h; obtain ⟨rfl, rfl⟩ := h; exact ⟨.inr (.inr rfl), by omega⟩
          · exact scanT_bad l f _ _ _ _ h
theorem scan_err {l : Lx.Bs} {p er : Nat} (h : Lx.scan l = .bad p er) : er = 2 ∨ er = 10 ∨ er = 11 := by
  unfold Lx.scan at h
  split at h
  · simp at h; exact .inl h.2.symm
  · exact (scanT_bad _ _ _ _ _ _ h).1
theorem scanT_len (l : Lx.Bs) : ∀ (f : Nat) (pre : List Lx.Tok) (i : Nat) (ts : List Lx.Tok), pre.length ≤ 6000 → Lx.scanT l f pre i = .toks ts → ts.length ≤ 6000
  | 0, _, _, _, hp, h => by simp [Lx.scanT] at h; subst h; exact hp
  | f + 1, pre, i, ts, hp, h => by
    unfold Lx.scanT at h
    split at h
    · simp at h; subst h; exact hp
    · split at h
      · simp at h
      · split at h
        · simp at h
        · split at h
          · simp at h
          · exact scanT_len l f _ _ _ (by rw [List.length_append, List.length_singleton]; omega) h
theorem scan_len {l : Lx.Bs} {ts : List Lx.Tok} (h : Lx.scan l = .toks ts) : ts.length ≤ 6000 := by
  unfold Lx.scan at h
  split at h
  · simp at h
  · exact scanT_len _ _ _ _ _ (Nat.zero_le _) h

theorem flat_get (l : List Lx.Tok) : ∀ (i : Nat) (h : i < l.length), (flat l)[i * 3]? = some (.int .i64 l[i].kind) ∧ (flat l)[i * 3 + 1]? = some (.string ⟨l[i].text.toArray⟩) ∧ (flat l)[i * 3 + 2]? = some (.int .i64 l[i].pos) := by
  induction l with
  | nil => intro i h; simp at h
  | cons t l ih =>
    intro i h
    have e : flat (t :: l) = [.int .i64 t.kind, .string ⟨t.text.toArray⟩, .int .i64 t.pos] ++ flat l := rfl
    rw [e]
    cases i with
    | zero => exact ⟨rfl, rfl, rfl⟩
    | succ i =>
      obtain ⟨h0, h1, h2⟩ := ih i (by simpa using h)
      rw [show (i + 1) * 3 = i * 3 + 3 from by omega, show i * 3 + 3 + 1 = i * 3 + 1 + 3 from by omega, show i * 3 + 3 + 2 = i * 3 + 2 + 3 from by omega]
      exact ⟨h0, h1, h2⟩
theorem Toks.sl {B : Nat} {v : Value} {l : List Lx.Tok} {w : World} (h : Toks B v l w) : TokSl w v (l.map ofTok) := by
  obtain ⟨h1, h2⟩ := h
  rcases h2 with ⟨rfl, hn⟩ | ⟨g, cap, cur, rfl, hg, hh, r⟩
  · have : l = [] := List.length_eq_zero_iff.1 hn
    subst this
    exact ⟨none, 0, rfl, fun hne => absurd rfl hne⟩
  · refine ⟨some ⟨g, 0, none⟩, cap, by rw [List.length_map], fun _ => ⟨g, 0, rfl, fun i hi => ?_⟩⟩
    have hi' : i < l.length := by simpa using hi
    have hk : ∀ j, j < l.length * 3 → cur[j]? = (flat l)[j]? := fun j hj => by
      rw [← r.2.2.2, List.getElem?_take_of_lt hj, Array.getElem?_toList]
    obtain ⟨f0, f1, f2⟩ := flat_get l i hi'
    have he : (l.map ofTok)[i] = ofTok l[i] := List.getElem_map _
    rw [he]
    refine ⟨?_, ?_, ?_⟩
    · rw [cell_of_row _ _ _ _ _ _ hh, hk _ (by omega), show 0 + i * 3 = i * 3 from by omega, f0]; rfl
    · rw [cell_of_row _ _ _ _ _ _ hh, hk _ (by omega), show 0 + i * 3 + 1 = i * 3 + 1 from by omega, f1]; rfl
    · rw [cell_of_row _ _ _ _ _ _ hh, hk _ (by omega), show 0 + i * 3 + 2 = i * 3 + 2 from by omega, f2]; rfl

/-- What scansAs answers. -/
def scansB (s : ByteArray) (l : List AT) : Bool := match Lx.scan (bs s) with
  | .toks t => sameB (t.map ofTok) l
  | .bad _ _ => false

set_option maxRecDepth 100000 in
set_option maxHeartbeats 400000 in
theorem scansAs_any (s : ByteArray) (v : Value) (l : List AT) (w : World) (hs : s.size ≤ maxLen) (hv : TokSl w v l) (hm : l.length ≤ maxLen) :
    Calls Try.prog 54 #[.string s, v] w fun e w' => e = .returned (.bool (scansB s l)) ∧ Below w.heap.size w w' := by
  go_enter Try.func54, Try.ntmps54
  go_wp2_with fail
  refine (scan_any s _ hs).mono ?_
  rintro e w1 ⟨hb1, ho⟩
  have Hb1 := Lib.hid hb1
  cases hsc : Lx.scan (bs s) with
  | bad p er =>
    rw [hsc] at ho
    subst ho
    have her : ((er : Int) == 0) = false := by have := scan_err hsc; rw [beq_eq_false_iff_ne]; omega
    have HS := Lib.hid (show scansB s l = false from by unfold scansB; rw [hsc])
    clear hsc hb1 hv
    go_wp2
    go_ret
    exact ⟨by rw [HS.out]; rfl, Hb1.out⟩
  | toks ts =>
    rw [hsc] at ho
    obtain ⟨v1, rfl, hT⟩ := ho
    have C := Lib.hid (same_any v1 v (ts.map ofTok) l w1 hT.sl (hv.below hb1) (by rw [List.length_map]; have := scan_len hsc; unfold maxLen; omega) hm)
    have HS := Lib.hid (show scansB s l = sameB (ts.map ofTok) l from by unfold scansB; rw [hsc])
    clear hsc hb1 hv hT
    go_wp2_with fail
    refine C.out.mono ?_
    rintro e w2 ⟨rfl, hb2⟩
    go_wp2
    go_ret
    exact ⟨by rw [HS.out]; rfl, Hb1.out.trans (hb2.mono Hb1.out.size)⟩

/-- What Check answers. -/
def checkB (a : AT) : Bool := scansB a.t [a]
theorem tokSl_one (w : World) (a : AT) (n : Nat) (hn : n = w.heap.size) (cap : Nat) : TokSl (w.alloc (.cells #[.int .i64 a.k, .string a.t, .int .i64 a.p] 33)) (.slice (some ⟨n, 0, none⟩) 1 cap) [a] := by
  subst hn
  refine ⟨_, cap, rfl, fun _ => ⟨_, 0, rfl, fun i hi => ?_⟩⟩
  obtain rfl : i = 0 := by simpa using hi
  refine ⟨?_, ?_, ?_⟩ <;> (rw [World.cell?_alloc_at _ _ _ _ rfl]; rfl)

set_option maxRecDepth 100000 in
set_option maxHeartbeats 400000 in
theorem check_v (V : Bool) (a : AT) (w : World) (hs : a.t.size ≤ maxLen) (hV : checkB a = V) :
    Calls Try.prog 23 #[.agg #[.int .i64 a.k, .string a.t, .int .i64 a.p]] w fun e w' => e = .returned (.int .i64 (if V then 0 else 12)) ∧ Below w.heap.size w w' := by
  have C := Lib.hid (scansAs_any a.t _ [a] _ hs (tokSl_one (w.alloc (.cells #[.int .i64 a.k, .string a.t, .int .i64 a.p] 33)) a (w.heap.size + 1) (by simp) 1) (by simp [maxLen]))
  have hS : scansB a.t [a] = V := hV
  rw [hS] at C
  clear hS hV
  go_enter Try.func23, Try.ntmps23
  go_wp2_with fail
  refine C.out.mono ?_
  clear C
  rintro e w1 ⟨rfl, hb1⟩
  have Hb : Hid (Below w.heap.size w w1) := (((Below.refl _ w).alloc (Nat.le_refl _) _).alloc (by simp) _).trans (hb1.mono (by simp; omega))
  clear hb1
  cases V
  · go_wp2
    go_ret
    exact ⟨rfl, Hb.out⟩
  · go_wp2
    go_ret
    exact ⟨rfl, Hb.out⟩
theorem check_any (a : AT) (w : World) (hs : a.t.size ≤ maxLen) :
    Calls Try.prog 23 #[.agg #[.int .i64 a.k, .string a.t, .int .i64 a.p]] w fun e w' => e = .returned (.int .i64 (if checkB a then 0 else 12)) ∧ Below w.heap.size w w' := check_v _ a w hs rfl

set_option maxRecDepth 100000 in
set_option maxHeartbeats 400000 in
theorem isName_v (V : Bool) (s : ByteArray) (w : World) (hs : s.size ≤ maxLen) (hV : checkB ⟨1, s, 0⟩ = V) :
    Calls Try.prog 17 #[.string s] w fun e w' => e = .returned (.bool V) ∧ Below w.heap.size w w' := by
  have C := Lib.hid (check_v V ⟨1, s, 0⟩ w hs hV)
  clear hV
  go_enter Try.func17, Try.ntmps17
  go_wp2_with fail
  refine C.out.mono ?_
  clear C
  rintro e w1 ⟨rfl, hb⟩
  cases V
  · go_wp2
    go_ret
    exact ⟨rfl, hb⟩
  · go_wp2
    go_ret
    exact ⟨rfl, hb⟩
theorem isName_any (s : ByteArray) (w : World) (hs : s.size ≤ maxLen) :
    Calls Try.prog 17 #[.string s] w fun e w' => e = .returned (.bool (checkB ⟨1, s, 0⟩)) ∧ Below w.heap.size w w' := isName_v _ s w hs rfl

set_option maxRecDepth 100000 in
set_option maxHeartbeats 400000 in
theorem isVar_v (V : Bool) (s : ByteArray) (w : World) (hs : s.size ≤ maxLen) (hV : checkB ⟨2, s, 0⟩ = V) :
    Calls Try.prog 21 #[.string s] w fun e w' => e = .returned (.bool V) ∧ Below w.heap.size w w' := by
  have C := Lib.hid (check_v V ⟨2, s, 0⟩ w hs hV)
  clear hV
  go_enter Try.func21, Try.ntmps21
  go_wp2_with fail
  refine C.out.mono ?_
  clear C
  rintro e w1 ⟨rfl, hb⟩
  cases V
  · go_wp2
    go_ret
    exact ⟨rfl, hb⟩
  · go_wp2
    go_ret
    exact ⟨rfl, hb⟩
theorem isVar_any (s : ByteArray) (w : World) (hs : s.size ≤ maxLen) :
    Calls Try.prog 21 #[.string s] w fun e w' => e = .returned (.bool (checkB ⟨2, s, 0⟩)) ∧ Below w.heap.size w w' := isVar_v _ s w hs rfl

/-- What IsPlain answers. -/
def plainB (s : ByteArray) : Bool := checkB ⟨1, s, 0⟩ && !decide (0 ≤ Lib.indexByte s.data.toList 64)
set_option maxRecDepth 100000 in
set_option maxHeartbeats 400000 in
theorem isPlain_v (V U : Bool) (s : ByteArray) (w : World) (hs : s.size ≤ maxLen) (hV : checkB ⟨1, s, 0⟩ = V) (hU : decide (0 ≤ Lib.indexByte s.data.toList 64) = U) :
    Calls Try.prog 19 #[.string s] w fun e w' => e = .returned (.bool (V && !U)) ∧ Below w.heap.size w w' := by
  have C := Lib.hid (isName_v V s w hs hV)
  have C2 := Lib.hid (fun w => Try.strings_Contains_one s 64 w)
  rw [hU] at C2
  clear hV hU
  go_enter Try.func19, Try.ntmps19
  go_wp2_with fail
  refine C.out.mono ?_
  clear C
  rintro e w1 ⟨rfl, hb⟩
  cases V
  · go_wp2
    go_ret
    exact ⟨rfl, hb⟩
  · go_wp2_with fail
    refine (C2.out _).mono ?_
    rintro e w2 ⟨rfl, rfl⟩
    cases U
    · go_wp2
      go_ret
      exact ⟨rfl, hb⟩
    · go_wp2
      go_ret
      exact ⟨rfl, hb⟩
theorem isPlain_any (s : ByteArray) (w : World) (hs : s.size ≤ maxLen) :
    Calls Try.prog 19 #[.string s] w fun e w' => e = .returned (.bool (plainB s)) ∧ Below w.heap.size w w' := isPlain_v _ _ s w hs rfl rfl
end Go.Proofs.Ytcbhmfhnaemglaa
