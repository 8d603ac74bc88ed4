/- Walks of layer 1: the iterator over a text's comments. -/
import Derived.Test.YtihbecfjgdlebaaLexJoin
import Derived.Test.YtihbecfjgdlebaaLexPlace
namespace Go.Proofs.Ytihbecfjgdlebaa
open Go.RowKit
attribute [local go_sem] Oper.semAt_some

/-- The comments behind pre, from i on. -/
def comsF (l : Lx.Bs) : Nat → List (Nat × Nat) → Nat → List (Nat × Nat)
  | 0, pre, _ => pre
  | f + 1, pre, i =>
    if l.length ≤ i then pre
    else if l[i]? = some 37 then comsF l f (pre ++ [(i, Lx.lineTo l i)]) (Lx.lineTo l i + 1) else comsF l f pre (i + 1)
def coms (l : Lx.Bs) : List (Nat × Nat) := comsF l (l.length + 1) [] 0

theorem coms_end {l : Lx.Bs} {f i : Nat} {pre : List (Nat × Nat)} (h : l.length ≤ i) : comsF l f pre i = pre := by
  cases f with
  | zero => rfl
  | succ f => simp only [comsF]; rw [if_pos h]
theorem coms_not {l : Lx.Bs} {f i : Nat} {pre : List (Nat × Nat)} (h : i < l.length) (h2 : l[i]? ≠ some 37) : comsF l (f + 1) pre i = comsF l f pre (i + 1) := by
  simp only [comsF]; rw [if_neg (by omega), if_neg h2]
theorem coms_hit {l : Lx.Bs} {f i : Nat} {pre : List (Nat × Nat)} (h : i < l.length) (h2 : l[i]? = some 37) : comsF l (f + 1) pre i = comsF l f (pre ++ [(i, Lx.lineTo l i)]) (Lx.lineTo l i + 1) := by
  simp only [comsF]; rw [if_neg (by omega), if_pos h2]

/-- A comment's place, as a value. -/
def comV (c : Nat × Nat) : Value := .agg #[.int .i64 c.1, .int .i64 c.2]
/-- Comments in order, all of them ahead of i. -/
def ComsTo (pre : List (Nat × Nat)) (i : Nat) : Prop := pre.length ≤ i ∧ ∀ c ∈ pre, c.1 < c.2 ∧ c.2 < i

set_option maxRecDepth 100000 in
set_option maxHeartbeats 400000 in
theorem coms_in (n : Nat) (hn : 1 ≤ n) (s : ByteArray) (T l : Nat) (hs : s.size < maxLen) (J : List (Nat × Nat) → World → Prop) (W : World)
    (hT : ∀ pre w, J pre w → w.cell? ⟨T, 0, none⟩ = some (.string s))
    (hY : ∀ pre w i, J pre w → (h : i < s.size) → (bs s)[i]? = some 37 → ComsTo pre i → i < Lx.lineTo (bs s) i → Lx.lineTo (bs s) i ≤ s.size → YieldAt Fence.wide (n - 1) Try.prog l #[comV (i, Lx.lineTo (bs s) i)] w
      (fun e w' => e = .returned (.bool true) ∧ J (pre ++ [(i, Lx.lineTo (bs s) i)]) w'))
    (h0 : J [] W) :
    CallsIn Fence.wide n Try.prog 91 #[.func (.yield l) #[] #[], .pointer (some ⟨T, 0, none⟩)] W fun e w' => (∃ v, e = .returned v) ∧ J (coms (bs s)) w' := by
  unfold maxLen at hs
  have hTW := hT _ _ h0
  refine callsIn_of_wp Try.func91 rfl trivial ?_ rfl
  simp only [Try.ntmps91, List.size_toArray, List.length_cons, List.length_nil, Nat.reduceAdd, Nat.reduceSub, Array.replicate_succ, Array.replicate_zero, List.push_toArray, List.append_toArray, List.nil_append, List.cons_append]
  gi_wp2_with fail
  have Hlen := Lib.hid (bs_len s)
  gi_loopw [3] (fun a wr => ∃ (f : Nat) (pre : List (Nat × Nat)) (i : Nat), a = .int .i64 i ∧ i ≤ s.size + 1 ∧ s.size + 1 ≤ i + f ∧ Hid (coms (bs s) = comsF (bs s) f pre i) ∧ J pre wr ∧ Hid (ComsTo pre i))
    (fun a _ => s.size + 1 - (intOf a).toNat)
  case atStart =>
    exact ⟨s.size + 1, [], 0, rfl, by omega, by omega, Lib.hid (by unfold coms; rw [bs_len]), h0, Lib.hid ⟨Nat.zero_le _, by intro c hc; cases hc⟩⟩
  case round =>
    obtain ⟨f, pre, i, rfl, hi, hf, hsc, hJr, hpr⟩ := hrel
    have hTr := hT _ _ hJr
    by_cases hlt : i < s.size
    · obtain ⟨f, rfl⟩ : ∃ f', f = f' + 1 := ⟨f - 1, by omega⟩
      have hby := byte_lt s[i]
      have hbk : (bs s)[i]? = some s[i] := by rw [List.getElem?_eq_getElem (by rw [bs_len]; exact hlt), bs_get hlt]
      by_cases hc : s[i] = 37
      · have h37 : (bs s)[i]? = some 37 := by rw [hbk, hc]
        have hc2 : ((s[i].toNat : Int) == 37) = true := by rw [hc]; rfl
        have hle := (Lx.skipTo_comment (l := bs s) (k := i) (by rw [bs_len]; exact hlt) (by rw [bs_get hlt, hc]; rfl)).2
        have hl2 := (Lx.lineTo_le (l := bs s) (i := i) (by rw [bs_len]; omega)).2
        rw [bs_len] at hl2
        have HS := Lib.hid (hsc.out.trans (coms_hit (by rw [bs_len]; exact hlt) h37))
        obtain ⟨fn, tmps, assign, body, hy, hR⟩ := hY pre wr i hJr hlt h37 hpr.out hle hl2
        unfold comV at hy
        have HP : Hid (ComsTo (pre ++ [(i, Lx.lineTo (bs s) i)]) (Lx.lineTo (bs s) i + 1)) := Lib.hid ⟨by have := hpr.out.1; simp only [List.length_append, List.length_singleton]; omega, fun c hcm => by
          rcases List.mem_append.1 hcm with h | h
          · have := hpr.out.2 c h; omega
          · obtain rfl := List.mem_singleton.1 h; exact ⟨hle, by omega⟩⟩
        have CL := Lib.hid (lineEnd_any s i wr (by unfold maxLen; omega) (by omega))
        obtain ⟨E, hE⟩ : ∃ E, Lx.lineTo (bs s) i = E := ⟨_, rfl⟩
        rw [hE] at hle hl2 HS hy hR HP CL
        clear hE h37 hbk hc hsc hpr
        gi_wp2_with fail
        refine ⟨trivial, ((callsIn_wide (n := n - 1)).2 CL.out).mono ?_⟩
        rintro e w1 ⟨rfl, rfl⟩
        gi_wp2_with fail
        refine hR.mono ?_
        clear hy hR
        rintro e w3 ⟨rfl, hJ3⟩
        gi_wp2_with fail
        go_roundw
        case rel => exact ⟨f, _, E + 1, by push_cast; rfl, by omega, by omega, HS, hJ3, HP⟩
        case measure => simp [intOf]; omega
      · have h37 : (bs s)[i]? ≠ some 37 := by rw [hbk]; intro e; exact hc (Option.some.inj e)
        have hc2 : ((s[i].toNat : Int) == 37) = false := by
          rw [beq_eq_false_iff_ne]; intro e; exact hc (by rw [← UInt8.toNat_inj]; exact Int.ofNat_inj.1 e)
        have HS := Lib.hid (hsc.out.trans (coms_not (by rw [bs_len]; exact hlt) h37))
        have HP : Hid (ComsTo pre (i + 1)) := Lib.hid ⟨by have := hpr.out.1; omega, fun c hcm => by have := hpr.out.2 c hcm; omega⟩
        clear h37 hbk hc hsc hpr
        gi_wp2_with fail
        go_roundw
        case rel => exact ⟨f, pre, i + 1, by push_cast; rfl, by omega, by omega, HS, hJr, HP⟩
        case measure => simp [intOf]; omega
    · gi_wp2
      go_end0
      exact ⟨⟨_, rfl⟩, by rw [hsc.out, coms_end (by rw [bs_len]; omega)]; exact hJr⟩
end Go.Proofs.Ytihbecfjgdlebaa
