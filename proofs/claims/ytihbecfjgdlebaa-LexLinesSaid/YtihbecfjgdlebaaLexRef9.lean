/- Layer 1: the program's Check and the reference's say the same. -/
import Derived.Test.YtihbecfjgdlebaaLexSame
import Derived.Test.YtihbecfjgdlebaaLexRel
import Derived.Test.YtihbecfjgdlebaaLexRef8
import Derived.Lib.IndexLaws
namespace Go.Proofs.Ytihbecfjgdlebaa
open Go.RowKit

theorem scan_one {l : Lx.Bs} {k : Nat} (h4 : l.length ≤ 40) (h0 : l ≠ []) (hsk : Lx.skipC false l = 0) (ht : Lx.tokR l = some (k, l.length)) : Lx.scan l = .toks [⟨k, l, 0⟩] := by
  rw [Lx.scan_rel, if_neg (by omega)]
  unfold Lx.scanP
  rw [hsk, List.drop_zero, Lx.scanS_step h0 ht (by simp) (by omega)]
  unfold Lx.scanP
  rw [List.drop_of_length_le (Nat.le_refl _), List.take_of_length_le (Nat.le_refl _)]
  have hpos : 0 < l.length := List.length_pos_iff.2 h0
  obtain ⟨f, hf⟩ : ∃ f, l.length = f + 1 := ⟨l.length - 1, by omega⟩
  rw [hf]
  simp [Lx.scanS, Lx.skipC]
theorem scan_one_inv {l : Lx.Bs} {t : Lx.Tok} (h : Lx.scan l = .toks [t]) (ht : t.text = l) (h0 : l ≠ []) :
    l.length ≤ 40 ∧ Lx.skipC false l = 0 ∧ Lx.tokR l = some (t.kind, l.length) := by
  rw [Lx.scan_rel] at h
  split at h
  · cases h
  · unfold Lx.scanP at h
    rcases Lx.scanS_inv h with ⟨_, e⟩ | ⟨k, n, hne, htk, _, h40, hs⟩
    · cases e
    · have hn := Lx.tokR_lt htk
      obtain ⟨rest, hl, _⟩ := Lx.scanS_shift 0 _ _ [] _ _ _ (by simp) hs
      rw [List.nil_append, List.cons_append, List.nil_append, List.cons.injEq] at hl
      have e1 := hl.1
      subst e1
      simp only at ht
      have hlen := congrArg List.length ht
      rw [List.length_take, List.length_drop] at hlen
      rw [List.length_drop] at hn
      have hpos : 0 < l.length := List.length_pos_iff.2 h0
      have hk0 : Lx.skipC false l = 0 := by omega
      rw [hk0, List.drop_zero] at htk
      have hnl : n = l.length := by omega
      subst hnl
      exact ⟨by omega, hk0, htk⟩
theorem skip_zero (c : UInt8) (r : Lx.Bs) : Lx.skipC false (c :: r) = 0 ↔ (Lx.blank c = false ∧ c.toNat ≠ 37) := by
  simp only [Lx.skipC]
  by_cases hb : Lx.blank c = true
  · rw [if_pos hb, hb]; simp
  · rw [if_neg hb]
    by_cases h37 : c.toNat = 37
    · rw [if_pos h37]; simp [h37]
    · rw [if_neg h37]; simp [h37, hb]

theorem check_ref (a : AT) : checkB a = refB a := by
  have hrel := Lx.tokAt_rel (bs a.t) 0
  rw [List.drop_zero] at hrel
  have hsz : (bs a.t).length = a.t.size := bs_len a.t
  have htext : ∀ l : Lx.Bs, (((⟨l.toArray⟩ : ByteArray).toList == a.t.toList) = true) ↔ l = bs a.t := fun l => by
    rw [ByteArray.toList_eq, ByteArray.toList_eq, beq_iff_eq]; rfl
  rw [Bool.eq_iff_iff]
  unfold checkB scansB refB refTok
  rw [hrel]
  constructor
  · intro h
    cases hs : Lx.scan (bs a.t) with
    | bad p er => rw [hs] at h; cases h
    | toks ts =>
      rw [hs] at h
      match ts, h with
      | [], h => simp [sameB] at h
      | [t], h =>
        simp only [List.map_cons, List.map_nil, sameB, ofTok, Bool.and_true, Bool.and_eq_true, beq_iff_eq] at h
        have ht : t.text = bs a.t := (htext _).1 (by rw [beq_iff_eq]; exact h.2)
        have h0 : bs a.t ≠ [] := by
          intro e; rw [e] at hs; simp [Lx.scan, Lx.scanT, Lx.skipTo, Lx.skipC] at hs
        obtain ⟨h40, hk, htk⟩ := scan_one_inv hs ht h0
        cases hl : bs a.t with
        | nil => exact absurd hl h0
        | cons c r =>
          rw [hl] at hk
          obtain ⟨hb, h37⟩ := (skip_zero c r).1 hk
          rw [← hl, htk]
          simp only [hl, List.getElem?_cons_zero, Option.map_some, hb, decide_eq_false h37, Bool.not_false, Bool.and_true, Bool.and_eq_true, decide_eq_true_eq]
          exact ⟨by omega, h.1, by rw [← hl]; omega⟩
      | t :: u :: ts, h => simp [sameB] at h
  · intro h
    cases hl : bs a.t with
    | nil => rw [hl] at h; simp at h
    | cons c r =>
      rw [hl] at h
      simp only [List.getElem?_cons_zero, Bool.and_eq_true, decide_eq_true_eq, Bool.not_eq_true'] at h
      obtain ⟨⟨⟨h40, hb⟩, h37⟩, hT⟩ := h
      cases htk : Lx.tokR (c :: r) with
      | none => rw [htk] at hT; simp at hT
      | some p =>
        obtain ⟨k, n⟩ := p
        rw [htk] at hT
        simp only [Option.map_some, Bool.and_eq_true, decide_eq_true_eq] at hT
        have hn : n = (c :: r).length := by rw [← hl, hsz]; omega
        subst hn
        rw [scan_one (by rw [← hl, hsz]; omega) (by simp) ((skip_zero c r).2 ⟨hb, by simpa using h37⟩) htk]
        simp only [List.map_cons, List.map_nil, sameB, ofTok, Bool.and_true, Bool.and_eq_true, beq_iff_eq]
        exact ⟨hT.1, by have := (htext (c :: r)).2 hl.symm; rwa [beq_iff_eq] at this⟩

theorem part_64 : Lx.part 64 = false := by decide
theorem runLen_all {l : Lx.Bs} (h : Lx.runLen l = l.length) : ∀ (k : Nat) (c : UInt8), l[k]? = some c → Lx.part c = true := by
  intro k c hc
  have e : l.takeWhile Lx.part = l := by
    have hp : l.takeWhile Lx.part <+: l := List.takeWhile_prefix _
    exact hp.eq_of_length h
  have hm : c ∈ l.takeWhile Lx.part := by rw [e]; exact List.mem_of_getElem? hc
  exact List.all_eq_true.1 (List.all_takeWhile (p := Lx.part) (l := l)) c hm
theorem tok_one {l : Lx.Bs} {n : Nat} (h : Lx.tokAt l 0 = some (1, n)) : Lx.nameTo l 0 = n := by
  unfold Lx.tokAt at h
  split at h
  · cases h
  · split at h
    · simp only at h
      split at h
      · simp at h
      · split at h
        · simp at h
        · simp at h; exact h
    · split at h
      · simp at h
      · split at h
        · simp at h
        · split at h
          · simp at h
          · cases h
theorem plain_ref (s : ByteArray) (h : refB ⟨1, s, 0⟩ = true) : (!decide (0 ≤ Lib.indexByte s.data.toList 64)) = decide (Lx.runTo (bs s) 0 = s.size) := by
  have hT : refTok ⟨1, s, 0⟩ = true := by
    unfold refB at h
    split at h
    · cases h
    · simp only [Bool.and_eq_true] at h; exact h.2
  unfold refTok at hT
  simp only at hT
  cases ht : Lx.tokAt (bs s) 0 with
  | none => rw [ht] at hT; cases hT
  | some p =>
    obtain ⟨k, j⟩ := p
    rw [ht] at hT
    simp only [Bool.and_eq_true, decide_eq_true_eq] at hT
    obtain ⟨hk, hj⟩ := hT
    have hk1 : k = 1 := by omega
    subst hk1
    have hn := tok_one ht
    rw [hj] at hn
    have hrun : Lx.runTo (bs s) 0 = Lx.runLen (bs s) := by unfold Lx.runTo; rw [List.drop_zero, Nat.zero_add]
    have hle := Lx.runLen_le (bs s)
    rw [bs_len] at hle
    rw [hrun, Bool.eq_iff_iff, Bool.not_eq_true', decide_eq_false_iff_not, decide_eq_true_eq]
    constructor
    · intro hno
      have hm1 : Lib.indexByte (bs s) 64 = -1 := by have := Lib.indexByte_ge (bs s) 64; have : ¬ (0 ≤ Lib.indexByte (bs s) 64) := hno; omega
      have hnone := Lib.indexByte_none hm1
      unfold Lx.nameTo at hn
      simp only [hrun] at hn
      split at hn
      · rename_i hx
        exact absurd hx.1 (hnone _)
      · exact hn
    · intro hall hno
      obtain ⟨o, ho⟩ := Int.eq_ofNat_of_zero_le hno
      have h64 := (Lib.indexByte_some ho).1
      have := runLen_all (l := bs s) (by rw [bs_len]; exact hall) o 64 h64
      rw [part_64] at this
      cases this
end Go.Proofs.Ytihbecfjgdlebaa
