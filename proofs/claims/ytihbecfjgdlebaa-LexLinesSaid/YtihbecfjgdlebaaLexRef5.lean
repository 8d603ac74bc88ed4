/- Walks of layer 1's reference: the token at an index, where no letter stands. -/
import Derived.Test.YtihbecfjgdlebaaLexRef4
namespace Go.Proofs.Ytihbecfjgdlebaa
open Go.RowKit

theorem pre_at1 (l : Lx.Bs) (j : Nat) (x : UInt8) : Lx.pre l j [x] = decide (l[j]? = some x) := by
  unfold Lx.pre
  cases h : l.drop j with
  | nil =>
    have : l[j]? = none := by rw [List.getElem?_eq_none_iff]; exact List.drop_eq_nil_iff.1 h
    rw [this]; rfl
  | cons c r =>
    have : l[j]? = some c := by have := congrArg (fun x => x[0]?) h; simpa using this
    rw [this]
    by_cases h45 : c = x
    · subst h45; simp [List.isPrefixOf]
    · have : (x == c) = false := by rw [beq_eq_false_iff_ne]; exact fun e => h45 e.symm
      simp [List.isPrefixOf, this, h45]
/-- The first of these signs that stands at i. -/
def sgnF (l : Lx.Bs) (i : Nat) : List ByteArray → Option (Nat × Nat)
  | [] => none
  | p :: r => if Lx.pre l i (bs p) then some (3, i + p.size) else sgnF l i r

theorem tok_sign {l : Lx.Bs} {i : Nat} {c : UInt8} (h0 : l[i]? = some c) (hs : Lx.small c = false) (hc : Lx.capital c = false) (hd : Lx.pre l i [45, 111] = false) :
    Lx.tokAt l i = sgnF l i (signsB.drop 2) := by
  have e1 : Lx.tokAt l i = if Lx.signB c then some (3, i + 1) else if Lx.isLong l i then some (3, i + 2) else none := by
    simp only [Lx.tokAt, h0, hs, hc]; rfl
  have e2 : Lx.isLong l i = (Lx.pre l i [45, 62] || Lx.pre l i [61, 62] || Lx.pre l i [60, 61]) := by
    unfold Lx.isLong; rw [hd]; simp
  rw [e1, e2]
  have hb : ∀ x : UInt8, bs ⟨#[x]⟩ = [x] := fun _ => rfl
  have hb2 : ∀ x y : UInt8, bs ⟨#[x, y]⟩ = [x, y] := fun _ _ => rfl
  have hz : ∀ x : UInt8, (⟨#[x]⟩ : ByteArray).size = 1 := fun _ => rfl
  have hz2 : ∀ x y : UInt8, (⟨#[x, y]⟩ : ByteArray).size = 2 := fun _ _ => rfl
  simp only [signsB, List.drop_succ_cons, List.drop_zero, sgnF, hb, hb2, hz, hz2, pre_at1, h0, Option.some.injEq]
  have hf : ∀ a b : UInt8, Lx.pre l i [a, b] = true → c = a := fun a b h => by
    have := (Lx.pre_two h).1; rw [h0] at this; exact Option.some.inj this
  by_cases h1 : Lx.pre l i [61, 62] = true
  · have := hf _ _ h1; subst this; rw [h1]; simp [Lx.signB]
  · by_cases h2 : Lx.pre l i [60, 61] = true
    · have := hf _ _ h2; subst this; rw [h2]; simp [Lx.signB, h1]
    · by_cases h3 : Lx.pre l i [45, 62] = true
      · have := hf _ _ h3; subst this; rw [h3]; simp [Lx.signB, h1, h2]
      · simp only [Bool.not_eq_true] at h1 h2 h3
        rw [h1, h2, h3]
        simp only [Lx.signB, Bool.or_false, Bool.false_eq_true, if_false, decide_eq_true_eq]
        by_cases hm : ([42, 38, 43, 33, 123, 125, 40, 41, 46, 44, 58, 92] : List UInt8).contains c = true
        · rw [if_pos hm]
          rw [List.contains_iff_mem] at hm
          simp only [List.mem_cons, List.not_mem_nil, or_false] at hm
          rcases hm with h | h | h | h | h | h | h | h | h | h | h | h <;> subst h <;> rfl
        · rw [if_neg hm]
          rw [List.contains_iff_mem] at hm
          simp only [List.mem_cons, List.not_mem_nil, or_false, not_or] at hm
          simp [hm]

theorem tok_dash {l : Lx.Bs} {i : Nat} (hd : Lx.pre l i [45, 111] = true) : Lx.tokAt l i = if (l[i + 2]?.map Lx.part) = some true then none else some (3, i + 2) := by
  obtain ⟨h0, h1⟩ := Lx.pre_two hd
  have hl1 : i + 1 < l.length := (List.getElem?_eq_some_iff.1 h1).1
  have e1 : Lx.tokAt l i = if Lx.isLong l i then some (3, i + 2) else none := by
    simp only [Lx.tokAt, h0]; rfl
  have hn : ∀ a b : UInt8, (a ≠ 45 ∨ b ≠ 111) → Lx.pre l i [a, b] = false := fun a b h => by
    rw [Bool.eq_false_iff]; intro e
    obtain ⟨g0, g1⟩ := Lx.pre_two e
    rw [h0] at g0; rw [h1] at g1
    rcases h with h | h
    · exact h (Option.some.inj g0).symm
    · exact h (Option.some.inj g1).symm
  have e2 : Lx.isLong l i = (Lx.runTo l (i + 1) == i + 2) := by
    unfold Lx.isLong
    rw [hd, hn 45 62 (.inr (by decide)), hn 61 62 (.inl (by decide)), hn 60 61 (.inl (by decide))]
    simp
  have e3 : Lx.runTo l (i + 1) = Lx.runTo l (i + 2) := by
    rw [Lx.runTo_step hl1, if_pos]
    rw [show l[i + 1] = 111 from (List.getElem?_eq_some_iff.1 h1).2]; decide
  rw [e1, e2, e3]
  by_cases h2 : i + 2 < l.length
  · rw [Lx.runTo_step h2, List.getElem?_eq_getElem h2]
    by_cases hp : Lx.part l[i + 2] = true
    · have hle := (Lx.runTo_le (l := l) (i := i + 2 + 1) (by omega)).1
      rw [if_pos hp, if_neg (by rw [beq_iff_eq]; omega), if_pos (by simp [hp])]
    · rw [if_neg hp, if_pos (by simp), if_neg (by simpa using hp)]
  · rw [Lx.runTo_end (by omega), List.getElem?_eq_none (by omega)]
    simp

theorem signs_size : ∀ j : Fin signsB.length, signsB[j].size ≤ 2 := by decide +kernel

set_option maxRecDepth 100000 in
set_option maxHeartbeats 2000000 in
theorem rToken_sign (s : ByteArray) (i : Nat) (w : World) (hs : s.size ≤ 100000) (hi : i < s.size) (hsm : Lx.small s[i] = false) (hc : Lx.capital s[i] = false) :
    Calls Try.prog 51 #[.string s, .int .i64 i] w fun e w' => e = .returned (kindJ (Lx.tokAt (bs s) i)) ∧ Below w.heap.size w w' := by
  have h0 : (bs s)[i]? = some s[i] := by rw [List.getElem?_eq_getElem (by rw [bs_len]; exact hi), bs_get hi]
  have hby := byte_lt s[i]
  have CC := Lib.hid (fun w => rCapital s[i] w)
  have CM := Lib.hid (fun w => rSmall s[i] w)
  have CI := Lib.hid (fun w => rIsAt s ⟨#[45, 111]⟩ i w hs (by decide) (by omega))
  have HD := Lib.hid (tok_dash (l := bs s) (i := i))
  have HN := Lib.hid (tok_sign h0 hsm hc)
  rw [hc] at CC
  rw [hsm] at CM
  rw [show bs ⟨#[45, 111]⟩ = [45, 111] from rfl] at CI
  obtain ⟨T, hT⟩ : ∃ T, Lx.tokAt (bs s) i = T := ⟨_, rfl⟩
  rw [hT] at HD HN ⊢
  obtain ⟨D, hD⟩ : ∃ D, Lx.pre (bs s) i [45, 111] = D := ⟨_, rfl⟩
  rw [hD] at HD HN CI
  have hi' : (i : Int) < (s.size : Int) := by omega
  clear hc hsm hT hD h0
  go_enter Try.func51, Try.ntmps51
  go_wp2_with fail
  refine (CC.out _).mono ?_
  rintro e1 w1 ⟨rfl, rfl⟩
  go_wp2_with fail
  refine (CM.out _).mono ?_
  rintro e1 w1 ⟨rfl, rfl⟩
  go_wp2_with fail
  refine (CI.out _).mono ?_
  rintro e1 w1 ⟨rfl, rfl⟩
  clear CC CM CI
  cases D
  · have HT := Lib.hid (HN.out rfl)
    clear HN HD
    go_wp2_with fail
    refine (rSigns _).mono ?_
    rintro e1 w1 ⟨rfl, rfl⟩
    have HS := Lib.hid (strSl_lit w signsB 9)
    have HB : Hid (Below w.heap.size w (w.alloc (.cells (signsB.map Value.string).toArray 9))) := (Below.refl _ w).alloc (Nat.le_refl _) _
    generalize w.alloc (.cells (signsB.map Value.string).toArray 9) = W1 at HS HB ⊢
    obtain ⟨N, hN⟩ : ∃ N, w.heap.size = N := ⟨_, rfl⟩
    rw [hN] at HS ⊢
    clear hN
    have HC : Hid (∀ k, (h : k < signsB.length) → W1.cell? ⟨N, k, none⟩ = some (.string signsB[k])) := Lib.hid fun k h => by
      obtain ⟨a, cap, he, hl⟩ := HS.out
      simp only [Value.slice.injEq] at he
      obtain ⟨b, o, h1, h2⟩ := hl (by decide)
      rw [← he.1, Option.some.injEq, Addr.mk.injEq] at h1
      obtain ⟨rfl, rfl, _⟩ := h1
      have := h2 k h
      rwa [Nat.zero_add] at this
    clear HS
    go_wp2_with fail
    go_loopw [8] (fun v wr => ∃ k : Nat, k ≤ 17 ∧ v = .int .i64 k ∧ Hid (T = sgnF (bs s) i (signsB.drop k)) ∧ W1 = wr) (fun v _ => 17 - (intOf v).toNat)
    case atStart => exact ⟨2, by omega, rfl, HT, rfl⟩
    case round =>
      obtain ⟨k, hk, rfl, hrun, rfl⟩ := hrel
      by_cases hlt : k < 17
      · have hlt' : (k : Int) < 17 := by omega
        have hkl : k < signsB.length := hlt
        have x0 := HC.out k hkl
        have hst : sgnF (bs s) i (signsB.drop k) = if Lx.pre (bs s) i (bs signsB[k]) then some (3, i + signsB[k].size) else sgnF (bs s) i (signsB.drop (k + 1)) := by
          rw [List.drop_eq_getElem_cons hkl]; rfl
        have hsz : signsB[k].size ≤ 2 := signs_size ⟨k, hkl⟩
        generalize signsB[k] = X at x0 hst hsz
        have CI := Lib.hid (fun w => rIsAt s X i w hs (by omega) (by omega))
        obtain ⟨V, hV⟩ : ∃ V, Lx.pre (bs s) i (bs X) = V := ⟨_, rfl⟩
        rw [hV] at CI hst
        have HST := Lib.hid hst
        have nb := block_lt_of_cell x0
        clear hst hV
        go_wp2_with fail
        refine (CI.out _).mono ?_
        rintro e1 w1 ⟨rfl, rfl⟩
        clear CI
        cases V
        · go_wp2
          go_roundw
          case rel => exact ⟨k + 1, by omega, by push_cast; rfl, by rw [hrun.out, HST.out]; exact Lib.hid rfl, by trivial⟩
          case measure => simp [intOf]; omega
        · go_upto_region 21 with fail
          go_region
          all_goals go_wp2
          all_goals go_ret2
          all_goals exact ⟨by rw [hrun.out, HST.out]; rfl, HB.out.drew⟩
      · have hlt' : ¬ ((k : Int) < 17) := by omega
        have hz : sgnF (bs s) i (signsB.drop k) = none := by rw [List.drop_of_length_le (show signsB.length ≤ k from by show 17 ≤ k; omega)]; rfl
        have HZ := Lib.hid hz
        clear hz
        go_wp2
        go_ret2
        exact ⟨by rw [hrun.out, HZ.out]; rfl, HB.out⟩
  · have HT := Lib.hid (HD.out rfl)
    clear HN HD
    by_cases h2 : i + 2 < s.size
    · have h2' : (i : Int) + 2 < (s.size : Int) := by omega
      have hb2 := byte_lt s[i + 2]
      have g2 : (bs s)[i + 2]? = some s[i + 2] := by rw [List.getElem?_eq_getElem (by rw [bs_len]; omega), bs_get (by omega)]
      rw [g2] at HT
      have CP := Lib.hid (fun w => rPart s[i + 2] w)
      obtain ⟨V, hV⟩ : ∃ V, Lx.part s[i + 2] = V := ⟨_, rfl⟩
      rw [hV] at CP
      simp only [Option.map_some, hV] at HT
      clear g2 hV
      go_wp2_with fail
      refine (CP.out _).mono ?_
      rintro e1 w1 ⟨rfl, rfl⟩
      clear CP
      cases V
      · go_wp2
        go_ret2
        exact ⟨by rw [HT.out]; rfl, Below.refl _ _⟩
      · go_wp2
        go_ret2
        exact ⟨by rw [HT.out]; rfl, Below.refl _ _⟩
    · have h2' : ¬ ((i : Int) + 2 < (s.size : Int)) := by omega
      have g2 : (bs s)[i + 2]? = none := by rw [List.getElem?_eq_none_iff, bs_len]; omega
      rw [g2] at HT
      clear g2
      go_wp2
      go_ret2
      exact ⟨by rw [HT.out]; rfl, Below.refl _ _⟩
end Go.Proofs.Ytihbecfjgdlebaa
