/- Walks of layer 1's reference: the token at an index. -/
import Derived.Test.YtihbecfjgdlebaaLexRef3
import Derived.Deep.RegionWith
import Derived.BigQuiet
namespace Go.Proofs.Ytihbecfjgdlebaa
open Go.RowKit

/-- The reference's two numbers. -/
def kindJ : Option (Nat × Nat) → Value
  | some (k, j) => .tuple #[.int .i64 k, .int .i64 j]
  | none => .tuple #[.int .i64 0, .int .i64 0]

set_option maxRecDepth 100000 in
set_option maxHeartbeats 1000000 in
theorem rToken_capital (s : ByteArray) (i : Nat) (w : World) (hs : s.size ≤ 100000) (hi : i < s.size) (hc : Lx.capital s[i] = true) :
    Calls Try.prog 51 #[.string s, .int .i64 i] w fun e w' => e = .returned (kindJ (Lx.tokAt (bs s) i)) ∧ Below w.heap.size w w' := by
  have hsm : Lx.small s[i] = false := by
    simp only [Lx.capital, Bool.and_eq_true, decide_eq_true_eq] at hc
    simp only [Lx.small, Bool.and_eq_false_iff, decide_eq_false_iff_not]; omega
  have h0 : (bs s)[i]? = some s[i] := by rw [List.getElem?_eq_getElem (by rw [bs_len]; exact hi), bs_get hi]
  have ht : Lx.tokAt (bs s) i = some (2, Lx.runTo (bs s) i) := by simp only [Lx.tokAt, h0, hsm, hc]; rfl
  rw [ht]
  have hby := byte_lt s[i]
  have CC := Lib.hid (fun w => rCapital s[i] w)
  rw [hc] at CC
  have CR := Lib.hid (fun w => rRun s i w (by unfold maxLen; omega) (by omega))
  have hi' : (i : Int) < (s.size : Int) := by omega
  clear ht h0 hsm hc
  go_enter Try.func51, Try.ntmps51
  go_wp2_with fail
  refine (CC.out _).mono ?_
  rintro e w1 ⟨rfl, rfl⟩
  go_wp2_with fail
  refine (CR.out _).mono ?_
  rintro e w1 ⟨rfl, rfl⟩
  go_wp2
  go_ret2
  exact ⟨rfl, Below.refl _ _⟩

theorem words_has (x : ByteArray) : anyEq wordsB x = Lx.words.contains (bs x) := by
  unfold anyEq wordsB
  rw [List.any_map, Bool.eq_iff_iff, List.any_eq_true, List.contains_iff_mem]
  constructor
  · rintro ⟨l, hl, h⟩
    simp only [Function.comp_apply, ByteArray.toList_eq, beq_iff_eq] at h
    rw [show bs x = l from h.symm]; exact hl
  · intro h
    exact ⟨_, h, by simp only [Function.comp_apply, ByteArray.toList_eq, beq_iff_eq]; rfl⟩
theorem bytes_eq (x : ByteArray) (l : Lx.Bs) : (x.toList == l) = decide (bs x = l) := by
  rw [ByteArray.toList_eq, Bool.eq_iff_iff, beq_iff_eq, decide_eq_true_eq]; rfl
theorem pre_dash (l : Lx.Bs) (j : Nat) : Lx.pre l j [45] = decide (l[j]? = some 45) := by
  unfold Lx.pre
  cases h : l.drop j with
  | nil =>
    have : l[j]? = none := by rw [List.getElem?_eq_none_iff]; exact List.drop_eq_nil_iff.1 h
    rw [this]; rfl
  | cons c r =>
    have : l[j]? = some c := by have := congrArg (fun x => x[0]?) h; simpa using this
    rw [this]
    by_cases h45 : c = 45
    · subst h45; simp [List.isPrefixOf]
    · have : (45 == c) = false := by rw [beq_eq_false_iff_ne]; exact fun e => h45 e.symm
      simp [List.isPrefixOf, this, h45]

set_option maxRecDepth 100000 in
set_option maxHeartbeats 2000000 in
theorem rToken_small (s : ByteArray) (i : Nat) (w : World) (hs : s.size ≤ 100000) (hi : i < s.size) (hsm : Lx.small s[i] = true) :
    Calls Try.prog 51 #[.string s, .int .i64 i] w fun e w' => e = .returned (kindJ (Lx.tokAt (bs s) i)) ∧ Below w.heap.size w w' := by
  have hc : Lx.capital s[i] = false := by
    simp only [Lx.small, Bool.and_eq_true, decide_eq_true_eq] at hsm
    simp only [Lx.capital, Bool.and_eq_false_iff, decide_eq_false_iff_not]; omega
  have HT := Lib.hid (tok_small (e := Lx.nameTo (bs s) i) hi hsm rfl)
  have hnl := Lx.nameTo_le (l := bs s) (i := i) (by rw [bs_len]; omega)
  have hrl := Lx.runTo_le (l := bs s) (i := i) (by rw [bs_len]; omega)
  rw [bs_len] at hnl hrl
  have HD : Hid (Lx.nameTo (bs s) i = if (bs s)[Lx.runTo (bs s) i]? = some 64 ∧ ((bs s)[Lx.runTo (bs s) i + 1]?.map Lx.small) = some true then Lx.runTo (bs s) (Lx.runTo (bs s) i + 1) else Lx.runTo (bs s) i) := Lib.hid rfl
  obtain ⟨e, he⟩ : ∃ e, Lx.nameTo (bs s) i = e := ⟨_, rfl⟩
  obtain ⟨T, hT⟩ : ∃ T, Lx.tokAt (bs s) i = T := ⟨_, rfl⟩
  have CR := Lib.hid (fun w => rRun s i w (by unfold maxLen; omega) (by omega))
  obtain ⟨j, hj⟩ : ∃ j, Lx.runTo (bs s) i = j := ⟨_, rfl⟩
  have hby := byte_lt s[i]
  have CC := Lib.hid (fun w => rCapital s[i] w)
  have CM := Lib.hid (fun w => rSmall s[i] w)
  rw [hc] at CC
  rw [hsm] at CM
  rw [he] at HT hnl HD
  rw [hT] at HT ⊢
  rw [hj] at hrl HD CR
  have hi' : (i : Int) < (s.size : Int) := by omega
  clear hc hsm he hT hj
  go_enter Try.func51, Try.ntmps51
  go_wp2_with fail
  refine (CC.out _).mono ?_
  rintro e1 w1 ⟨rfl, rfl⟩
  go_wp2_with fail
  refine (CM.out _).mono ?_
  rintro e1 w1 ⟨rfl, rfl⟩
  go_wp2_with fail
  refine (CR.out _).mono ?_
  rintro e1 w1 ⟨rfl, rfl⟩
  clear CC CM CR
  obtain ⟨X, hX⟩ : ∃ X, decide ((bs s)[j]? = some 64 ∧ ((bs s)[j + 1]?.map Lx.small) = some true) = X := ⟨_, rfl⟩
  have HX := Lib.hid hX
  clear hX
  go_upto_region 5 with fail
  go_cut [40] (fun v wx => v = .bool X ∧ wx = w)
  case first =>
    by_cases h1 : j + 1 < s.size
    · have h1' : (j : Int) + 1 < (s.size : Int) := by omega
      have hj' : (j : Int) < (s.size : Int) := by omega
      have g0 : (bs s)[j]? = some (s[j]'(by omega)) := by rw [List.getElem?_eq_getElem (by rw [bs_len]; omega), bs_get (by omega)]
      have g1 : (bs s)[j + 1]? = some s[j + 1] := by rw [List.getElem?_eq_getElem (by rw [bs_len]; omega), bs_get (by omega)]
      rw [g0, g1] at HX
      have hb0 := byte_lt (s[j]'(by omega))
      have hb1 := byte_lt s[j + 1]
      clear g0 g1
      by_cases h2 : (s[j]'(by omega)) = 64
      · have h2' : (((s[j]'(by omega)).toNat : Int) == 64) = true := by rw [h2]; rfl
        have HX2 : Hid (X = Lx.small s[j + 1]) := Lib.hid (by rw [← HX.out, h2]; simp)
        have CM := Lib.hid (fun w => rSmall s[j + 1] w)
        obtain ⟨V, hV⟩ : ∃ V, Lx.small s[j + 1] = V := ⟨_, rfl⟩
        rw [hV] at CM HX2
        clear h2 hV HX
        go_wp2_with fail
        refine (CM.out _).mono ?_
        rintro e1 w1 ⟨rfl, rfl⟩
        go_wp2
        go_meet
        exact ⟨by rw [HX2.out], rfl⟩
      · have h2' : (((s[j]'(by omega)).toNat : Int) == 64) = false := by
          rw [beq_eq_false_iff_ne]; intro e; exact h2 (by rw [← UInt8.toNat_inj]; exact Int.ofNat_inj.1 e)
        have HX2 : Hid (X = false) := Lib.hid (by rw [← HX.out]; simp [h2])
        clear h2 HX
        go_wp2
        go_meet
        exact ⟨by rw [HX2.out], rfl⟩
    · have h1' : ¬ ((j : Int) + 1 < (s.size : Int)) := by omega
      have HX2 : Hid (X = false) := Lib.hid (by
        have g1 : (bs s)[j + 1]? = none := by rw [List.getElem?_eq_none_iff, bs_len]; omega
        rw [← HX.out, g1]; simp)
      clear HX
      go_wp2
      go_meet
      exact ⟨by rw [HX2.out], rfl⟩
  case rest =>
    obtain ⟨rfl, rfl⟩ := hcut
    go_upto_if 40 with fail
    go_cut [6] (fun v wx => v = .int .i64 e ∧ wx = wc)
    case first =>
      cases X
      · have HE : Hid (e = j) := Lib.hid (by rw [HD.out, if_neg (of_decide_eq_false HX.out)])
        go_wp2
        go_meet
        exact ⟨by rw [HE.out], rfl⟩
      · have hx := of_decide_eq_true HX.out
        have hj1 : j + 1 < s.size := by
          rcases Nat.lt_or_ge (j + 1) s.size with h | h
          · exact h
          · have g1 : (bs s)[j + 1]? = none := by rw [List.getElem?_eq_none_iff, bs_len]; exact h
            rw [g1] at hx; simp at hx
        have HE : Hid (e = Lx.runTo (bs s) (j + 1)) := Lib.hid (by rw [HD.out, if_pos hx])
        have CR := Lib.hid (fun w => rRun s (j + 1) w (by unfold maxLen; omega) (by omega))
        rw [← HE.out] at CR
        clear hx
        have ej : (((j + 1 : Nat)) : Int) = (j : Int) + 1 := by omega
        rw [ej] at CR
        clear ej
        go_wp2_with fail
        refine (CR.out _).mono ?_
        rintro e1 w1 ⟨rfl, rfl⟩
        go_wp2
        go_meet
        exact ⟨rfl, rfl⟩
    case rest =>
      obtain ⟨rfl, rfl⟩ := hcut
      clear HD HX
      have CI := Lib.hid (fun w => rIsAt s ⟨#[45]⟩ e w hs (by decide) hnl.2)
      rw [show bs ⟨#[45]⟩ = [45] from rfl, pre_dash] at CI
      obtain ⟨O, hO⟩ : ∃ O, decide (bs (s.extract i e) = [111]) = O := ⟨_, rfl⟩
      obtain ⟨M, hM⟩ : ∃ M, decide ((bs s)[e]? = some 45) = M := ⟨_, rfl⟩
      have hO2 : ((s.extract i e).toList == [111]) = O := by rw [bytes_eq]; exact hO
      rw [hM] at CI
      have HO := Lib.hid hO
      have HM := Lib.hid hM
      clear hO hM
      have hie : (i : Int) ≤ (e : Int) := by omega
      have hes : (e : Int) ≤ (s.size : Int) := by omega
      go_upto_region 7 with fail
      go_cut [54] (fun v wx => v = .bool (O && M) ∧ wx = wc)
      case first =>
        cases O
        · go_wp2
          go_meet
          exact ⟨rfl, rfl⟩
        · go_wp2_with fail
          refine (CI.out _).mono ?_
          rintro e1 w1 ⟨rfl, rfl⟩
          go_wp2
          go_meet
          exact ⟨by simp, rfl⟩
      case rest =>
        obtain ⟨rfl, rfl⟩ := hcut
        clear CI hO2
        cases hOM : (O && M)
        · have HT2 : Hid (T = if Lx.words.contains (bs (s.extract i e)) = true then some (4, e) else some (1, e)) := Lib.hid (by
            rw [HT.out, if_neg]
            rintro ⟨h1, h2⟩
            rw [← HO.out, ← HM.out, decide_eq_true h1, decide_eq_true h2] at hOM
            cases hOM)
          clear HT hOM
          go_upto_region 9 with fail
          obtain ⟨Y, hY⟩ : ∃ Y, Lx.words.contains (bs (s.extract i e)) = Y := ⟨_, rfl⟩
          have HY := Lib.hid (words_has (s.extract i e))
          rw [hY] at HT2 HY
          clear hY
          go_cut [63] (fun v wx => v = .bool Y ∧ Hid (Below wc.heap.size wc wx))
          case first =>
            have CX := Lib.hid (rIndex (.slice (some ⟨wc.heap.size, 0, none⟩) 17 17) wordsB (s.extract i e) (wc.alloc (.cells (wordsB.map Value.string).toArray 9)).drew (strSl_lit wc wordsB 9) (by decide))
            have hbw : Hid (Below wc.heap.size wc (wc.alloc (.cells (wordsB.map Value.string).toArray 9)).drew) := (((Below.refl _ wc).alloc (Nat.le_refl _) _).drew)
            have CW := Lib.hid (fun w => rWords w)
            generalize wordsB.map Value.string = WV at CX hbw CW
            go_region_with (first
              | (go_at_call 27; refine (CW.out _).mono ?_; rintro e1 w1 ⟨rfl, rfl⟩)
              | (go_at_call 78; refine CX.out.mono ?_; rintro e1 w1 ⟨⟨m, rfl, hm⟩, rfl⟩))
            all_goals go_wp2
            all_goals go_meet
            all_goals exact ⟨by rw [HY.out], hbw⟩
          case rest =>
            obtain ⟨rfl, hbx⟩ := hcut
            cases Y
            · go_wp2
              go_ret2
              exact ⟨by rw [HT2.out]; rfl, hbx.out⟩
            · go_wp2
              go_ret2
              exact ⟨by rw [HT2.out]; rfl, hbx.out⟩
        · have HT2 : Hid (T = some (3, e + 1)) := Lib.hid (by
            rw [HT.out, if_pos]
            rw [Bool.and_eq_true] at hOM
            exact ⟨of_decide_eq_true (HO.out.trans hOM.1), of_decide_eq_true (HM.out.trans hOM.2)⟩)
          clear HT hOM
          go_wp2
          go_ret2
          exact ⟨by rw [HT2.out]; rfl, Below.refl _ _⟩
end Go.Proofs.Ytihbecfjgdlebaa
