/- Layer 1: Check, IsName, IsVar of the program, which look at the text alone (written by gen_names.py). -/
import Derived.Test.YtihbecfjgdlebaaLexNameQ
namespace Go.Proofs.Ytihbecfjgdlebaa
open Go.RowKit

def smallS : ByteArray := ⟨#[97, 98, 99, 100, 101, 102, 103, 104, 105, 106, 107, 108, 109, 110, 111, 112, 113, 114, 115, 116, 117, 118, 119, 120, 121, 122]⟩
def capS : ByteArray := ⟨#[65, 66, 67, 68, 69, 70, 71, 72, 73, 74, 75, 76, 77, 78, 79, 80, 81, 82, 83, 84, 85, 86, 87, 88, 89, 90]⟩
def partS : ByteArray := ⟨#[97, 98, 99, 100, 101, 102, 103, 104, 105, 106, 107, 108, 109, 110, 111, 112, 113, 114, 115, 116, 117, 118, 119, 120, 121, 122, 65, 66, 67, 68, 69, 70, 71, 72, 73, 74, 75, 76, 77, 78, 79, 80, 81, 82, 83, 84, 85, 86, 87, 88, 89, 90, 48, 49, 50, 51, 52, 53, 54, 55, 56, 57, 95, 39]⟩
theorem in_small (c : UInt8) : decide (0 ≤ Lib.indexByte smallS.data.toList c) = Lx.small c := by
  have := byte_forall (P := fun c => decide (0 ≤ Lib.indexByte smallS.data.toList c) == Lx.small c) (by decide +kernel) c
  exact beq_iff_eq.1 this
theorem in_cap (c : UInt8) : decide (0 ≤ Lib.indexByte capS.data.toList c) = Lx.capital c := by
  have := byte_forall (P := fun c => decide (0 ≤ Lib.indexByte capS.data.toList c) == Lx.capital c) (by decide +kernel) c
  exact beq_iff_eq.1 this
theorem in_part (c : UInt8) : decide (0 ≤ Lib.indexByte partS.data.toList c) = Lx.part c := by
  have := byte_forall (P := fun c => decide (0 ≤ Lib.indexByte partS.data.toList c) == Lx.part c) (by decide +kernel) c
  exact beq_iff_eq.1 this
set_option maxRecDepth 100000 in
set_option maxHeartbeats 400000 in
theorem nWords (w : World) : Calls Try.prog 26 #[] w fun e w' => e = .returned (.slice (some ⟨w.heap.size, 0, none⟩) 17 17) ∧ w' = w.alloc (.cells (wordsB.map Value.string).toArray 9) := by
  go_enter Try.func26, Try.ntmps26
  go_wp2
  go_ret
  exact ⟨rfl, rfl⟩

set_option maxRecDepth 100000 in
set_option maxHeartbeats 400000 in
theorem begins_v (P : UInt8 → Bool) (V : Bool) (s L : ByteArray) (w : World) (hP : ∀ c, decide (0 ≤ Lib.indexByte L.data.toList c) = P c) (hV : Lx.headP P (bs s) = V) :
    Calls Try.prog 53 #[.string s, .string L] w fun e w' => e = .returned (.bool V) ∧ w' = w := by
  by_cases h0 : s.size = 0
  · obtain rfl : s = ⟨#[]⟩ := by
      obtain ⟨⟨l⟩⟩ := s
      have : l = [] := List.eq_nil_of_length_eq_zero (by simpa [ByteArray.size] using h0)
      rw [this]
    have hVf : V = false := by rw [← hV]; rfl
    subst hVf
    clear hV hP h0
    go_enter Try.func53, Try.ntmps53
    go_wp2
    go_ret
    exact ⟨rfl, rfl⟩
  · have hpos : 0 < s.size := by omega
    have hne2 : (s.toList == []) = false := by
      rw [ByteArray.toList_eq, beq_eq_false_iff_ne]
      intro e
      have h1 : s.data.toList.length = s.size := rfl
      have h2 : s.size = ([] : List UInt8).length := h1.symm.trans (congrArg List.length e)
      simp only [List.length_nil] at h2
      omega
    have hne : (!(s.toList == [])) = true := by rw [hne2]; rfl
    have hg : (bs s)[0]? = some s[0] := by rw [List.getElem?_eq_getElem (by rw [bs_len]; exact hpos), bs_get hpos]
    have hv : decide ((0 : Int) ≤ Lib.indexByte L.data.toList s[0]) = V := by rw [← hV, hP]; unfold Lx.headP; rw [hg]; rfl
    have hlt : s[0].toNat < 256 := s[0].toNat_lt
    have C := fun w => Try.strings_IndexByte L (s[0].toNat : Int) w
    rw [show ((s[0].toNat : Int)).toNat.toUInt8 = s[0] from by simp] at C
    obtain ⟨I, hI⟩ : ∃ I, Lib.indexByte L.data.toList s[0] = I := ⟨_, rfl⟩
    rw [hI] at C hv
    have HC := Lib.hid C
    have HV := Lib.hid hv
    clear C hV hP hg hI h0 hv
    go_enter Try.func53, Try.ntmps53
    go_wp2_with fail
    refine (HC.out _).mono ?_
    rintro e w1 ⟨rfl, rfl⟩
    go_wp2
    go_ret
    exact ⟨by rw [← HV.out]; rfl, rfl⟩

theorem all_step {l : Lx.Bs} {k : Nat} (h : k < l.length) : (l.drop k).all Lx.part = (Lx.part l[k] && (l.drop (k + 1)).all Lx.part) := by
  rw [List.drop_eq_getElem_cons h, List.all_cons]
set_option maxRecDepth 100000 in
set_option maxHeartbeats 400000 in
theorem inName_v (V : Bool) (s : ByteArray) (w : World) (hs : s.size ≤ maxLen) (hV : (bs s).all Lx.part = V) :
    Calls Try.prog 54 #[.string s] w fun e w' => e = .returned (.bool V) ∧ w' = w := by
  unfold maxLen at hs
  have HV := Lib.hid hV
  have HL := Lib.hid (bs_len s)
  have hby := byte_lt
  have HC := Lib.hid (fun (c : UInt8) w => Try.strings_IndexByte partS (c.toNat : Int) w)
  clear hV
  go_enter Try.func54, Try.ntmps54
  go_wp2
  go_loopw [6] (fun v wr => ∃ k : Nat, k ≤ s.size ∧ v = .int .i64 k ∧ Hid (((bs s).drop k).all Lx.part = V) ∧ wr = w) (fun v _ => s.size - (intOf v).toNat)
  case atStart => exact ⟨0, Nat.zero_le _, rfl, Lib.hid (by rw [List.drop_zero]; exact HV.out), rfl⟩
  case round =>
    obtain ⟨k, hk, rfl, hall, rfl⟩ := hrel
    by_cases hlt : k < s.size
    · have hlt' : (k : Int) < (s.size : Int) := by omega
      have hst := all_step (l := bs s) (k := k) (by rw [bs_len]; exact hlt)
      rw [bs_get hlt] at hst
      have C := fun w => HC.out s[k] w
      rw [show ((s[k].toNat : Int)).toNat.toUInt8 = s[k] from by simp] at C
      have hin := in_part s[k]
      obtain ⟨I, hI⟩ : ∃ I, Lib.indexByte partS.data.toList s[k] = I := ⟨_, rfl⟩
      rw [hI] at C hin
      have Hst := Lib.hid hst
      have CC := Lib.hid C
      have Hin := Lib.hid hin
      clear hst C hI hin
      unfold partS at CC
      go_wp2_with fail
      refine (CC.out _).mono ?_
      rintro e w1 ⟨rfl, rfl⟩
      by_cases hi : I < 0
      · go_wp2
        go_ret
        exact ⟨by rw [← hall.out, Hst.out, ← Hin.out, decide_eq_false (by omega)]; rfl, rfl⟩
      · go_wp2
        go_roundw
        case rel => exact ⟨k + 1, by omega, by push_cast; rfl, Lib.hid (by rw [← hall.out, Hst.out, ← Hin.out, decide_eq_true (by omega)]; rfl), trivial⟩
        case measure => simp [intOf]; omega
    · have hlt' : ¬ (k : Int) < (s.size : Int) := by omega
      have hVt : V = true := by rw [← hall.out, List.drop_of_length_le (by rw [bs_len]; omega)]; rfl
      subst hVt
      go_wp2
      go_ret
      exact ⟨rfl, rfl⟩

set_option maxRecDepth 100000 in
set_option maxHeartbeats 400000 in
theorem liteCut_any (s : ByteArray) (w : World) (hs : s.size ≤ maxLen) :
    Calls Try.prog 80 #[.string s, .string ⟨#[64]⟩] w fun e w' => Below w.heap.size w w' ∧
      ((Lib.indexByte s.data.toList 64 = -1 ∧ e = .returned (.tuple #[.string s, .string ⟨#[]⟩, .bool false])) ∨
        ∃ i : Nat, i < s.size ∧ Lib.indexByte s.data.toList 64 = i ∧ e = .returned (.tuple #[.string (s.extract 0 i), .string (s.extract (i + 1) s.size), .bool true])) := by
  have hc := cut_cases s
  unfold maxLen at hs
  have HC := fun w => Try.stringslite_Index_one s 64 w
  rcases hc with hm | ⟨i, hi, he⟩
  · rw [hm] at HC
    have HM := Lib.hid hm
    have C := Lib.hid HC
    clear hm HC
    go_enter Try.func80, Try.ntmps80
    go_wp2_with fail
    refine (C.out _).mono ?_
    rintro e w1 ⟨rfl, rfl⟩
    go_wp2
    go_ret3
    exact ⟨Below.refl _ _, .inl ⟨HM.out, rfl⟩⟩
  · rw [he] at HC
    have HM := Lib.hid he
    have C := Lib.hid HC
    clear he HC
    have c1 : (0 : Int) ≤ (i : Int) := by omega
    have c2 : (i : Int) ≤ (s.size : Int) := by omega
    have c3 : (0 : Int) ≤ (i : Int) + 1 := by omega
    have c4 : (i : Int) + 1 ≤ (s.size : Int) := by omega
    go_enter Try.func80, Try.ntmps80
    go_wp2_with fail
    refine (C.out _).mono ?_
    rintro e w1 ⟨rfl, rfl⟩
    go_wp2_with fail
    go_quiet (fail)
    go_wp2
    go_ret3
    exact ⟨⟨rfl, rfl, rfl, Nat.le_refl _, fun _ _ => rfl⟩, .inr ⟨i, hi, HM.out, rfl⟩⟩
set_option maxRecDepth 100000 in
set_option maxHeartbeats 400000 in
theorem cut_any (s : ByteArray) (w : World) (hs : s.size ≤ maxLen) :
    Calls Try.prog 52 #[.string s, .string ⟨#[64]⟩] w fun e w' => Below w.heap.size w w' ∧
      ((Lib.indexByte s.data.toList 64 = -1 ∧ e = .returned (.tuple #[.string s, .string ⟨#[]⟩, .bool false])) ∨
        ∃ i : Nat, i < s.size ∧ Lib.indexByte s.data.toList 64 = i ∧ e = .returned (.tuple #[.string (s.extract 0 i), .string (s.extract (i + 1) s.size), .bool true])) := by
  have C := Lib.hid (fun w => liteCut_any s w hs)
  go_enter Try.func52, Try.ntmps52
  go_wp2_with fail
  refine (C.out _).mono ?_
  rintro e w1 ⟨hb, ⟨hm, rfl⟩ | ⟨i, hi, he, rfl⟩⟩
  · have HM := Lib.hid hm
    clear hm
    go_wp2
    go_ret3
    exact ⟨hb, .inl ⟨HM.out, rfl⟩⟩
  · have HM := Lib.hid he
    clear he
    go_wp2
    go_ret3
    exact ⟨hb, .inr ⟨i, hi, HM.out, rfl⟩⟩

theorem words_in (x : ByteArray) (w : World) (b : Nat) (hb : ∀ k, k < wordsB.length → w.cell? ⟨b, 0 + k, none⟩ = some (.string (wordsB.getD k ByteArray.empty))) :
    Calls Try.prog 55 #[.slice (some ⟨b, 0, none⟩) 17 17, .string x] w fun e w' => e = .returned (.bool (Lx.words.contains (bs x))) ∧ w' = w := by
  have := Try.slices_Contains_string b 0 17 17 wordsB x w (by decide) (by omega) hb
  rwa [contains_words] at this
theorem lit_cells (w : World) (L : List ByteArray) (t : TypeId) (k : Nat) (hk : k < L.length) : (w.alloc (.cells (L.map Value.string).toArray t)).cell? ⟨w.heap.size, 0 + k, none⟩ = some (.string (L.getD k ByteArray.empty)) := by
  rw [World.cell?_alloc_at _ _ _ _ rfl]
  simp only [Nat.zero_add, List.getElem?_toArray, List.getElem?_map, List.getD_eq_getElem?_getD]
  rw [List.getElem?_eq_getElem hk]
  rfl
set_option maxRecDepth 100000 in
set_option maxHeartbeats 1000000 in
theorem isName_plain (V : Bool) (s : ByteArray) (w : World) (hs : s.size ≤ maxLen) (hm : Lib.indexByte s.data.toList 64 = -1) (hV : checkB ⟨1, s, 0⟩ = V) :
    Calls Try.prog 17 #[.string s] w fun e w' => e = .returned (.bool V) ∧ Below w.heap.size w w' := by
  rw [name_plain s hm] at hV
  have C0 := Lib.hid (fun w => cut_any s w hs)
  obtain ⟨p, hp⟩ : ∃ p, s = p := ⟨_, rfl⟩
  have hx1 : p.size ≤ maxLen := by rw [← hp]; exact hs
  have CW : Hid (∀ w, Calls Try.prog 26 #[] w fun e w' => e = .returned (.slice (some ⟨w.heap.size, 0, none⟩) 17 17) ∧ w' = w.alloc (.cells (wordsB.map Value.string).toArray 9)) := Lib.hid nWords
  obtain ⟨VW, hW⟩ : ∃ v, Lx.words.contains (bs s) = v := ⟨_, rfl⟩
  have CC := fun w b hb => words_in s w b hb
  rw [hW] at CC
  rw [hp] at hV
  have hV := hV
  rw [← hp] at hV
  rw [hW] at hV
  obtain ⟨B1, hB1⟩ : ∃ v, Lx.headP Lx.small (bs s) = v := ⟨_, rfl⟩
  obtain ⟨P1, hP1⟩ : ∃ v, (bs s).all Lx.part = v := ⟨_, rfl⟩
  rw [hB1, hP1] at hV
  have CB1 := Lib.hid (fun w => begins_v Lx.small B1 s smallS w in_small hB1)
  have CP1 := Lib.hid (fun w => inName_v P1 s w hs hP1)
  unfold smallS at CB1
  have CH := Lib.hid CC
  have HM := Lib.hid hm
  have HV := Lib.hid hV
  have HPQ := Lib.hid hp
  by_cases h40 : (s.size : Int) ≤ 40
  · have HD := Lib.hid (decide_eq_true (show s.size ≤ 40 by omega))
    clear CC hW hm hV hp  hB1 hP1 hx1
    go_enter Try.func17, Try.ntmps17
    go_wp2_with fail
    refine (C0.out _).mono ?_
    rintro e w1 ⟨hb, ⟨_, rfl⟩ | ⟨i, _, he, _⟩⟩
    case inr => rw [HM.out] at he; omega
    clear C0
    have Hb := Lib.hid hb
    clear hb
    go_wp2_with fail
    refine (CB1.out _).mono ?_
    rintro e w2 ⟨rfl, hw⟩
    obtain rfl := hw.symm
    clear CB1
    cases B1
    · go_wp2
      go_ret
      exact ⟨by rw [← HV.out, HD.out]; rfl, Hb.out⟩
    · skip
      go_wp2_with fail
      refine (CP1.out _).mono ?_
      rintro e w2 ⟨rfl, hw⟩
      obtain rfl := hw.symm
      clear CP1
      cases P1
      · go_wp2
        go_ret
        exact ⟨by rw [← HV.out, HD.out]; rfl, Hb.out⟩
      · skip
        go_wp2_with fail
        refine (CW.out _).mono ?_
        rintro e w2 ⟨rfl, rfl⟩
        have CI := Lib.hid (CH.out _ _ (fun k hk => lit_cells w1 wordsB 9 k hk))
        clear CW CH
        go_wp2_with fail
        refine CI.out.mono ?_
        rintro e w2 ⟨rfl, rfl⟩
        clear CI
        cases VW
        · go_wp2
          go_ret
          exact ⟨by rw [← HV.out, HD.out]; rfl, Hb.out.trans ((Below.refl _ _).alloc Hb.out.size _)⟩
        · go_wp2
          go_ret
          exact ⟨by rw [← HV.out, HD.out]; rfl, Hb.out.trans ((Below.refl _ _).alloc Hb.out.size _)⟩
  · have HD := Lib.hid (decide_eq_false (show ¬ s.size ≤ 40 by omega))
    clear CC hW hm hV hp  hB1 hP1 hx1
    go_enter Try.func17, Try.ntmps17
    go_wp2_with fail
    refine (C0.out _).mono ?_
    rintro e w1 ⟨hb, ⟨_, rfl⟩ | ⟨i, _, he, _⟩⟩
    case inr => rw [HM.out] at he; omega
    clear C0
    have Hb := Lib.hid hb
    clear hb
    go_wp2
    go_ret
    exact ⟨by rw [← HV.out, HD.out]; rfl, Hb.out⟩
set_option maxRecDepth 100000 in
set_option maxHeartbeats 1000000 in
theorem isName_linked (V : Bool) (s : ByteArray) (w : World) (hs : s.size ≤ maxLen) (i : Nat) (hi : i < s.size) (hm : Lib.indexByte s.data.toList 64 = i) (hV : checkB ⟨1, s, 0⟩ = V) :
    Calls Try.prog 17 #[.string s] w fun e w' => e = .returned (.bool V) ∧ Below w.heap.size w w' := by
  rw [name_linked s i hm] at hV
  have hx1 : (s.extract 0 i).size ≤ maxLen := by rw [ByteArray.size_extract]; unfold maxLen at *; omega
  have hx2 : (s.extract (i + 1) s.size).size ≤ maxLen := by rw [ByteArray.size_extract]; unfold maxLen at *; omega
  have C0 := Lib.hid (fun w => cut_any s w hs)
  obtain ⟨p, hp⟩ : ∃ p, s.extract 0 i = p := ⟨_, rfl⟩
  obtain ⟨q, hq⟩ : ∃ q, s.extract (i + 1) s.size = q := ⟨_, rfl⟩
  rw [hp] at hx1
  rw [hq] at hx2
  rw [hp, hq] at hV
  have CW : Hid (∀ w, Calls Try.prog 26 #[] w fun e w' => e = .returned (.slice (some ⟨w.heap.size, 0, none⟩) 17 17) ∧ w' = w.alloc (.cells (wordsB.map Value.string).toArray 9)) := Lib.hid nWords
  obtain ⟨VW, hW⟩ : ∃ v, Lx.words.contains (bs s) = v := ⟨_, rfl⟩
  have CC := fun w b hb => words_in s w b hb
  rw [hW] at CC
  rw [hW] at hV
  obtain ⟨B1, hB1⟩ : ∃ v, Lx.headP Lx.small (bs p) = v := ⟨_, rfl⟩
  obtain ⟨P1, hP1⟩ : ∃ v, (bs p).all Lx.part = v := ⟨_, rfl⟩
  rw [hB1, hP1] at hV
  obtain ⟨B2, hB2⟩ : ∃ v, Lx.headP Lx.small (bs q) = v := ⟨_, rfl⟩
  obtain ⟨P2, hP2⟩ : ∃ v, (bs q).all Lx.part = v := ⟨_, rfl⟩
  rw [hB2, hP2] at hV
  have CB1 := Lib.hid (fun w => begins_v Lx.small B1 p smallS w in_small hB1)
  have CP1 := Lib.hid (fun w => inName_v P1 p w hx1 hP1)
  unfold smallS at CB1
  have CB2 := Lib.hid (fun w => begins_v Lx.small B2 q smallS w in_small hB2)
  have CP2 := Lib.hid (fun w => inName_v P2 q w hx2 hP2)
  unfold smallS at CB2
  have CH := Lib.hid CC
  have HM := Lib.hid hm
  have HV := Lib.hid hV
  have HPQ := Lib.hid hp
  have HQQ := Lib.hid hq
  by_cases h40 : (s.size : Int) ≤ 40
  · have HD := Lib.hid (decide_eq_true (show s.size ≤ 40 by omega))
    clear CC hW hm hV hp hq hB2 hP2 hx2 hi  hB1 hP1 hx1
    go_enter Try.func17, Try.ntmps17
    go_wp2_with fail
    refine (C0.out _).mono ?_
    rintro e w1 ⟨hb, ⟨hm, _⟩ | ⟨i', _, he, rfl⟩⟩
    · rw [HM.out] at hm; omega
    obtain rfl : i' = i := by rw [HM.out] at he; omega
    rw [HPQ.out, HQQ.out]
    clear C0
    have Hb := Lib.hid hb
    clear hb
    go_wp2_with fail
    refine (CB1.out _).mono ?_
    rintro e w2 ⟨rfl, hw⟩
    obtain rfl := hw.symm
    clear CB1
    cases B1
    · go_wp2
      go_ret
      exact ⟨by rw [← HV.out, HD.out]; rfl, Hb.out⟩
    · skip
      go_wp2_with fail
      refine (CP1.out _).mono ?_
      rintro e w2 ⟨rfl, hw⟩
      obtain rfl := hw.symm
      clear CP1
      cases P1
      · go_wp2
        go_ret
        exact ⟨by rw [← HV.out, HD.out]; rfl, Hb.out⟩
      · skip
        go_wp2_with fail
        refine (CB2.out _).mono ?_
        rintro e w2 ⟨rfl, hw⟩
        obtain rfl := hw.symm
        clear CB2
        cases B2
        · go_wp2
          go_ret
          exact ⟨by rw [← HV.out, HD.out]; rfl, Hb.out⟩
        · skip
          go_wp2_with fail
          refine (CP2.out _).mono ?_
          rintro e w2 ⟨rfl, hw⟩
          obtain rfl := hw.symm
          clear CP2
          cases P2
          · go_wp2
            go_ret
            exact ⟨by rw [← HV.out, HD.out]; rfl, Hb.out⟩
          · skip
            go_wp2_with fail
            refine (CW.out _).mono ?_
            rintro e w2 ⟨rfl, rfl⟩
            have CI := Lib.hid (CH.out _ _ (fun k hk => lit_cells w1 wordsB 9 k hk))
            clear CW CH
            go_wp2_with fail
            refine CI.out.mono ?_
            rintro e w2 ⟨rfl, rfl⟩
            clear CI
            cases VW
            · go_wp2
              go_ret
              exact ⟨by rw [← HV.out, HD.out]; rfl, Hb.out.trans ((Below.refl _ _).alloc Hb.out.size _)⟩
            · go_wp2
              go_ret
              exact ⟨by rw [← HV.out, HD.out]; rfl, Hb.out.trans ((Below.refl _ _).alloc Hb.out.size _)⟩
  · have HD := Lib.hid (decide_eq_false (show ¬ s.size ≤ 40 by omega))
    clear CC hW hm hV hp hq hB2 hP2 hx2 hi  hB1 hP1 hx1
    go_enter Try.func17, Try.ntmps17
    go_wp2_with fail
    refine (C0.out _).mono ?_
    rintro e w1 ⟨hb, ⟨hm, _⟩ | ⟨i', _, he, rfl⟩⟩
    · rw [HM.out] at hm; omega
    obtain rfl : i' = i := by rw [HM.out] at he; omega
    rw [HPQ.out, HQQ.out]
    clear C0
    have Hb := Lib.hid hb
    clear hb
    go_wp2
    go_ret
    exact ⟨by rw [← HV.out, HD.out]; rfl, Hb.out⟩
theorem isName_v (V : Bool) (s : ByteArray) (w : World) (hs : s.size ≤ maxLen) (hV : checkB ⟨1, s, 0⟩ = V) :
    Calls Try.prog 17 #[.string s] w fun e w' => e = .returned (.bool V) ∧ Below w.heap.size w w' := by
  rcases cut_cases s with hm | ⟨i, hi, he⟩
  · exact isName_plain V s w hs hm hV
  · exact isName_linked V s w hs i hi he hV
theorem isName_any (s : ByteArray) (w : World) (hs : s.size ≤ maxLen) :
    Calls Try.prog 17 #[.string s] w fun e w' => e = .returned (.bool (checkB ⟨1, s, 0⟩)) ∧ Below w.heap.size w w' := isName_v _ s w hs rfl

set_option maxRecDepth 100000 in
set_option maxHeartbeats 400000 in
theorem isVar_v (V : Bool) (s : ByteArray) (w : World) (hs : s.size ≤ maxLen) (hV : checkB ⟨2, s, 0⟩ = V) :
    Calls Try.prog 21 #[.string s] w fun e w' => e = .returned (.bool V) ∧ Below w.heap.size w w' := by
  rw [check_var] at hV
  obtain ⟨B1, hB1⟩ : ∃ v, Lx.headP Lx.capital (bs s) = v := ⟨_, rfl⟩
  obtain ⟨P1, hP1⟩ : ∃ v, (bs s).all Lx.part = v := ⟨_, rfl⟩
  rw [hB1, hP1] at hV
  have CB1 := Lib.hid (fun w => begins_v Lx.capital B1 s capS w in_cap hB1)
  have CP1 := Lib.hid (fun w => inName_v P1 s w hs hP1)
  unfold capS at CB1
  have HV := Lib.hid hV
  by_cases h40 : (s.size : Int) ≤ 40
  · have HD := Lib.hid (decide_eq_true (show s.size ≤ 40 by omega))
    clear hV hB1 hP1
    go_enter Try.func21, Try.ntmps21
    go_wp2_with fail
    refine (CB1.out _).mono ?_
    rintro e w1 ⟨rfl, rfl⟩
    clear CB1
    cases B1
    · go_wp2
      go_ret
      exact ⟨by rw [← HV.out, HD.out]; rfl, Below.refl _ _⟩
    · go_wp2_with fail
      refine (CP1.out _).mono ?_
      rintro e w2 ⟨rfl, rfl⟩
      clear CP1
      cases P1
      · go_wp2
        go_ret
        exact ⟨by rw [← HV.out, HD.out]; rfl, Below.refl _ _⟩
      · go_wp2
        go_ret
        exact ⟨by rw [← HV.out, HD.out]; rfl, Below.refl _ _⟩
  · have HD := Lib.hid (decide_eq_false (show ¬ s.size ≤ 40 by omega))
    clear hV hB1 hP1
    go_enter Try.func21, Try.ntmps21
    go_wp2
    go_ret
    exact ⟨by rw [← HV.out, HD.out]; rfl, Below.refl _ _⟩
theorem isVar_any (s : ByteArray) (w : World) (hs : s.size ≤ maxLen) :
    Calls Try.prog 21 #[.string s] w fun e w' => e = .returned (.bool (checkB ⟨2, s, 0⟩)) ∧ Below w.heap.size w w' := isVar_v _ s w hs rfl
end Go.Proofs.Ytihbecfjgdlebaa
