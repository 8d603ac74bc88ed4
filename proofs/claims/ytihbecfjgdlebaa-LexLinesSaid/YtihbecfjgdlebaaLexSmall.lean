/- Walks of layer 1's finder: the token that begins with a small letter. -/
import Derived.Test.YtihbecfjgdlebaaLexLong
namespace Go.Proofs.Ytihbecfjgdlebaa
open Go.RowKit

def tokV (s : ByteArray) (kd i j : Nat) : Value := .agg #[.int .i64 kd, .string (s.extract i j), .int .i64 i]
/-- The token that begins at i is handed back; nothing that was there has changed. -/
def FoundTok (s : ByteArray) (i : Nat) (w : World) (e : Ending) (w' : World) : Prop :=
  ∃ kd j, Lx.tokAt (bs s) i = some (kd, j) ∧ e = .returned (tokV s kd i j) ∧ Below w.heap.size w w'
def wordsB : List ByteArray := Lx.words.map fun l => ⟨l.toArray⟩
theorem bs_inj {a b : ByteArray} (h : bs a = bs b) : a = b := by
  cases a; cases b; simp only [bs] at h; congr; exact Array.toList_inj.1 h
theorem contains_words (x : ByteArray) : Lib.containsS (wordsB.take 17) x = Lx.words.contains (bs x) := by
  rw [Bool.eq_iff_iff, Lib.containsS_iff, List.contains_iff_mem]
  rw [List.take_of_length_le (by simp [wordsB, Lx.words])]
  simp only [wordsB, List.mem_map]
  constructor
  · rintro ⟨l, hl, rfl⟩; simpa [bs] using hl
  · intro h; exact ⟨_, h, bs_inj (by simp [bs])⟩

theorem tok_small {s : ByteArray} {i e : Nat} (hi : i < s.size) (hsm : Lx.small s[i] = true) (hE : Lx.nameTo (bs s) i = e) :
    Lx.tokAt (bs s) i = if bs (s.extract i e) = [111] ∧ (bs s)[e]? = some 45 then some (3, e + 1) else if Lx.words.contains (bs (s.extract i e)) then some (4, e) else some (1, e) := by
  have h0 : (bs s)[i]? = some s[i] := by rw [List.getElem?_eq_getElem (by rw [bs_len]; exact hi), bs_get hi]
  simp only [Lx.tokAt, h0, hsm, if_true, hE, bs_extract]

/-- Does a linked name go on behind j? -/
def extB (l : Lx.Bs) (j : Nat) : Bool := Lx.pre l j [64] && (l[j + 1]?.map Lx.small).getD false
theorem ext_no1 {s : ByteArray} {j : Nat} (h : ¬ Lx.pre (bs s) j (bs ⟨#[64]⟩) = true) : extB (bs s) j = false := by
  have h' : Lx.pre (bs s) j [64] = false := by simpa [bs] using h
  simp [extB, h']
theorem ext_no2 {s : ByteArray} {j : Nat} (h : ¬ (j : Int) + 1 < s.size) : extB (bs s) j = false := by
  have : (bs s)[j + 1]? = none := List.getElem?_eq_none (by rw [bs_len]; omega)
  simp [extB, this]
theorem ext_yes {s : ByteArray} {j : Nat} (h : Lx.pre (bs s) j (bs ⟨#[64]⟩) = true) (h2 : j + 1 < s.size) : extB (bs s) j = Lx.small s[j + 1] := by
  have h' : Lx.pre (bs s) j [64] = true := h
  have : (bs s)[j + 1]? = some s[j + 1] := by rw [List.getElem?_eq_getElem (by rw [bs_len]; exact h2), bs_get h2]
  simp [extB, this, h']
theorem pre_one {l : Lx.Bs} {i : Nat} {a : UInt8} : Lx.pre l i [a] = true ↔ l[i]? = some a := by
  unfold Lx.pre
  rw [List.isPrefixOf_iff_prefix]
  have e : (l.drop i)[0]? = l[i]? := by rw [List.getElem?_drop]; simp
  constructor
  · rintro ⟨r, hr⟩
    have h0 : (l.drop i)[0]? = some a := by rw [← hr]; rfl
    exact e.symm.trans h0
  · intro h
    rw [← e] at h
    cases hd : l.drop i with
    | nil => rw [hd] at h; simp at h
    | cons b r => rw [hd] at h; simp at h; subst h; exact ⟨r, rfl⟩
theorem nameTo_ext {l : Lx.Bs} {i j : Nat} (hj : Lx.runTo l i = j) (h : extB l j = true) : Lx.nameTo l i = Lx.runTo l (j + 1) ∧ j + 1 < l.length := by
  simp only [extB, Bool.and_eq_true] at h
  have h1 := pre_one.1 h.1
  have hlt : j + 1 < l.length := by
    rcases Nat.lt_or_ge (j + 1) l.length with h' | h'
    · exact h'
    · rw [List.getElem?_eq_none h'] at h; simp at h
  refine ⟨?_, hlt⟩
  unfold Lx.nameTo
  simp only [hj]
  have hg : (l[j + 1]?.map Lx.small) = some true := by
    cases hq : l[j + 1]? with
    | none => rw [hq] at h; simp at h
    | some c => rw [hq] at h; simpa using h.2
  rw [if_pos ⟨h1, hg⟩]
theorem nameTo_not {l : Lx.Bs} {i j : Nat} (hj : Lx.runTo l i = j) (h : extB l j = false) : Lx.nameTo l i = j := by
  unfold Lx.nameTo
  simp only [hj]
  rw [if_neg]
  rintro ⟨h1, h2⟩
  have h1' := pre_one.2 h1
  simp only [extB, h1', Bool.true_and] at h
  cases hq : l[j + 1]? with
  | none => rw [hq] at h2; simp at h2
  | some c => rw [hq] at h h2; simp at h h2; simp [h] at h2

set_option maxRecDepth 100000 in
set_option maxHeartbeats 1600000 in
theorem small_any (s : ByteArray) (t fo ne nm sm tk wd wl : Nat) (i : Nat) (w : World) (hs : s.size ≤ 20000) (hi : i < s.size)
    (hT : w.cell? ⟨t, 0, none⟩ = some (.string s))
    (hN : ∀ c : UInt8, w.cell? ⟨nm, c.toNat, none⟩ = some (.bool (Lx.part c)))
    (hS : ∀ c : UInt8, w.cell? ⟨sm, c.toNat, none⟩ = some (.bool (Lx.small c)))
    (hFo : w.cell? ⟨fo, 0, none⟩ = some (.func (.func 96) #[] #[.pointer (some ⟨t, 0, none⟩)]))
    (hTk : w.cell? ⟨tk, 0, none⟩ = some (.func (.func 95) #[] #[.pointer (some ⟨t, 0, none⟩)]))
    (hWd : w.cell? ⟨wd, 0, none⟩ = some (.slice (some ⟨wl, 0, none⟩) 17 17))
    (hWl : ∀ k, k < wordsB.length → w.cell? ⟨wl, 0 + k, none⟩ = some (.string (wordsB.getD k ByteArray.empty)))
    (hsm : Lx.small (s[i]'hi) = true)
    (hNe : w.cell? ⟨ne, 0, none⟩ = some (.func (.func 98) #[] #[.pointer (some ⟨t, 0, none⟩), .pointer (some ⟨nm, 0, none⟩)])) :
    Calls Try.prog 99 #[.int .i64 i, .pointer (some ⟨ne, 0, none⟩), .pointer (some ⟨fo, 0, none⟩), .pointer (some ⟨t, 0, none⟩), .pointer (some ⟨sm, 0, none⟩), .pointer (some ⟨tk, 0, none⟩), .pointer (some ⟨wd, 0, none⟩)] w (FoundTok s i w) := by
  have hm := small_max hs
  have b1 := block_lt_of_cell hT
  have b2 := block_lt_of_cell hFo
  have b3 := block_lt_of_cell hTk
  have b4 := block_lt_of_cell hNe
  have b5 := block_lt_of_cell (hN 0)
  have b6 := block_lt_of_cell (hS 0)
  have b7 := block_lt_of_cell hWd
  have b8 := block_lt_of_cell (hWl 0 (by decide))
  simp only at b1 b2 b3 b4 b5 b6 b7 b8
  have hr := Lx.runTo_le (l := bs s) (i := i) (by rw [bs_len]; omega)
  rw [bs_len] at hr
  obtain ⟨j, hj⟩ : ∃ j, Lx.runTo (bs s) i = j := ⟨_, rfl⟩
  rw [hj] at hr
  have Hj := Lib.hid hj; clear hj
  have hby := byte_lt
  have hT' := fun o => (World.cell?_alloc_past (w := w) o t 0 b1).trans hT
  have hN' := fun o (c : UInt8) => (World.cell?_alloc_past (w := w) o nm c.toNat b5).trans (hN c)
  go_enter Try.func99, Try.ntmps99
  go_upto_region 2 with (first
    | (go_at_call 98; refine (nameEnd_int s t nm i _ hm (by omega) (by omega) (hT' _) (hN' _)).mono ?_; rintro e w' ⟨rfl, rfl⟩; rw [Int.toNat_natCast, Hj.out]))
  go_cut [31] (fun v wx => v = .bool (extB (bs s) j) ∧ wx = w.alloc (.cells #[.int .i64 0, .string ⟨#[]⟩, .int .i64 0] 33))
  case first =>
    go_wp2_with (first
      | (go_at_call 96; refine (follows_int s _ t j _ hm (by omega) (by omega) (hT' _)).mono ?_; rintro e w' ⟨rfl, rfl⟩))
    · have h1 : Lx.pre (bs s) j (bs ⟨#[64]⟩) = true := by assumption
      have h2 : (j : Int) + 1 < s.size := by assumption
      go_meet
      exact ⟨congrArg Value.bool (ext_yes h1 (by omega)).symm, rfl⟩
    · have h2 : ¬ (j : Int) + 1 < s.size := by omega
      go_meet
      exact ⟨congrArg Value.bool (ext_no2 h2).symm, rfl⟩
    · have h1 : ¬ Lx.pre (bs s) j (bs ⟨#[64]⟩) = true := by assumption
      go_meet
      exact ⟨congrArg Value.bool (ext_no1 h1).symm, rfl⟩
  case rest =>
    obtain ⟨rfl, rfl⟩ := hcut
    go_upto_if 31 with fail
    go_cut [9] (fun v wx => v = .int .i64 (Lx.nameTo (bs s) i) ∧ wx = w.alloc (.cells #[.int .i64 0, .string ⟨#[]⟩, .int .i64 0] 33))
    case first =>
      cases h : extB (bs s) j
      · have Hn := Lib.hid (nameTo_not Hj.out h)
        clear h
        go_wp2
        go_meet
        exact ⟨by rw [Hn.out], rfl⟩
      · obtain ⟨hn, hlt⟩ := nameTo_ext Hj.out h
        clear h
        rw [bs_len] at hlt
        have Hn := Lib.hid hn; clear hn
        go_wp2_with (first
          | (go_at_call 98; refine (nameEnd_int s t nm (j + 1) _ hm (by omega) (by omega) (hT' _) (hN' _)).mono ?_; rintro e w' ⟨rfl, rfl⟩))
        go_meet
        exact ⟨by rw [Hn.out], rfl⟩
    case rest =>
      obtain ⟨rfl, rfl⟩ := hcut
      have he := Lx.nameTo_le (l := bs s) (i := i) (by rw [bs_len]; omega)
      rw [bs_len] at he
      obtain ⟨e, hE⟩ : ∃ e, Lx.nameTo (bs s) i = e := ⟨_, rfl⟩
      rw [hE] at he ⊢
      have HE := Lib.hid hE; clear hE
      have hWd' := fun o => (World.cell?_alloc_past (w := w) o wd 0 b7).trans hWd
      have hWl' := fun o k hk => (World.cell?_alloc_past (w := w) o wl (0 + k) b8).trans (hWl k hk)
      have HT := Lib.hid (tok_small hi hsm HE.out)
      by_cases h5 : (s.extract i e).toList = [111]
      · cases h6 : Lx.pre (bs s) e (bs ⟨#[45]⟩)
        · have H6 := Lib.hid h6
          go_wp2_with (first
            | (go_at_call 96; refine (follows_int s _ t e _ hm (by omega) (by omega) (hT' _)).mono ?_; rintro e w' ⟨rfl, rfl⟩)
            | (go_at_call 55; refine (Try.slices_Contains_string wl 0 17 17 wordsB _ _ (by decide) (by omega) (hWl' _)).mono ?_; rintro e w' ⟨rfl, hw⟩; obtain rfl := hw.symm; rw [contains_words])
            | (go_at_call 95; refine (token_int s t _ i e _ hm (by omega) (by omega) (by omega) (hT' _)).mono ?_; rintro e w' ⟨rfl, rfl⟩))
          · refine bodyPost_ret (v := tokV s 4 i e) (by simp [results, Try.results99, go_sem, tokV]) rfl ⟨4, e, ?_, rfl, ?_⟩
            · have hw : bs (s.extract i e) ∈ Lx.words := by assumption
              rw [HT.out, if_neg (by intro h; have := pre_one.2 h.2; rw [show ([45] : Lx.Bs) = bs ⟨#[45]⟩ from rfl, H6.out] at this; cases this), if_pos (by rw [List.contains_iff_mem]; exact hw)]
            · exact (((Below.refl _ w).alloc (Nat.le_refl _) _).alloc (by simp) _)
          · refine bodyPost_ret (v := tokV s 1 i e) (by simp [results, Try.results99, go_sem, tokV]) rfl ⟨1, e, ?_, rfl, ?_⟩
            · have hw : ¬ bs (s.extract i e) ∈ Lx.words := by assumption
              rw [HT.out, if_neg (by intro h; have := pre_one.2 h.2; rw [show ([45] : Lx.Bs) = bs ⟨#[45]⟩ from rfl, H6.out] at this; cases this), if_neg (by rw [List.contains_iff_mem]; exact hw)]
            · exact (((Below.refl _ w).alloc (Nat.le_refl _) _).alloc (by simp) _)
        · have H6 := Lib.hid h6
          have h45 := pre_one.1 (show Lx.pre (bs s) e [45] = true from h6)
          have hlt : e < s.size := by rw [← bs_len]; exact (List.getElem?_eq_some_iff.1 h45).1
          have H45 := Lib.hid h45; clear h45
          go_wp2_with (first
            | (go_at_call 96; refine (follows_int s _ t e _ hm (by omega) (by omega) (hT' _)).mono ?_; rintro e w' ⟨rfl, rfl⟩)
            | (go_at_call 55; refine (Try.slices_Contains_string wl 0 17 17 wordsB _ _ (by decide) (by omega) (hWl' _)).mono ?_; rintro e w' ⟨rfl, hw⟩; obtain rfl := hw.symm; rw [contains_words])
            | (go_at_call 95; refine (token_int s t _ i (e + 1) _ hm (by omega) (by omega) (by omega) (hT' _)).mono ?_; rintro e w' ⟨rfl, rfl⟩))
          refine bodyPost_ret (v := tokV s 3 i (e + 1)) (by simp [results, Try.results99, go_sem, tokV]) rfl ⟨3, e + 1, ?_, rfl, ?_⟩
          · rw [HT.out, if_pos ⟨by rw [bs, ← ByteArray.toList_eq]; exact h5, H45.out⟩]
          · exact (((Below.refl _ w).alloc (Nat.le_refl _) _).alloc (by simp) _)
      · go_wp2_with (first
            | (go_at_call 96; refine (follows_int s _ t e _ hm (by omega) (by omega) (hT' _)).mono ?_; rintro e w' ⟨rfl, rfl⟩)
            | (go_at_call 55; refine (Try.slices_Contains_string wl 0 17 17 wordsB _ _ (by decide) (by omega) (hWl' _)).mono ?_; rintro e w' ⟨rfl, hw⟩; obtain rfl := hw.symm; rw [contains_words])
            | (go_at_call 95; refine (token_int s t _ i e _ hm (by omega) (by omega) (by omega) (hT' _)).mono ?_; rintro e w' ⟨rfl, rfl⟩))
        · refine bodyPost_ret (v := tokV s 4 i e) (by simp [results, Try.results99, go_sem, tokV]) rfl ⟨4, e, ?_, rfl, ?_⟩
          · have hw : bs (s.extract i e) ∈ Lx.words := by assumption
            rw [HT.out, if_neg (by intro h; exact h5 (by rw [ByteArray.toList_eq]; exact h.1)), if_pos (by rw [List.contains_iff_mem]; exact hw)]
          · exact (((Below.refl _ w).alloc (Nat.le_refl _) _).alloc (by simp) _)
        · refine bodyPost_ret (v := tokV s 1 i e) (by simp [results, Try.results99, go_sem, tokV]) rfl ⟨1, e, ?_, rfl, ?_⟩
          · have hw : ¬ bs (s.extract i e) ∈ Lx.words := by assumption
            rw [HT.out, if_neg (by intro h; exact h5 (by rw [ByteArray.toList_eq]; exact h.1)), if_neg (by rw [List.contains_iff_mem]; exact hw)]
          · exact (((Below.refl _ w).alloc (Nat.le_refl _) _).alloc (by simp) _)
end Go.Proofs.Ytihbecfjgdlebaa
