/- Walks of layer 1's reference: Comments, Strip. -/
import Derived.Test.YtihbecfjgdlebaaLexRef15
import Derived.Test.YtihbecfjgdlebaaLexRef14
import Derived.Test.YtihbecfjgdlebaaLexStrip
import Derived.Test.YtihbecfjgdlebaaLexCovQ
namespace Go.Proofs.Ytihbecfjgdlebaa
open Go.RowKit

theorem lineTo_at {l : Lx.Bs} : ∀ (n k : Nat), l.length - k = n → Lx.lineTo l k < l.length → l[Lx.lineTo l k]? = some 10
  | 0, k, h, hl => by rw [lineTo_end (by omega)] at hl; omega
  | n + 1, k, h, hl => by
    have hk : k < l.length := by omega
    rw [lineTo_step hk] at hl ⊢
    split
    · rename_i h10
      rw [List.getElem?_eq_getElem hk, h10]
    · rename_i h10
      rw [if_neg h10] at hl
      exact lineTo_at n (k + 1) (by omega) hl

set_option maxRecDepth 100000 in
set_option maxHeartbeats 1000000 in
theorem rComments (s : ByteArray) (w : World) (hs : s.size ≤ 1000000000) :
    Calls Try.prog 43 #[.string s] w fun e w' => ∃ v, e = .returned v ∧ Coms w.heap.size v (coms (bs s)) w' ∧ Below w.heap.size w w' := by
  obtain ⟨i0, hi0, hz0, hz1, hz2⟩ := info_parts infoPair
  have Hlen := Lib.hid (bs_len s)
  go_enter Try.func43, Try.ntmps43
  go_wp2
  go_loopw [3, 4] (fun v3 v4 wr => ∃ (f : Nat) (pre : List (Nat × Nat)) (i : Nat), v4 = .int .i64 i ∧ i ≤ s.size ∧ s.size + 1 ≤ i + f ∧ pre.length ≤ i ∧ Hid (coms (bs s) = comsF (bs s) f pre i) ∧ Hid (wr.ownsRow w.heap.size 55 2 v3 pre.length (flatC pre)) ∧ Hid (Below w.heap.size w wr)) (fun _ v4 _ => s.size - (intOf v4).toNat)
  case atStart => exact ⟨s.size + 1, [], 0, rfl, Nat.zero_le _, by omega, by simp, Lib.hid (by unfold coms; rw [bs_len]), Lib.hid (World.ownsRow_nil _ _ _ _), Below.refl _ _⟩
  case round =>
    obtain ⟨f, pre, i, rfl, hi, hf, hpl, hsc, hown, hbl⟩ := hrel
    obtain ⟨a, cap, rfl⟩ := ownsRow_shape hown.out
    by_cases hlt : i < s.size
    · obtain ⟨f, rfl⟩ : ∃ f', f = f' + 1 := ⟨f - 1, by omega⟩
      have hlt' : (i : Int) < (s.size : Int) := by omega
      have hi0' : (0 : Int) ≤ (i : Int) := by omega
      have hby := byte_lt s[i]
      have hbk : (bs s)[i]? = some s[i] := by rw [List.getElem?_eq_getElem (by rw [bs_len]; exact hlt), bs_get hlt]
      by_cases hc : s[i] = 37
      · have h37 : (bs s)[i]? = some 37 := by rw [hbk, hc]
        have hc2 : ((s[i].toNat : Int) != 37) = false := by rw [hc]; rfl
        obtain ⟨hle, hl2⟩ := line_bounds (by rw [bs_len]; exact hlt) h37
        rw [bs_len] at hl2
        have HS := Lib.hid (hsc.out.trans (coms_hit (by rw [bs_len]; exact hlt) h37))
        have HS2 : Hid (comsF (bs s) f (pre ++ [(i, Lx.lineTo (bs s) i)]) (Lx.lineTo (bs s) i + 1) = comsF (bs s) (f + 1) (pre ++ [(i, Lx.lineTo (bs s) i)]) (Lx.lineTo (bs s) i)) := Lib.hid (by
          by_cases h : Lx.lineTo (bs s) i < s.size
          · rw [coms_not (by rw [bs_len]; exact h)]
            rw [lineTo_at _ i rfl (by rw [bs_len]; exact h)]
            intro e
            cases e
          · rw [coms_end (by rw [bs_len]; omega), coms_end (by rw [bs_len]; omega)])
        have CL := Lib.hid (fun w => rLineEnd s i w (by unfold maxLen; omega) (by omega))
        obtain ⟨E, hE⟩ : ∃ E, Lx.lineTo (bs s) i = E := ⟨_, rfl⟩
        rw [hE] at hle hl2 HS HS2 CL
        have HS3 : Hid (coms (bs s) = comsF (bs s) (f + 1) (pre ++ [(i, E)]) E) := Lib.hid (HS.out.trans HS2.out)
        have hown1 := hown.out
        have hsz := hbl.out.size
        clear hE h37 hbk hc hsc hown HS HS2
        go_wp2_with fail
        refine (CL.out _).mono ?_
        clear CL
        rintro e w1 ⟨rfl, rfl⟩
        go_wp2_with (at_builtin; refine wpList_append_own _ rfl _ _ 49 rfl w.heap.size 55 i0 _ 2 16 Try.underlying49 hi0 hz0 hz1 hz2 rfl (by decide) _ _ _ rfl (hown1.alloc _) ⟨wr.heap.size, 0, none⟩ 1 1 [.int .i64 i, .int .i64 E] rfl rfl (cells2 wr _ _ _ _ rfl) (by simp [Value.oneCell']) (by unfold maxLen; omega) (by omega) (by simp only [World.size_alloc]; omega) ?_; intro v' w2 hown' hgrow _)
        have H1 := Lib.hid hown'
        have H2 := Lib.hid hgrow
        clear hown' hgrow
        go_wp2
        go_roundw
        case rel =>
          refine ⟨f + 1, pre ++ [(i, E)], E, rfl, by omega, by omega, by rw [List.length_append, List.length_singleton]; omega, HS3, ?_, ?_⟩
          · rw [flatC_snoc, List.length_append]
            exact H1
          · exact (hbl.out.alloc hsz _).grown H2.out (by simp only [World.size_alloc]; omega) (fun b hb1 => (ownBlock_lt hown1 b hb1).1)
        case measure => simp [intOf]; omega
      · have h37 : (bs s)[i]? ≠ some 37 := by rw [hbk]; intro e; exact hc (Option.some.inj e)
        have hc2 : ((s[i].toNat : Int) != 37) = true := by
          rw [bne_iff_ne]; intro e; exact hc (by rw [← UInt8.toNat_inj]; exact Int.ofNat_inj.1 e)
        have HS := Lib.hid (hsc.out.trans (coms_not (by rw [bs_len]; exact hlt) h37))
        clear h37 hbk hc hsc
        go_wp2
        go_roundw
        case rel => exact ⟨f, pre, i + 1, by push_cast; rfl, by omega, by omega, by omega, HS, hown, hbl⟩
        case measure => simp [intOf]; omega
    · have hlt' : ¬ ((i : Int) < (s.size : Int)) := by omega
      have HS : Hid (coms (bs s) = pre) := Lib.hid (hsc.out.trans (coms_end (by rw [bs_len]; omega)))
      clear hsc
      go_wp2
      go_ret
      refine ⟨_, rfl, ?_, hbl.out⟩
      rw [HS.out]
      exact hown.out
theorem coms_ok {l : Lx.Bs} : ∀ (f : Nat) (pre : List (Nat × Nat)) (i : Nat), ComsTo pre i → (∀ k, (h : k < pre.length) → (Lx.stripF l (pre.take k)).2 ≤ (pre[k]).1) →
    ∀ k, (h : k < (comsF l f pre i).length) → (Lx.stripF l ((comsF l f pre i).take k)).2 ≤ ((comsF l f pre i)[k]).1
  | 0, pre, i, _, h => h
  | f + 1, pre, i, hp, h => by
    by_cases hl : l.length ≤ i
    · rw [coms_end hl]; exact h
    · by_cases h37 : l[i]? = some 37
      · have hb := line_bounds (by omega) h37
        rw [coms_hit (by omega) h37]
        refine coms_ok f _ _ ⟨by have := hp.1; simp only [List.length_append, List.length_singleton]; omega, fun c hc => ?_⟩ fun k hk => ?_
        · rcases List.mem_append.1 hc with h' | h'
          · have := hp.2 c h'; omega
          · obtain rfl := List.mem_singleton.1 h'; exact ⟨hb.1, by simp only; omega⟩
        · rw [List.length_append, List.length_singleton] at hk
          by_cases e : k < pre.length
          · rw [List.take_append_of_le_length (by omega), List.getElem_append_left e]
            exact h k e
          · obtain rfl : k = pre.length := by omega
            rw [List.take_append_of_le_length (Nat.le_refl _), List.take_length, List.getElem_concat_length]
            · exact stripF_le hp
            · rfl
      · rw [coms_not (by omega) h37]
        refine coms_ok f pre (i + 1) ⟨by have := hp.1; omega, fun c hc => by have := hp.2 c hc; omega⟩ h

theorem conv_own {w : World} {B : Nat} {v : Value} {l : Lx.Bs} (h : w.ownsRow B 5 1 v l.length (Lib.byteCells l)) : (convert 81 9 v).run Try.prog w = .ok (.string ⟨l.toArray⟩) w := by
  rcases h.2 with ⟨rfl, h0⟩ | ⟨g, cap', cur, rfl, hb, hh, r⟩
  · have hO0 : l = [] := List.length_eq_zero_iff.1 h0
    subst hO0
    exact Lib.run_convert_nil_bytes (P := Try.prog) w 81 9 5 0 Try.underlying81 Try.underlying5 Try.underlying9
  · exact run_convert_bytes_back (P := Try.prog) w 81 9 5 ⟨g, 0, none⟩ cap' l Try.underlying81 Try.underlying5 Try.underlying9 (fun j hj => by
      have hadd : (⟨g, 0, none⟩ : Addr).add j = ⟨g, j, none⟩ := by unfold Addr.add; split <;> simp_all
      rw [hadd, h.cellAt j (by omega), byte_row l j hj])

set_option maxRecDepth 100000 in
set_option maxHeartbeats 1000000 in
theorem rStrip (s : ByteArray) (w : World) (hs : s.size ≤ 1000000000) :
    Calls Try.prog 45 #[.string s] w fun e w' => e = .returned (.string ⟨(leftOf (bs s) (coms (bs s))).toArray⟩) ∧ Below w.heap.size w w' := by
  obtain ⟨i0, hi0, hz0, hz1, hz2⟩ := info_parts infoByte
  have CC := Lib.hid (fun w => rComments s w hs)
  have HOk := Lib.hid (coms_ok (l := bs s) ((bs s).length + 1) [] 0 ⟨Nat.zero_le _, fun c h => by cases h⟩ (fun k h => absurd h (Nat.not_lt_zero _)))
  have HAll := Lib.hid (coms_all (bs s)).1
  have hcl := coms_len (bs s)
  rw [bs_len] at hcl
  have HO : Hid (leftOf (bs s) (coms (bs s)) = (Lx.stripF (bs s) (coms (bs s))).1 ++ (bs s).drop (Lx.stripF (bs s) (coms (bs s))).2) := Lib.hid rfl
  have HcD : Hid (comsF (bs s) ((bs s).length + 1) [] 0 = coms (bs s)) := Lib.hid rfl
  rw [HcD.out] at HOk
  obtain ⟨cs, hcs⟩ : ∃ cs, coms (bs s) = cs := ⟨_, rfl⟩
  rw [hcs] at CC HOk HAll HO hcl
  rw [hcs]
  obtain ⟨LO, hLO⟩ : ∃ LO, leftOf (bs s) cs = LO := ⟨_, rfl⟩
  rw [hLO] at HO
  rw [hLO]
  have Hbl := Lib.hid (bs_len s)
  clear hcs hLO HcD
  go_enter Try.func45, Try.ntmps45
  go_wp2_with fail
  refine (CC.out _).mono ?_
  clear CC
  rintro e w1 ⟨vc, rfl, hc, hb1⟩
  obtain ⟨ac, cc, rfl, hcc⟩ := hc.sl
  have Hcc := Lib.hid hcc
  have Hb1 := Lib.hid hb1
  clear hc hb1 hcc
  go_wp2
  go_loopw [3, 5, 6] (fun v3 v5 v6 wr => ∃ k : Nat, k ≤ cs.length ∧ v6 = .int .i64 k ∧ v5 = .int .i64 (Lx.stripF (bs s) (cs.take k)).2 ∧ Hid (StrOk s (cs.take k)) ∧ Hid (wr.ownsRow w1.heap.size 5 1 v3 (Lx.stripF (bs s) (cs.take k)).1.length (Lib.byteCells (Lx.stripF (bs s) (cs.take k)).1)) ∧ Hid (Below w1.heap.size w1 wr)) (fun _ _ v6 _ => cs.length - (intOf v6).toNat)
  case atStart => exact ⟨0, Nat.zero_le _, rfl, rfl, Lib.hid (StrOk.nil s), Lib.hid (World.ownsRow_nil _ _ _ _), Below.refl _ _⟩
  case round =>
    obtain ⟨k, hk, rfl, rfl, hok, hown, hbl⟩ := hrel
    have hsz := hbl.out.size
    obtain ⟨oa, oc, rfl⟩ := ownsRow_shape hown.out
    obtain ⟨k1, k2⟩ := hok.out
    obtain ⟨X, hX⟩ : ∃ X, (Lx.stripF (bs s) (cs.take k)).1 = X := ⟨_, rfl⟩
    obtain ⟨at0, hat⟩ : ∃ a, (Lx.stripF (bs s) (cs.take k)).2 = a := ⟨_, rfl⟩
    rw [hX] at hown k1
    rw [hat] at k1 k2
    by_cases hlt : k < cs.length
    · have hlt' : (k : Int) < (cs.length : Int) := by omega
      obtain ⟨gc, rfl, _, hg2, hcells⟩ := Hcc.out (by rintro rfl; simp at hlt)
      obtain ⟨q0, q1⟩ := hcells k hlt
      have x0 := (hbl.out.cell (p := ⟨gc, k * 2, none⟩) hg2).trans q0
      have x1 := (hbl.out.cell (p := ⟨gc, k * 2 + 1, none⟩) hg2).trans q1
      have hle := HOk.out k hlt
      obtain ⟨c1, c2⟩ := HAll.out cs[k] (List.getElem_mem _)
      rw [Hbl.out] at c2
      rw [hat] at hle
      have Hst : Hid (Lx.stripF (bs s) (cs.take (k + 1)) = (X ++ Lx.slice (bs s) at0 (cs[k]).1, (cs[k]).2)) := Lib.hid (by rw [take_snoc' hlt, Lx.stripF_snoc, hX, hat])
      have Hok : Hid (StrOk s (cs.take (k + 1))) := Lib.hid (by
        rw [take_snoc' hlt]
        exact hok.out.snoc (i := (cs[k]).1) (E := (cs[k]).2) (by rw [hat]; exact hle) (by omega) c2)
      clear hcells q0 hok
      generalize cs[k] = c at x0 x1 q1 hle c1 c2 Hst
      obtain ⟨i, E⟩ := c
      simp only at x0 x1 q1 hle c1 c2 Hst
      have Q1 := Lib.hid q1
      clear q1
      have hle' : (at0 : Int) ≤ (i : Int) := by omega
      have hi' : (i : Int) ≤ (s.size : Int) := by omega
      have hlen : X.length + (s.extract at0 i).size ≤ 2000000000 := by
        have := extract_le s at0 i
        omega
      rw [hX, hat]
      clear hX hat
      have hown1 := hown.out
      go_upto_region 8 with (at_builtin; refine Lib.wpList_append_own_string _ rfl _ _ 81 9 rfl w1.heap.size 5 i0 Try.underlying81 Try.underlying9 hi0 hz0 hz1 hz2 _ _ _ rfl hown1 (s.extract at0 i) rfl (by unfold maxLen; omega) (by omega) (by omega) ?_; intro v' w2 hown' hgrow _)
      have H1 := Lib.hid hown'
      have HbW2 : Hid (Below w1.heap.size w1 w2) := Lib.hid (hbl.out.grown hgrow hsz (fun b hb => (ownBlock_lt hown1 b hb).1))
      obtain ⟨p1, p2, rfl⟩ := ownsRow_shape hown'
      clear hown' hgrow x0 x1
      have x1 := (HbW2.out.cell (p := ⟨gc, k * 2 + 1, none⟩) hg2).trans Q1.out
      go_wp2
      go_roundw
      case rel =>
        refine ⟨k + 1, hlt, by push_cast; rfl, by rw [Hst.out], Hok, ?_, HbW2⟩
        rw [Hst.out, byteCells_append, List.length_append, ← strCells_extract]
        have hl : (Lx.slice (bs s) at0 i).length = (s.extract at0 i).size := by rw [← bs_extract, ← bs_len]
        rw [hl]
        exact H1
      case measure => simp [intOf]; omega
    · obtain rfl : k = cs.length := by omega
      have hlt' : ¬ ((cs.length : Int) < (cs.length : Int)) := by omega
      rw [List.take_length] at hX hat
      rw [List.take_length, hX, hat]
      rw [hX, hat] at HO
      have hat' : (at0 : Int) ≤ (s.size : Int) := by omega
      have hlen : X.length + (s.extract at0 s.size).size ≤ 2000000000 := by
        have := extract_le s at0 s.size
        omega
      have hown1 := hown.out
      have HO2 : Hid (Lib.byteCells X ++ Lib.strCells (s.extract at0 s.size) = Lib.byteCells LO) := Lib.hid (by
        rw [HO.out, byteCells_append, strCells_extract, slice_end (by rw [bs_len]; exact Nat.le_refl _)])
      have HO3 : Hid (X.length + (s.extract at0 s.size).size = LO.length) := Lib.hid (by
        have := congrArg List.length HO2.out
        rw [List.length_append, byteCells_len, byteCells_len, Lib.strCells_length] at this
        exact this)
      clear hX hat HOk HAll Hcc hok hlt hk
      go_wp2_with (at_builtin; refine Lib.wpList_append_own_string _ rfl _ _ 81 9 rfl w1.heap.size 5 i0 Try.underlying81 Try.underlying9 hi0 hz0 hz1 hz2 _ _ _ rfl hown1 (s.extract at0 s.size) rfl (by unfold maxLen; omega) (by omega) (by omega) ?_; intro v' w2 hown' hgrow _; rw [HO2.out, HO3.out] at hown'; have hcv := conv_own hown')
      have HbW2 : Hid (Below w.heap.size w w2) := Lib.hid (Hb1.out.trans ((hbl.out.grown hgrow hsz (fun b hb => (ownBlock_lt hown1 b hb).1)).mono Hb1.out.size))
      clear hgrow hown1 hown'
      go_wp2
      go_ret
      exact ⟨rfl, HbW2.out⟩
end Go.Proofs.Ytihbecfjgdlebaa
