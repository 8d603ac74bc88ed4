/- Layer 1: the law LexCovers, walked. -/
import Derived.Test.YtihbecfjgdlebaaLexCovQ
import Derived.Test.YtihbecfjgdlebaaLexGlueA
import Derived.Test.YtihbecfjgdlebaaLexPiecesW
import Derived.Test.YtihbecfjgdlebaaLexComSl
import Derived.Deep.RegionHeld3
namespace Go.Proofs.Ytihbecfjgdlebaa
open Go.RowKit

theorem infoBool : (Try.prog.info? 4).map (fun i => (i.zero, i.size, i.bytes)) = some (some (.bool false), 1, 1) := by kernel_rfl
/-- The cells of marks. -/
def mkV (n : Nat) (P : Nat → Bool) : List Value := (List.range n).map fun k => Value.bool (P k)
theorem mkV_len (n : Nat) (P : Nat → Bool) : (mkV n P).length = n := by unfold mkV; rw [List.length_map, List.length_range]
theorem mkV_get {n : Nat} (P : Nat → Bool) {k : Nat} (h : k < n) : (mkV n P)[k]? = some (.bool (P k)) := by
  unfold mkV
  rw [List.getElem?_map, List.getElem?_range h]; rfl
theorem mkV_set (n : Nat) (P : Nat → Bool) (k : Nat) : (mkV n P).set k (.bool true) = mkV n (orAt P k) := by
  apply List.ext_getElem?
  intro i
  by_cases hi : i < n
  · rw [mkV_get _ hi, List.getElem?_set]
    by_cases e : k = i
    · subst e
      rw [if_pos rfl, if_pos (by rw [mkV_len]; exact hi)]
      unfold orAt
      simp
    · rw [if_neg e, mkV_get _ hi]
      unfold orAt
      rw [show (i == k) = false from by rw [beq_eq_false_iff_ne]; omega, Bool.or_false]
  · rw [List.getElem?_eq_none (by rw [List.length_set, mkV_len]; omega), List.getElem?_eq_none (by rw [mkV_len]; omega)]
theorem mkV_made (n : Nat) : (madeCells (Value.bool false).cells (n * 1)).toList = mkV n (inC []) := by
  apply List.ext_getElem?
  intro i
  by_cases hi : i < n
  · rw [mkV_get _ hi]
    have hs : i < (madeCells (Value.bool false).cells (n * 1)).toList.length := by simpa [size_madeCells] using hi
    rw [List.getElem?_eq_getElem hs]
    simp [madeCells, Value.cells, inC, Nat.mod_one]
  · rw [List.getElem?_eq_none (by simpa [size_madeCells] using (by omega : n ≤ i)), List.getElem?_eq_none (by rw [mkV_len]; omega)]
/-- The slice of marks. -/
def Mk (w : World) (g n : Nat) (P : Nat → Bool) : Prop := w.ownsRow g 4 1 (.slice (some ⟨g, 0, none⟩) n n) n (mkV n P)
theorem Mk.cell {w : World} {g n : Nat} {P : Nat → Bool} (h : Mk w g n P) {k : Nat} (hk : k < n) : w.cell? ⟨g, k, none⟩ = some (.bool (P k)) :=
  (h.cellAt k (by omega)).trans (mkV_get P hk)
theorem Mk.free {w : World} {g n : Nat} {P : Nat → Bool} (h : Mk w g n P) (k : Nat) : w.frozen? ⟨g, k, none⟩ = false := h.frozenAt k
theorem Mk.set {w : World} {g n : Nat} {P : Nat → Bool} (h : Mk w g n P) (k : Nat) : Mk (w.setCell ⟨g, k, none⟩ (.bool true)) g n (orAt P k) ∧ w.grownBy (w.setCell ⟨g, k, none⟩ (.bool true)) (some g) := by
  have := h.stored k (.bool true)
  rw [mkV_set] at this
  exact this
theorem Mk.below {w w' : World} {g n : Nat} {P : Nat → Bool} (h : Mk w g n P) (hb : Below w.heap.size w w') : Mk w' g n P := ownsRow_below' h hb
theorem Mk.lt {w : World} {g n : Nat} {P : Nat → Bool} (h : Mk w g n P) : g < w.heap.size := (ownBlock_lt h g rfl).2
theorem grownBy_trans {w w1 w2 : World} {g : Nat} (h : w.grownBy w1 (some g)) (h2 : w1.grownBy w2 (some g)) : w.grownBy w2 (some g) :=
  ⟨h2.os.trans h.os, h2.tape.trans h.tape, h2.output.trans h.output, Nat.le_trans h.size h2.size, fun k hk hne => (h2.block k (Nat.lt_of_lt_of_le hk h.size) hne).trans (h.block k hk hne)⟩
theorem grownBy_drew {w w1 : World} {r : Option Nat} (h : w.grownBy w1 r) : w.grownBy w1.drew r := ⟨h.os, h.tape, h.output, h.size, h.block⟩
theorem grownBy_below {w w1 w2 : World} {g : Nat} (h : w.grownBy w1 (some g)) (h2 : Below w1.heap.size w1 w2) : w.grownBy w2 (some g) :=
  ⟨h2.os.trans h.os, h2.tape.trans h.tape, h2.output.trans h.output, Nat.le_trans h.size h2.size, fun k hk hne => (h2.block k (Nat.lt_of_lt_of_le hk h.size)).trans (h.block k hk hne)⟩
set_option maxRecDepth 100000 in
set_option maxHeartbeats 2000000 in
theorem covers_good (s : ByteArray) (w : World) (hs : s.size ≤ 140737488355328) (ts : List Lx.Tok) (h : Lx.scan (bs s) = .toks ts) :
    Calls Try.prog 10 #[.string s] w fun e w' => e = .returned (.bool true) ∧ Below w.heap.size w w' := by
  have CS := Lib.hid sane_any
  have CA := Lib.hid (fun w => scan_toks s ts h w (by unfold maxLen; omega))
  have hn : s.size ≤ 20000 := by have := (Lx.scan_runs h).2; rwa [bs_len] at this
  have CC := Lib.hid (fun w => comms_any s w (by omega))
  have HI : Hid (CovI (bs s) 0 (inC (coms (bs s))) ts) := Lib.hid (CovI.start h)
  have HL := Lib.hid (scan_len h)
  have HCB := Lib.hid (coms_all (bs s)).1
  have Hbl := Lib.hid (bs_len s)
  have hcl := coms_len (bs s)
  rw [bs_len] at hcl
  obtain ⟨cs, hcs⟩ : ∃ cs, coms (bs s) = cs := ⟨_, rfl⟩
  rw [hcs] at CC HI HCB hcl
  obtain ⟨i0, hi0, hz0, hz1, hz2⟩ := info_parts infoBool
  have hz3 := Lib.hid hz2
  clear h hs hcs hz2
  go_enter Try.func10, Try.ntmps10
  go_wp2_with fail
  refine (CS.out _).mono ?_
  rintro e w1 ⟨rfl, hb1⟩
  have Hb1 := Lib.hid hb1
  clear CS hb1
  go_wp2_with fail
  refine (CA.out _).mono ?_
  rintro e w2 ⟨v, rfl, hv, hb2⟩
  have Hb2 : Hid (Below w.heap.size w w2) := Hb1.out.trans (hb2.mono Hb1.out.size)
  have Hv := Lib.hid hv
  clear CA hb2 hv Hb1
  go_wp2_with (at_make; refine wpList_make_full _ rfl _ _ 54 rfl w2.heap.size 4 i0 (.bool false) 1 Try.underlying54 hi0 hz0 hz1 .i64 .i64 _ _ s.size rfl rfl rfl rfl (by rw [hz3.out]; omega) (by unfold maxLen; omega) (Nat.le_refl _) ?_; intro w3 hown hgrow)
  have HM : Hid (Mk w3 w2.heap.size s.size (inC [])) := by
    have h : w3.ownsRow w2.heap.size 4 1 (.slice (some ⟨w2.heap.size, 0, none⟩) s.size s.size) s.size (madeCells (Value.bool false).cells (s.size * 1)).toList := hown
    rw [mkV_made] at h
    exact h
  have Hg : Hid (w2.heap.size < w3.heap.size) := Lib.hid HM.out.lt
  have Hb3 : Hid (Below w.heap.size w w3) := Hb2.out.grown hgrow Hb2.out.size (by intro k hk; cases hk)
  have Hv3 : Hid (Toks w1.heap.size v ts w3) := Lib.hid (ownsRow_blocks Hv.out fun k _ hk _ => hgrow.block k hk (by simp))
  have Hvo : Hid (∀ k, v.ownBlock = some k → k < w2.heap.size) := Lib.hid fun k hk => (ownBlock_lt Hv.out k hk).2
  obtain ⟨g, hg⟩ : ∃ g, w2.heap.size = g := ⟨_, rfl⟩
  have HgB : Hid (w.heap.size ≤ g) := Lib.hid (by rw [← hg]; exact Hb2.out.size)
  rw [hg] at HM Hg Hvo ⊢
  clear hown hgrow hz0 hz1 hi0 hz3 Hv hg Hb2
  go_wp2_with fail
  refine (CC.out _).mono ?_
  rintro e w4 ⟨vc, rfl, hc, hb4⟩
  have Hc := Lib.hid hc.sl
  have HM4 := Lib.hid (HM.out.below hb4)
  have Hv4 : Hid (Toks w1.heap.size v ts w4) := Lib.hid (ownsRow_below' Hv3.out hb4)
  have Hb4 : Hid (Below w.heap.size w w4) := Hb3.out.trans (hb4.mono Hb3.out.size)
  clear CC hc hb4 HM Hb3 Hv3
  obtain ⟨va, vcap, rfl⟩ := ownsRow_shape Hv4.out
  obtain ⟨ca, ccap, rfl, hcc⟩ := Hc.out
  have Hcc := Lib.hid hcc
  clear Hc hcc
  go_wp2
  go_loopw [9] (fun v9 wr => ∃ i : Nat, i ≤ cs.length ∧ v9 = .int .i64 i ∧ Hid (Mk wr g s.size (inC (cs.take i))) ∧ Hid (w4.grownBy wr (some g))) (fun v9 _ => cs.length - (intOf v9).toNat)
  case atStart => exact ⟨0, Nat.zero_le _, rfl, HM4, Lib.hid (World.grownBy.refl _ _)⟩
  case round =>
    obtain ⟨i, hi, rfl, hm, hgr⟩ := hrel
    by_cases hlt : i < cs.length
    · have hlt' : (i : Int) < (cs.length : Int) := by omega
      obtain ⟨gc, rfl, hB, hB2, hcells⟩ := Hcc.out (by rintro rfl; simp at hlt)
      have hne : gc ≠ g := by have := Hg.out; omega
      obtain ⟨k0, k1⟩ := hcells i hlt
      have x0 : wr.cell? ⟨gc, i * 2, none⟩ = some (.int .i64 cs[i].1) := hgr.out.cell k0 (by simpa using hne)
      have x1 : wr.cell? ⟨gc, i * 2 + 1, none⟩ = some (.int .i64 cs[i].2) := hgr.out.cell k1 (by simpa using hne)
      obtain ⟨hcb1, hcb2⟩ := HCB.out cs[i] (List.getElem_mem _)
      rw [Hbl.out] at hcb2
      have Hst : Hid (inC (cs.take (i + 1)) = upB (inC (cs.take i)) cs[i].1 cs[i].2) := Lib.hid (by rw [take_snoc' hlt, inC_snoc])
      generalize cs[i] = c at x0 x1 hcb1 hcb2 Hst
      obtain ⟨c1, c2⟩ := c
      simp only at x0 x1 hcb1 hcb2 Hst
      have q1 : decide ((c1 : Int) < 0) = false := by rw [decide_eq_false_iff_not]; omega
      have q2 : decide ((c2 : Int) ≤ (c1 : Int)) = false := by rw [decide_eq_false_iff_not]; omega
      have q3 : decide ((s.size : Int) < (c2 : Int)) = false := by rw [decide_eq_false_iff_not]; omega
      have hi0 : (0 : Int) ≤ (i : Int) := by omega
      clear hcells k0 k1 hB hB2
      have hc0 : (0 : Int) ≤ (c1 : Int) := by omega
      have hcs : (c2 : Int) ≤ (s.size : Int) := by omega
      have hc12 : (c1 : Int) < (c2 : Int) := by omega
      go_upto_region 10 with fail
      go_quiet (fail)
      have x0' : (wr.drewN nq).cell? ⟨gc, i * 2, none⟩ = some (.int .i64 c1) := x0
      have x1' : (wr.drewN nq).cell? ⟨gc, i * 2 + 1, none⟩ = some (.int .i64 c2) := x1
      have hm' : Hid (Mk (wr.drewN nq) g s.size (inC (cs.take i))) := hm
      have hgr' : Hid (w4.grownBy (wr.drewN nq) (some g)) := Lib.hid ⟨hgr.out.os, hgr.out.tape, hgr.out.output, hgr.out.size, hgr.out.block⟩
      clear x0 x1 hm hgr
      obtain ⟨wq, hwq⟩ : ∃ wq, wr.drewN nq = wq := ⟨_, rfl⟩
      rw [hwq] at x0' x1' hm' hgr' ⊢
      clear hwq
      go_wp2
      go_loopw [10] (fun v10 wx => ∃ k : Nat, c1 ≤ k ∧ k ≤ c2 ∧ v10 = .int .i64 k ∧ Hid (Mk wx g s.size (upB (inC (cs.take i)) c1 k)) ∧ Hid (w4.grownBy wx (some g)) ∧ wx.cell? ⟨gc, i * 2 + 1, none⟩ = some (.int .i64 c2)) (fun v10 _ => c2 - (intOf v10).toNat)
      case atStart => exact ⟨c1, Nat.le_refl _, by omega, rfl, by rw [upB_none]; exact hm', hgr', x1'⟩
      case round =>
        obtain ⟨k, hk1, hk2, rfl, hmk, hgk, xk⟩ := hrel
        by_cases hkc : k < c2
        · have hkc' : (k : Int) < (c2 : Int) := by omega
          have hks : (k : Int) < (s.size : Int) := by omega
          have hk0 : (0 : Int) ≤ (k : Int) := by omega
          have yk := hmk.out.cell (k := k) (by omega)
          have yf := hmk.out.free k
          go_wp2
          go_roundw
          case rel =>
            have hst := hmk.out.set k
            rw [upB_step hk1] at hst
            exact ⟨k + 1, by omega, by omega, by push_cast; rfl, Lib.hid hst.1, Lib.hid (grownBy_trans hgk.out hst.2), (hst.2.cell xk (by simpa using hne))⟩
          case measure => simp [intOf]; omega
        · have hkc' : ¬ ((k : Int) < (c2 : Int)) := by omega
          obtain rfl : k = c2 := by omega
          go_wp2
          go_roundw
          case rel => exact ⟨i + 1, by omega, by push_cast; rfl, by rw [Hst.out]; exact hmk, hgk⟩
          case measure => simp [intOf]; omega
    · obtain rfl : i = cs.length := by omega
      have hlt' : ¬ ((cs.length : Int) < (cs.length : Int)) := by omega
      have Hm : Hid (Mk wr g s.size (inC cs)) := by rw [List.take_length] at hm; exact hm
      clear hm Hcc HM4 HCB hi hlt
      go_wp2
      go_loopw [11, 12] (fun v11 v12 wx => ∃ (j E : Nat) (P : Nat → Bool), j ≤ ts.length ∧ v12 = .int .i64 j ∧ v11 = .int .i64 E ∧ E ≤ s.size ∧ Hid (CovI (bs s) E P (ts.drop j)) ∧ Hid (Mk wx g s.size P) ∧ Hid (w4.grownBy wx (some g))) (fun _ v12 _ => ts.length - (intOf v12).toNat)
      case atStart => exact ⟨0, 0, inC cs, Nat.zero_le _, rfl, rfl, Nat.zero_le _, by rw [List.drop_zero]; exact HI, Hm, hgr⟩
      case round =>
        clear HI Hm hgr hlt'
        obtain ⟨j, E, P, hj, rfl, rfl, hE, hI, hm, hgr⟩ := hrel
        have hl6 := HL.out
        by_cases hlt : j < ts.length
        · have hlt' : (j : Int) < (ts.length : Int) := by omega
          have hTk : Toks w1.heap.size (.slice va ts.length vcap) ts wr := ownsRow_blocks Hv4.out fun k _ hk ho => hgr.out.block k hk (by have := Hvo.out k ho; simp only [ne_eq, Option.some.injEq]; omega)
          obtain ⟨a', cap', he, hcells⟩ := hTk.sl
          rw [List.length_map] at he
          obtain ⟨rfl, -, rfl⟩ : va = a' ∧ ts.length = ts.length ∧ vcap = cap' := by simpa using he
          obtain ⟨bt, ot, rfl, hT⟩ := hcells (by intro h; rw [List.map_eq_nil_iff] at h; rw [h] at hlt; exact absurd hlt (Nat.not_lt_zero _))
          obtain ⟨x0, x1, x2⟩ := hT j (by rw [List.length_map]; exact hlt)
          have nt := block_lt_of_cell x0
          simp only at nt
          rw [List.getElem_map] at x0 x1 x2
          rw [List.drop_eq_getElem_cons hlt] at hI
          obtain ⟨hs1, hs2, hs3, hs4, hs5, hs6⟩ := hI.out.step
          clear hcells hT hTk he hI
          obtain ⟨⟨kd, tx, ps⟩, htk⟩ : ∃ t : Lx.Tok, ts[j] = t := ⟨_, rfl⟩
          rw [htk] at x0 x1 x2 hs1 hs2 hs3 hs4 hs5 hs6
          clear htk
          obtain ⟨X, hX⟩ : ∃ X : ByteArray, X = ⟨tx.toArray⟩ := ⟨_, rfl⟩
          have hXl : tx.length = X.size := by rw [hX]; rfl
          have hXb : bs X = tx := by rw [hX]; rfl
          unfold ofTok at x0 x1 x2
          simp only at x0 x1 x2 hs1 hs2 hs3 hs5 hs6
          rw [← hX] at x1
          rw [hXl] at hs2 hs3 hs5 hs6
          rw [Hbl.out] at hs2
          have hX40 : X.size ≤ 40 := by rw [← hXl]; exact hs4.2
          have hck : checkB ⟨kd, X, ps⟩ = true := by
            rw [checkB_iff]
            refine ⟨Int.natCast_nonneg _, ?_⟩
            have : kt ⟨kd, X, ps⟩ = Lx.Tok.kt ⟨kd, tx, ps⟩ := by
              unfold kt Lx.Tok.kt
              simp only [hXb, Int.toNat_natCast]
            rw [this]; exact hs4
          have hsl : s.extract ps (ps + X.size) = X := by rw [← slice_bytes, hs3, ← hX]
          have CK : Hid (∀ w, Calls Try.prog 23 #[.agg #[.int .i64 kd, .string X, .int .i64 ps]] w fun e w' => e = .returned (.int .i64 0) ∧ Below w.heap.size w w') := Lib.hid fun w => check_v true ⟨kd, X, ps⟩ w (by show X.size ≤ maxLen; unfold maxLen; omega) hck
          have H5 := Lib.hid hs5
          have H6 := Lib.hid hs6
          have Hsl := Lib.hid hsl
          clear hX hXl hXb hs3 hs4 hs5 hs6 hck hsl
          have q2 : decide ((ps : Int) < (E : Int)) = false := by rw [decide_eq_false_iff_not]; omega
          have q3 : decide ((s.size : Int) < (ps : Int) + (X.size : Int)) = false := by rw [decide_eq_false_iff_not]; omega
          have q2n : decide (ps < E) = false := by rw [decide_eq_false_iff_not]; omega
          have q3n : decide (s.size < ps + X.size) = false := by rw [decide_eq_false_iff_not]; omega
          have q4 : IntKind.i64.wrap ((ps : Int) + (X.size : Int)) = (ps : Int) + (X.size : Int) := by rw [IntKind.wrap_i64]; omega
          have q5 : (0 : Int) ≤ (ps : Int) := by omega
          have q6 : (ps : Int) ≤ (ps : Int) + (X.size : Int) := by omega
          have q7 : (ps : Int) + (X.size : Int) ≤ (s.size : Int) := by omega
          have q8 : ((ps : Int) + (X.size : Int)).toNat = ps + X.size := by omega
          go_upto_region 21 with fail
          obtain ⟨N, hN⟩ : ∃ N, wr.heap.size = N := ⟨_, rfl⟩
          rw [hN]
          have HN := Lib.hid hN
          clear hN
          go_cut [131] (fun v131 wx => v131 = .bool false ∧ (wx.cell? ⟨N, 1, none⟩ = some (.string X) ∧ wx.cell? ⟨N, 2, none⟩ = some (.int .i64 ps) ∧ Hid (Mk wx g s.size P) ∧ Hid (w4.grownBy wx (some g))))
          case first =>
            have hN := HN.out
            obtain ⟨wz, hwz⟩ : ∃ wz, wr.alloc (Obj.cells #[Value.int IntKind.i64 ↑kd, Value.string X, Value.int IntKind.i64 ↑ps] 33) = wz := ⟨_, rfl⟩
            have z0 : wz.cell? ⟨N, 0, none⟩ = some (.int .i64 kd) := by rw [← hwz, ← hN]; exact (World.cell?_alloc_at _ _ _ _ rfl).trans rfl
            have z1 : wz.cell? ⟨N, 1, none⟩ = some (.string X) := by rw [← hwz, ← hN]; exact (World.cell?_alloc_at _ _ _ _ rfl).trans rfl
            have z2 : wz.cell? ⟨N, 2, none⟩ = some (.int .i64 ps) := by rw [← hwz, ← hN]; exact (World.cell?_alloc_at _ _ _ _ rfl).trans rfl
            have zl : N < wz.heap.size := by rw [← hwz, ← hN, World.size_alloc]; omega
            have zm : Hid (Mk wz g s.size P) := by rw [← hwz]; exact Lib.hid (hm.out.alloc _)
            have zg : Hid (w4.grownBy wz (some g)) := by rw [← hwz]; exact Lib.hid (grownBy_trans hgr.out (World.grownBy_alloc _ _ _))
            rw [hwz]
            clear hm hgr hwz hN x0 x1 x2 nt
            go_region_held3 (fun w' => w'.cell? ⟨N, 0, none⟩ = some (.int .i64 kd) ∧ w'.cell? ⟨N, 1, none⟩ = some (.string X) ∧ w'.cell? ⟨N, 2, none⟩ = some (.int .i64 ps) ∧ Hid (Mk w' g s.size P) ∧ Hid (w4.grownBy w' (some g)))
              (first | exact ⟨z0, z1, z2, zm, zg⟩ | exact ⟨z0, z1, z2, zm, Lib.hid (grownBy_drew zg.out)⟩ | exact ⟨e0, e1, e2, em, eg⟩)
              ((go_at_call 23; refine (CK.out _).mono ?_; rintro e w5 ⟨rfl, hb5⟩; have e0 : w5.cell? ⟨N, 0, none⟩ = some (.int .i64 kd) := (hb5.cell (p := ⟨N, 0, none⟩) zl).trans z0; have e1 : w5.cell? ⟨N, 1, none⟩ = some (.string X) := (hb5.cell (p := ⟨N, 1, none⟩) zl).trans z1; have e2 : w5.cell? ⟨N, 2, none⟩ = some (.int .i64 ps) := (hb5.cell (p := ⟨N, 2, none⟩) zl).trans z2; have em : Hid (Mk w5 g s.size P) := Lib.hid (Mk.below (w := wz.drew) zm.out hb5); have eg : Hid (w4.grownBy w5 (some g)) := Lib.hid (grownBy_below (grownBy_drew zg.out) hb5)))
            all_goals go_wp2
            all_goals go_meet
            all_goals exact ⟨by rw [Hsl.out]; simp, e1, e2, em, eg⟩
          case rest =>
            obtain ⟨rfl, y1, y2, hm', hgr'⟩ := hcut
            have hE' : (E : Int) ≤ (ps : Int) := by omega
            clear hm hgr x0 x1 x2 CK
            go_wp2
            go_loopw [14] (fun v14 wx => ∃ k : Nat, ps ≤ k ∧ k ≤ ps + X.size ∧ v14 = .int .i64 k ∧ Hid (Mk wx g s.size (upB P ps k)) ∧ Hid (w4.grownBy wx (some g))) (fun v14 _ => (ps + X.size) - (intOf v14).toNat)
            case atStart => exact ⟨ps, Nat.le_refl _, by omega, rfl, by rw [upB_none]; exact hm', hgr'⟩
            case round =>
              clear hm' hgr' y1 y2
              obtain ⟨k, hk1, hk2, rfl, hmk, hgk⟩ := hrel
              by_cases hkc : k < ps + X.size
              · have hkc' : (k : Int) < (ps : Int) + (X.size : Int) := by omega
                have hks : (k : Int) < (s.size : Int) := by omega
                have hk0 : (0 : Int) ≤ (k : Int) := by omega
                have yk := hmk.out.cell (k := k) (by omega)
                have yf := hmk.out.free k
                have hup : upB P ps k k = false := by
                  unfold upB
                  rw [H5.out k hk1 hkc, decide_eq_false (Nat.lt_irrefl k), Bool.and_false, Bool.false_or]
                rw [hup] at yk
                clear hup
                go_wp2
                go_roundw
                case rel =>
                  have hst := hmk.out.set k
                  rw [upB_step hk1] at hst
                  exact ⟨k + 1, by omega, by omega, by push_cast; rfl, Lib.hid hst.1, Lib.hid (grownBy_trans hgk.out hst.2)⟩
                case measure => simp [intOf]; omega
              · have hkc' : ¬ ((k : Int) < (ps : Int) + (X.size : Int)) := by omega
                obtain rfl : k = ps + X.size := by omega
                go_wp2
                go_roundw
                case rel => exact ⟨j + 1, ps + X.size, _, hlt, by push_cast; rfl, by push_cast; rfl, hs2, H6, hmk, hgk⟩
                case measure => simp [intOf]; omega
        · obtain rfl : j = ts.length := by omega
          have hlt' : ¬ ((ts.length : Int) < (ts.length : Int)) := by omega
          rw [List.drop_length] at hI
          have HLs := Lib.hid hI.out.last
          clear hlt hI Hv4
          go_wp2
          go_loopw [15] (fun v15 wy => ∃ k : Nat, k ≤ s.size ∧ v15 = .int .i64 k ∧ wy = wr) (fun v15 _ => s.size - (intOf v15).toNat)
          case atStart => exact ⟨0, Nat.zero_le _, rfl, rfl⟩
          case round =>
            obtain ⟨k, hk, rfl, rfl⟩ := hrel
            by_cases hks : k < s.size
            · have hks' : (k : Int) < (s.size : Int) := by omega
              have hk0 : (0 : Int) ≤ (k : Int) := by omega
              have hby := byte_lt s[k]
              have yk := hm.out.cell hks
              have hor := HLs.out k (by rw [Hbl.out]; exact hks)
              rw [List.getElem?_eq_getElem (by rw [Hbl.out]; exact hks), bs_get hks] at hor
              cases hP : P k
              · rw [hP] at hor yk
                have hbl : Lx.blank s[k] = true := by
                  rcases hor with h | h
                  · cases h
                  · exact Option.some.inj h
                unfold Lx.blank at hbl
                rw [Bool.or_eq_true, Bool.or_eq_true, decide_eq_true_eq, decide_eq_true_eq, decide_eq_true_eq] at hbl
                clear hor hP
                rcases hbl with (h | h) | h
                · have e1 : ((s[k].toNat : Int) != 32) = false := by rw [h]; rfl
                  clear h
                  go_wp2
                  go_roundw
                  case rel => exact ⟨k + 1, hks, by push_cast; rfl, trivial⟩
                  case measure => simp [intOf]; omega
                · have e1 : ((s[k].toNat : Int) != 32) = true := by rw [h]; rfl
                  have e2 : ((s[k].toNat : Int) != 9) = false := by rw [h]; rfl
                  clear h
                  go_wp2
                  go_roundw
                  case rel => exact ⟨k + 1, hks, by push_cast; rfl, trivial⟩
                  case measure => simp [intOf]; omega
                · have e1 : ((s[k].toNat : Int) != 32) = true := by rw [h]; rfl
                  have e2 : ((s[k].toNat : Int) != 9) = true := by rw [h]; rfl
                  have e3 : ((s[k].toNat : Int) != 10) = false := by rw [h]; rfl
                  clear h
                  go_wp2
                  go_roundw
                  case rel => exact ⟨k + 1, hks, by push_cast; rfl, trivial⟩
                  case measure => simp [intOf]; omega
              · rw [hP] at yk
                clear hor hP
                go_wp2
                go_roundw
                case rel => exact ⟨k + 1, hks, by push_cast; rfl, trivial⟩
                case measure => simp [intOf]; omega
            · have hks' : ¬ ((k : Int) < (s.size : Int)) := by omega
              go_wp2
              go_ret
              exact ⟨rfl, Hb4.out.grown hgr.out Hb4.out.size (by intro q hq; cases hq; exact HgB.out)⟩
set_option maxRecDepth 100000 in
set_option maxHeartbeats 1000000 in
theorem covers_bad (s : ByteArray) (w : World) (hs : s.size ≤ 140737488355328) (p er : Nat) (h : Lx.scan (bs s) = .bad p er) :
    Calls Try.prog 10 #[.string s] w fun e w' => e = .returned (.bool true) ∧ Below w.heap.size w w' := by
  have CS := Lib.hid sane_any
  have CB := Lib.hid (fun w => scan_bads s p er h w (by unfold maxLen; omega))
  have her : ((er : Int) == 0) = false := by have := scan_err h; rw [beq_eq_false_iff_ne]; omega
  have her2 : ((er : Int) != 0) = true := by have := scan_err h; rw [bne_iff_ne]; omega
  clear h hs
  go_enter Try.func10, Try.ntmps10
  go_wp2_with fail
  refine (CS.out _).mono ?_
  rintro e w1 ⟨rfl, hb1⟩
  have Hb1 := Lib.hid hb1
  clear CS hb1
  go_wp2_with fail
  refine (CB.out _).mono ?_
  rintro e w2 ⟨rfl, hb2⟩
  have Hb2 := Lib.hid hb2
  clear CB hb2
  go_wp2
  go_ret
  exact ⟨rfl, Hb1.out.trans (Hb2.out.mono Hb1.out.size)⟩
theorem covers_any (s : ByteArray) (w : World) (hs : s.size ≤ 140737488355328) :
    Calls Try.prog 10 #[.string s] w fun e w' => e = .returned (.bool true) ∧ Below w.heap.size w w' := by
  rcases h : Lx.scan (bs s) with ts | ⟨p, er⟩
  · exact covers_good s w hs ts h
  · exact covers_bad s w hs p er h
end Go.Proofs.Ytihbecfjgdlebaa
