/- A part of the proof, packed: see the last text of this claim. -/
import Derived.Test.YtgikhpmdpppenaaGreatDoorPkCa
import Derived.Test.YtgikhpmdpppenaaGreatDoorPkCb
import Derived.Deep.RegionWith
import Derived.BigQuiet
import Derived.Lib.IndexLaws
namespace Go.Proofs.YtgikhpmdpppenaaGreatDoor
open Go.RowKit
theorem items_end {ts : List Lx.Tok} {f : Nat} {acc : List Nd} {p : Nat} (h : ¬ p < ts.length) : Sx.items ts (f + 1) acc p = .ok acc p := by simp only [Sx.items]; rw [if_neg h]
theorem items_bad {ts : List Lx.Tok} {f : Nat} {acc : List Nd} {p q : Nat} (h : p < ts.length) (h2 : Sx.item ts f p = .bad q) : Sx.items ts (f + 1) acc p = .bad q := by simp only [Sx.items]; rw [if_pos h, h2]
theorem items_ok {ts : List Lx.Tok} {f : Nat} {acc : List Nd} {p q : Nat} {a : Nd} (h : p < ts.length) (h2 : Sx.item ts f p = .ok a q) : Sx.items ts (f + 1) acc p = Sx.items ts f (acc ++ [a]) q := by simp only [Sx.items]; rw [if_pos h, h2]
theorem itemO_goes (E : PE) (f q : Nat) : Sx.Goes E.ts q (itemO E.ts f q) := by
  intro a p h
  have hs : ∀ q1 a p, Sx.small E.ts q1 = .ok a p → p = q1 + 1 ∧ p ≤ E.ts.length := fun q1 a p h => ⟨(Sx.small_ok h).1, (Sx.small_ok h).2.1⟩
  have hl : ∀ rd : Nat → Nat → Sx.PR Nd, (∀ f p, Sx.Goes E.ts p (rd f p)) → ∀ f acc p, p ≤ E.ts.length → ∀ l q, listL rd E.ts f acc p = .ok l q → p ≤ q ∧ q ≤ E.ts.length := by
    intro rd hrd f
    induction f with
    | zero => intro acc p _ l q h; simp only [listL] at h; cases h
    | succ f ih =>
      intro acc p hp l q h
      simp only [listL] at h
      split at h
      · cases h; omega
      · split at h
        · cases h
        · rename_i a q1 e1
          have g1 := hrd f p _ _ e1
          have := ih _ q1 g1.2 _ _ h
          omega
  have hlr : ∀ rd : Nat → Nat → Sx.PR Nd, (∀ f p, Sx.Goes E.ts p (rd f p)) → ∀ k q1 a p, listR rd E.ts f k q1 = .ok a p → q1 < p ∧ p ≤ E.ts.length := by
    intro rd hrd k q1 a p h
    unfold listR at h
    split at h
    · rename_i hk
      have hk2 := Sx.knd_lt (ts := E.ts) (p := q1) (by omega)
      cases hL : listL rd E.ts f [] (q1 + 1) with
      | bad _ => rw [hL] at h; cases h
      | ok l q2 =>
        rw [hL] at h
        have := hl rd hrd f [] (q1 + 1) (by omega) _ _ hL
        cases h
        omega
    · cases h
  unfold itemO at h
  repeat' (split at h)
  · cases hn : Sx.names E.ts f (q + 1) with
    | bad _ => rw [hn] at h; cases h
    | ok l q1 => rw [hn] at h; have := names_goes hn; cases h; omega
  · unfold constR at h
    split at h
    · cases h
    · rename_i l q1 hn
      have := names_goes hn
      split at h
      · split at h
        · cases h
        · rename_i t r ht
          have := (Sx.typed_goes E.ts f).1 _ _ _ ht
          cases h; omega
      · cases h
  · have := hlr _ (rdSimple_goes E.ts) _ _ _ _ h; omega
  · have := hlr _ (rdSmall_goes E.ts) _ _ _ _ h; omega
  · unfold clauseR at h
    split at h
    · split at h
      · split at h
        · cases h
        · rename_i t r ht
          have := (Sx.form_goes E.ts f).2.2.1 _ _ _ ht
          cases h; omega
      · cases h
    · cases h
  · cases hn : Sx.small E.ts (q + 1) with
    | bad _ => rw [hn] at h; cases h
    | ok x q1 => obtain ⟨k1, s1, l1⟩ := x; rw [hn] at h; have := hs _ _ _ hn; cases h; omega
  · cases h
set_option maxRecDepth 100000 in
set_option maxHeartbeats 4000000 in
theorem text_walk (E : PE) (hsn : SaneT E.ts) (q : Nat) (w : World) (h : PS E q w) (f : Nat) (hf : 16 * (E.ts.length - q) + 11 ≤ f) :
    Calls Tryz.prog 88 #[.pointer (some ⟨E.pb, 0, none⟩)] w (Gr E w (appR 1 Sx.noS (Sx.items E.ts f [] q))) := by
  have HP := Lib.hid h
  have hpl := h.lt
  have hfew := h.g.few
  have Hf := Lib.hid hf
  have D := Lib.hid (fun f p w h hf => item_any E hsn f p w h hf)
  have Hsn := Lib.hid hsn
  have B0 := Lib.hid ((Below.refl w.heap.size w).alloc (Nat.le_refl _) (.cells #[.int .i64 0, .string ⟨#[]⟩, .slice none 0 0] 24))
  obtain ⟨A, hA⟩ : ∃ A, Sx.items E.ts f [] q = A := ⟨_, rfl⟩
  have HA := Lib.hid hA
  obtain ⟨R, hR⟩ : ∃ R, Gr E w (appR 1 Sx.noS A) = R := ⟨_, rfl⟩
  have HR := Lib.hid hR
  rw [hA, hR]
  clear h hA hR hf hsn
  go_enter Tryz.func88, Tryz.ntmps88
  go_wp2_with fail
  obtain ⟨W0, hW0⟩ : ∃ W, (w.alloc (.cells #[.int .i64 0, .string ⟨#[]⟩, .slice none 0 0] 24)).alloc (.cells #[.int .i64 1, .string ⟨#[]⟩, .slice none 0 0] 24) = W := ⟨_, rfl⟩
  have M0 := Lib.hid (show Mv E q w W0 by rw [← hW0]; exact Mv.below HP.out (B0.out.alloc (by simp) _))
  have P0 := Lib.hid (M0.out.ps HP.out HP.out.le)
  have R0 := Lib.hid (show Row3 W0 w.heap.size (.int .i64 0) (.string ⟨#[]⟩) (.slice none 0 0) by rw [← hW0]; exact (Row3.new w _ _ _).alloc _)
  have N0 := Lib.hid (show Row3 W0 (w.heap.size + 1) (.int .i64 1) (.string ⟨#[]⟩) (.slice none 0 0) by rw [← hW0]; exact Row3.newAt (by simp))
  have z0 : w.heap.size + 1 + 1 ≤ W0.heap.size := by rw [← hW0]; simp
  have Hz0 := Lib.hid z0
  rw [hW0]
  clear hW0 z0
  go_loopw [] (fun W => ∃ (f1 p : Nat) (acc : List Nd) (v : Value), q ≤ p ∧ 16 * (E.ts.length - p) + 11 ≤ f1 ∧ acc.length ≤ p ∧ Hid (Sx.items E.ts f1 acc p = A) ∧ Hid (Mv E p w W) ∧ Hid (PS E p W) ∧ Hid (Row3 W w.heap.size (.int .i64 0) (.string ⟨#[]⟩) (.slice none 0 0)) ∧ Hid (Row3 W (w.heap.size + 1) (.int .i64 1) (.string ⟨#[]⟩) v) ∧ Hid (Kids (w.heap.size + 1 + 1) W v acc) ∧ Hid (w.heap.size + 1 + 1 ≤ W.heap.size)) (fun W => E.ts.length + 1 - nxt E W)
  case atStart =>
    exact ⟨f, q, [], .slice none 0 0, Nat.le_refl _, Hf.out, Nat.zero_le _, HA, M0, P0, R0, N0, Kids.nil _ _, Hz0⟩
  case round =>
    obtain ⟨f1, p, acc, v, hqp, hf1, hacc, hrun, hM, hP, hRw, hN, hK, hz⟩ := hrel
    clear M0 P0 R0 N0 Hz0 HA
    obtain ⟨va, vcap, rfl, _⟩ := hK.out.shape
    obtain ⟨f2, rfl⟩ : ∃ f2, f1 = f2 + 1 := ⟨f1 - 1, by omega⟩
    have hple := hP.out.le
    have hnl := hN.out.lt
    have hrl := hRw.out.lt
    have Hmeas := Lib.hid hP.out.nxt
    obtain ⟨pc0, pc1, _, pc3, _⟩ := hP.out.cells
    have hpw := hP.out.lt
    obtain ⟨nt, hnt⟩ : ∃ nt, E.ts.length = nt := ⟨_, rfl⟩
    have Hnt := Lib.hid hnt
    by_cases hlt : p < E.ts.length
    · have hlt2 : (p : Int) < (nt : Int) := by omega
      have DB := Lib.hid (fun w0 h0 => D.out f2 p w0 h0 (by omega))
      obtain ⟨⟨n0, n1, n2⟩, g0, g1, g2⟩ := hN.out.cells
      have hit := itemO_item E Hsn.out f2 p
      rw [hnt] at pc0
      clear hnt
      cases hs : itemO E.ts f2 p with
      | bad qb =>
        have HA' := Lib.hid (hrun.out.symm.trans (items_bad hlt (by rw [← hit, hs]; rfl)))
        rw [hs] at DB
        clear hs D hrun hit hlt
        go_wp2_with fail
        go_quiet (fail)
        have F : Hid (∀ u w5, Below wr.heap.size wr u → Mv E qb u w5 → qb ≤ E.ts.length → R (.panicked [{ v := misfit E qb, recovered := false }]) w5) := Lib.hid fun u w5 hu hm5 hq5 => by
          rw [← HR.out, HA'.out]
          exact ⟨rfl, Mv.trans HP.out (hM.out.later (hu.mono hM.out.size)) hple hm5, hq5⟩
        go_wp2_with fail
        go_region_dies
        all_goals refine (DB.out _ (hP.out.later (below_drewN (Below.refl _ _) _))).mono ?_
        all_goals rintro e w5 ⟨rfl, hm5, hq5⟩
        all_goals exact ⟨rfl, F.out _ w5 (below_drewN (Below.refl _ _) _) hm5 hq5⟩
      | ok x p1 =>
        obtain ⟨k2, s2, l2⟩ := x
        have hgo := itemO_goes E f2 p _ _ hs
        rw [hs] at DB
        have Hgo := Lib.hid hgo
        have Hlt := Lib.hid hlt
        have hP2 := Lib.hid (show ∀ hd : Sx.txt E.ts p1 = [46], Sx.items E.ts f2 (acc ++ [.mk k2 s2 l2]) (p1 + 1) = A from fun hd => (items_ok hlt (by rw [← hit, hs]; simp only [needR]; rw [if_pos hd])).symm.trans hrun.out)
        have hP3 := Lib.hid (show ∀ hd : Sx.txt E.ts p1 ≠ [46], A = .bad p1 from fun hd => hrun.out.symm.trans (items_bad hlt (by rw [← hit, hs]; simp only [needR]; rw [if_neg hd])))
        clear hs D hrun hit hlt hgo
        go_wp2_with fail
        go_quiet (fail)
        generalize hW1 : wr.drewN _ = W1
        have hb1 : Below wr.heap.size wr W1 := by rw [← hW1]; exact below_drewN (Below.refl _ _) _
        clear hW1 n0 n1 n2 g0 g1 g2 pc0 pc1 pc3 hlt2
        have M1 := Lib.hid (hM.out.later (hb1.mono hM.out.size))
        have P1 := Lib.hid (hP.out.later hb1)
        have R1 := Lib.hid (hRw.out.below hb1 hrl)
        have N1 := Lib.hid (hN.out.below hb1 hnl)
        have K1 := Lib.hid (hK.out.keep fun b _ h2 => hb1.block b h2)
        have hz1 := Lib.hid (Nat.le_trans hz.out hb1.size)
        obtain ⟨⟨n0, n1, n2⟩, g0, g1, g2⟩ := N1.out.cells
        obtain ⟨_, _, _, pc3, _⟩ := P1.out.cells
        have hpw1 := P1.out.lt
        have ln1 := N1.out.lt
        clear hb1
        go_wp2_with fail
        go_region_law (first
          | (go_simp; go_at_call 130; refine (DB.out _ (P1.out.later (Below.refl _ _).drew)).mono ?_; rintro e w5 ⟨⟨a5, cap5, rfl, hn5⟩, hm5, hq5⟩; have hm5' := Mv.before P1.out (Below.refl _ _).drew hm5; have N5 := Lib.hid (N1.out.mv hm5' (by omega)); have R5 := Lib.hid (R1.out.mv hm5' (by omega)); have K5 := Lib.hid (Kids.step hm5' (by omega) K1.out); have hz5 : w.heap.size + 1 + 1 ≤ w5.heap.size := Nat.le_trans hz1.out hm5'.size; obtain ⟨⟨c0, c1, c2⟩, y0, y1, y2⟩ := N5.out.cells; have l5 := N5.out.lt)
          | (refine step_append_kid rfl _ _ rfl (w.heap.size + 1 + 1) (.slice va acc.length vcap) acc rfl (Kids.keep K5.out fun b _ hb2 => Below.heap_alloc _ _ _ hb2) ⟨w5.heap.size, 0, none⟩ 1 (by rfl) (.mk k2 s2 l2) (.int .i64 k2) (.string s2) (.slice a5 l2.length cap5) (cells3 w5 _ _ _ _ _ rfl) (hn5.keep (fun b hb1 hb2 => ⟨Below.heap_alloc _ _ _ hb2, Nat.le_trans hz1.out hb1, fun e => by have := K1.out.own b e; have hb1' : W1.heap.size ≤ b := hb1; omega⟩)) (by omega) (by simp; omega) _ rfl ?_; intro g6 cap6 w6 K6 G6 _ hg6; have hown := K5.out.own; have N6 := Lib.hid ((N5.out.alloc _).grown' G6 (fun e => by have := hown _ e.symm; omega)); have R6 := Lib.hid ((R5.out.alloc _).grown' G6 (fun e => by have := hown _ e.symm; omega)); obtain ⟨⟨d0, d1, d2⟩, z0, z1, z2⟩ := N6.out.cells))
        all_goals
          have hz6 : w.heap.size + 1 + 1 ≤ w6.heap.size := by have := G6.size; simp at this; omega
          have M6 := Mv.later (Mv.trans HP.out M1.out hple hm5') ((((Below.refl w.heap.size w5).alloc (by omega) (.cells #[.int .i64 k2, .string s2, .slice a5 l2.length cap5] 24)).grown G6 (by simp; omega) (fun b hb => by have := hown b hb; omega)))
          obtain ⟨V, hV⟩ : ∃ V, w6.setCell ⟨w.heap.size + 1, 2, none⟩ (.slice (some ⟨g6, 0, none⟩) (acc.length + 1) cap6) = V := ⟨_, rfl⟩
          have M7 := Lib.hid (show Mv E p1 w V by rw [← hV]; exact M6.later ((Below.refl w.heap.size w6).setCell (p := ⟨w.heap.size + 1, 2, none⟩) (by simp only; omega) _))
          have N7 := Lib.hid (show Row3 V (w.heap.size + 1) (.int .i64 1) (.string ⟨#[]⟩) (.slice (some ⟨g6, 0, none⟩) (acc.length + 1) cap6) by rw [← hV]; exact N6.out.put2 _)
          have R7 := Lib.hid (show Row3 V w.heap.size (.int .i64 0) (.string ⟨#[]⟩) (.slice none 0 0) by rw [← hV]; exact R6.out.other _ (by simp only; omega))
          have K7 := Lib.hid (show Kids (w.heap.size + 1 + 1) V (.slice (some ⟨g6, 0, none⟩) (acc.length + 1) cap6) (acc ++ [.mk k2 s2 l2]) by rw [← hV]; exact K6.keep fun b hb1 _ => Below.heap_setCell _ _ _ _ (by simp only; omega))
          have P7 := Lib.hid (M7.out.ps HP.out hq5)
          have z7 : w.heap.size + 1 + 1 ≤ V.heap.size := by rw [← hV, setCell_size]; exact hz6
          rw [hV]
          clear hV hn5 hm5 hm5' hq5 N5 R5 N6 R6 K6 G6 M6 c0 c1 c2 y0 y1 y2 d0 d1 d2 z0 z1 z2 n0 n1 n2 g0 g1 g2 l5 hg6 hown K5 DB pc3 hpw1 ln1
          by_cases hc : Sx.txt E.ts p1 = [46]
          · have HA2 := Lib.hid (hP2.out hc)
            have T := Lib.hid (fun w h => need_yes E p1 ⟨#[46]⟩ w h hc (by decide))
            have hlt1 := Sx.txt_at hc
            clear hc
            go_wp2_with fail
            refine (T.out _ P7.out).mono ?_
            rintro e w8 ⟨rfl, hm8, hp8⟩
            have M8 := Lib.hid (Mv.trans HP.out M7.out P7.out.le hm8)
            have P8 := Lib.hid hp8
            have N8 := Lib.hid (N7.out.mv hm8 (by omega))
            have R8 := Lib.hid (R7.out.mv hm8 (by omega))
            have K8 := Lib.hid (Kids.step hm8 (by omega) K7.out)
            have z8 := Lib.hid (Nat.le_trans z7 hm8.size)
            have Hm8 := Lib.hid hp8.nxt
            clear hm8 hp8 T
            go_wp2_with fail
            go_roundw
            case rel => exact ⟨f2, p1 + 1, acc ++ [Nd.mk k2 s2 l2], _, by have := Hgo.out; omega, by have := Hgo.out; have := Hlt.out; omega, by have := Hgo.out; simp; omega, HA2, M8, P8, R8, N8, K8, z8⟩
            case measure => rw [Hm8.out, Hmeas.out]; have := Hgo.out; have := Hlt.out; omega
          · have HA2 := Lib.hid (hP3.out hc)
            have T := Lib.hid (fun w h => need_no E p1 ⟨#[46]⟩ w h hc)
            clear hc
            go_wp2_with fail
            refine (T.out _ P7.out).mono ?_
            rintro e w8 ⟨rfl, hb8⟩
            have M8 := M7.out.later (hb8.mono M7.out.size)
            go_wp2
            rw [← HR.out, HA2.out]
            exact ⟨rfl, rfl, M8, P7.out.le⟩
    · have hlt2 : ¬ ((p : Int) < (nt : Int)) := by omega
      have hlt3 : decide ((p : Int) < (nt : Int)) = false := decide_eq_false hlt2
      have HA' := Lib.hid (hrun.out.symm.trans (items_end hlt))
      rw [hnt] at pc0
      clear hnt D hrun hlt
      obtain ⟨⟨n0, n1, n2⟩, _⟩ := hN.out.cells
      obtain ⟨⟨r0, r1, r2⟩, g0, g1, g2⟩ := hRw.out.cells
      have Hple := Lib.hid hple
      go_wp2_with fail
      go_quiet (fail)
      generalize hW1 : wr.drewN _ = W1
      have hb1 : Below wr.heap.size wr W1 := by rw [← hW1]; exact below_drewN (Below.refl _ _) _
      clear hW1 n0 n1 n2 g0 g1 g2 pc0 pc1 pc3 r0 r1 r2
      have M1 := Lib.hid (hM.out.later (hb1.mono hM.out.size))
      have R1 := Lib.hid (hRw.out.below hb1 hrl)
      have N1 := Lib.hid (hN.out.below hb1 hnl)
      have K1 := Lib.hid (hK.out.keep fun b _ h2 => hb1.block b h2)
      obtain ⟨⟨n0, n1, n2⟩, _⟩ := N1.out.cells
      obtain ⟨⟨r0, r1, r2⟩, g0, g1, g2⟩ := R1.out.cells
      have ln := N1.out.lt
      have lr := R1.out.lt
      have ND := Lib.hid (((K1.out.kp ((Kp.refl (w.heap.size + 1 + 1) W1).put3 (b := w.heap.size) (.int .i64 1) (.string Sx.noS) (.slice va acc.length vcap) (by omega))).node 1 Sx.noS (by unfold maxLen; decide) (by unfold maxLen; have := Hple.out; omega)).from (h' := w.heap.size) (by omega))
      clear hb1
      go_wp2
      refine ret_node (R1.out.put _ _ _) Tryz.results88 rfl rfl ?_
      rw [← HR.out, HA'.out]
      exact ⟨⟨va, vcap, rfl, ND.out⟩, M1.out.put3 (Nat.le_refl _) _ _ _, Hple.out⟩
end Go.Proofs.YtgikhpmdpppenaaGreatDoor
namespace Go.Proofs.YtgikhpmdpppenaaGreatDoor
open Go.RowKit
theorem boxed_otherP {W : World} {B : Nat} {t : TypeId} {v u : Value} (h : Boxed W B t v) (p : Addr) (hne : B ≠ p.block) : Boxed (W.setCell p u) B t v := (Below.heap_setCell _ _ _ _ hne).trans h
theorem boxed_put3 {W : World} {B h : Nat} {t : TypeId} {v u0 u1 u2 : Value} (hb : Boxed W B t v) (hne : B ≠ h) : Boxed (((W.setCell ⟨h, 0, none⟩ u0).setCell ⟨h, 1, none⟩ u1).setCell ⟨h, 2, none⟩ u2) B t v :=
  boxed_otherP (boxed_otherP (boxed_otherP hb ⟨h, 0, none⟩ hne) ⟨h, 1, none⟩ hne) ⟨h, 2, none⟩ hne
theorem boxed_drew {W : World} {B : Nat} {t : TypeId} {v : Value} (hb : Boxed W B t v) : Boxed W.drew B t v := hb
theorem row3_drew {W : World} {b : Nat} {u0 u1 u2 : Value} (h : Row3 W b u0 u1 u2) : Row3 W.drew b u0 u1 u2 := h
theorem scan_toks2 (s : ByteArray) (l : List Lx.Tok) (hl : Lx.scan (bs s) = .toks l) (w : World) (hs : s.size ≤ maxLen) :
    Calls Tryz.prog 125 #[.string s] w fun e w' => ∃ v, e = .returned (.tuple #[v, .int .i64 0, .int .i64 0]) ∧ Toks w.heap.size v l w' ∧ Below w.heap.size w w' := by
  refine (scan_any s w hs).mono ?_
  rintro e w' ⟨hb, h⟩
  rw [hl] at h
  obtain ⟨v, h1, h2⟩ := h
  exact ⟨v, h1, h2, hb⟩
theorem scan_bads2 (s : ByteArray) (i er : Nat) (hl : Lx.scan (bs s) = .bad i er) (w : World) (hs : s.size ≤ maxLen) :
    Calls Tryz.prog 125 #[.string s] w fun e w' => e = .returned (.tuple #[.slice none 0 0, .int .i64 i, .int .i64 er]) ∧ Below w.heap.size w w' := by
  refine (scan_any s w hs).mono ?_
  rintro e w' ⟨hb, h⟩
  rw [hl] at h
  exact ⟨h, hb⟩
set_option maxRecDepth 100000 in
set_option maxHeartbeats 1000000 in
theorem parse_bad (s : ByteArray) (i er : Nat) (hl : Lx.scan (bs s) = .bad i er) (her : er ≠ 0) (w : World) (hs : s.size ≤ maxLen) (fn : Value) :
    Calls Tryz.prog 87 #[.string s, fn] w fun e w' => e = .returned (.tuple #[.agg #[.int .i64 0, .string ⟨#[]⟩, .slice none 0 0], .int .i64 i, .int .i64 er]) ∧ Below w.heap.size w w' := by
  have C := Lib.hid (fun w => scan_bads2 s i er hl w hs)
  have he : ((er : Int) == 0) = false := by rw [beq_eq_false_iff_ne]; omega
  clear hl her hs
  have c0 := cells3 w (.int .i64 0) (.string ⟨#[]⟩) (.slice none 0 0) 24 _ rfl
  have hb0 := Lib.hid (((Below.refl w.heap.size w).alloc (Nat.le_refl _) (.cells #[.int .i64 0, .string ⟨#[]⟩, .slice none 0 0] 24)).alloc (by simp) (.cells #[.int .i64 0] 3) |>.alloc (by simp; omega) (.cells #[.int .i64 0] 26))
  clear c0
  go_enter_defers Tryz.func87, Tryz.ntmps87
  go_wp2_with fail
  refine (C.out _).mono ?_
  rintro e w1 ⟨rfl, hb⟩
  have z1 := hb.size
  simp only [World.size_alloc] at z1
  have bx0 : Row3 w1 w.heap.size (.int .i64 0) (.string ⟨#[]⟩) (.slice none 0 0) := (hb.block w.heap.size (by simp only [World.size_alloc]; omega)).trans (heap3_1 w _ _ _)
  have bx1 : Boxed w1 (w.heap.size + 1) 3 (.int .i64 0) := (hb.block (w.heap.size + 1) (by simp only [World.size_alloc]; omega)).trans (heap3_2 w _ _ _)
  have bx2 : Boxed w1 (w.heap.size + 1 + 1) 26 (.int .i64 0) := (hb.block (w.heap.size + 1 + 1) (by simp only [World.size_alloc]; omega)).trans (heap3_3 w _ _ _)
  have B1 := Lib.hid (hb0.out.trans (hb.mono (by simp only [World.size_alloc]; omega)))
  obtain ⟨⟨r0, r1, r2⟩, g0, g1, g2⟩ := bx0.cells
  have d1 := bx1.cell
  have d2 := bx2.cell
  have f1 := bx1.frozen
  have f2 := bx2.frozen
  have l0 := bx0.lt
  have l1 := bx1.lt
  have l2 := bx2.lt
  have R0 := Lib.hid bx0
  have X1 := Lib.hid bx1
  have X2 := Lib.hid bx2
  clear hb bx0 bx1 bx2 z1 hb0
  go_wp2_with fail
  go_region
  generalize hV : World.drew _ = V
  have RV := Lib.hid (show Row3 V w.heap.size (.int .i64 0) (.string ⟨#[]⟩) (.slice none 0 0) by
    rw [← hV]
    exact row3_drew (((((R0.out.other (p := ⟨w.heap.size + 1, 0, none⟩) _ (by simp)).other (p := ⟨w.heap.size + 1 + 1, 0, none⟩) _ (by simp only; omega)).put _ _ _).other (p := ⟨w.heap.size + 1, 0, none⟩) _ (by simp)).other (p := ⟨w.heap.size + 1 + 1, 0, none⟩) _ (by simp only; omega)))
  have V1 := Lib.hid (show Boxed V (w.heap.size + 1) 3 (.int .i64 i) by
    rw [← hV]
    exact boxed_drew (boxed_otherP (Boxed.set _ (boxed_put3 (boxed_otherP (Boxed.set _ X1.out) ⟨w.heap.size + 1 + 1, 0, none⟩ (by simp only; omega)) (by omega))) ⟨w.heap.size + 1 + 1, 0, none⟩ (by simp only; omega)))
  have V2 := Lib.hid (show Boxed V (w.heap.size + 1 + 1) 26 (.int .i64 er) by
    rw [← hV]
    exact boxed_drew (Boxed.set _ (boxed_otherP (boxed_put3 (Boxed.set _ (boxed_otherP X2.out ⟨w.heap.size + 1, 0, none⟩ (by simp only; omega))) (by omega)) ⟨w.heap.size + 1, 0, none⟩ (by simp only; omega))))
  have BV := Lib.hid (show Below w.heap.size w V by
    rw [← hV]
    exact (((below3 ((B1.out.setCell (p := ⟨w.heap.size + 1, 0, none⟩) (by simp) _).setCell (p := ⟨w.heap.size + 1 + 1, 0, none⟩) (by simp only; omega) _) (Nat.le_refl _) _ _ _).setCell (p := ⟨w.heap.size + 1, 0, none⟩) (by simp) _).setCell (p := ⟨w.heap.size + 1 + 1, 0, none⟩) (by simp only; omega) _).drew)
  clear hV r0 r1 r2 g0 g1 g2 d1 d2 f1 f2 R0 X1 X2 B1 C
  go_wp2
  obtain ⟨⟨r0, r1, r2⟩, _⟩ := RV.out.cells
  have d1 := V1.out.cell
  have d2 := V2.out.cell
  refine ⟨.tuple #[.agg #[.int .i64 0, .string ⟨#[]⟩, .slice none 0 0], .int .i64 i, .int .i64 er], by simp [results, Tryz.results87, go_sem, r0, r1, r2, d1, d2], rfl, BV.out⟩
end Go.Proofs.YtgikhpmdpppenaaGreatDoor
namespace Go.Proofs.YtgikhpmdpppenaaGreatDoor
open Go.RowKit
structure AT where
  k : Int
  t : ByteArray
  p : Int
def ofTok (t : Lx.Tok) : AT := ⟨t.kind, ⟨t.text.toArray⟩, t.pos⟩
def TokAt (w : World) (b o : Nat) (a : AT) : Prop :=
  w.cell? ⟨b, o, none⟩ = some (.int .i64 a.k) ∧ w.cell? ⟨b, o + 1, none⟩ = some (.string a.t) ∧ w.cell? ⟨b, o + 2, none⟩ = some (.int .i64 a.p)
def TokSl (w : World) (v : Value) (l : List AT) : Prop :=
  ∃ a cap, v = .slice a l.length cap ∧ (l ≠ [] → ∃ b o, a = some ⟨b, o, none⟩ ∧ ∀ i, (h : i < l.length) → TokAt w b (o + i * 3) l[i])
def sameB : List AT → List AT → Bool
  | [], [] => true
  | a :: l, b :: m => (a.k == b.k && (a.t.toList == b.t.toList)) && sameB l m
  | _, _ => false
end Go.Proofs.YtgikhpmdpppenaaGreatDoor
namespace Go.Proofs.YtgikhpmdpppenaaGreatDoor
open Go.RowKit
theorem scanT_bad (l : Lx.Bs) : ∀ (f : Nat) (pre : List Lx.Tok) (i p er : Nat), Lx.scanT l f pre i = .bad p er → (er = 2 ∨ er = 10 ∨ er = 11) ∧ p ≤ l.length
  | 0, _, _, _, _, h => by simp [Lx.scanT] at h
  | f + 1, pre, i, p, er, h => by
    unfold Lx.scanT at h
    split at h
    · simp at h
    · split at h
      · simp at h; obtain ⟨rfl, rfl⟩ := h; exact ⟨.inr (.inl rfl), by omega⟩
      · split at h
        · simp at h; obtain ⟨rfl, rfl⟩ := h; exact ⟨.inl rfl, by omega⟩
        · split at h
          · simp at h; obtain ⟨rfl, rfl⟩ := h; exact ⟨.inr (.inr rfl), by omega⟩
          · exact scanT_bad l f _ _ _ _ h
theorem scan_err {l : Lx.Bs} {p er : Nat} (h : Lx.scan l = .bad p er) : er = 2 ∨ er = 10 ∨ er = 11 := by
  unfold Lx.scan at h
  split at h
  · simp at h; exact .inl h.2.symm
  · exact (scanT_bad _ _ _ _ _ _ h).1
theorem scanT_len (l : Lx.Bs) : ∀ (f : Nat) (pre : List Lx.Tok) (i : Nat) (ts : List Lx.Tok), pre.length ≤ 6000 → Lx.scanT l f pre i = .toks ts → ts.length ≤ 6000
  | 0, _, _, _, hp, h => by simp [Lx.scanT] at h; subst h; exact hp
  | f + 1, pre, i, ts, hp, h => by
    unfold Lx.scanT at h
    split at h
    · simp at h; subst h; exact hp
    · split at h
      · simp at h
      · split at h
        · simp at h
        · split at h
          · simp at h
          · exact scanT_len l f _ _ _ (by rw [List.length_append, List.length_singleton]; omega) h
theorem scan_len {l : Lx.Bs} {ts : List Lx.Tok} (h : Lx.scan l = .toks ts) : ts.length ≤ 6000 := by
  unfold Lx.scan at h
  split at h
  · simp at h
  · exact scanT_len _ _ _ _ _ (Nat.zero_le _) h
theorem flat_get (l : List Lx.Tok) : ∀ (i : Nat) (h : i < l.length), (flat l)[i * 3]? = some (.int .i64 l[i].kind) ∧ (flat l)[i * 3 + 1]? = some (.string ⟨l[i].text.toArray⟩) ∧ (flat l)[i * 3 + 2]? = some (.int .i64 l[i].pos) := by
  induction l with
  | nil => intro i h; simp at h
  | cons t l ih =>
    intro i h
    have e : flat (t :: l) = [.int .i64 t.kind, .string ⟨t.text.toArray⟩, .int .i64 t.pos] ++ flat l := rfl
    rw [e]
    cases i with
    | zero => exact ⟨rfl, rfl, rfl⟩
    | succ i =>
      obtain ⟨h0, h1, h2⟩ := ih i (by simpa using h)
      rw [show (i + 1) * 3 = i * 3 + 3 from by omega, show i * 3 + 3 + 1 = i * 3 + 1 + 3 from by omega, show i * 3 + 3 + 2 = i * 3 + 2 + 3 from by omega]
      exact ⟨h0, h1, h2⟩
theorem Toks.sl {B : Nat} {v : Value} {l : List Lx.Tok} {w : World} (h : Toks B v l w) : TokSl w v (l.map ofTok) := by
  obtain ⟨h1, h2⟩ := h
  rcases h2 with ⟨rfl, hn⟩ | ⟨g, cap, cur, rfl, hg, hh, r⟩
  · have : l = [] := List.length_eq_zero_iff.1 hn
    subst this
    exact ⟨none, 0, rfl, fun hne => absurd rfl hne⟩
  · refine ⟨some ⟨g, 0, none⟩, cap, by rw [List.length_map], fun _ => ⟨g, 0, rfl, fun i hi => ?_⟩⟩
    have hi' : i < l.length := by simpa using hi
    have hk : ∀ j, j < l.length * 3 → cur[j]? = (flat l)[j]? := fun j hj => by
      rw [← r.2.2.2, List.getElem?_take_of_lt hj, Array.getElem?_toList]
    obtain ⟨f0, f1, f2⟩ := flat_get l i hi'
    have he : (l.map ofTok)[i] = ofTok l[i] := List.getElem_map _
    rw [he]
    refine ⟨?_, ?_, ?_⟩
    · rw [cell_of_row _ _ _ _ _ _ hh, hk _ (by omega), show 0 + i * 3 = i * 3 from by omega, f0]; rfl
    · rw [cell_of_row _ _ _ _ _ _ hh, hk _ (by omega), show 0 + i * 3 + 1 = i * 3 + 1 from by omega, f1]; rfl
    · rw [cell_of_row _ _ _ _ _ _ hh, hk _ (by omega), show 0 + i * 3 + 2 = i * 3 + 2 from by omega, f2]; rfl
def scansB (s : ByteArray) (l : List AT) : Bool := match Lx.scan (bs s) with
  | .toks t => sameB (t.map ofTok) l
  | .bad _ _ => false
def checkB (a : AT) : Bool := scansB a.t [a]
end Go.Proofs.YtgikhpmdpppenaaGreatDoor
namespace Go.Proofs.YtgikhpmdpppenaaGreatDoor
open Go.RowKit
theorem ret_bool {a b : Bool} (h : a = b) : Ending.returned (.bool a) = Ending.returned (.bool b) := by rw [h]
set_option maxRecDepth 100000 in
set_option maxHeartbeats 400000 in
theorem rSmall (c : UInt8) (w : World) : Calls Tryz.prog 190 #[.int .u8 c.toNat] w fun e w' => e = .returned (.bool (Lx.small c)) ∧ w = w' := by
  have hby := byte_lt c
  obtain ⟨V, hV⟩ : ∃ V, Lx.small c = V := ⟨_, rfl⟩
  rw [hV]
  unfold Lx.small at hV
  have HV := Lib.hid hV
  clear hV
  by_cases h1 : (97 : Int) ≤ (c.toNat : Int)
  · by_cases h2 : (c.toNat : Int) ≤ 122
    · go_enter Tryz.func190, Tryz.ntmps190
      go_wp2
      go_ret
      exact ⟨ret_bool (by rw [← HV.out]; have : 97 ≤ c.toNat := by omega
                          have : c.toNat ≤ 122 := by omega
                          simp [*]), rfl⟩
    · go_enter Tryz.func190, Tryz.ntmps190
      go_wp2
      go_ret
      exact ⟨ret_bool (by rw [← HV.out]; have : ¬ c.toNat ≤ 122 := by omega
                          simp; omega), rfl⟩
  · go_enter Tryz.func190, Tryz.ntmps190
    go_wp2
    go_ret
    exact ⟨ret_bool (by rw [← HV.out]; simp; omega), rfl⟩
set_option maxRecDepth 100000 in
set_option maxHeartbeats 400000 in
theorem rCapital (c : UInt8) (w : World) : Calls Tryz.prog 188 #[.int .u8 c.toNat] w fun e w' => e = .returned (.bool (Lx.capital c)) ∧ w = w' := by
  have hby := byte_lt c
  obtain ⟨V, hV⟩ : ∃ V, Lx.capital c = V := ⟨_, rfl⟩
  rw [hV]
  unfold Lx.capital at hV
  have HV := Lib.hid hV
  clear hV
  by_cases h1 : (65 : Int) ≤ (c.toNat : Int)
  · by_cases h2 : (c.toNat : Int) ≤ 90
    · go_enter Tryz.func188, Tryz.ntmps188
      go_wp2
      go_ret
      exact ⟨ret_bool (by rw [← HV.out]; simp; omega), rfl⟩
    · go_enter Tryz.func188, Tryz.ntmps188
      go_wp2
      go_ret
      exact ⟨ret_bool (by rw [← HV.out]; simp; omega), rfl⟩
  · go_enter Tryz.func188, Tryz.ntmps188
    go_wp2
    go_ret
    exact ⟨ret_bool (by rw [← HV.out]; simp; omega), rfl⟩
theorem part_of (c : UInt8) : ∀ b : Bool, b = (Lx.small c || Lx.capital c || (decide (48 ≤ c.toNat) && decide (c.toNat ≤ 57)) || decide (c.toNat = 95) || decide (c.toNat = 39)) → b = Lx.part c := fun _ h => h
set_option maxRecDepth 100000 in
set_option maxHeartbeats 1000000 in
theorem rPart (c : UInt8) (w : World) : Calls Tryz.prog 193 #[.int .u8 c.toNat] w fun e w' => e = .returned (.bool (Lx.part c)) ∧ w = w' := by
  have hby := byte_lt c
  have CS := Lib.hid (fun w => rSmall c w)
  have CC := Lib.hid (fun w => rCapital c w)
  have HV := Lib.hid (part_of c)
  obtain ⟨V, hV⟩ : ∃ V, Lx.part c = V := ⟨_, rfl⟩
  obtain ⟨S, hS⟩ : ∃ S, Lx.small c = S := ⟨_, rfl⟩
  obtain ⟨C, hC⟩ : ∃ C, Lx.capital c = C := ⟨_, rfl⟩
  rw [hV] at HV ⊢
  simp only [hS, hC] at HV CS CC
  clear hV hS hC
  go_enter Tryz.func193, Tryz.ntmps193
  go_wp2_with fail
  refine (CS.out _).mono ?_
  rintro e w1 ⟨rfl, rfl⟩
  clear CS
  cases S
  · go_wp2_with fail
    refine (CC.out _).mono ?_
    rintro e w1 ⟨rfl, rfl⟩
    clear CC
    cases C
    · by_cases h3 : c.toNat = 95
      · have HN := Lib.hid h3
        have h1 : (48 : Int) ≤ (c.toNat : Int) := by omega
        have h2 : ¬ ((c.toNat : Int) ≤ 57) := by omega
        have h3' : ((c.toNat : Int) == 95) = true := by rw [h3]; rfl
        clear h3
        go_wp2
        go_ret
        exact ⟨ret_bool (HV.out _ (by rw [HN.out]; rfl)), rfl⟩
      · have h3' : ((c.toNat : Int) == 95) = false := by rw [beq_eq_false_iff_ne]; omega
        by_cases h4 : c.toNat = 39
        · have HN := Lib.hid h4
          have h1 : ¬ ((48 : Int) ≤ (c.toNat : Int)) := by omega
          have h4' : ((c.toNat : Int) == 39) = true := by rw [h4]; rfl
          clear h3 h4
          go_wp2
          go_ret
          exact ⟨ret_bool (HV.out _ (by rw [HN.out]; rfl)), rfl⟩
        · have h4' : ((c.toNat : Int) == 39) = false := by rw [beq_eq_false_iff_ne]; omega
          have HN := Lib.hid (And.intro h3 h4)
          by_cases h1 : 48 ≤ c.toNat
          · have h1' : (48 : Int) ≤ (c.toNat : Int) := by omega
            by_cases h2 : c.toNat ≤ 57
            · have h2' : (c.toNat : Int) ≤ 57 := by omega
              have HM := Lib.hid (And.intro h1 h2)
              clear h1 h2 h3 h4
              go_wp2
              go_ret
              exact ⟨ret_bool (HV.out _ (by rw [decide_eq_true HM.out.1, decide_eq_true HM.out.2]; rfl)), rfl⟩
            · have h2' : ¬ ((c.toNat : Int) ≤ 57) := by omega
              have HM := Lib.hid h2
              clear h1 h2 h3 h4
              go_wp2
              go_ret
              exact ⟨ret_bool (HV.out _ ((decide_eq_false (show ¬ ((c.toNat : Int) ≤ 57) by omega)).trans (by rw [decide_eq_false HM.out, decide_eq_false HN.out.1, decide_eq_false HN.out.2, Bool.and_false]; rfl))), rfl⟩
          · have h1' : ¬ ((48 : Int) ≤ (c.toNat : Int)) := by omega
            have HM := Lib.hid h1
            clear h1 h3 h4
            go_wp2
            go_ret
            exact ⟨ret_bool (HV.out _ (by rw [decide_eq_false HM.out, decide_eq_false HN.out.1, decide_eq_false HN.out.2]; rfl)), rfl⟩
    · go_wp2
      go_ret
      exact ⟨ret_bool (HV.out _ (by simp)), rfl⟩
  · go_wp2
    go_ret
    exact ⟨ret_bool (HV.out _ (by simp)), rfl⟩
end Go.Proofs.YtgikhpmdpppenaaGreatDoor
namespace Go.Proofs.YtgikhpmdpppenaaGreatDoor
open Go.RowKit
set_option maxRecDepth 100000 in
set_option maxHeartbeats 400000 in
theorem rRun (s : ByteArray) (i : Nat) (w : World) (hs : s.size < maxLen) (hi : i ≤ s.size) :
    Calls Tryz.prog 189 #[.string s, .int .i64 i] w fun e w' => e = .returned (.int .i64 (Lx.runTo (bs s) i)) ∧ w = w' := by
  unfold maxLen at hs
  have Hstart := Lib.hid (rfl : Lx.runTo (bs s) i = Lx.runTo (bs s) i)
  obtain ⟨R, hR⟩ : ∃ R, Lx.runTo (bs s) i = R := ⟨_, rfl⟩
  have HR := Lib.hid hR
  rw [hR]
  clear hR Hstart
  go_enter Tryz.func189, Tryz.ntmps189
  go_wp2
  go_loopw [1] (fun v wr => ∃ k : Nat, k ≤ s.size ∧ v = .int .i64 k ∧ Hid (Lx.runTo (bs s) k = R) ∧ wr = w) (fun v _ => s.size - (intOf v).toNat)
  case atStart => exact ⟨i, hi, rfl, HR, rfl⟩
  case round =>
    obtain ⟨k, hk, rfl, hrun, rfl⟩ := hrel
    by_cases hlt : k < s.size
    · have hlt' : (k : Int) < (s.size : Int) := by omega
      have hby := byte_lt s[k]
      have hst := Lx.runTo_step (l := bs s) (k := k) (by rw [bs_len]; exact hlt)
      rw [bs_get hlt] at hst
      have C := Lib.hid (fun w => rPart s[k] w)
      obtain ⟨V, hV⟩ : ∃ V, Lx.part s[k] = V := ⟨_, rfl⟩
      rw [hV] at C hst
      have HS := Lib.hid hst
      clear hst hV
      go_wp2_with fail
      refine (C.out _).mono ?_
      rintro e w1 ⟨rfl, rfl⟩
      clear C
      cases V
      · go_wp2
        go_ret
        exact ⟨ret_int (by rw [← hrun.out, HS.out]; rfl), rfl⟩
      · go_wp2
        go_roundw
        case rel => exact ⟨k + 1, hlt, by push_cast; rfl, by rw [← hrun.out, HS.out]; exact Lib.hid rfl, by trivial⟩
        case measure => simp [intOf]; omega
    · have hlt' : ¬ ((k : Int) < (s.size : Int)) := by omega
      have he : Lx.runTo (bs s) k = k := Lx.runTo_end (by rw [bs_len]; omega)
      have HE := Lib.hid he
      clear he
      go_wp2
      go_ret
      exact ⟨ret_int (by rw [← hrun.out, HE.out]), rfl⟩
set_option maxRecDepth 100000 in
set_option maxHeartbeats 400000 in
theorem rBlank (c : UInt8) (w : World) : Calls Tryz.prog 145 #[.int .u8 c.toNat] w fun e w' => e = .returned (.bool (Lx.blank c)) ∧ w = w' := by
  have hby := byte_lt c
  have HV : Hid (Lx.blank c = (decide (c.toNat = 32) || decide (c.toNat = 9) || decide (c.toNat = 10))) := Lib.hid rfl
  obtain ⟨V, hV⟩ : ∃ V, Lx.blank c = V := ⟨_, rfl⟩
  rw [hV] at HV ⊢
  clear hV
  by_cases h1 : c.toNat = 32
  · have HN := Lib.hid h1
    have h1' : ((c.toNat : Int) == 32) = true := by rw [h1]; rfl
    clear h1
    go_enter Tryz.func145, Tryz.ntmps145
    go_wp2
    go_ret
    exact ⟨ret_bool (by rw [HV.out, HN.out]; rfl), rfl⟩
  · have h1' : ((c.toNat : Int) == 32) = false := by rw [beq_eq_false_iff_ne]; omega
    by_cases h2 : c.toNat = 9
    · have HN := Lib.hid h2
      have h2' : ((c.toNat : Int) == 9) = true := by rw [h2]; rfl
      clear h1 h2
      go_enter Tryz.func145, Tryz.ntmps145
      go_wp2
      go_ret
      exact ⟨ret_bool (by rw [HV.out, HN.out]; rfl), rfl⟩
    · have h2' : ((c.toNat : Int) == 9) = false := by rw [beq_eq_false_iff_ne]; omega
      by_cases h3 : c.toNat = 10
      · have HN := Lib.hid h3
        have h3' : ((c.toNat : Int) == 10) = true := by rw [h3]; rfl
        clear h1 h2 h3
        go_enter Tryz.func145, Tryz.ntmps145
        go_wp2
        go_ret
        exact ⟨ret_bool (by rw [HV.out, HN.out]; rfl), rfl⟩
      · have h3' : ((c.toNat : Int) == 10) = false := by rw [beq_eq_false_iff_ne]; omega
        have HN := Lib.hid (And.intro h1 (And.intro h2 h3))
        clear h1 h2 h3
        go_enter Tryz.func145, Tryz.ntmps145
        go_wp2
        go_ret
        exact ⟨ret_bool (by rw [HV.out, decide_eq_false HN.out.1, decide_eq_false HN.out.2.1, decide_eq_false HN.out.2.2]; rfl), rfl⟩
theorem isAt_pre (s p : ByteArray) (i : Nat) (h : i + p.size ≤ s.size) : ((s.extract i (i + p.size)).toList == p.toList) = Lx.pre (bs s) i (bs p) := by
  rw [ByteArray.toList_eq, ByteArray.toList_eq, show (s.extract i (i + p.size)).data.toList = Lx.slice (bs s) i (i + p.size) from bs_extract s i _]
  show (Lx.slice (bs s) i (i + p.size) == bs p) = _
  unfold Lx.pre Lx.slice
  rw [Nat.add_sub_cancel_left, ← bs_len p, Bool.eq_iff_iff, List.isPrefixOf_iff_prefix, List.prefix_iff_eq_take, beq_iff_eq]
  exact ⟨fun h => h.symm, fun h => h.symm⟩
theorem isAt_not (s p : ByteArray) (i : Nat) (hi : i ≤ s.size) (h : ¬ i + p.size ≤ s.size) : Lx.pre (bs s) i (bs p) = false := by
  unfold Lx.pre
  rw [Bool.eq_false_iff]
  intro e
  rw [List.isPrefixOf_iff_prefix] at e
  have := e.length_le
  rw [List.length_drop, bs_len, bs_len] at this
  omega
set_option maxRecDepth 100000 in
set_option maxHeartbeats 400000 in
theorem rIsAt (s p : ByteArray) (i : Nat) (w : World) (hs : s.size ≤ 100000) (hp : p.size ≤ 100000) (hi : i ≤ s.size) :
    Calls Tryz.prog 191 #[.string s, .int .i64 i, .string p] w fun e w' => e = .returned (.bool (Lx.pre (bs s) i (bs p))) ∧ w = w' := by
  by_cases h : i + p.size ≤ s.size
  · have h' : (i : Int) + (p.size : Int) ≤ (s.size : Int) := by omega
    have HS := Lib.hid (isAt_pre s p i h)
    obtain ⟨V, hV⟩ : ∃ V, Lx.pre (bs s) i (bs p) = V := ⟨_, rfl⟩
    rw [hV] at HS ⊢
    clear hV
    go_enter Tryz.func191, Tryz.ntmps191
    go_wp2
    go_ret
    exact ⟨ret_bool HS.out, rfl⟩
  · have h' : ¬ ((i : Int) + (p.size : Int) ≤ (s.size : Int)) := by omega
    have HS := Lib.hid (isAt_not s p i hi h)
    obtain ⟨V, hV⟩ : ∃ V, Lx.pre (bs s) i (bs p) = V := ⟨_, rfl⟩
    rw [hV] at HS ⊢
    clear hV
    go_enter Tryz.func191, Tryz.ntmps191
    go_wp2
    go_ret
    exact ⟨ret_bool HS.out.symm, rfl⟩
end Go.Proofs.YtgikhpmdpppenaaGreatDoor
namespace Go.Proofs.YtgikhpmdpppenaaGreatDoor
open Go.RowKit
def StrSl (w : World) (v : Value) (L : List ByteArray) : Prop :=
  ∃ a cap, v = .slice a L.length cap ∧ (L ≠ [] → ∃ b o, a = some ⟨b, o, none⟩ ∧ ∀ i, (h : i < L.length) → w.cell? ⟨b, o + i, none⟩ = some (.string L[i]))
def anyEq (L : List ByteArray) (s : ByteArray) : Bool := L.any fun x => x.toList == s.toList
theorem anyEq_end {L : List ByteArray} {s : ByteArray} {k : Nat} (h : L.length ≤ k) : anyEq (L.drop k) s = false := by
  rw [List.drop_of_length_le h]; rfl
theorem anyEq_step {L : List ByteArray} {s : ByteArray} {k : Nat} (h : k < L.length) : anyEq (L.drop k) s = ((L[k].toList == s.toList) || anyEq (L.drop (k + 1)) s) := by
  rw [List.drop_eq_getElem_cons h]; rfl
set_option maxRecDepth 100000 in
set_option maxHeartbeats 400000 in
theorem rIndex (v : Value) (L : List ByteArray) (s : ByteArray) (w : World) (hv : StrSl w v L) (hm : L.length ≤ 1000000) :
    Calls Tryz.prog 35 #[v, .string s] w fun e w' => (∃ n : Int, e = .returned (.int .i64 n) ∧ decide (0 ≤ n) = anyEq L s) ∧ w = w' := by
  obtain ⟨a, cap, rfl, hca⟩ := hv
  go_enter Tryz.func35, Tryz.ntmps35
  go_wp2
  go_loopw [5] (fun v wr => ∃ k : Nat, k ≤ L.length ∧ v = .int .i64 k ∧ Hid (anyEq L s = anyEq (L.drop k) s) ∧ w = wr) (fun v _ => L.length - (intOf v).toNat)
  case atStart => exact ⟨0, Nat.zero_le _, rfl, Lib.hid rfl, rfl⟩
  case round =>
    obtain ⟨k, hk, rfl, hrun, rfl⟩ := hrel
    by_cases hlt : k < L.length
    · have hlt' : (k : Int) < (L.length : Int) := by omega
      obtain ⟨b, o, rfl, hc⟩ := hca (by rintro rfl; simp at hlt)
      have x0 := hc k hlt
      have HS := Lib.hid (anyEq_step (s := s) hlt)
      clear hca hc
      generalize L[k] = X at x0 HS
      cases hE : (X.toList == s.toList)
      · rw [hE] at HS
        go_wp2
        go_roundw
        case rel => exact ⟨k + 1, hlt, by push_cast; rfl, by rw [hrun.out, HS.out]; exact Lib.hid rfl, by trivial⟩
        case measure => simp [intOf]; omega
      · rw [hE] at HS
        go_wp2
        go_ret
        exact ⟨⟨_, rfl, by rw [hrun.out, HS.out]; simp⟩, rfl⟩
    · have hlt' : ¬ ((k : Int) < (L.length : Int)) := by omega
      have HE := Lib.hid (anyEq_end (s := s) (show L.length ≤ k by omega))
      clear hca
      go_wp2
      go_ret
      exact ⟨⟨_, rfl, by rw [hrun.out, HE.out]; rfl⟩, rfl⟩
def signsB : List ByteArray := [⟨#[45, 111]⟩, ⟨#[111, 45]⟩, ⟨#[61, 62]⟩, ⟨#[60, 61]⟩, ⟨#[45, 62]⟩, ⟨#[42]⟩, ⟨#[38]⟩, ⟨#[43]⟩, ⟨#[33]⟩, ⟨#[123]⟩, ⟨#[125]⟩, ⟨#[40]⟩, ⟨#[41]⟩, ⟨#[46]⟩, ⟨#[44]⟩, ⟨#[58]⟩, ⟨#[92]⟩]
theorem strSl_lit (w : World) (L : List ByteArray) (t : TypeId) : StrSl (w.alloc (.cells (L.map Value.string).toArray t)) (.slice (some ⟨w.heap.size, 0, none⟩) L.length L.length) L := by
  refine ⟨_, L.length, rfl, fun _ => ⟨_, 0, rfl, fun i hi => ?_⟩⟩
  rw [World.cell?_alloc_at _ _ _ _ rfl]
  simp [hi]
set_option maxRecDepth 100000 in
set_option maxHeartbeats 400000 in
theorem rWords (w : World) : Calls Tryz.prog 192 #[] w fun e w' => e = .returned (.slice (some ⟨w.heap.size, 0, none⟩) 17 17) ∧ w' = w.alloc (.cells (wordsB.map Value.string).toArray 9) := by
  go_enter Tryz.func192, Tryz.ntmps192
  go_wp2
  go_ret
  exact ⟨rfl, rfl⟩
set_option maxRecDepth 100000 in
set_option maxHeartbeats 400000 in
theorem rSigns (w : World) : Calls Tryz.prog 194 #[] w fun e w' => e = .returned (.slice (some ⟨w.heap.size, 0, none⟩) 17 17) ∧ w' = w.alloc (.cells (signsB.map Value.string).toArray 9) := by
  go_enter Tryz.func194, Tryz.ntmps194
  go_wp2
  go_ret
  exact ⟨rfl, rfl⟩
end Go.Proofs.YtgikhpmdpppenaaGreatDoor
namespace Go.Proofs.YtgikhpmdpppenaaGreatDoor
open Go.RowKit
def kindJ : Option (Nat × Nat) → Value
  | some (k, j) => .tuple #[.int .i64 k, .int .i64 j]
  | none => .tuple #[.int .i64 0, .int .i64 0]
set_option maxRecDepth 100000 in
set_option maxHeartbeats 1000000 in
theorem rToken_capital (s : ByteArray) (i : Nat) (w : World) (hs : s.size ≤ 100000) (hi : i < s.size) (hc : Lx.capital s[i] = true) :
    Calls Tryz.prog 147 #[.string s, .int .i64 i] w fun e w' => e = .returned (kindJ (Lx.tokAt (bs s) i)) ∧ Below w.heap.size w w' := by
  have hsm : Lx.small s[i] = false := by
    simp only [Lx.capital, Bool.and_eq_true, decide_eq_true_eq] at hc
    simp only [Lx.small, Bool.and_eq_false_iff, decide_eq_false_iff_not]; omega
  have h0 : (bs s)[i]? = some s[i] := by rw [List.getElem?_eq_getElem (by rw [bs_len]; exact hi), bs_get hi]
  have ht : Lx.tokAt (bs s) i = some (2, Lx.runTo (bs s) i) := by simp only [Lx.tokAt, h0, hsm, hc]; rfl
  rw [ht]
  have hby := byte_lt s[i]
  have CC := Lib.hid (fun w => rCapital s[i] w)
  rw [hc] at CC
  have CR := Lib.hid (fun w => rRun s i w (by unfold maxLen; omega) (by omega))
  have hi' : (i : Int) < (s.size : Int) := by omega
  clear ht h0 hsm hc
  go_enter Tryz.func147, Tryz.ntmps147
  go_wp2_with fail
  refine (CC.out _).mono ?_
  rintro e w1 ⟨rfl, rfl⟩
  go_wp2_with fail
  refine (CR.out _).mono ?_
  rintro e w1 ⟨rfl, rfl⟩
  go_wp2
  go_ret2
  exact ⟨rfl, Below.refl _ _⟩
theorem words_has (x : ByteArray) : anyEq wordsB x = Lx.words.contains (bs x) := by
  unfold anyEq wordsB
  rw [List.any_map, Bool.eq_iff_iff, List.any_eq_true, List.contains_iff_mem]
  constructor
  · rintro ⟨l, hl, h⟩
    simp only [Function.comp_apply, ByteArray.toList_eq, beq_iff_eq] at h
    rw [show bs x = l from h.symm]; exact hl
  · intro h
    exact ⟨_, h, by simp only [Function.comp_apply, ByteArray.toList_eq, beq_iff_eq]; rfl⟩
theorem bytes_eq (x : ByteArray) (l : Lx.Bs) : (x.toList == l) = decide (bs x = l) := by
  rw [ByteArray.toList_eq, Bool.eq_iff_iff, beq_iff_eq, decide_eq_true_eq]; rfl
theorem pre_dash (l : Lx.Bs) (j : Nat) : Lx.pre l j [45] = decide (l[j]? = some 45) := by
  unfold Lx.pre
  cases h : l.drop j with
  | nil =>
    have : l[j]? = none := by rw [List.getElem?_eq_none_iff]; exact List.drop_eq_nil_iff.1 h
    rw [this]; rfl
  | cons c r =>
    have : l[j]? = some c := by have := congrArg (fun x => x[0]?) h; simpa using this
    rw [this]
    by_cases h45 : c = 45
    · subst h45; simp [List.isPrefixOf]
    · have : (45 == c) = false := by rw [beq_eq_false_iff_ne]; exact fun e => h45 e.symm
      simp [List.isPrefixOf, this, h45]
set_option maxRecDepth 100000 in
set_option maxHeartbeats 2000000 in
theorem rToken_small (s : ByteArray) (i : Nat) (w : World) (hs : s.size ≤ 100000) (hi : i < s.size) (hsm : Lx.small s[i] = true) :
    Calls Tryz.prog 147 #[.string s, .int .i64 i] w fun e w' => e = .returned (kindJ (Lx.tokAt (bs s) i)) ∧ Below w.heap.size w w' := by
  have hc : Lx.capital s[i] = false := by
    simp only [Lx.small, Bool.and_eq_true, decide_eq_true_eq] at hsm
    simp only [Lx.capital, Bool.and_eq_false_iff, decide_eq_false_iff_not]; omega
  have HT := Lib.hid (tok_small (e := Lx.nameTo (bs s) i) hi hsm rfl)
  have hnl := Lx.nameTo_le (l := bs s) (i := i) (by rw [bs_len]; omega)
  have hrl := Lx.runTo_le (l := bs s) (i := i) (by rw [bs_len]; omega)
  rw [bs_len] at hnl hrl
  have HD : Hid (Lx.nameTo (bs s) i = if (bs s)[Lx.runTo (bs s) i]? = some 64 ∧ ((bs s)[Lx.runTo (bs s) i + 1]?.map Lx.small) = some true then Lx.runTo (bs s) (Lx.runTo (bs s) i + 1) else Lx.runTo (bs s) i) := Lib.hid rfl
  obtain ⟨e, he⟩ : ∃ e, Lx.nameTo (bs s) i = e := ⟨_, rfl⟩
  obtain ⟨T, hT⟩ : ∃ T, Lx.tokAt (bs s) i = T := ⟨_, rfl⟩
  have CR := Lib.hid (fun w => rRun s i w (by unfold maxLen; omega) (by omega))
  obtain ⟨j, hj⟩ : ∃ j, Lx.runTo (bs s) i = j := ⟨_, rfl⟩
  have hby := byte_lt s[i]
  have CC := Lib.hid (fun w => rCapital s[i] w)
  have CM := Lib.hid (fun w => rSmall s[i] w)
  rw [hc] at CC
  rw [hsm] at CM
  rw [he] at HT hnl HD
  rw [hT] at HT ⊢
  rw [hj] at hrl HD CR
  have hi' : (i : Int) < (s.size : Int) := by omega
  clear hc hsm he hT hj
  go_enter Tryz.func147, Tryz.ntmps147
  go_wp2_with fail
  refine (CC.out _).mono ?_
  rintro e1 w1 ⟨rfl, rfl⟩
  go_wp2_with fail
  refine (CM.out _).mono ?_
  rintro e1 w1 ⟨rfl, rfl⟩
  go_wp2_with fail
  refine (CR.out _).mono ?_
  rintro e1 w1 ⟨rfl, rfl⟩
  clear CC CM CR
  obtain ⟨X, hX⟩ : ∃ X, decide ((bs s)[j]? = some 64 ∧ ((bs s)[j + 1]?.map Lx.small) = some true) = X := ⟨_, rfl⟩
  have HX := Lib.hid hX
  clear hX
  go_upto_region 5 with fail
  go_cut [40] (fun v wx => v = .bool X ∧ wx = w)
  case first =>
    by_cases h1 : j + 1 < s.size
    · have h1' : (j : Int) + 1 < (s.size : Int) := by omega
      have hj' : (j : Int) < (s.size : Int) := by omega
      have g0 : (bs s)[j]? = some (s[j]'(by omega)) := by rw [List.getElem?_eq_getElem (by rw [bs_len]; omega), bs_get (by omega)]
      have g1 : (bs s)[j + 1]? = some s[j + 1] := by rw [List.getElem?_eq_getElem (by rw [bs_len]; omega), bs_get (by omega)]
      rw [g0, g1] at HX
      have hb0 := byte_lt (s[j]'(by omega))
      have hb1 := byte_lt s[j + 1]
      clear g0 g1
      by_cases h2 : (s[j]'(by omega)) = 64
      · have h2' : (((s[j]'(by omega)).toNat : Int) == 64) = true := by rw [h2]; rfl
        have HX2 : Hid (X = Lx.small s[j + 1]) := Lib.hid (by rw [← HX.out, h2]; simp)
        have CM := Lib.hid (fun w => rSmall s[j + 1] w)
        obtain ⟨V, hV⟩ : ∃ V, Lx.small s[j + 1] = V := ⟨_, rfl⟩
        rw [hV] at CM HX2
        clear h2 hV HX
        go_wp2_with fail
        refine (CM.out _).mono ?_
        rintro e1 w1 ⟨rfl, rfl⟩
        go_wp2
        go_meet
        exact ⟨by rw [HX2.out], rfl⟩
      · have h2' : (((s[j]'(by omega)).toNat : Int) == 64) = false := by
          rw [beq_eq_false_iff_ne]; intro e; exact h2 (by rw [← UInt8.toNat_inj]; exact Int.ofNat_inj.1 e)
        have HX2 : Hid (X = false) := Lib.hid (by rw [← HX.out]; simp [h2])
        clear h2 HX
        go_wp2
        go_meet
        exact ⟨by rw [HX2.out], rfl⟩
    · have h1' : ¬ ((j : Int) + 1 < (s.size : Int)) := by omega
      have HX2 : Hid (X = false) := Lib.hid (by
        have g1 : (bs s)[j + 1]? = none := by rw [List.getElem?_eq_none_iff, bs_len]; omega
        rw [← HX.out, g1]; simp)
      clear HX
      go_wp2
      go_meet
      exact ⟨by rw [HX2.out], rfl⟩
  case rest =>
    obtain ⟨rfl, rfl⟩ := hcut
    go_upto_if 40 with fail
    go_cut [6] (fun v wx => v = .int .i64 e ∧ wx = wc)
    case first =>
      cases X
      · have HE : Hid (e = j) := Lib.hid (by rw [HD.out, if_neg (of_decide_eq_false HX.out)])
        go_wp2
        go_meet
        exact ⟨by rw [HE.out], rfl⟩
      · have hx := of_decide_eq_true HX.out
        have hj1 : j + 1 < s.size := by
          rcases Nat.lt_or_ge (j + 1) s.size with h | h
          · exact h
          · have g1 : (bs s)[j + 1]? = none := by rw [List.getElem?_eq_none_iff, bs_len]; exact h
            rw [g1] at hx; simp at hx
        have HE : Hid (e = Lx.runTo (bs s) (j + 1)) := Lib.hid (by rw [HD.out, if_pos hx])
        have CR := Lib.hid (fun w => rRun s (j + 1) w (by unfold maxLen; omega) (by omega))
        rw [← HE.out] at CR
        clear hx
        have ej : (((j + 1 : Nat)) : Int) = (j : Int) + 1 := by omega
        rw [ej] at CR
        clear ej
        go_wp2_with fail
        refine (CR.out _).mono ?_
        rintro e1 w1 ⟨rfl, rfl⟩
        go_wp2
        go_meet
        exact ⟨rfl, rfl⟩
    case rest =>
      obtain ⟨rfl, rfl⟩ := hcut
      clear HD HX
      have CI := Lib.hid (fun w => rIsAt s ⟨#[45]⟩ e w hs (by decide) hnl.2)
      rw [show bs ⟨#[45]⟩ = [45] from rfl, pre_dash] at CI
      obtain ⟨O, hO⟩ : ∃ O, decide (bs (s.extract i e) = [111]) = O := ⟨_, rfl⟩
      obtain ⟨M, hM⟩ : ∃ M, decide ((bs s)[e]? = some 45) = M := ⟨_, rfl⟩
      have hO2 : ((s.extract i e).toList == [111]) = O := by rw [bytes_eq]; exact hO
      rw [hM] at CI
      have HO := Lib.hid hO
      have HM := Lib.hid hM
      clear hO hM
      have hie : (i : Int) ≤ (e : Int) := by omega
      have hes : (e : Int) ≤ (s.size : Int) := by omega
      go_upto_region 7 with fail
      go_cut [54] (fun v wx => v = .bool (O && M) ∧ wx = wc)
      case first =>
        cases O
        · go_wp2
          go_meet
          exact ⟨rfl, rfl⟩
        · go_wp2_with fail
          refine (CI.out _).mono ?_
          rintro e1 w1 ⟨rfl, rfl⟩
          go_wp2
          go_meet
          exact ⟨by simp, rfl⟩
      case rest =>
        obtain ⟨rfl, rfl⟩ := hcut
        clear CI hO2
        cases hOM : (O && M)
        · have HT2 : Hid (T = if Lx.words.contains (bs (s.extract i e)) = true then some (4, e) else some (1, e)) := Lib.hid (by
            rw [HT.out, if_neg]
            rintro ⟨h1, h2⟩
            rw [← HO.out, ← HM.out, decide_eq_true h1, decide_eq_true h2] at hOM
            cases hOM)
          clear HT hOM
          go_upto_region 9 with fail
          obtain ⟨Y, hY⟩ : ∃ Y, Lx.words.contains (bs (s.extract i e)) = Y := ⟨_, rfl⟩
          have HY := Lib.hid (words_has (s.extract i e))
          rw [hY] at HT2 HY
          clear hY
          go_cut [63] (fun v wx => v = .bool Y ∧ Hid (Below wc.heap.size wc wx))
          case first =>
            have CX := Lib.hid (rIndex (.slice (some ⟨wc.heap.size, 0, none⟩) 17 17) wordsB (s.extract i e) (wc.alloc (.cells (wordsB.map Value.string).toArray 9)).drew (strSl_lit wc wordsB 9) (by decide))
            have hbw : Hid (Below wc.heap.size wc (wc.alloc (.cells (wordsB.map Value.string).toArray 9)).drew) := (((Below.refl _ wc).alloc (Nat.le_refl _) _).drew)
            have CW := Lib.hid (fun w => rWords w)
            generalize wordsB.map Value.string = WV at CX hbw CW
            go_region_with (first
              | (go_at_call 192; refine (CW.out _).mono ?_; rintro e1 w1 ⟨rfl, rfl⟩)
              | (go_at_call 35; refine CX.out.mono ?_; rintro e1 w1 ⟨⟨m, rfl, hm⟩, rfl⟩))
            all_goals go_wp2
            all_goals go_meet
            all_goals exact ⟨by rw [HY.out], hbw⟩
          case rest =>
            obtain ⟨rfl, hbx⟩ := hcut
            cases Y
            · go_wp2
              go_ret2
              exact ⟨by rw [HT2.out]; rfl, hbx.out⟩
            · go_wp2
              go_ret2
              exact ⟨by rw [HT2.out]; rfl, hbx.out⟩
        · have HT2 : Hid (T = some (3, e + 1)) := Lib.hid (by
            rw [HT.out, if_pos]
            rw [Bool.and_eq_true] at hOM
            exact ⟨of_decide_eq_true (HO.out.trans hOM.1), of_decide_eq_true (HM.out.trans hOM.2)⟩)
          clear HT hOM
          go_wp2
          go_ret2
          exact ⟨by rw [HT2.out]; rfl, Below.refl _ _⟩
end Go.Proofs.YtgikhpmdpppenaaGreatDoor
namespace Go.Proofs.YtgikhpmdpppenaaGreatDoor
open Go.RowKit
theorem pre_at1 (l : Lx.Bs) (j : Nat) (x : UInt8) : Lx.pre l j [x] = decide (l[j]? = some x) := by
  unfold Lx.pre
  cases h : l.drop j with
  | nil =>
    have : l[j]? = none := by rw [List.getElem?_eq_none_iff]; exact List.drop_eq_nil_iff.1 h
    rw [this]; rfl
  | cons c r =>
    have : l[j]? = some c := by have := congrArg (fun x => x[0]?) h; simpa using this
    rw [this]
    by_cases h45 : c = x
    · subst h45; simp [List.isPrefixOf]
    · have : (x == c) = false := by rw [beq_eq_false_iff_ne]; exact fun e => h45 e.symm
      simp [List.isPrefixOf, this, h45]
def sgnF (l : Lx.Bs) (i : Nat) : List ByteArray → Option (Nat × Nat)
  | [] => none
  | p :: r => if Lx.pre l i (bs p) then some (3, i + p.size) else sgnF l i r
theorem tok_sign {l : Lx.Bs} {i : Nat} {c : UInt8} (h0 : l[i]? = some c) (hs : Lx.small c = false) (hc : Lx.capital c = false) (hd : Lx.pre l i [45, 111] = false) :
    Lx.tokAt l i = sgnF l i (signsB.drop 2) := by
  have e1 : Lx.tokAt l i = if Lx.signB c then some (3, i + 1) else if Lx.isLong l i then some (3, i + 2) else none := by
    simp only [Lx.tokAt, h0, hs, hc]; rfl
  have e2 : Lx.isLong l i = (Lx.pre l i [45, 62] || Lx.pre l i [61, 62] || Lx.pre l i [60, 61]) := by
    unfold Lx.isLong; rw [hd]; simp
  rw [e1, e2]
  have hb : ∀ x : UInt8, bs ⟨#[x]⟩ = [x] := fun _ => rfl
  have hb2 : ∀ x y : UInt8, bs ⟨#[x, y]⟩ = [x, y] := fun _ _ => rfl
  have hz : ∀ x : UInt8, (⟨#[x]⟩ : ByteArray).size = 1 := fun _ => rfl
  have hz2 : ∀ x y : UInt8, (⟨#[x, y]⟩ : ByteArray).size = 2 := fun _ _ => rfl
  simp only [signsB, List.drop_succ_cons, List.drop_zero, sgnF, hb, hb2, hz, hz2, pre_at1, h0, Option.some.injEq]
  have hf : ∀ a b : UInt8, Lx.pre l i [a, b] = true → c = a := fun a b h => by
    have := (Lx.pre_two h).1; rw [h0] at this; exact Option.some.inj this
  by_cases h1 : Lx.pre l i [61, 62] = true
  · have := hf _ _ h1; subst this; rw [h1]; simp [Lx.signB]
  · by_cases h2 : Lx.pre l i [60, 61] = true
    · have := hf _ _ h2; subst this; rw [h2]; simp [Lx.signB, h1]
    · by_cases h3 : Lx.pre l i [45, 62] = true
      · have := hf _ _ h3; subst this; rw [h3]; simp [Lx.signB, h1, h2]
      · simp only [Bool.not_eq_true] at h1 h2 h3
        rw [h1, h2, h3]
        simp only [Lx.signB, Bool.or_false, Bool.false_eq_true, if_false, decide_eq_true_eq]
        by_cases hm : ([42, 38, 43, 33, 123, 125, 40, 41, 46, 44, 58, 92] : List UInt8).contains c = true
        · rw [if_pos hm]
          rw [List.contains_iff_mem] at hm
          simp only [List.mem_cons, List.not_mem_nil, or_false] at hm
          rcases hm with h | h | h | h | h | h | h | h | h | h | h | h <;> subst h <;> rfl
        · rw [if_neg hm]
          rw [List.contains_iff_mem] at hm
          simp only [List.mem_cons, List.not_mem_nil, or_false, not_or] at hm
          simp [hm]
theorem tok_dash {l : Lx.Bs} {i : Nat} (hd : Lx.pre l i [45, 111] = true) : Lx.tokAt l i = if (l[i + 2]?.map Lx.part) = some true then none else some (3, i + 2) := by
  obtain ⟨h0, h1⟩ := Lx.pre_two hd
  have hl1 : i + 1 < l.length := (List.getElem?_eq_some_iff.1 h1).1
  have e1 : Lx.tokAt l i = if Lx.isLong l i then some (3, i + 2) else none := by
    simp only [Lx.tokAt, h0]; rfl
  have hn : ∀ a b : UInt8, (a ≠ 45 ∨ b ≠ 111) → Lx.pre l i [a, b] = false := fun a b h => by
    rw [Bool.eq_false_iff]; intro e
    obtain ⟨g0, g1⟩ := Lx.pre_two e
    rw [h0] at g0; rw [h1] at g1
    rcases h with h | h
    · exact h (Option.some.inj g0).symm
    · exact h (Option.some.inj g1).symm
  have e2 : Lx.isLong l i = (Lx.runTo l (i + 1) == i + 2) := by
    unfold Lx.isLong
    rw [hd, hn 45 62 (.inr (by decide)), hn 61 62 (.inl (by decide)), hn 60 61 (.inl (by decide))]
    simp
  have e3 : Lx.runTo l (i + 1) = Lx.runTo l (i + 2) := by
    rw [Lx.runTo_step hl1, if_pos]
    rw [show l[i + 1] = 111 from (List.getElem?_eq_some_iff.1 h1).2]; decide
  rw [e1, e2, e3]
  by_cases h2 : i + 2 < l.length
  · rw [Lx.runTo_step h2, List.getElem?_eq_getElem h2]
    by_cases hp : Lx.part l[i + 2] = true
    · have hle := (Lx.runTo_le (l := l) (i := i + 2 + 1) (by omega)).1
      rw [if_pos hp, if_neg (by rw [beq_iff_eq]; omega), if_pos (by simp [hp])]
    · rw [if_neg hp, if_pos (by simp), if_neg (by simpa using hp)]
  · rw [Lx.runTo_end (by omega), List.getElem?_eq_none (by omega)]
    simp
theorem signs_size : ∀ j : Fin signsB.length, signsB[j].size ≤ 2 := by decide +kernel
set_option maxRecDepth 100000 in
set_option maxHeartbeats 2000000 in
theorem rToken_sign (s : ByteArray) (i : Nat) (w : World) (hs : s.size ≤ 100000) (hi : i < s.size) (hsm : Lx.small s[i] = false) (hc : Lx.capital s[i] = false) :
    Calls Tryz.prog 147 #[.string s, .int .i64 i] w fun e w' => e = .returned (kindJ (Lx.tokAt (bs s) i)) ∧ Below w.heap.size w w' := by
  have h0 : (bs s)[i]? = some s[i] := by rw [List.getElem?_eq_getElem (by rw [bs_len]; exact hi), bs_get hi]
  have hby := byte_lt s[i]
  have CC := Lib.hid (fun w => rCapital s[i] w)
  have CM := Lib.hid (fun w => rSmall s[i] w)
  have CI := Lib.hid (fun w => rIsAt s ⟨#[45, 111]⟩ i w hs (by decide) (by omega))
  have HD := Lib.hid (tok_dash (l := bs s) (i := i))
  have HN := Lib.hid (tok_sign h0 hsm hc)
  rw [hc] at CC
  rw [hsm] at CM
  rw [show bs ⟨#[45, 111]⟩ = [45, 111] from rfl] at CI
  obtain ⟨T, hT⟩ : ∃ T, Lx.tokAt (bs s) i = T := ⟨_, rfl⟩
  rw [hT] at HD HN ⊢
  obtain ⟨D, hD⟩ : ∃ D, Lx.pre (bs s) i [45, 111] = D := ⟨_, rfl⟩
  rw [hD] at HD HN CI
  have hi' : (i : Int) < (s.size : Int) := by omega
  clear hc hsm hT hD h0
  go_enter Tryz.func147, Tryz.ntmps147
  go_wp2_with fail
  refine (CC.out _).mono ?_
  rintro e1 w1 ⟨rfl, rfl⟩
  go_wp2_with fail
  refine (CM.out _).mono ?_
  rintro e1 w1 ⟨rfl, rfl⟩
  go_wp2_with fail
  refine (CI.out _).mono ?_
  rintro e1 w1 ⟨rfl, rfl⟩
  clear CC CM CI
  cases D
  · have HT := Lib.hid (HN.out rfl)
    clear HN HD
    go_wp2_with fail
    refine (rSigns _).mono ?_
    rintro e1 w1 ⟨rfl, rfl⟩
    have HS := Lib.hid (strSl_lit w signsB 9)
    have HB : Hid (Below w.heap.size w (w.alloc (.cells (signsB.map Value.string).toArray 9))) := (Below.refl _ w).alloc (Nat.le_refl _) _
    generalize w.alloc (.cells (signsB.map Value.string).toArray 9) = W1 at HS HB ⊢
    obtain ⟨N, hN⟩ : ∃ N, w.heap.size = N := ⟨_, rfl⟩
    rw [hN] at HS ⊢
    clear hN
    have HC : Hid (∀ k, (h : k < signsB.length) → W1.cell? ⟨N, k, none⟩ = some (.string signsB[k])) := Lib.hid fun k h => by
      obtain ⟨a, cap, he, hl⟩ := HS.out
      simp only [Value.slice.injEq] at he
      obtain ⟨b, o, h1, h2⟩ := hl (by decide)
      rw [← he.1, Option.some.injEq, Addr.mk.injEq] at h1
      obtain ⟨rfl, rfl, _⟩ := h1
      have := h2 k h
      rwa [Nat.zero_add] at this
    clear HS
    go_wp2_with fail
    go_loopw [8] (fun v wr => ∃ k : Nat, k ≤ 17 ∧ v = .int .i64 k ∧ Hid (T = sgnF (bs s) i (signsB.drop k)) ∧ W1 = wr) (fun v _ => 17 - (intOf v).toNat)
    case atStart => exact ⟨2, by omega, rfl, HT, rfl⟩
    case round =>
      obtain ⟨k, hk, rfl, hrun, rfl⟩ := hrel
      by_cases hlt : k < 17
      · have hlt' : (k : Int) < 17 := by omega
        have hkl : k < signsB.length := hlt
        have x0 := HC.out k hkl
        have hst : sgnF (bs s) i (signsB.drop k) = if Lx.pre (bs s) i (bs signsB[k]) then some (3, i + signsB[k].size) else sgnF (bs s) i (signsB.drop (k + 1)) := by
          rw [List.drop_eq_getElem_cons hkl]; rfl
        have hsz : signsB[k].size ≤ 2 := signs_size ⟨k, hkl⟩
        generalize signsB[k] = X at x0 hst hsz
        have CI := Lib.hid (fun w => rIsAt s X i w hs (by omega) (by omega))
        obtain ⟨V, hV⟩ : ∃ V, Lx.pre (bs s) i (bs X) = V := ⟨_, rfl⟩
        rw [hV] at CI hst
        have HST := Lib.hid hst
        have nb := block_lt_of_cell x0
        clear hst hV
        go_wp2_with fail
        refine (CI.out _).mono ?_
        rintro e1 w1 ⟨rfl, rfl⟩
        clear CI
        cases V
        · go_wp2
          go_roundw
          case rel => exact ⟨k + 1, by omega, by push_cast; rfl, by rw [hrun.out, HST.out]; exact Lib.hid rfl, by trivial⟩
          case measure => simp [intOf]; omega
        · go_upto_region 21 with fail
          go_region
          all_goals go_wp2
          all_goals go_ret2
          all_goals exact ⟨by rw [hrun.out, HST.out]; rfl, HB.out.drew⟩
      · have hlt' : ¬ ((k : Int) < 17) := by omega
        have hz : sgnF (bs s) i (signsB.drop k) = none := by rw [List.drop_of_length_le (show signsB.length ≤ k from by show 17 ≤ k; omega)]; rfl
        have HZ := Lib.hid hz
        clear hz
        go_wp2
        go_ret2
        exact ⟨by rw [hrun.out, HZ.out]; rfl, HB.out⟩
  · have HT := Lib.hid (HD.out rfl)
    clear HN HD
    by_cases h2 : i + 2 < s.size
    · have h2' : (i : Int) + 2 < (s.size : Int) := by omega
      have hb2 := byte_lt s[i + 2]
      have g2 : (bs s)[i + 2]? = some s[i + 2] := by rw [List.getElem?_eq_getElem (by rw [bs_len]; omega), bs_get (by omega)]
      rw [g2] at HT
      have CP := Lib.hid (fun w => rPart s[i + 2] w)
      obtain ⟨V, hV⟩ : ∃ V, Lx.part s[i + 2] = V := ⟨_, rfl⟩
      rw [hV] at CP
      simp only [Option.map_some, hV] at HT
      clear g2 hV
      go_wp2_with fail
      refine (CP.out _).mono ?_
      rintro e1 w1 ⟨rfl, rfl⟩
      clear CP
      cases V
      · go_wp2
        go_ret2
        exact ⟨by rw [HT.out]; rfl, Below.refl _ _⟩
      · go_wp2
        go_ret2
        exact ⟨by rw [HT.out]; rfl, Below.refl _ _⟩
    · have h2' : ¬ ((i : Int) + 2 < (s.size : Int)) := by omega
      have g2 : (bs s)[i + 2]? = none := by rw [List.getElem?_eq_none_iff, bs_len]; omega
      rw [g2] at HT
      clear g2
      go_wp2
      go_ret2
      exact ⟨by rw [HT.out]; rfl, Below.refl _ _⟩
end Go.Proofs.YtgikhpmdpppenaaGreatDoor
namespace Go.Proofs.YtgikhpmdpppenaaGreatDoor
open Go.RowKit
theorem rToken (s : ByteArray) (i : Nat) (w : World) (hs : s.size ≤ 100000) (hi : i < s.size) :
    Calls Tryz.prog 147 #[.string s, .int .i64 i] w fun e w' => e = .returned (kindJ (Lx.tokAt (bs s) i)) ∧ Below w.heap.size w w' := by
  cases hc : Lx.capital s[i] with
  | true => exact rToken_capital s i w hs hi hc
  | false =>
    cases hsm : Lx.small s[i] with
    | true => exact rToken_small s i w hs hi hsm
    | false => exact rToken_sign s i w hs hi hsm hc
end Go.Proofs.YtgikhpmdpppenaaGreatDoor
namespace Go.Proofs.YtgikhpmdpppenaaGreatDoor
open Go.RowKit
end Go.Proofs.YtgikhpmdpppenaaGreatDoor
namespace Go.Proofs.YtgikhpmdpppenaaGreatDoor
open Go.RowKit
def refTok (a : AT) : Bool := match Lx.tokAt (bs a.t) 0 with
  | some (k, j) => decide ((k : Int) = a.k) && decide (j = a.t.size)
  | none => false
def refB (a : AT) : Bool := match (bs a.t)[0]? with
  | none => false
  | some c => decide (a.t.size ≤ 40) && !Lx.blank c && !decide (c.toNat = 37) && refTok a
set_option maxRecDepth 100000 in
set_option maxHeartbeats 1000000 in
theorem rCheck_empty (a : AT) (w : World) (hz : a.t.size = 0) :
    Calls Tryz.prog 124 #[.agg #[.int .i64 a.k, .string a.t, .int .i64 a.p]] w fun e w' => e = .returned (.int .i64 12) ∧ Below w.heap.size w w' := by
  have hz' : (a.t.size : Int) = 0 := by omega
  have hz'' : ((a.t.size : Int) == 0) = true := by rw [hz']; rfl
  clear hz hz'
  go_enter Tryz.func124, Tryz.ntmps124
  go_wp2
  go_ret
  exact ⟨rfl, (Below.refl _ w).alloc (Nat.le_refl _) _⟩
set_option maxRecDepth 100000 in
set_option maxHeartbeats 1000000 in
theorem rCheck_long (a : AT) (w : World) (hz : 40 < a.t.size) :
    Calls Tryz.prog 124 #[.agg #[.int .i64 a.k, .string a.t, .int .i64 a.p]] w fun e w' => e = .returned (.int .i64 12) ∧ Below w.heap.size w w' := by
  have hz' : (40 : Int) < (a.t.size : Int) := by omega
  have hz'' : ((a.t.size : Int) == 0) = false := by rw [beq_eq_false_iff_ne]; omega
  go_enter Tryz.func124, Tryz.ntmps124
  go_wp2
  go_ret
  exact ⟨rfl, (Below.refl _ w).alloc (Nat.le_refl _) _⟩
theorem tok_kind {l : Lx.Bs} {i k j : Nat} (h : Lx.tokAt l i = some (k, j)) : k ≠ 0 ∧ k ≤ 4 := by
  unfold Lx.tokAt at h
  split at h
  · cases h
  · split at h
    · simp only at h
      split at h
      · simp at h; omega
      · split at h <;> (simp at h; omega)
    · split at h
      · simp at h; omega
      · split at h
        · simp at h; omega
        · split at h
          · simp at h; omega
          · cases h
set_option maxRecDepth 100000 in
set_option maxHeartbeats 2000000 in
theorem rCheck_mid (V : Bool) (a : AT) (w : World) (h0 : 0 < a.t.size) (h40 : a.t.size ≤ 40) (hV : refB a = V) :
    Calls Tryz.prog 124 #[.agg #[.int .i64 a.k, .string a.t, .int .i64 a.p]] w fun e w' => e = .returned (.int .i64 (if V then 0 else 12)) ∧ Below w.heap.size w w' := by
  have g0 : (bs a.t)[0]? = some a.t[0] := by rw [List.getElem?_eq_getElem (by rw [bs_len]; exact h0), bs_get h0]
  have hV2 : (!Lx.blank a.t[0] && !decide (a.t[0].toNat = 37) && refTok a) = V := by
    rw [← hV]; unfold refB; rw [g0]; simp only [decide_eq_true h40, Bool.true_and]
  have HV := Lib.hid hV2
  have CB := Lib.hid (fun w => rBlank a.t[0] w)
  have CT := Lib.hid (fun w => rToken a.t 0 w (by omega) h0)
  obtain ⟨B, hB⟩ : ∃ B, Lx.blank a.t[0] = B := ⟨_, rfl⟩
  rw [hB] at HV CB
  have hby := byte_lt a.t[0]
  have hz : ((a.t.size : Int) == 0) = false := by rw [beq_eq_false_iff_ne]; omega
  have hz2 : ¬ ((40 : Int) < (a.t.size : Int)) := by omega
  have hz3 : (0 : Int) < (a.t.size : Int) := by omega
  have HK : Hid (∀ k j, Lx.tokAt (bs a.t) 0 = some (k, j) → k ≠ 0 ∧ k ≤ 4) := Lib.hid fun k j h => tok_kind h
  have HR : Hid (refTok a = match Lx.tokAt (bs a.t) 0 with | some (k, j) => decide ((k : Int) = a.k) && decide (j = a.t.size) | none => false) := Lib.hid rfl
  have HJ : Hid (∀ k j, Lx.tokAt (bs a.t) 0 = some (k, j) → j ≤ a.t.size) := Lib.hid fun k j h => by have := (Lx.tokAt_lt h).2; rwa [bs_len] at this
  obtain ⟨T, hT⟩ : ∃ T, Lx.tokAt (bs a.t) 0 = T := ⟨_, rfl⟩
  rw [hT] at CT HR HK HJ
  clear hV hV2 g0 hB hT
  by_cases h37 : a.t[0].toNat = 37
  · have H37 := Lib.hid h37
    have h37' : ((a.t[0].toNat : Int) == 37) = true := by rw [h37]; rfl
    obtain rfl : V = false := by rw [← HV.out]; simp [h37]
    clear h37
    go_enter Tryz.func124, Tryz.ntmps124
    go_wp2_with fail
    refine (CB.out _).mono ?_
    rintro e w1 ⟨rfl, rfl⟩
    cases B
    · go_wp2
      go_ret
      exact ⟨rfl, (Below.refl _ w).alloc (Nat.le_refl _) _⟩
    · go_wp2
      go_ret
      exact ⟨rfl, (Below.refl _ w).alloc (Nat.le_refl _) _⟩
  · have h37' : ((a.t[0].toNat : Int) == 37) = false := by rw [beq_eq_false_iff_ne]; omega
    rw [decide_eq_false h37] at HV
    clear h37
    cases B
    · simp only [Bool.not_false, Bool.true_and] at HV
      go_enter Tryz.func124, Tryz.ntmps124
      go_wp2_with fail
      refine (CB.out _).mono ?_
      rintro e w1 ⟨rfl, rfl⟩
      go_wp2_with fail
      refine (CT.out _).mono ?_
      rintro e w1 ⟨rfl, hb1⟩
      have Hb : Hid (Below w.heap.size w w1) := ((Below.refl _ w).alloc (Nat.le_refl _) _).trans (hb1.mono (by simp))
      have x0 : w1.cell? ⟨w.heap.size, 0, none⟩ = some (.int .i64 a.k) := (hb1.cell (p := ⟨w.heap.size, 0, none⟩) (by simp)).trans (by rw [World.cell?_alloc_at _ _ _ _ rfl]; rfl)
      have x1 : w1.cell? ⟨w.heap.size, 1, none⟩ = some (.string a.t) := (hb1.cell (p := ⟨w.heap.size, 1, none⟩) (by simp)).trans (by rw [World.cell?_alloc_at _ _ _ _ rfl]; rfl)
      have nb := block_lt_of_cell x0
      simp only at nb
      clear hb1 CT CB
      cases T with
      | none =>
        obtain rfl : V = false := by rw [← HV.out, HR.out]
        unfold kindJ
        by_cases hk : a.k = 0
        · have hk' : ((0 : Int) != a.k) = false := by rw [hk]; rfl
          have hz4 : ((0 : Int) != (a.t.size : Int)) = true := by rw [bne_iff_ne]; omega
          clear hk
          go_wp2
          go_ret
          exact ⟨rfl, Hb.out⟩
        · have hk' : ((0 : Int) != a.k) = true := by rw [bne_iff_ne]; omega
          clear hk
          go_wp2
          go_ret
          exact ⟨rfl, Hb.out⟩
      | some p =>
        obtain ⟨k, j⟩ := p
        unfold kindJ
        have hk0 := (HK.out k j rfl)
        have hj0 := HJ.out k j rfl
        have hne : ((k : Int) == 0) = false := by rw [beq_eq_false_iff_ne]; omega
        by_cases hk : (k : Int) = a.k
        · have hk' : ((k : Int) != a.k) = false := by rw [hk]; simp
          by_cases hj : j = a.t.size
          · have hj' : ((j : Int) != (a.t.size : Int)) = false := by rw [hj]; simp
            obtain rfl : V = true := by rw [← HV.out, HR.out]; simp [hk, hj]
            clear hk hj
            go_wp2
            go_ret
            exact ⟨rfl, Hb.out⟩
          · have hj' : ((j : Int) != (a.t.size : Int)) = true := by rw [bne_iff_ne]; omega
            obtain rfl : V = false := by rw [← HV.out, HR.out]; simp [hj]
            clear hk hj
            go_wp2
            go_ret
            exact ⟨rfl, Hb.out⟩
        · have hk' : ((k : Int) != a.k) = true := by rw [bne_iff_ne]; exact hk
          obtain rfl : V = false := by rw [← HV.out, HR.out]; simp [hk]
          clear hk
          go_wp2
          go_ret
          exact ⟨rfl, Hb.out⟩
    · obtain rfl : V = false := by rw [← HV.out]; rfl
      go_enter Tryz.func124, Tryz.ntmps124
      go_wp2_with fail
      refine (CB.out _).mono ?_
      rintro e w1 ⟨rfl, rfl⟩
      go_wp2
      go_ret
      exact ⟨rfl, (Below.refl _ w).alloc (Nat.le_refl _) _⟩
end Go.Proofs.YtgikhpmdpppenaaGreatDoor
namespace Go.Proofs.YtgikhpmdpppenaaGreatDoor
open Go.RowKit
theorem scanT_every (l : Lx.Bs) (Q : Lx.Tok → Prop) (hQ : ∀ i k j, i < l.length → Lx.tokAt l i = some (k, j) → j - i ≤ 40 → Q ⟨k, Lx.slice l i j, i⟩) :
    ∀ (f : Nat) (pre : List Lx.Tok) (i : Nat) (ts : List Lx.Tok), (∀ t ∈ pre, Q t) → Lx.scanT l f pre i = .toks ts → ∀ t ∈ ts, Q t
  | 0, _, _, _, hp, h => by simp [Lx.scanT] at h; subst h; exact hp
  | f + 1, pre, i, ts, hp, h => by
    unfold Lx.scanT at h
    split at h
    · simp at h; subst h; exact hp
    · rename_i hi
      split at h
      · simp at h
      · rename_i k j ht
        split at h
        · simp at h
        · split at h
          · simp at h
          · rename_i h40
            refine scanT_every l Q hQ f _ _ _ (fun t hm => ?_) h
            rcases List.mem_append.1 hm with hm | hm
            · exact hp t hm
            · obtain rfl := List.mem_singleton.1 hm
              exact hQ i k j (by omega) ht (by omega)
theorem scan_every {l : Lx.Bs} {ts : List Lx.Tok} (h : Lx.scan l = .toks ts) (Q : Lx.Tok → Prop) (hQ : ∀ i k j, i < l.length → l.length ≤ 20000 → Lx.tokAt l i = some (k, j) → j - i ≤ 40 → Q ⟨k, Lx.slice l i j, i⟩) : l.length ≤ 20000 ∧ ∀ t ∈ ts, Q t := by
  unfold Lx.scan at h
  split at h
  · simp at h
  · rename_i hl
    exact ⟨by omega, scanT_every l Q (fun i k j hi => hQ i k j hi (by omega)) _ _ _ _ (by simp) h⟩
theorem slice_len (l : Lx.Bs) (i j : Nat) : (Lx.slice l i j).length ≤ j - i := by
  unfold Lx.slice
  rw [List.length_take]
  omega
theorem slice_head {l : Lx.Bs} {i j : Nat} (hi : i < l.length) (hj : i < j) : ∃ r, Lx.slice l i j = l[i] :: r := by
  unfold Lx.slice
  rw [List.drop_eq_getElem_cons hi]
  obtain ⟨m, hm⟩ : ∃ m, j - i = m + 1 := ⟨j - i - 1, by omega⟩
  rw [hm, List.take_succ_cons]
  exact ⟨_, rfl⟩
theorem scan_bounds {l : Lx.Bs} {ts : List Lx.Tok} (h : Lx.scan l = .toks ts) : ∀ t ∈ ts, t.text.length ≤ 40 ∧ t.pos ≤ 20000 ∧ t.kind ≤ 4 :=
  (scan_every h (fun t => t.text.length ≤ 40 ∧ t.pos ≤ 20000 ∧ t.kind ≤ 4) fun i k j hi hl ht h40 => ⟨Nat.le_trans (slice_len _ _ _) h40, Nat.le_trans (Nat.le_of_lt hi) hl, (tok_kind ht).2⟩).2
theorem tok_sane {l : Lx.Bs} {i k j : Nat} (hi : i < l.length) (h : Lx.tokAt l i = some (k, j)) (hk : k = 1 ∨ k = 2) : ∀ s ∈ specials, Lx.slice l i j ≠ s := by
  have hlt := (Lx.tokAt_lt h).1
  obtain ⟨r, hr⟩ := slice_head hi hlt
  unfold Lx.tokAt at h
  rw [List.getElem?_eq_getElem hi] at h
  simp only at h
  intro s hs e
  rw [hr] at e
  split at h
  · rename_i hsm
    split at h
    · simp at h; omega
    · rename_i ho
      split at h
      · simp at h; omega
      · rename_i hw
        simp only [Option.some.injEq, Prod.mk.injEq] at h
        obtain ⟨_, rfl⟩ := h
        rw [hr, e] at hw
        have hc : ∀ c r', s = c :: r' → Lx.small c = true := fun c r' hc => by rw [hc] at e; rw [← (List.cons.inj e).1]; exact hsm
        simp only [specials, List.mem_cons, List.not_mem_nil, or_false] at hs
        rcases hs with rfl | rfl | rfl | rfl | rfl | rfl | rfl | rfl | rfl | rfl | rfl | rfl | rfl | rfl | rfl | rfl | rfl | rfl | rfl | rfl | rfl
        all_goals first
          | exact absurd (hc _ _ rfl) (by decide)
          | exact hw (by decide)
          | skip
        have e0 : l[i] = 111 := (List.cons.inj e).1
        have hs2 : Lx.slice l i (Lx.nameTo l i) = [111, 45] := by rw [hr, e]
        have h1 : l[i + 1]? = some 45 := by
          have := congrArg (fun x : Lx.Bs => x[1]?) hs2
          simp only [Lx.slice] at this
          rw [List.getElem?_take] at this
          split at this
          · rw [List.getElem?_drop] at this; exact this
          · cases this
        have hi1 : i + 1 < l.length := by
          rcases Nat.lt_or_ge (i + 1) l.length with h' | h'
          · exact h'
          · rw [List.getElem?_eq_none h'] at h1; cases h1
        have h1' : l[i + 1] = 45 := by rw [List.getElem?_eq_getElem hi1] at h1; exact Option.some.inj h1
        have hrun : Lx.runTo l i = i + 1 := by
          rw [Lx.runTo_step hi, e0, if_pos (by decide), Lx.runTo_step hi1, h1', if_neg (by decide)]
        have hn : Lx.nameTo l i = i + 1 := by
          unfold Lx.nameTo
          simp only [hrun]
          rw [if_neg]
          rintro ⟨h2, _⟩
          rw [h1] at h2
          cases h2
        have := congrArg List.length hs2
        have h3 := slice_len l i (Lx.nameTo l i)
        rw [this, hn] at h3
        simp at h3
  · rename_i hsm
    split at h
    · rename_i hcap
      have hc : ∀ c r', s = c :: r' → Lx.capital c = true := fun c r' hc => by rw [hc] at e; rw [← (List.cons.inj e).1]; exact hcap
      simp only [specials, List.mem_cons, List.not_mem_nil, or_false] at hs
      rcases hs with rfl | rfl | rfl | rfl | rfl | rfl | rfl | rfl | rfl | rfl | rfl | rfl | rfl | rfl | rfl | rfl | rfl | rfl | rfl | rfl | rfl
      all_goals exact absurd (hc _ _ rfl) (by decide)
    · split at h
      · simp at h; omega
      · split at h
        · simp at h; omega
        · simp at h
theorem scan_saneT {l : Lx.Bs} {ts : List Lx.Tok} (h : Lx.scan l = .toks ts) : SaneT ts := by
  have H := (scan_every h (fun t => t.kind = 1 ∨ t.kind = 2 → ∀ s ∈ specials, t.text ≠ s) fun i k j hi hl ht h40 hk => tok_sane hi ht hk).2
  intro q hk s hs
  unfold Sx.knd at hk
  unfold Sx.txt
  cases ht : ts[q]? with
  | none => rw [ht] at hk; simp at hk
  | some t =>
    rw [ht] at hk
    exact H t (List.mem_of_getElem? ht) hk s hs
end Go.Proofs.YtgikhpmdpppenaaGreatDoor
namespace Go.Proofs.YtgikhpmdpppenaaGreatDoor
open Go.RowKit
theorem ps_ready {B : Nat} {s : ByteArray} {l : List Lx.Tok} {v : Value} {w : World} {pb mi mp : Nat} (hl : Lx.scan (bs s) = .toks l) (ht : Toks B v l w) (gl : GLw w)
    (hrow : w.heap[pb]? = some (.cells #[v, .int .i64 0, .int .i64 (s.size : Nat), .map (some mi), .map (some mp)] 128 (0, 0))) (hmi : StrMap w mi itemsL) (hmp : StrMap w mp partsL) (hni : mi ≠ pb) (hnp : mp ≠ pb) (hp : 2 ≤ pb) :
    ∃ E : PE, E.pb = pb ∧ E.ts = l ∧ E.en = s.size ∧ PS E 0 w := by
  have h6 := scan_len hl
  have hsz : s.size ≤ 20000 := by
    have := (scan_every hl (fun _ => True) fun _ _ _ _ _ _ _ => trivial).1
    rwa [bs_len] at this
  have hsm := scan_bounds hl
  have hsl := ht.sl
  rcases ht.2 with ⟨rfl, hn⟩ | ⟨g, cap, cur, rfl, hg, hh, hnc, _, _, _⟩
  · obtain rfl : l = [] := List.length_eq_zero_iff.1 hn
    exact ⟨⟨pb, [], none, 0, 0, 0, s.size, mi, mp⟩, rfl, rfl, rfl, ⟨hrow, Nat.zero_le _, ⟨by simp, by simp, hsz, fun h => absurd rfl h, fun h => absurd rfl h, Nat.le_refl _, fun i hi => absurd hi (Nat.not_lt_zero _), fun i hi => absurd hi (Nat.not_lt_zero _), fun i hi => absurd hi (Nat.not_lt_zero _), hp, gl, hni, hnp, hmi, hmp⟩⟩⟩
  · obtain ⟨a, cap', he, hcs⟩ := hsl
    have hts : ∀ i (hi : i < l.length), TokAt w g (0 + i * 3) (ofTok l[i]) := by
      intro i hi
      have hne : l.map ofTok ≠ [] := by intro e; rw [List.map_eq_nil_iff] at e; subst e; simp at hi
      obtain ⟨b, o, ha, hc⟩ := hcs hne
      rw [ha] at he
      injection he with he1 he2 he3
      injection he1 with he1
      injection he1 with hb ho
      subst hb; subst ho
      have := hc i (by rw [List.length_map]; exact hi)
      rwa [List.getElem_map] at this
    refine ⟨⟨pb, l, some ⟨g, 0, none⟩, g, 0, cap, s.size, mi, mp⟩, rfl, rfl, rfl, ⟨hrow, Nat.zero_le _, ⟨h6, hsm, hsz, fun _ => rfl, fun hne hgp => ?_, hnc, fun i hi => (hts i hi).1, fun i hi => (hts i hi).2.1, fun i hi => (hts i hi).2.2, hp, gl, hni, hnp, hmi, hmp⟩⟩⟩
    simp only at hgp
    have h0 : 0 < l.length := List.length_pos_iff.2 hne
    have c := (hts 0 h0).2.1
    rw [hgp, cell_of_row _ _ _ _ _ _ hrow] at c
    simp at c
end Go.Proofs.YtgikhpmdpppenaaGreatDoor
namespace Go.Proofs.YtgikhpmdpppenaaGreatDoor
open Go.RowKit
set_option maxRecDepth 100000 in
set_option maxHeartbeats 2000000 in
theorem parse_no (s : ByteArray) (l : List Lx.Tok) (hl : Lx.scan (bs s) = .toks l) (w : World) (hw : 2 ≤ w.heap.size) (gl : GLw w) (hs : s.size ≤ maxLen) (g : Nat) (eg : ∀ args w, (callFunc g args).run Tryz.prog w = .ok (.enter g args) w) (q : Nat)
    (CW : ∀ (E : PE) w, E.ts = l → E.en = s.size → PS E 0 w → Calls Tryz.prog g #[.pointer (some ⟨E.pb, 0, none⟩)] w (Gr E w (.bad q))) :
    Calls Tryz.prog 87 #[.string s, F_ g] w fun e w' => (∀ E : PE, E.ts = l → E.en = s.size → e = .returned (.tuple #[.agg #[.int .i64 0, .string ⟨#[]⟩, .slice none 0 0], .int .i64 (E.pos q : Nat), .int .i64 20])) ∧ Below w.heap.size w w' := by
  have C := Lib.hid (fun w => scan_toks2 s l hl w hs)
  have CI := Lib.hid items_made
  have CP := Lib.hid parts_made
  have CW' := Lib.hid CW
  have Hl := Lib.hid hl
  have GL := Lib.hid gl
  have hmf : ∀ (fn : Fn) (first cap : Array Value) (w : World), (Instr.makeFunc fn first cap).run Tryz.prog w = .ok (.func fn first cap) w := fun _ _ _ _ => rfl
  have eg2 : ∀ args w, (callFunc 126 args).run Tryz.prog w = .ok (.enter 126 args) w := enters_of Tryz.func126 (by kernel_rfl) rfl
  have hb0 := Lib.hid (((Below.refl w.heap.size w).alloc (Nat.le_refl _) (.cells #[.int .i64 0, .string ⟨#[]⟩, .slice none 0 0] 24)).alloc (by simp) (.cells #[.int .i64 0] 3) |>.alloc (by simp; omega) (.cells #[.int .i64 0] 26))
  clear hl gl CW
  unfold F_
  go_enter_defers Tryz.func87, Tryz.ntmps87
  go_wp2_with fail
  refine (C.out _).mono ?_
  rintro e w1 ⟨v, rfl, ht, hb⟩
  obtain ⟨va, vcap, rfl⟩ := ownsRow_shape ht
  have z1 := hb.size
  simp only [World.size_alloc] at z1 ht
  have bx0 : Row3 w1 w.heap.size (.int .i64 0) (.string ⟨#[]⟩) (.slice none 0 0) := (hb.block w.heap.size (by simp only [World.size_alloc]; omega)).trans (heap3_1 w _ _ _)
  have bx1 : Boxed w1 (w.heap.size + 1) 3 (.int .i64 0) := (hb.block (w.heap.size + 1) (by simp only [World.size_alloc]; omega)).trans (heap3_2 w _ _ _)
  have bx2 : Boxed w1 (w.heap.size + 1 + 1) 26 (.int .i64 0) := (hb.block (w.heap.size + 1 + 1) (by simp only [World.size_alloc]; omega)).trans (heap3_3 w _ _ _)
  have B1 := Lib.hid (hb0.out.trans (hb.mono (by simp only [World.size_alloc]; omega)))
  have d1 := bx1.cell
  have d2 := bx2.cell
  have f1 := bx1.frozen
  have f2 := bx2.frozen
  have l0 := bx0.lt
  have l1 := bx1.lt
  have l2 := bx2.lt
  have R0 := Lib.hid bx0
  have X1 := Lib.hid bx1
  have X2 := Lib.hid bx2
  have HT := Lib.hid ht
  clear hb bx0 bx1 bx2 z1 hb0 ht
  go_wp2_with fail
  generalize hW2 : World.setCell (World.setCell w1 _ _) _ _ = W2
  have S2 : W2.heap.size = w1.heap.size := by rw [← hW2, setCell_size, setCell_size]
  have R2 := Lib.hid (show Row3 W2 w.heap.size (.int .i64 0) (.string ⟨#[]⟩) (.slice none 0 0) by
    rw [← hW2]
    exact (R0.out.other (p := ⟨w.heap.size + 1, 0, none⟩) _ (by simp)).other (p := ⟨w.heap.size + 1 + 1, 0, none⟩) _ (by simp only; omega))
  have Y1 := Lib.hid (show Boxed W2 (w.heap.size + 1) 3 (.int .i64 0) by
    rw [← hW2]
    exact boxed_otherP (Boxed.set _ X1.out) ⟨w.heap.size + 1 + 1, 0, none⟩ (by simp only; omega))
  have Y2 := Lib.hid (show Boxed W2 (w.heap.size + 1 + 1) 26 (.int .i64 0) by
    rw [← hW2]
    exact Boxed.set _ (boxed_otherP X2.out ⟨w.heap.size + 1, 0, none⟩ (by simp only; omega)))
  have B2 := Lib.hid (show Below w.heap.size w W2 by
    rw [← hW2]
    exact (B1.out.setCell (p := ⟨w.heap.size + 1, 0, none⟩) (by simp) _).setCell (p := ⟨w.heap.size + 1 + 1, 0, none⟩) (by simp only; omega) _)
  have T2 := Lib.hid (show Toks (w.heap.size + 1 + 1 + 1) (.slice va l.length vcap) l W2 by
    rw [← hW2]
    exact ownsRow_blocks HT.out fun k hk _ _ => (Below.heap_setCell _ _ _ _ (by simp only; omega)).trans (Below.heap_setCell _ _ _ _ (by simp only; omega)))
  clear hW2 d1 d2 f1 f2 R0 X1 X2 B1 HT C
  refine (CI.out _).mono ?_
  rintro e w3 ⟨rfl, m3, b3⟩
  simp only [S2] at m3 b3
  have M3 := Lib.hid m3
  have b3' := Lib.hid b3
  have z3 := m3.lt
  clear m3 b3 CI
  go_wp2_with fail
  refine (CP.out _).mono ?_
  rintro e w4 ⟨rfl, m4, b4⟩
  have M4 := Lib.hid m4
  have b4' := Lib.hid b4
  have z4 := m4.lt
  clear m4 b4 CP
  go_wp2_with fail
  generalize hW5 : w4.alloc (.cells #[.slice va l.length vcap, .int .i64 0, .int .i64 (s.size : Nat), .map (some w1.heap.size), .map (some w3.heap.size)] 128) = W5
  have z5 : W5.heap.size = w4.heap.size + 1 := by rw [← hW5, World.size_alloc]
  have row5 : W5.heap[w4.heap.size]? = some (.cells #[.slice va l.length vcap, .int .i64 0, .int .i64 (s.size : Nat), .map (some w1.heap.size), .map (some w3.heap.size)] 128 (0, 0)) := by
    rw [← hW5]; exact World.alloc_heap_new w4 _
  have b5 : Below w4.heap.size w4 W5 := by rw [← hW5]; exact (Below.refl _ _).alloc (Nat.le_refl _) _
  have HK : ∀ k, k < w1.heap.size → W5.heap[k]? = W2.heap[k]? := fun k hk => (b5.block k (by omega)).trans ((b4'.out.block k (by omega)).trans (b3'.out.block k hk))
  have BB := Lib.hid (B2.out.trans ((b3'.out.trans ((b4'.out.trans (b5.mono (by omega))).mono (by omega))).mono (by omega)))
  have GL5 := GL.out.keep fun b hb _ => BB.out.block b (by omega)
  have T5 := ownsRow_below' (ownsRow_below' (ownsRow_below' T2.out (by rw [S2]; exact b3'.out)) b4'.out) b5
  obtain ⟨E, e1, e2, e3, hPS⟩ := ps_ready Hl.out T5 GL5 row5 ((M3.out.keep (b4'.out.block _ (by omega))).keep (b5.block _ (by omega))) (M4.out.keep (b5.block _ (by omega))) (by omega) (by omega) (by omega)
  have K := CW'.out E _ e2 e3 hPS
  rw [e1] at K
  clear hW5 row5 b5 GL5 T5 M3 M4 CW' GL hPS
  refine K.mono ?_
  rintro e w6 ⟨rfl, hm, hq⟩
  have HK6 : ∀ k, k < w1.heap.size → w6.heap[k]? = W2.heap[k]? := fun k hk => (hm.blk k (by omega) (by omega)).trans (HK k hk)
  have B6 := Lib.hid ((BB.out.setCell (p := ⟨E.pb, 1, none⟩) (by simp only; omega) (.int .i64 (q : Nat))).trans (Below.mono hm (by omega)))
  have R6 := Lib.hid (show Row3 w6 w.heap.size (.int .i64 0) (.string ⟨#[]⟩) (.slice none 0 0) from (HK6 _ (by omega)).trans R2.out)
  have U1 := Lib.hid (show Boxed w6 (w.heap.size + 1) 3 (.int .i64 0) from (HK6 _ (by omega)).trans Y1.out)
  have U2 := Lib.hid (show Boxed w6 (w.heap.size + 1 + 1) 26 (.int .i64 0) from (HK6 _ (by omega)).trans Y2.out)
  clear K hm hq HK HK6 BB R2 Y1 Y2 T2 b3' b4' B2
  go_wp2_with fail
  refine leaves_cons (f := 126) (args := #[.pointer (some ⟨w.heap.size, 0, none⟩), .pointer (some ⟨w.heap.size + 1, 0, none⟩), .pointer (some ⟨w.heap.size + 1 + 1, 0, none⟩)]) (by simp) (by simp [invoke, go_sem, eg2]) ?_
  unfold misfit
  refine (pcatch_panic w.heap.size (E.pos q) [] _ _ _ 0 0 w6 R6.out U1.out.cell U2.out.cell U1.out.frozen U2.out.frozen).mono ?_
  rintro e u' w7 ⟨rfl, rfl, b7, r7, x7, y7⟩
  obtain ⟨⟨c0, c1, c2⟩, _⟩ := r7.cells
  refine ⟨.tuple #[.agg #[.int .i64 0, .string ⟨#[]⟩, .slice none 0 0], .int .i64 (E.pos q : Nat), .int .i64 20], by simp [results, Tryz.results87, go_sem, c0, c1, c2, x7, y7], fun E' h1 h2 => ?_, B6.out.trans b7⟩
  have hE : E'.pos q = E.pos q := by unfold PE.pos; rw [h1, h2, e2, e3]
  rw [hE]
end Go.Proofs.YtgikhpmdpppenaaGreatDoor
namespace Go.Proofs.YtgikhpmdpppenaaGreatDoor
open Go.RowKit
theorem PS.aside {E : PE} {q : Nat} {w w' : World} {b : Nat} {v0 v1 : Value} {a : Option Addr} {n c : Nat} (h : PS E q w) (hR : Row3 w b v0 v1 (.slice a n c)) (h2 : 2 ≤ b) (he : ∀ j, j ≠ b → w'.heap[j]? = w.heap[j]?) : PS E q w' := by
  have hpb : E.pb ≠ b := by
    intro e
    have h1 := h.row
    rw [e] at h1
    have := h1.symm.trans hR
    simp [PE.row] at this
  have hmi : E.mi ≠ b := by
    intro e
    obtain ⟨es, k, h1, _⟩ := h.g.mi
    rw [e] at h1
    have := h1.symm.trans hR
    simp at this
  have hmp : E.mp ≠ b := by
    intro e
    obtain ⟨es, k, h1, _⟩ := h.g.mp
    rw [e] at h1
    have := h1.symm.trans hR
    simp at this
  have htb : ∀ i, i < E.ts.length → E.tb ≠ b := by
    intro i hi e
    have c2 := h.g.c2 i hi
    rw [e, cell_of_row _ _ _ _ _ _ hR] at c2
    rcases Nat.lt_or_ge (E.off + i * 3 + 2) 3 with hl | hl
    · have h0 : E.off + i * 3 + 2 = 2 := by omega
      rw [h0] at c2
      simp at c2
    · rw [Array.getElem?_eq_none (by simpa using hl)] at c2
      cases c2
  have hc : ∀ i, i < E.ts.length → ∀ p, w'.cell? ⟨E.tb, p, none⟩ = w.cell? ⟨E.tb, p, none⟩ := fun i hi p => World.cell?_of_block (w := w) (he E.tb (htb i hi))
  exact ⟨(he _ hpb).trans h.row, h.le, ⟨h.g.few, h.g.small, h.g.endS, h.g.ha, h.g.hb, h.g.hc, fun i hi => (hc i hi _).trans (h.g.c0 i hi), fun i hi => (hc i hi _).trans (h.g.c1 i hi), fun i hi => (hc i hi _).trans (h.g.c2 i hi), h.g.hp, h.g.gl.keep (fun j hj _ => he j (by omega)), h.g.hmi, h.g.hmp, h.g.mi.keep (he _ hmi), h.g.mp.keep (he _ hmp)⟩⟩
set_option maxRecDepth 100000 in
set_option maxHeartbeats 2000000 in
theorem parse_left (s : ByteArray) (l : List Lx.Tok) (hl : Lx.scan (bs s) = .toks l) (w : World) (hw : 2 ≤ w.heap.size) (gl : GLw w) (hs : s.size ≤ maxLen) (g : Nat) (eg : ∀ args w, (callFunc g args).run Tryz.prog w = .ok (.enter g args) w) (q : Nat) (k : Int) (sx : ByteArray) (kids : List Nd) (hql : q < l.length)
    (CW : ∀ (E : PE) w, E.ts = l → E.en = s.size → PS E 0 w → Calls Tryz.prog g #[.pointer (some ⟨E.pb, 0, none⟩)] w (Gr E w (.ok (.mk k sx kids) q))) :
    Calls Tryz.prog 87 #[.string s, F_ g] w fun e w' => (∀ E : PE, E.ts = l → E.en = s.size → e = .returned (.tuple #[.agg #[.int .i64 0, .string ⟨#[]⟩, .slice none 0 0], .int .i64 (E.pos q : Nat), .int .i64 20])) ∧ Below w.heap.size w w' := by
  have C := Lib.hid (fun w => scan_toks2 s l hl w hs)
  have CI := Lib.hid items_made
  have CP := Lib.hid parts_made
  have CW' := Lib.hid CW
  have Hl := Lib.hid hl
  have GL := Lib.hid gl
  have hmf : ∀ (fn : Fn) (first cap : Array Value) (w : World), (Instr.makeFunc fn first cap).run Tryz.prog w = .ok (.func fn first cap) w := fun _ _ _ _ => rfl
  have eg2 : ∀ args w, (callFunc 126 args).run Tryz.prog w = .ok (.enter 126 args) w := enters_of Tryz.func126 (by kernel_rfl) rfl
  have hb0 := Lib.hid (((Below.refl w.heap.size w).alloc (Nat.le_refl _) (.cells #[.int .i64 0, .string ⟨#[]⟩, .slice none 0 0] 24)).alloc (by simp) (.cells #[.int .i64 0] 3) |>.alloc (by simp; omega) (.cells #[.int .i64 0] 26))
  clear hl gl CW
  unfold F_
  go_enter_defers Tryz.func87, Tryz.ntmps87
  go_wp2_with fail
  refine (C.out _).mono ?_
  rintro e w1 ⟨v, rfl, ht, hb⟩
  obtain ⟨va, vcap, rfl⟩ := ownsRow_shape ht
  have z1 := hb.size
  simp only [World.size_alloc] at z1 ht
  have bx0 : Row3 w1 w.heap.size (.int .i64 0) (.string ⟨#[]⟩) (.slice none 0 0) := (hb.block w.heap.size (by simp only [World.size_alloc]; omega)).trans (heap3_1 w _ _ _)
  have bx1 : Boxed w1 (w.heap.size + 1) 3 (.int .i64 0) := (hb.block (w.heap.size + 1) (by simp only [World.size_alloc]; omega)).trans (heap3_2 w _ _ _)
  have bx2 : Boxed w1 (w.heap.size + 1 + 1) 26 (.int .i64 0) := (hb.block (w.heap.size + 1 + 1) (by simp only [World.size_alloc]; omega)).trans (heap3_3 w _ _ _)
  have B1 := Lib.hid (hb0.out.trans (hb.mono (by simp only [World.size_alloc]; omega)))
  have d1 := bx1.cell
  have d2 := bx2.cell
  have f1 := bx1.frozen
  have f2 := bx2.frozen
  have l0 := bx0.lt
  have l1 := bx1.lt
  have l2 := bx2.lt
  have R0 := Lib.hid bx0
  have X1 := Lib.hid bx1
  have X2 := Lib.hid bx2
  have HT := Lib.hid ht
  clear hb bx0 bx1 bx2 z1 hb0 ht
  go_wp2_with fail
  generalize hW2 : World.setCell (World.setCell w1 _ _) _ _ = W2
  have S2 : W2.heap.size = w1.heap.size := by rw [← hW2, setCell_size, setCell_size]
  have R2 := Lib.hid (show Row3 W2 w.heap.size (.int .i64 0) (.string ⟨#[]⟩) (.slice none 0 0) by
    rw [← hW2]
    exact (R0.out.other (p := ⟨w.heap.size + 1, 0, none⟩) _ (by simp)).other (p := ⟨w.heap.size + 1 + 1, 0, none⟩) _ (by simp only; omega))
  have Y1 := Lib.hid (show Boxed W2 (w.heap.size + 1) 3 (.int .i64 0) by
    rw [← hW2]
    exact boxed_otherP (Boxed.set _ X1.out) ⟨w.heap.size + 1 + 1, 0, none⟩ (by simp only; omega))
  have Y2 := Lib.hid (show Boxed W2 (w.heap.size + 1 + 1) 26 (.int .i64 0) by
    rw [← hW2]
    exact Boxed.set _ (boxed_otherP X2.out ⟨w.heap.size + 1, 0, none⟩ (by simp only; omega)))
  have B2 := Lib.hid (show Below w.heap.size w W2 by
    rw [← hW2]
    exact (B1.out.setCell (p := ⟨w.heap.size + 1, 0, none⟩) (by simp) _).setCell (p := ⟨w.heap.size + 1 + 1, 0, none⟩) (by simp only; omega) _)
  have T2 := Lib.hid (show Toks (w.heap.size + 1 + 1 + 1) (.slice va l.length vcap) l W2 by
    rw [← hW2]
    exact ownsRow_blocks HT.out fun k hk _ _ => (Below.heap_setCell _ _ _ _ (by simp only; omega)).trans (Below.heap_setCell _ _ _ _ (by simp only; omega)))
  clear hW2 d1 d2 f1 f2 R0 X1 X2 B1 HT C
  refine (CI.out _).mono ?_
  rintro e w3 ⟨rfl, m3, b3⟩
  simp only [S2] at m3 b3
  have M3 := Lib.hid m3
  have b3' := Lib.hid b3
  have z3 := m3.lt
  clear m3 b3 CI
  go_wp2_with fail
  refine (CP.out _).mono ?_
  rintro e w4 ⟨rfl, m4, b4⟩
  have M4 := Lib.hid m4
  have b4' := Lib.hid b4
  have z4 := m4.lt
  clear m4 b4 CP
  go_wp2_with fail
  generalize hW5 : w4.alloc (.cells #[.slice va l.length vcap, .int .i64 0, .int .i64 (s.size : Nat), .map (some w1.heap.size), .map (some w3.heap.size)] 128) = W5
  have z5 : W5.heap.size = w4.heap.size + 1 := by rw [← hW5, World.size_alloc]
  have row5 : W5.heap[w4.heap.size]? = some (.cells #[.slice va l.length vcap, .int .i64 0, .int .i64 (s.size : Nat), .map (some w1.heap.size), .map (some w3.heap.size)] 128 (0, 0)) := by
    rw [← hW5]; exact World.alloc_heap_new w4 _
  have b5 : Below w4.heap.size w4 W5 := by rw [← hW5]; exact (Below.refl _ _).alloc (Nat.le_refl _) _
  have HK : ∀ k, k < w1.heap.size → W5.heap[k]? = W2.heap[k]? := fun k hk => (b5.block k (by omega)).trans ((b4'.out.block k (by omega)).trans (b3'.out.block k hk))
  have BB := Lib.hid (B2.out.trans ((b3'.out.trans ((b4'.out.trans (b5.mono (by omega))).mono (by omega))).mono (by omega)))
  have GL5 := GL.out.keep fun b hb _ => BB.out.block b (by omega)
  have T5 := ownsRow_below' (ownsRow_below' (ownsRow_below' T2.out (by rw [S2]; exact b3'.out)) b4'.out) b5
  obtain ⟨E, e1, e2, e3, hPS⟩ := ps_ready Hl.out T5 GL5 row5 ((M3.out.keep (b4'.out.block _ (by omega))).keep (b5.block _ (by omega))) (M4.out.keep (b5.block _ (by omega))) (by omega) (by omega) (by omega)
  have K := CW'.out E _ e2 e3 hPS
  rw [e1] at K
  clear hW5 row5 b5 GL5 T5 M3 M4 CW' GL
  refine K.mono ?_
  rintro e w6 ⟨⟨va6, vc6, rfl, _⟩, hm, hq⟩
  have HK6 : ∀ k, k < w1.heap.size → w6.heap[k]? = W2.heap[k]? := fun k hk => (hm.blk k (by omega) (by omega)).trans (HK k hk)
  have B6 := Lib.hid ((BB.out.setCell (p := ⟨E.pb, 1, none⟩) (by simp only; omega) (.int .i64 (q : Nat))).trans (Below.mono hm (by omega)))
  have R6 := Lib.hid (show Row3 w6 w.heap.size (.int .i64 0) (.string ⟨#[]⟩) (.slice none 0 0) from (HK6 _ (by omega)).trans R2.out)
  have U1 := Lib.hid (show Boxed w6 (w.heap.size + 1) 3 (.int .i64 0) from (HK6 _ (by omega)).trans Y1.out)
  have U2 := Lib.hid (show Boxed w6 (w.heap.size + 1 + 1) 26 (.int .i64 0) from (HK6 _ (by omega)).trans Y2.out)
  have P6 := Lib.hid (hm.ps hPS hq)
  have hpz : w.heap.size < E.pb := by omega
  have l6 := hm.size
  obtain ⟨⟨c0, c1, c2⟩, g0, g1, g2⟩ := R6.out.cells
  clear K hm hq HK HK6 BB R2 Y1 Y2 T2 b3' b4' B2 hPS
  have h6a := R6.out.lt
  have D := Lib.hid (fun w h => refuse_any E q w h)
  go_wp2_with fail
  generalize hW7 : World.setCell (World.setCell (World.setCell w6 _ _) _ _) _ _ = W7
  have HE : ∀ j, j ≠ w.heap.size → W7.heap[j]? = w6.heap[j]? := fun j hj => by
    rw [← hW7]
    exact (Below.heap_setCell _ _ _ _ hj).trans ((Below.heap_setCell _ _ _ _ hj).trans (Below.heap_setCell _ _ _ _ hj))
  have R7 := Lib.hid (show Row3 W7 w.heap.size (.int .i64 k) (.string sx) (.slice va6 kids.length vc6) by rw [← hW7]; exact R6.out.put _ _ _)
  have P7 := Lib.hid (P6.out.aside R6.out hw HE)
  have N1 := Lib.hid (show Boxed W7 (w.heap.size + 1) 3 (.int .i64 0) from (HE _ (by omega)).trans U1.out)
  have N2 := Lib.hid (show Boxed W7 (w.heap.size + 1 + 1) 26 (.int .i64 0) from (HE _ (by omega)).trans U2.out)
  have B7 := Lib.hid (show Below w.heap.size w W7 by rw [← hW7]; exact below3 B6.out (Nat.le_refl _) _ _ _)
  obtain ⟨p0, p1, p2, p3, p4⟩ := P7.out.cells
  have pz := P7.out.lt
  rw [e1] at p0 p1
  rw [e2] at p0
  have hlt : (q : Int) < (l.length : Int) := by omega
  clear hW7 HE R6 P6 U1 U2 B6 c0 c1 c2 g0 g1 g2 p2 p3 p4
  go_quiet (fail)
  generalize hW8 : W7.drewN _ = W8
  have b8 : Below W7.heap.size W7 W8 := by rw [← hW8]; exact below_drewN (Below.refl _ _) _
  have K8 := D.out _ (P7.out.later b8)
  rw [e1] at K8
  have h7 := R7.out.lt
  have h71 := N1.out.lt
  have h72 := N2.out.lt
  have z8 := b8.size
  have HB8 := Lib.hid b8
  clear hW8 b8 p0 p1 D
  go_wp2_with fail
  refine K8.mono ?_
  rintro e w9 ⟨rfl, b9⟩
  have b89 := HB8.out.trans (b9.mono z8)
  have R6 := Lib.hid (show Row3 w9 w.heap.size (.int .i64 k) (.string sx) (.slice va6 kids.length vc6) from (b89.block _ h7).trans R7.out)
  have U1 := Lib.hid (show Boxed w9 (w.heap.size + 1) 3 (.int .i64 0) from (b89.block _ h71).trans N1.out)
  have U2 := Lib.hid (show Boxed w9 (w.heap.size + 1 + 1) 26 (.int .i64 0) from (b89.block _ h72).trans N2.out)
  have B6 := Lib.hid (B7.out.trans (b89.mono (by omega)))
  clear b89 b9 HB8 K8 P7 N1 N2 B7 R7
  go_wp2_with fail
  refine leaves_cons (f := 126) (args := #[.pointer (some ⟨w.heap.size, 0, none⟩), .pointer (some ⟨w.heap.size + 1, 0, none⟩), .pointer (some ⟨w.heap.size + 1 + 1, 0, none⟩)]) (by simp) (by simp [invoke, go_sem, eg2]) ?_
  unfold misfit
  refine (pcatch_panic w.heap.size (E.pos q) [] _ _ _ 0 0 w9 R6.out U1.out.cell U2.out.cell U1.out.frozen U2.out.frozen).mono ?_
  rintro e u' w10 ⟨rfl, rfl, b7, r7, x7, y7⟩
  obtain ⟨⟨c0, c1, c2⟩, _⟩ := r7.cells
  refine ⟨.tuple #[.agg #[.int .i64 0, .string ⟨#[]⟩, .slice none 0 0], .int .i64 (E.pos q : Nat), .int .i64 20], by simp [results, Tryz.results87, go_sem, c0, c1, c2, x7, y7], fun E' h1 h2 => ?_, B6.out.trans b7⟩
  have hE : E'.pos q = E.pos q := by unfold PE.pos; rw [h1, h2, e2, e3]
  rw [hE]
end Go.Proofs.YtgikhpmdpppenaaGreatDoor
namespace Go.Proofs.YtgikhpmdpppenaaGreatDoor
open Go.RowKit
set_option maxRecDepth 100000 in
set_option maxHeartbeats 2000000 in
theorem parse_yes (s : ByteArray) (l : List Lx.Tok) (hl : Lx.scan (bs s) = .toks l) (w : World) (hw : 2 ≤ w.heap.size) (gl : GLw w) (hs : s.size ≤ maxLen) (g : Nat) (eg : ∀ args w, (callFunc g args).run Tryz.prog w = .ok (.enter g args) w) (q : Nat) (k : Int) (sx : ByteArray) (kids : List Nd) (hql : q = l.length) (er : Nat) (he : ((er : Int) == 0) = true)
    (CK : ∀ va vc w, NdR w (.mk k sx kids) (.int .i64 k) (.string sx) (.slice va kids.length vc) → Calls Tryz.prog 12 #[.agg #[.int .i64 k, .string sx, .slice va kids.length vc]] w fun e w' => e = .returned (.int .i64 er) ∧ Below w.heap.size w w')
    (CW : ∀ (E : PE) w, E.ts = l → E.en = s.size → PS E 0 w → Calls Tryz.prog g #[.pointer (some ⟨E.pb, 0, none⟩)] w (Gr E w (.ok (.mk k sx kids) q))) :
    Calls Tryz.prog 87 #[.string s, F_ g] w fun e w' => (∃ va vc, e = .returned (.tuple #[.agg #[.int .i64 k, .string sx, .slice va kids.length vc], .int .i64 0, .int .i64 0]) ∧ NdS (fun b => w.heap.size ≤ b) w' (.mk k sx kids) (.int .i64 k) (.string sx) (.slice va kids.length vc)) ∧ Below w.heap.size w w' := by
  have C := Lib.hid (fun w => scan_toks2 s l hl w hs)
  have CI := Lib.hid items_made
  have CP := Lib.hid parts_made
  have CW' := Lib.hid CW
  have Hl := Lib.hid hl
  have GL := Lib.hid gl
  have hmf : ∀ (fn : Fn) (first cap : Array Value) (w : World), (Instr.makeFunc fn first cap).run Tryz.prog w = .ok (.func fn first cap) w := fun _ _ _ _ => rfl
  have eg2 : ∀ args w, (callFunc 126 args).run Tryz.prog w = .ok (.enter 126 args) w := enters_of Tryz.func126 (by kernel_rfl) rfl
  have hb0 := Lib.hid (((Below.refl w.heap.size w).alloc (Nat.le_refl _) (.cells #[.int .i64 0, .string ⟨#[]⟩, .slice none 0 0] 24)).alloc (by simp) (.cells #[.int .i64 0] 3) |>.alloc (by simp; omega) (.cells #[.int .i64 0] 26))
  clear hl gl CW
  unfold F_
  go_enter_defers Tryz.func87, Tryz.ntmps87
  go_wp2_with fail
  refine (C.out _).mono ?_
  rintro e w1 ⟨v, rfl, ht, hb⟩
  obtain ⟨va, vcap, rfl⟩ := ownsRow_shape ht
  have z1 := hb.size
  simp only [World.size_alloc] at z1 ht
  have bx0 : Row3 w1 w.heap.size (.int .i64 0) (.string ⟨#[]⟩) (.slice none 0 0) := (hb.block w.heap.size (by simp only [World.size_alloc]; omega)).trans (heap3_1 w _ _ _)
  have bx1 : Boxed w1 (w.heap.size + 1) 3 (.int .i64 0) := (hb.block (w.heap.size + 1) (by simp only [World.size_alloc]; omega)).trans (heap3_2 w _ _ _)
  have bx2 : Boxed w1 (w.heap.size + 1 + 1) 26 (.int .i64 0) := (hb.block (w.heap.size + 1 + 1) (by simp only [World.size_alloc]; omega)).trans (heap3_3 w _ _ _)
  have B1 := Lib.hid (hb0.out.trans (hb.mono (by simp only [World.size_alloc]; omega)))
  have d1 := bx1.cell
  have d2 := bx2.cell
  have f1 := bx1.frozen
  have f2 := bx2.frozen
  have l0 := bx0.lt
  have l1 := bx1.lt
  have l2 := bx2.lt
  have R0 := Lib.hid bx0
  have X1 := Lib.hid bx1
  have X2 := Lib.hid bx2
  have HT := Lib.hid ht
  clear hb bx0 bx1 bx2 z1 hb0 ht
  go_wp2_with fail
  generalize hW2 : World.setCell (World.setCell w1 _ _) _ _ = W2
  have S2 : W2.heap.size = w1.heap.size := by rw [← hW2, setCell_size, setCell_size]
  have R2 := Lib.hid (show Row3 W2 w.heap.size (.int .i64 0) (.string ⟨#[]⟩) (.slice none 0 0) by
    rw [← hW2]
    exact (R0.out.other (p := ⟨w.heap.size + 1, 0, none⟩) _ (by simp)).other (p := ⟨w.heap.size + 1 + 1, 0, none⟩) _ (by simp only; omega))
  have Y1 := Lib.hid (show Boxed W2 (w.heap.size + 1) 3 (.int .i64 0) by
    rw [← hW2]
    exact boxed_otherP (Boxed.set _ X1.out) ⟨w.heap.size + 1 + 1, 0, none⟩ (by simp only; omega))
  have Y2 := Lib.hid (show Boxed W2 (w.heap.size + 1 + 1) 26 (.int .i64 0) by
    rw [← hW2]
    exact Boxed.set _ (boxed_otherP X2.out ⟨w.heap.size + 1, 0, none⟩ (by simp only; omega)))
  have B2 := Lib.hid (show Below w.heap.size w W2 by
    rw [← hW2]
    exact (B1.out.setCell (p := ⟨w.heap.size + 1, 0, none⟩) (by simp) _).setCell (p := ⟨w.heap.size + 1 + 1, 0, none⟩) (by simp only; omega) _)
  have T2 := Lib.hid (show Toks (w.heap.size + 1 + 1 + 1) (.slice va l.length vcap) l W2 by
    rw [← hW2]
    exact ownsRow_blocks HT.out fun k hk _ _ => (Below.heap_setCell _ _ _ _ (by simp only; omega)).trans (Below.heap_setCell _ _ _ _ (by simp only; omega)))
  clear hW2 d1 d2 f1 f2 R0 X1 X2 B1 HT C
  refine (CI.out _).mono ?_
  rintro e w3 ⟨rfl, m3, b3⟩
  simp only [S2] at m3 b3
  have M3 := Lib.hid m3
  have b3' := Lib.hid b3
  have z3 := m3.lt
  clear m3 b3 CI
  go_wp2_with fail
  refine (CP.out _).mono ?_
  rintro e w4 ⟨rfl, m4, b4⟩
  have M4 := Lib.hid m4
  have b4' := Lib.hid b4
  have z4 := m4.lt
  clear m4 b4 CP
  go_wp2_with fail
  generalize hW5 : w4.alloc (.cells #[.slice va l.length vcap, .int .i64 0, .int .i64 (s.size : Nat), .map (some w1.heap.size), .map (some w3.heap.size)] 128) = W5
  have z5 : W5.heap.size = w4.heap.size + 1 := by rw [← hW5, World.size_alloc]
  have row5 : W5.heap[w4.heap.size]? = some (.cells #[.slice va l.length vcap, .int .i64 0, .int .i64 (s.size : Nat), .map (some w1.heap.size), .map (some w3.heap.size)] 128 (0, 0)) := by
    rw [← hW5]; exact World.alloc_heap_new w4 _
  have b5 : Below w4.heap.size w4 W5 := by rw [← hW5]; exact (Below.refl _ _).alloc (Nat.le_refl _) _
  have HK : ∀ k, k < w1.heap.size → W5.heap[k]? = W2.heap[k]? := fun k hk => (b5.block k (by omega)).trans ((b4'.out.block k (by omega)).trans (b3'.out.block k hk))
  have BB := Lib.hid (B2.out.trans ((b3'.out.trans ((b4'.out.trans (b5.mono (by omega))).mono (by omega))).mono (by omega)))
  have GL5 := GL.out.keep fun b hb _ => BB.out.block b (by omega)
  have T5 := ownsRow_below' (ownsRow_below' (ownsRow_below' T2.out (by rw [S2]; exact b3'.out)) b4'.out) b5
  obtain ⟨E, e1, e2, e3, hPS⟩ := ps_ready Hl.out T5 GL5 row5 ((M3.out.keep (b4'.out.block _ (by omega))).keep (b5.block _ (by omega))) (M4.out.keep (b5.block _ (by omega))) (by omega) (by omega) (by omega)
  have K := CW'.out E _ e2 e3 hPS
  rw [e1] at K
  clear hW5 row5 b5 GL5 T5 M3 M4 CW' GL
  refine K.mono ?_
  rintro e w6 ⟨⟨va6, vc6, rfl, hn⟩, hm, hq⟩
  have HK6 : ∀ k, k < w1.heap.size → w6.heap[k]? = W2.heap[k]? := fun k hk => (hm.blk k (by omega) (by omega)).trans (HK k hk)
  have B6 := Lib.hid ((BB.out.setCell (p := ⟨E.pb, 1, none⟩) (by simp only; omega) (.int .i64 (q : Nat))).trans (Below.mono hm (by omega)))
  have R6 := Lib.hid (show Row3 w6 w.heap.size (.int .i64 0) (.string ⟨#[]⟩) (.slice none 0 0) from (HK6 _ (by omega)).trans R2.out)
  have U1 := Lib.hid (show Boxed w6 (w.heap.size + 1) 3 (.int .i64 0) from (HK6 _ (by omega)).trans Y1.out)
  have U2 := Lib.hid (show Boxed w6 (w.heap.size + 1 + 1) 26 (.int .i64 0) from (HK6 _ (by omega)).trans Y2.out)
  have P6 := Lib.hid (hm.ps hPS hq)
  have S6 := Lib.hid hn
  have CK' := Lib.hid CK
  clear hn CK
  have hpz : w.heap.size < E.pb := by omega
  have l6 := hm.size
  obtain ⟨⟨c0, c1, c2⟩, g0, g1, g2⟩ := R6.out.cells
  clear K hm hq HK HK6 BB R2 Y1 Y2 T2 b3' b4' B2 hPS
  have h6a := R6.out.lt
  go_wp2_with fail
  generalize hW7 : World.setCell (World.setCell (World.setCell w6 _ _) _ _) _ _ = W7
  have HE : ∀ j, j ≠ w.heap.size → W7.heap[j]? = w6.heap[j]? := fun j hj => by
    rw [← hW7]
    exact (Below.heap_setCell _ _ _ _ hj).trans ((Below.heap_setCell _ _ _ _ hj).trans (Below.heap_setCell _ _ _ _ hj))
  have R7 := Lib.hid (show Row3 W7 w.heap.size (.int .i64 k) (.string sx) (.slice va6 kids.length vc6) by rw [← hW7]; exact R6.out.put _ _ _)
  have S7 := Lib.hid (S6.out.keep (w' := W7) (S' := fun b => w.heap.size + 1 + 1 < b) fun b h1 h2 => ⟨HE b (by omega), by omega⟩)
  have P7 := Lib.hid (P6.out.aside R6.out hw HE)
  have N1 := Lib.hid (show Boxed W7 (w.heap.size + 1) 3 (.int .i64 0) from (HE _ (by omega)).trans U1.out)
  have N2 := Lib.hid (show Boxed W7 (w.heap.size + 1 + 1) 26 (.int .i64 0) from (HE _ (by omega)).trans U2.out)
  have B7 := Lib.hid (show Below w.heap.size w W7 by rw [← hW7]; exact below3 B6.out (Nat.le_refl _) _ _ _)
  obtain ⟨p0, p1, p2, p3, p4⟩ := P7.out.cells
  have pz := P7.out.lt
  rw [e1] at p0 p1
  rw [e2] at p0
  have hlt : decide ((q : Int) < (l.length : Int)) = false := decide_eq_false (by omega)
  clear hW7 HE R6 S6 P6 U1 U2 B6 c0 c1 c2 g0 g1 g2 p2 p3 p4
  go_quiet (fail)
  generalize hW8 : W7.drewN _ = W8
  have b8 : Below W7.heap.size W7 W8 := by rw [← hW8]; exact below_drewN (Below.refl _ _) _
  have h7 := R7.out.lt
  have h71 := N1.out.lt
  have h72 := N2.out.lt
  have z8 := b8.size
  have R8 := Lib.hid (show Row3 W8 w.heap.size (.int .i64 k) (.string sx) (.slice va6 kids.length vc6) from (b8.block _ h7).trans R7.out)
  have S8 := Lib.hid (S7.out.keep (w' := W8) (S' := fun b => w.heap.size + 1 + 1 < b) fun b h1 h2 => ⟨b8.block b h2, h1⟩)
  have K8 := CK'.out va6 vc6 W8 S8.out.toR
  have HB8 := Lib.hid b8
  obtain ⟨⟨c0, c1, c2⟩, g0, g1, g2⟩ := R8.out.cells
  have h8 := R8.out.lt
  clear hW8 b8 p0 p1 CK'
  go_wp2_with fail
  refine K8.mono ?_
  rintro e w9 ⟨rfl, b9⟩
  have b89 := HB8.out.trans (b9.mono z8)
  have R9 := Lib.hid (show Row3 w9 w.heap.size (.int .i64 k) (.string sx) (.slice va6 kids.length vc6) from (b9.block _ h8).trans R8.out)
  have U1 := Lib.hid (show Boxed w9 (w.heap.size + 1) 3 (.int .i64 0) from (b89.block _ h71).trans N1.out)
  have U2 := Lib.hid (show Boxed w9 (w.heap.size + 1 + 1) 26 (.int .i64 0) from (b89.block _ h72).trans N2.out)
  have S9 := Lib.hid (S8.out.keep (w' := w9) (S' := fun b => w.heap.size + 1 + 1 < b) fun b h1 h2 => ⟨b9.block b h2, h1⟩)
  have B9 := Lib.hid (B7.out.trans (b89.mono (by omega)))
  clear b89 b9 HB8 K8 P7 N1 N2 B7 R7 c0 c1 c2 g0 g1 g2 S7 S8 R8
  obtain ⟨⟨c0, c1, c2⟩, g0, g1, g2⟩ := R9.out.cells
  have u1 := U1.out.cell
  have u2 := U2.out.cell
  have v1 := U1.out.frozen
  have v2 := U2.out.frozen
  have h9 := R9.out.lt
  have h91 := U1.out.lt
  have h92 := U2.out.lt
  go_wp2_with fail
  generalize hWA : World.setCell (World.setCell (World.setCell (World.setCell (World.setCell w9 _ _) _ _) _ _) _ _) _ _ = WA
  have RA := Lib.hid (show Row3 WA w.heap.size (.int .i64 k) (.string sx) (.slice va6 kids.length vc6) by
    rw [← hWA]
    exact ((R9.out.put _ _ _).other (p := ⟨w.heap.size + 1, 0, none⟩) _ (by simp)).other (p := ⟨w.heap.size + 1 + 1, 0, none⟩) _ (by simp only; omega))
  have A1 := Lib.hid (show Boxed WA (w.heap.size + 1) 3 (.int .i64 0) by
    rw [← hWA]
    exact boxed_otherP (Boxed.set _ (boxed_put3 U1.out (by omega))) ⟨w.heap.size + 1 + 1, 0, none⟩ (by simp only; omega))
  have A2 := Lib.hid (show Boxed WA (w.heap.size + 1 + 1) 26 (.int .i64 0) by
    rw [← hWA]
    exact Boxed.set _ (boxed_otherP (boxed_put3 U2.out (by omega)) ⟨w.heap.size + 1, 0, none⟩ (by simp only; omega)))
  have BA := Lib.hid (show Below w.heap.size w WA by
    rw [← hWA]
    exact ((below3 B9.out (Nat.le_refl _) _ _ _).setCell (p := ⟨w.heap.size + 1, 0, none⟩) (by simp) _).setCell (p := ⟨w.heap.size + 1 + 1, 0, none⟩) (by simp only; omega) _)
  have HA : ∀ b, w.heap.size + 1 + 1 < b → WA.heap[b]? = w9.heap[b]? := fun b hb => by
    rw [← hWA]
    exact (Below.heap_setCell _ _ _ _ (by simp only; omega)).trans ((Below.heap_setCell _ _ _ _ (by simp only; omega)).trans ((Below.heap_setCell _ _ _ _ (by simp only; omega)).trans ((Below.heap_setCell _ _ _ _ (by simp only; omega)).trans (Below.heap_setCell _ _ _ _ (by simp only; omega)))))
  have zA : w9.heap.size = WA.heap.size := by rw [← hWA]; simp only [setCell_size]
  clear hWA c0 c1 c2 g0 g1 g2 u1 u2 v1 v2
  refine leaves_cons (f := 126) (args := #[.pointer (some ⟨w.heap.size, 0, none⟩), .pointer (some ⟨w.heap.size + 1, 0, none⟩), .pointer (some ⟨w.heap.size + 1 + 1, 0, none⟩)]) (by simp) (by simp [invoke, go_sem, eg2]) ?_
  refine (pcatch_idle w.heap.size WA).mono ?_
  rintro e u' wz ⟨rfl, rfl, rfl⟩
  obtain ⟨⟨c0, c1, c2⟩, _⟩ := (RA.out.alloc (.cells #[.int .i64 0] 123)).cells
  have x1 := (boxed_alloc A1.out (.cells #[.int .i64 0] 123)).cell
  have x2 := (boxed_alloc A2.out (.cells #[.int .i64 0] 123)).cell
  refine ⟨.tuple #[.agg #[.int .i64 k, .string sx, .slice va6 kids.length vc6], .int .i64 0, .int .i64 0], by simp [results, Tryz.results87, go_sem, c0, c1, c2, x1, x2], ⟨va6, vc6, rfl, S9.out.keep fun b h1 h2 => ⟨(Below.heap_alloc _ _ _ (by rw [← zA]; exact h2)).trans (HA b h1), by omega⟩⟩, BA.out.alloc (by rw [← zA]; omega) _⟩
set_option maxRecDepth 100000 in
set_option maxHeartbeats 2000000 in
theorem parse_wrong (s : ByteArray) (l : List Lx.Tok) (hl : Lx.scan (bs s) = .toks l) (w : World) (hw : 2 ≤ w.heap.size) (gl : GLw w) (hs : s.size ≤ maxLen) (g : Nat) (eg : ∀ args w, (callFunc g args).run Tryz.prog w = .ok (.enter g args) w) (q : Nat) (k : Int) (sx : ByteArray) (kids : List Nd) (hql : q = l.length) (er : Nat) (he : ((er : Int) == 0) = false)
    (CK : ∀ va vc w, NdR w (.mk k sx kids) (.int .i64 k) (.string sx) (.slice va kids.length vc) → Calls Tryz.prog 12 #[.agg #[.int .i64 k, .string sx, .slice va kids.length vc]] w fun e w' => e = .returned (.int .i64 er) ∧ Below w.heap.size w w')
    (CW : ∀ (E : PE) w, E.ts = l → E.en = s.size → PS E 0 w → Calls Tryz.prog g #[.pointer (some ⟨E.pb, 0, none⟩)] w (Gr E w (.ok (.mk k sx kids) q))) :
    Calls Tryz.prog 87 #[.string s, F_ g] w fun e w' => (e = .returned (.tuple #[.agg #[.int .i64 0, .string ⟨#[]⟩, .slice none 0 0], .int .i64 0, .int .i64 er])) ∧ Below w.heap.size w w' := by
  have C := Lib.hid (fun w => scan_toks2 s l hl w hs)
  have CI := Lib.hid items_made
  have CP := Lib.hid parts_made
  have CW' := Lib.hid CW
  have Hl := Lib.hid hl
  have GL := Lib.hid gl
  have hmf : ∀ (fn : Fn) (first cap : Array Value) (w : World), (Instr.makeFunc fn first cap).run Tryz.prog w = .ok (.func fn first cap) w := fun _ _ _ _ => rfl
  have eg2 : ∀ args w, (callFunc 126 args).run Tryz.prog w = .ok (.enter 126 args) w := enters_of Tryz.func126 (by kernel_rfl) rfl
  have hb0 := Lib.hid (((Below.refl w.heap.size w).alloc (Nat.le_refl _) (.cells #[.int .i64 0, .string ⟨#[]⟩, .slice none 0 0] 24)).alloc (by simp) (.cells #[.int .i64 0] 3) |>.alloc (by simp; omega) (.cells #[.int .i64 0] 26))
  clear hl gl CW
  unfold F_
  go_enter_defers Tryz.func87, Tryz.ntmps87
  go_wp2_with fail
  refine (C.out _).mono ?_
  rintro e w1 ⟨v, rfl, ht, hb⟩
  obtain ⟨va, vcap, rfl⟩ := ownsRow_shape ht
  have z1 := hb.size
  simp only [World.size_alloc] at z1 ht
  have bx0 : Row3 w1 w.heap.size (.int .i64 0) (.string ⟨#[]⟩) (.slice none 0 0) := (hb.block w.heap.size (by simp only [World.size_alloc]; omega)).trans (heap3_1 w _ _ _)
  have bx1 : Boxed w1 (w.heap.size + 1) 3 (.int .i64 0) := (hb.block (w.heap.size + 1) (by simp only [World.size_alloc]; omega)).trans (heap3_2 w _ _ _)
  have bx2 : Boxed w1 (w.heap.size + 1 + 1) 26 (.int .i64 0) := (hb.block (w.heap.size + 1 + 1) (by simp only [World.size_alloc]; omega)).trans (heap3_3 w _ _ _)
  have B1 := Lib.hid (hb0.out.trans (hb.mono (by simp only [World.size_alloc]; omega)))
  have d1 := bx1.cell
  have d2 := bx2.cell
  have f1 := bx1.frozen
  have f2 := bx2.frozen
  have l0 := bx0.lt
  have l1 := bx1.lt
  have l2 := bx2.lt
  have R0 := Lib.hid bx0
  have X1 := Lib.hid bx1
  have X2 := Lib.hid bx2
  have HT := Lib.hid ht
  clear hb bx0 bx1 bx2 z1 hb0 ht
  go_wp2_with fail
  generalize hW2 : World.setCell (World.setCell w1 _ _) _ _ = W2
  have S2 : W2.heap.size = w1.heap.size := by rw [← hW2, setCell_size, setCell_size]
  have R2 := Lib.hid (show Row3 W2 w.heap.size (.int .i64 0) (.string ⟨#[]⟩) (.slice none 0 0) by
    rw [← hW2]
    exact (R0.out.other (p := ⟨w.heap.size + 1, 0, none⟩) _ (by simp)).other (p := ⟨w.heap.size + 1 + 1, 0, none⟩) _ (by simp only; omega))
  have Y1 := Lib.hid (show Boxed W2 (w.heap.size + 1) 3 (.int .i64 0) by
    rw [← hW2]
    exact boxed_otherP (Boxed.set _ X1.out) ⟨w.heap.size + 1 + 1, 0, none⟩ (by simp only; omega))
  have Y2 := Lib.hid (show Boxed W2 (w.heap.size + 1 + 1) 26 (.int .i64 0) by
    rw [← hW2]
    exact Boxed.set _ (boxed_otherP X2.out ⟨w.heap.size + 1, 0, none⟩ (by simp only; omega)))
  have B2 := Lib.hid (show Below w.heap.size w W2 by
    rw [← hW2]
    exact (B1.out.setCell (p := ⟨w.heap.size + 1, 0, none⟩) (by simp) _).setCell (p := ⟨w.heap.size + 1 + 1, 0, none⟩) (by simp only; omega) _)
  have T2 := Lib.hid (show Toks (w.heap.size + 1 + 1 + 1) (.slice va l.length vcap) l W2 by
    rw [← hW2]
    exact ownsRow_blocks HT.out fun k hk _ _ => (Below.heap_setCell _ _ _ _ (by simp only; omega)).trans (Below.heap_setCell _ _ _ _ (by simp only; omega)))
  clear hW2 d1 d2 f1 f2 R0 X1 X2 B1 HT C
  refine (CI.out _).mono ?_
  rintro e w3 ⟨rfl, m3, b3⟩
  simp only [S2] at m3 b3
  have M3 := Lib.hid m3
  have b3' := Lib.hid b3
  have z3 := m3.lt
  clear m3 b3 CI
  go_wp2_with fail
  refine (CP.out _).mono ?_
  rintro e w4 ⟨rfl, m4, b4⟩
  have M4 := Lib.hid m4
  have b4' := Lib.hid b4
  have z4 := m4.lt
  clear m4 b4 CP
  go_wp2_with fail
  generalize hW5 : w4.alloc (.cells #[.slice va l.length vcap, .int .i64 0, .int .i64 (s.size : Nat), .map (some w1.heap.size), .map (some w3.heap.size)] 128) = W5
  have z5 : W5.heap.size = w4.heap.size + 1 := by rw [← hW5, World.size_alloc]
  have row5 : W5.heap[w4.heap.size]? = some (.cells #[.slice va l.length vcap, .int .i64 0, .int .i64 (s.size : Nat), .map (some w1.heap.size), .map (some w3.heap.size)] 128 (0, 0)) := by
    rw [← hW5]; exact World.alloc_heap_new w4 _
  have b5 : Below w4.heap.size w4 W5 := by rw [← hW5]; exact (Below.refl _ _).alloc (Nat.le_refl _) _
  have HK : ∀ k, k < w1.heap.size → W5.heap[k]? = W2.heap[k]? := fun k hk => (b5.block k (by omega)).trans ((b4'.out.block k (by omega)).trans (b3'.out.block k hk))
  have BB := Lib.hid (B2.out.trans ((b3'.out.trans ((b4'.out.trans (b5.mono (by omega))).mono (by omega))).mono (by omega)))
  have GL5 := GL.out.keep fun b hb _ => BB.out.block b (by omega)
  have T5 := ownsRow_below' (ownsRow_below' (ownsRow_below' T2.out (by rw [S2]; exact b3'.out)) b4'.out) b5
  obtain ⟨E, e1, e2, e3, hPS⟩ := ps_ready Hl.out T5 GL5 row5 ((M3.out.keep (b4'.out.block _ (by omega))).keep (b5.block _ (by omega))) (M4.out.keep (b5.block _ (by omega))) (by omega) (by omega) (by omega)
  have K := CW'.out E _ e2 e3 hPS
  rw [e1] at K
  clear hW5 row5 b5 GL5 T5 M3 M4 CW' GL
  refine K.mono ?_
  rintro e w6 ⟨⟨va6, vc6, rfl, hn⟩, hm, hq⟩
  have HK6 : ∀ k, k < w1.heap.size → w6.heap[k]? = W2.heap[k]? := fun k hk => (hm.blk k (by omega) (by omega)).trans (HK k hk)
  have B6 := Lib.hid ((BB.out.setCell (p := ⟨E.pb, 1, none⟩) (by simp only; omega) (.int .i64 (q : Nat))).trans (Below.mono hm (by omega)))
  have R6 := Lib.hid (show Row3 w6 w.heap.size (.int .i64 0) (.string ⟨#[]⟩) (.slice none 0 0) from (HK6 _ (by omega)).trans R2.out)
  have U1 := Lib.hid (show Boxed w6 (w.heap.size + 1) 3 (.int .i64 0) from (HK6 _ (by omega)).trans Y1.out)
  have U2 := Lib.hid (show Boxed w6 (w.heap.size + 1 + 1) 26 (.int .i64 0) from (HK6 _ (by omega)).trans Y2.out)
  have P6 := Lib.hid (hm.ps hPS hq)
  have S6 := Lib.hid hn
  have CK' := Lib.hid CK
  clear hn CK
  have hpz : w.heap.size < E.pb := by omega
  have l6 := hm.size
  obtain ⟨⟨c0, c1, c2⟩, g0, g1, g2⟩ := R6.out.cells
  clear K hm hq HK HK6 BB R2 Y1 Y2 T2 b3' b4' B2 hPS
  have h6a := R6.out.lt
  go_wp2_with fail
  generalize hW7 : World.setCell (World.setCell (World.setCell w6 _ _) _ _) _ _ = W7
  have HE : ∀ j, j ≠ w.heap.size → W7.heap[j]? = w6.heap[j]? := fun j hj => by
    rw [← hW7]
    exact (Below.heap_setCell _ _ _ _ hj).trans ((Below.heap_setCell _ _ _ _ hj).trans (Below.heap_setCell _ _ _ _ hj))
  have R7 := Lib.hid (show Row3 W7 w.heap.size (.int .i64 k) (.string sx) (.slice va6 kids.length vc6) by rw [← hW7]; exact R6.out.put _ _ _)
  have S7 := Lib.hid (S6.out.keep (w' := W7) (S' := fun b => w.heap.size + 1 + 1 < b) fun b h1 h2 => ⟨HE b (by omega), by omega⟩)
  have P7 := Lib.hid (P6.out.aside R6.out hw HE)
  have N1 := Lib.hid (show Boxed W7 (w.heap.size + 1) 3 (.int .i64 0) from (HE _ (by omega)).trans U1.out)
  have N2 := Lib.hid (show Boxed W7 (w.heap.size + 1 + 1) 26 (.int .i64 0) from (HE _ (by omega)).trans U2.out)
  have B7 := Lib.hid (show Below w.heap.size w W7 by rw [← hW7]; exact below3 B6.out (Nat.le_refl _) _ _ _)
  obtain ⟨p0, p1, p2, p3, p4⟩ := P7.out.cells
  have pz := P7.out.lt
  rw [e1] at p0 p1
  rw [e2] at p0
  have hlt : decide ((q : Int) < (l.length : Int)) = false := decide_eq_false (by omega)
  clear hW7 HE R6 S6 P6 U1 U2 B6 c0 c1 c2 g0 g1 g2 p2 p3 p4
  go_quiet (fail)
  generalize hW8 : W7.drewN _ = W8
  have b8 : Below W7.heap.size W7 W8 := by rw [← hW8]; exact below_drewN (Below.refl _ _) _
  have h7 := R7.out.lt
  have h71 := N1.out.lt
  have h72 := N2.out.lt
  have z8 := b8.size
  have R8 := Lib.hid (show Row3 W8 w.heap.size (.int .i64 k) (.string sx) (.slice va6 kids.length vc6) from (b8.block _ h7).trans R7.out)
  have S8 := Lib.hid (S7.out.keep (w' := W8) (S' := fun b => w.heap.size + 1 + 1 < b) fun b h1 h2 => ⟨b8.block b h2, h1⟩)
  have K8 := CK'.out va6 vc6 W8 S8.out.toR
  have HB8 := Lib.hid b8
  obtain ⟨⟨c0, c1, c2⟩, g0, g1, g2⟩ := R8.out.cells
  have h8 := R8.out.lt
  clear hW8 b8 p0 p1 CK'
  go_wp2_with fail
  refine K8.mono ?_
  rintro e w9 ⟨rfl, b9⟩
  have b89 := HB8.out.trans (b9.mono z8)
  have R9 := Lib.hid (show Row3 w9 w.heap.size (.int .i64 k) (.string sx) (.slice va6 kids.length vc6) from (b9.block _ h8).trans R8.out)
  have U1 := Lib.hid (show Boxed w9 (w.heap.size + 1) 3 (.int .i64 0) from (b89.block _ h71).trans N1.out)
  have U2 := Lib.hid (show Boxed w9 (w.heap.size + 1 + 1) 26 (.int .i64 0) from (b89.block _ h72).trans N2.out)
  have S9 := Lib.hid (S8.out.keep (w' := w9) (S' := fun b => w.heap.size + 1 + 1 < b) fun b h1 h2 => ⟨b9.block b h2, h1⟩)
  have B9 := Lib.hid (B7.out.trans (b89.mono (by omega)))
  clear b89 b9 HB8 K8 P7 N1 N2 B7 R7 c0 c1 c2 g0 g1 g2 S7 S8 R8
  obtain ⟨⟨c0, c1, c2⟩, g0, g1, g2⟩ := R9.out.cells
  have u1 := U1.out.cell
  have u2 := U2.out.cell
  have v1 := U1.out.frozen
  have v2 := U2.out.frozen
  have h9 := R9.out.lt
  have h91 := U1.out.lt
  have h92 := U2.out.lt
  go_wp2_with fail
  generalize hWA : World.setCell (World.setCell (World.setCell (World.setCell (World.setCell w9 _ _) _ _) _ _) _ _) _ _ = WA
  have RA := Lib.hid (show Row3 WA w.heap.size (.int .i64 0) (.string ⟨#[]⟩) (.slice none 0 0) by
    rw [← hWA]
    exact ((R9.out.put _ _ _).other (p := ⟨w.heap.size + 1, 0, none⟩) _ (by simp)).other (p := ⟨w.heap.size + 1 + 1, 0, none⟩) _ (by simp only; omega))
  have A1 := Lib.hid (show Boxed WA (w.heap.size + 1) 3 (.int .i64 0) by
    rw [← hWA]
    exact boxed_otherP (Boxed.set _ (boxed_put3 U1.out (by omega))) ⟨w.heap.size + 1 + 1, 0, none⟩ (by simp only; omega))
  have A2 := Lib.hid (show Boxed WA (w.heap.size + 1 + 1) 26 (.int .i64 er) by
    rw [← hWA]
    exact Boxed.set _ (boxed_otherP (boxed_put3 U2.out (by omega)) ⟨w.heap.size + 1, 0, none⟩ (by simp only; omega)))
  have BA := Lib.hid (show Below w.heap.size w WA by
    rw [← hWA]
    exact ((below3 B9.out (Nat.le_refl _) _ _ _).setCell (p := ⟨w.heap.size + 1, 0, none⟩) (by simp) _).setCell (p := ⟨w.heap.size + 1 + 1, 0, none⟩) (by simp only; omega) _)
  have HA : ∀ b, w.heap.size + 1 + 1 < b → WA.heap[b]? = w9.heap[b]? := fun b hb => by
    rw [← hWA]
    exact (Below.heap_setCell _ _ _ _ (by simp only; omega)).trans ((Below.heap_setCell _ _ _ _ (by simp only; omega)).trans ((Below.heap_setCell _ _ _ _ (by simp only; omega)).trans ((Below.heap_setCell _ _ _ _ (by simp only; omega)).trans (Below.heap_setCell _ _ _ _ (by simp only; omega)))))
  have zA : w9.heap.size = WA.heap.size := by rw [← hWA]; simp only [setCell_size]
  clear hWA c0 c1 c2 g0 g1 g2 u1 u2 v1 v2
  refine leaves_cons (f := 126) (args := #[.pointer (some ⟨w.heap.size, 0, none⟩), .pointer (some ⟨w.heap.size + 1, 0, none⟩), .pointer (some ⟨w.heap.size + 1 + 1, 0, none⟩)]) (by simp) (by simp [invoke, go_sem, eg2]) ?_
  refine (pcatch_idle w.heap.size WA).mono ?_
  rintro e u' wz ⟨rfl, rfl, rfl⟩
  obtain ⟨⟨c0, c1, c2⟩, _⟩ := (RA.out.alloc (.cells #[.int .i64 0] 123)).cells
  have x1 := (boxed_alloc A1.out (.cells #[.int .i64 0] 123)).cell
  have x2 := (boxed_alloc A2.out (.cells #[.int .i64 0] 123)).cell
  refine ⟨.tuple #[.agg #[.int .i64 0, .string ⟨#[]⟩, .slice none 0 0], .int .i64 0, .int .i64 er], by simp [results, Tryz.results87, go_sem, c0, c1, c2, x1, x2], rfl, BA.out.alloc (by rw [← zA]; omega) _⟩
end Go.Proofs.YtgikhpmdpppenaaGreatDoor
namespace Go.Proofs.YtgikhpmdpppenaaGreatDoor
open Go.RowKit
def posT (l : List Lx.Tok) (en q : Nat) : Nat := match l[q]? with | some t => t.pos | none => en
def node0 : Value := .agg #[.int .i64 0, .string ⟨#[]⟩, .slice none 0 0]
def ParseOut (l : List Lx.Tok) (en : Nat) (chk : Nd → Nat) (r : Sx.PR Nd) (w : World) (e : Ending) (w' : World) : Prop :=
  Below w.heap.size w w' ∧
  match r with
  | .bad q => e = .returned (.tuple #[node0, .int .i64 (posT l en q : Nat), .int .i64 20])
  | .ok (.mk k s kids) q =>
    if q < l.length then e = .returned (.tuple #[node0, .int .i64 (posT l en q : Nat), .int .i64 20])
    else if chk (.mk k s kids) = 0 then ∃ va vc, e = .returned (.tuple #[.agg #[.int .i64 k, .string s, .slice va kids.length vc], .int .i64 0, .int .i64 0]) ∧ NdS (fun b => w.heap.size ≤ b) w' (.mk k s kids) (.int .i64 k) (.string s) (.slice va kids.length vc)
    else e = .returned (.tuple #[node0, .int .i64 0, .int .i64 (chk (.mk k s kids) : Nat)])
theorem posT_of (l : List Lx.Tok) (en q : Nat) : ∃ E : PE, E.ts = l ∧ E.en = en ∧ E.pos q = posT l en q := ⟨⟨0, l, none, 0, 0, 0, en, 0, 0⟩, rfl, rfl, rfl⟩
theorem parse_any (s : ByteArray) (l : List Lx.Tok) (hl : Lx.scan (bs s) = .toks l) (w : World) (hw : 2 ≤ w.heap.size) (gl : GLw w) (hs : s.size ≤ maxLen) (g : Nat) (eg : ∀ args w, (callFunc g args).run Tryz.prog w = .ok (.enter g args) w) (r : Sx.PR Nd) (hr : ∀ n q, r = .ok n q → q ≤ l.length) (chk : Nd → Nat)
    (CW : ∀ (E : PE) w, E.ts = l → E.en = s.size → PS E 0 w → Calls Tryz.prog g #[.pointer (some ⟨E.pb, 0, none⟩)] w (Gr E w r))
    (CK : ∀ k sx kids va vc w, NdR w (.mk k sx kids) (.int .i64 k) (.string sx) (.slice va kids.length vc) → Calls Tryz.prog 12 #[.agg #[.int .i64 k, .string sx, .slice va kids.length vc]] w fun e w' => e = .returned (.int .i64 (chk (.mk k sx kids) : Nat)) ∧ Below w.heap.size w w') :
    Calls Tryz.prog 87 #[.string s, F_ g] w (ParseOut l s.size chk r w) := by
  cases r with
  | bad q =>
    refine (parse_no s l hl w hw gl hs g eg q CW).mono ?_
    rintro e w' ⟨h, hb⟩
    obtain ⟨E, h1, h2, h3⟩ := posT_of l s.size q
    exact ⟨hb, by rw [h E h1 h2, h3]; rfl⟩
  | ok n q =>
    obtain ⟨k, sx, kids⟩ := n
    by_cases hq : q < l.length
    · refine (parse_left s l hl w hw gl hs g eg q k sx kids hq CW).mono ?_
      rintro e w' ⟨h, hb⟩
      obtain ⟨E, h1, h2, h3⟩ := posT_of l s.size q
      refine ⟨hb, ?_⟩
      simp only [if_pos hq]
      rw [h E h1 h2, h3]
      rfl
    · have hql : q = l.length := by have := hr _ _ rfl; omega
      by_cases h0 : chk (.mk k sx kids) = 0
      · refine (parse_yes s l hl w hw gl hs g eg q k sx kids hql (chk (.mk k sx kids)) (by rw [h0]; rfl) (fun va vc w h => CK k sx kids va vc w h) CW).mono ?_
        rintro e w' ⟨h, hb⟩
        refine ⟨hb, ?_⟩
        simp only [if_neg hq, if_pos h0]
        exact h
      · refine (parse_wrong s l hl w hw gl hs g eg q k sx kids hql (chk (.mk k sx kids)) (by rw [beq_eq_false_iff_ne]; omega) (fun va vc w h => CK k sx kids va vc w h) CW).mono ?_
        rintro e w' ⟨h, hb⟩
        refine ⟨hb, ?_⟩
        simp only [if_neg hq, if_neg h0]
        exact h
end Go.Proofs.YtgikhpmdpppenaaGreatDoor
namespace Go.Proofs.YtgikhpmdpppenaaGreatDoor
def nameB (s : ByteArray) : Bool := checkB ⟨1, s, 0⟩
def varB (s : ByteArray) : Bool := checkB ⟨2, s, 0⟩
def noneB (s : ByteArray) : Bool := s.toList.isEmpty
mutual
def typB : Nd → Bool
  | .mk k s l => if k = 31 then noneB s && (decide (l.length = 2) && typL l) else decide (k = 15) && (decide (l.length = 0) && nameB s)
def typL : List Nd → Bool
  | [] => true
  | a :: l => typB a && typL l
end
def headTyp : List Nd → Bool
  | [] => false
  | a :: _ => typB a
def bindB (s : ByteArray) (l : List Nd) : Bool := (nameB s || varB s) && (decide (l.length = 1) || (decide (l.length = 2) && headTyp l))
mutual
def termB : Nd → Bool
  | .mk k s l => if k = 15 then nameB s && (termL l && decide (l.length ≤ 8)) else if k = 16 then varB s && (termL l && decide (l.length ≤ 8)) else decide (k = 17) && (bindB s l && termE l)
def termL : List Nd → Bool
  | [] => true
  | a :: l => termB a && termL l
def termE : List Nd → Bool
  | [] => false
  | a :: l => if l.isEmpty then termB a else termE l
end
def isBinary (k : Int) : Bool := decide (22 ≤ k) && decide (k ≤ 28)
mutual
def formB : Nd → Bool
  | .mk k s l =>
    if k = 15 then termB (.mk k s l)
    else if k = 18 ∨ k = 19 then bindB s l && formE l
    else if k = 20 ∨ k = 21 then noneB s && decide (l.length = 0)
    else if k = 29 ∨ k = 30 then noneB s && (decide (l.length = 1) && formL l)
    else isBinary k && (noneB s && (decide (l.length = 2) && formL l))
def formL : List Nd → Bool
  | [] => true
  | a :: l => formB a && formL l
def formE : List Nd → Bool
  | [] => false
  | a :: l => if l.isEmpty then formB a else formE l
end
def loneB : Nd → Bool
  | .mk k s l => decide (k = 15) && (decide (l.length = 0) && nameB s)
end Go.Proofs.YtgikhpmdpppenaaGreatDoor
namespace Go.Proofs.YtgikhpmdpppenaaGreatDoor
namespace Lx
def nameLen (r : Bs) : Nat :=
  let j := runLen r
  if r[j]? = some 64 ∧ (r[j + 1]?.map small) = some true then j + 1 + runLen (r.drop (j + 1)) else j
def longR (r : Bs) : Bool :=
  ([45, 111].isPrefixOf r && runLen (r.drop 1) == 1) || [45, 62].isPrefixOf r || [61, 62].isPrefixOf r || [60, 61].isPrefixOf r
def tokR (r : Bs) : Option (Nat × Nat) :=
  match r[0]? with
  | none => none
  | some c =>
    if small c then
      let j := nameLen r
      if r.take j = [111] ∧ r[j]? = some 45 then some (3, j + 1)
      else if words.contains (r.take j) then some (4, j) else some (1, j)
    else if capital c then some (2, runLen r)
    else if signB c then some (3, 1)
    else if longR r then some (3, 2) else none
theorem nameTo_rel (l : Bs) (i : Nat) : nameTo l i = i + nameLen (l.drop i) := by
  have h1 : (l.drop i)[runLen (l.drop i)]? = l[runTo l i]? := List.getElem?_drop
  have h2 : (l.drop i)[runLen (l.drop i) + 1]? = l[runTo l i + 1]? := by rw [List.getElem?_drop]; rfl
  unfold nameTo nameLen
  simp only [h1, h2]
  by_cases h : l[runTo l i]? = some 64 ∧ (l[runTo l i + 1]?.map small) = some true
  · simp only [if_pos h]
    show runTo l i + 1 + runLen (l.drop (runTo l i + 1)) = _
    rw [List.drop_drop, show i + (runLen (l.drop i) + 1) = runTo l i + 1 from rfl]
    unfold runTo
    omega
  · simp only [if_neg h]; rfl
theorem isLong_rel (l : Bs) (i : Nat) : isLong l i = longR (l.drop i) := by
  simp only [isLong, longR, pre, runTo, List.drop_drop]
  congr 4
  by_cases h : runLen (l.drop (i + 1)) = 1
  · rw [h]; simp
  · rw [show (runLen (l.drop (i + 1)) == 1) = false from by simpa using h, show (i + 1 + runLen (l.drop (i + 1)) == i + 2) = false from by rw [beq_eq_false_iff_ne]; omega]
theorem tokAt_rel (l : Bs) (i : Nat) : tokAt l i = (tokR (l.drop i)).map fun p => (p.1, i + p.2) := by
  unfold tokAt tokR
  rw [List.getElem?_drop, Nat.add_zero]
  cases l[i]? with
  | none => rfl
  | some c =>
    simp only [slice, nameTo_rel, isLong_rel, runTo, List.getElem?_drop, Nat.add_sub_cancel_left]
    split
    · split
      · rfl
      · split <;> rfl
    · split
      · rfl
      · split
        · rfl
        · split <;> rfl
def scanS : Nat → List Tok → Nat → Bs → Res
  | 0, pre, _, _ => .toks pre
  | f + 1, pre, o, r =>
    if r = [] then .toks pre
    else match tokR r with
      | none => .bad o 10
      | some (k, n) =>
        if pre.length = 6000 then .bad o 2
        else if 40 < n then .bad o 11
        else scanS f (pre ++ [⟨k, r.take n, o⟩]) (o + n + skipC false (r.drop n)) ((r.drop n).drop (skipC false (r.drop n)))
theorem scanT_rel (l : Bs) : ∀ (f : Nat) (pre : List Tok) (i : Nat), scanT l f pre i = scanS f pre i (l.drop i)
  | 0, _, _ => rfl
  | f + 1, pre, i => by
    simp only [scanT, scanS]
    by_cases h : l.length ≤ i
    · rw [if_pos h, if_pos (List.drop_of_length_le h)]
    · rw [if_neg h, if_neg (by intro e; have := congrArg List.length e; simp at this; omega), tokAt_rel]
      cases tokR (l.drop i) with
      | none => rfl
      | some p =>
        obtain ⟨k, n⟩ := p
        simp only [Option.map_some]
        split
        · rfl
        · rw [Nat.add_sub_cancel_left]
          split
          · rfl
          · rw [scanT_rel l f, slice, Nat.add_sub_cancel_left, skipTo, List.drop_drop, List.drop_drop]
def scanP (f : Nat) (pre : List Tok) (o : Nat) (r : Bs) : Res := scanS f pre (o + skipC false r) (r.drop (skipC false r))
theorem scanS_step {f : Nat} {pre : List Tok} {o k n : Nat} {r : Bs} (h0 : r ≠ []) (h : tokR r = some (k, n)) (h6 : pre.length ≠ 6000) (h4 : ¬ 40 < n) :
    scanS (f + 1) pre o r = scanP f (pre ++ [⟨k, r.take n, o⟩]) (o + n) (r.drop n) := by
  simp only [scanS, scanP]; rw [if_neg h0, h]; simp only; rw [if_neg h6, if_neg h4]
theorem scan_rel (l : Bs) : scan l = if 20000 < l.length then .bad 0 2 else scanP (l.length + 1) [] 0 l := by
  unfold scan; rw [scanT_rel]; unfold skipTo scanP; simp only [List.drop_zero, Nat.zero_add]
theorem tokR_lt {r : Bs} {k n : Nat} (h : tokR r = some (k, n)) : 0 < n ∧ n ≤ r.length := by
  have e := tokAt_rel r 0
  rw [List.drop_zero, h] at e
  have := tokAt_lt (l := r) (i := 0) (k := k) (j := 0 + n) (by rw [e]; rfl)
  omega
theorem scanS_inv {f : Nat} {pre l : List Tok} {o : Nat} {r : Bs} (h : scanS (f + 1) pre o r = .toks l) :
    (r = [] ∧ l = pre) ∨ ∃ k n, r ≠ [] ∧ tokR r = some (k, n) ∧ pre.length ≠ 6000 ∧ ¬ 40 < n ∧ scanP f (pre ++ [⟨k, r.take n, o⟩]) (o + n) (r.drop n) = .toks l := by
  simp only [scanS] at h
  by_cases h0 : r = []
  · rw [if_pos h0] at h; exact .inl ⟨h0, by simpa using h.symm⟩
  · rw [if_neg h0] at h
    cases ht : tokR r with
    | none => rw [ht] at h; simp at h
    | some p =>
      obtain ⟨k, n⟩ := p
      rw [ht] at h
      simp only at h
      by_cases h6 : pre.length = 6000
      · rw [if_pos h6] at h; simp at h
      · rw [if_neg h6] at h
        by_cases h4 : 40 < n
        · rw [if_pos h4] at h; simp at h
        · rw [if_neg h4] at h; exact .inr ⟨k, n, h0, rfl, h6, h4, h⟩
def sh (d : Nat) (t : Tok) : Tok := ⟨t.kind, t.text, t.pos + d⟩
theorem scanS_shift (d : Nat) : ∀ (f : Nat) (pre P l : List Tok) (o : Nat) (r : Bs), P.length ≤ 6000 → scanS f pre o r = .toks l →
    ∃ rest, l = pre ++ rest ∧ ((P.length + rest.length ≤ 6000 ∧ scanS f P (o + d) r = .toks (P ++ rest.map (sh d))) ∨ (6000 < P.length + rest.length ∧ ∃ p, scanS f P (o + d) r = .bad p 2))
  | 0, pre, P, l, o, r, hP, h => by
    simp only [scanS, Res.toks.injEq] at h
    subst h
    exact ⟨[], by simp, .inl ⟨by simpa using hP, by simp [scanS]⟩⟩
  | f + 1, pre, P, l, o, r, hP, h => by
    rcases scanS_inv h with ⟨rfl, rfl⟩ | ⟨k, n, h0, ht, h6, h4, hs⟩
    · exact ⟨[], by simp, .inl ⟨by simpa using hP, by simp [scanS]⟩⟩
    · by_cases hP6 : P.length = 6000
      · obtain ⟨rest, hl, _⟩ := scanS_shift d f _ [] l _ _ (by simp) hs
        refine ⟨⟨k, r.take n, o⟩ :: rest, by rw [hl, List.append_assoc]; rfl, .inr ⟨by simp; omega, o + d, ?_⟩⟩
        simp only [scanS]
        rw [if_neg h0, ht]
        simp only
        rw [if_pos hP6]
      · obtain ⟨rest, hl, hc⟩ := scanS_shift d f _ (P ++ [⟨k, r.take n, o + d⟩]) l _ _ (by rw [List.length_append, List.length_singleton]; omega) hs
        refine ⟨⟨k, r.take n, o⟩ :: rest, by rw [hl, List.append_assoc]; rfl, ?_⟩
        rw [scanS_step h0 ht hP6 h4]
        unfold scanP
        rw [show o + d + n + skipC false (r.drop n) = o + n + skipC false (r.drop n) + d from by omega]
        rcases hc with ⟨h1, h2⟩ | ⟨h1, p, h2⟩
        · refine .inl ⟨by simp only [List.length_append, List.length_cons, List.length_nil] at h1 ⊢; omega, ?_⟩
          rw [h2, List.append_assoc]; rfl
        · exact .inr ⟨by simp only [List.length_append, List.length_cons, List.length_nil] at h1 ⊢; omega, p, h2⟩
end Lx
end Go.Proofs.YtgikhpmdpppenaaGreatDoor
namespace Go.Proofs.YtgikhpmdpppenaaGreatDoor
open Go.RowKit
theorem scan_one {l : Lx.Bs} {k : Nat} (h4 : l.length ≤ 40) (h0 : l ≠ []) (hsk : Lx.skipC false l = 0) (ht : Lx.tokR l = some (k, l.length)) : Lx.scan l = .toks [⟨k, l, 0⟩] := by
  rw [Lx.scan_rel, if_neg (by omega)]
  unfold Lx.scanP
  rw [hsk, List.drop_zero, Lx.scanS_step h0 ht (by simp) (by omega)]
  unfold Lx.scanP
  rw [List.drop_of_length_le (Nat.le_refl _), List.take_of_length_le (Nat.le_refl _)]
  have hpos : 0 < l.length := List.length_pos_iff.2 h0
  obtain ⟨f, hf⟩ : ∃ f, l.length = f + 1 := ⟨l.length - 1, by omega⟩
  rw [hf]
  simp [Lx.scanS, Lx.skipC]
theorem scan_one_inv {l : Lx.Bs} {t : Lx.Tok} (h : Lx.scan l = .toks [t]) (ht : t.text = l) (h0 : l ≠ []) :
    l.length ≤ 40 ∧ Lx.skipC false l = 0 ∧ Lx.tokR l = some (t.kind, l.length) := by
  rw [Lx.scan_rel] at h
  split at h
  · cases h
  · unfold Lx.scanP at h
    rcases Lx.scanS_inv h with ⟨_, e⟩ | ⟨k, n, hne, htk, _, h40, hs⟩
    · cases e
    · have hn := Lx.tokR_lt htk
      obtain ⟨rest, hl, _⟩ := Lx.scanS_shift 0 _ _ [] _ _ _ (by simp) hs
      rw [List.nil_append, List.cons_append, List.nil_append, List.cons.injEq] at hl
      have e1 := hl.1
      subst e1
      simp only at ht
      have hlen := congrArg List.length ht
      rw [List.length_take, List.length_drop] at hlen
      rw [List.length_drop] at hn
      have hpos : 0 < l.length := List.length_pos_iff.2 h0
      have hk0 : Lx.skipC false l = 0 := by omega
      rw [hk0, List.drop_zero] at htk
      have hnl : n = l.length := by omega
      subst hnl
      exact ⟨by omega, hk0, htk⟩
theorem skip_zero (c : UInt8) (r : Lx.Bs) : Lx.skipC false (c :: r) = 0 ↔ (Lx.blank c = false ∧ c.toNat ≠ 37) := by
  simp only [Lx.skipC]
  by_cases hb : Lx.blank c = true
  · rw [if_pos hb, hb]; simp
  · rw [if_neg hb]
    by_cases h37 : c.toNat = 37
    · rw [if_pos h37]; simp [h37]
    · rw [if_neg h37]; simp [h37, hb]
theorem check_ref (a : AT) : checkB a = refB a := by
  have hrel := Lx.tokAt_rel (bs a.t) 0
  rw [List.drop_zero] at hrel
  have hsz : (bs a.t).length = a.t.size := bs_len a.t
  have htext : ∀ l : Lx.Bs, (((⟨l.toArray⟩ : ByteArray).toList == a.t.toList) = true) ↔ l = bs a.t := fun l => by
    rw [ByteArray.toList_eq, ByteArray.toList_eq, beq_iff_eq]; rfl
  rw [Bool.eq_iff_iff]
  unfold checkB scansB refB refTok
  rw [hrel]
  constructor
  · intro h
    cases hs : Lx.scan (bs a.t) with
    | bad p er => rw [hs] at h; cases h
    | toks ts =>
      rw [hs] at h
      match ts, h with
      | [], h => simp [sameB] at h
      | [t], h =>
        simp only [List.map_cons, List.map_nil, sameB, ofTok, Bool.and_true, Bool.and_eq_true, beq_iff_eq] at h
        have ht : t.text = bs a.t := (htext _).1 (by rw [beq_iff_eq]; exact h.2)
        have h0 : bs a.t ≠ [] := by
          intro e; rw [e] at hs; simp [Lx.scan, Lx.scanT, Lx.skipTo, Lx.skipC] at hs
        obtain ⟨h40, hk, htk⟩ := scan_one_inv hs ht h0
        cases hl : bs a.t with
        | nil => exact absurd hl h0
        | cons c r =>
          rw [hl] at hk
          obtain ⟨hb, h37⟩ := (skip_zero c r).1 hk
          rw [← hl, htk]
          simp only [hl, List.getElem?_cons_zero, Option.map_some, hb, decide_eq_false h37, Bool.not_false, Bool.and_true, Bool.and_eq_true, decide_eq_true_eq]
          exact ⟨by omega, h.1, by rw [← hl]; omega⟩
      | t :: u :: ts, h => simp [sameB] at h
  · intro h
    cases hl : bs a.t with
    | nil => rw [hl] at h; simp at h
    | cons c r =>
      rw [hl] at h
      simp only [List.getElem?_cons_zero, Bool.and_eq_true, decide_eq_true_eq, Bool.not_eq_true'] at h
      obtain ⟨⟨⟨h40, hb⟩, h37⟩, hT⟩ := h
      cases htk : Lx.tokR (c :: r) with
      | none => rw [htk] at hT; simp at hT
      | some p =>
        obtain ⟨k, n⟩ := p
        rw [htk] at hT
        simp only [Option.map_some, Bool.and_eq_true, decide_eq_true_eq] at hT
        have hn : n = (c :: r).length := by rw [← hl, hsz]; omega
        subst hn
        rw [scan_one (by rw [← hl, hsz]; omega) (by simp) ((skip_zero c r).2 ⟨hb, by simpa using h37⟩) htk]
        simp only [List.map_cons, List.map_nil, sameB, ofTok, Bool.and_true, Bool.and_eq_true, beq_iff_eq]
        exact ⟨hT.1, by have := (htext (c :: r)).2 hl.symm; rwa [beq_iff_eq] at this⟩
end Go.Proofs.YtgikhpmdpppenaaGreatDoor
namespace Go.Proofs.YtgikhpmdpppenaaGreatDoor
open Go.RowKit
theorem rCheck_v (V : Bool) (a : AT) (w : World) (hV : checkB a = V) :
    Calls Tryz.prog 124 #[.agg #[.int .i64 a.k, .string a.t, .int .i64 a.p]] w fun e w' => e = .returned (.int .i64 (if V then 0 else 12)) ∧ Below w.heap.size w w' := by
  rw [check_ref] at hV
  by_cases h0 : a.t.size = 0
  · have : refB a = false := by
      unfold refB
      rw [List.getElem?_eq_none (by rw [bs_len]; omega)]
    rw [this] at hV
    subst hV
    exact rCheck_empty a w h0
  · by_cases h40 : 40 < a.t.size
    · have : refB a = false := by
        unfold refB
        rw [List.getElem?_eq_getElem (by rw [bs_len]; omega)]
        simp only [decide_eq_false (show ¬ a.t.size ≤ 40 by omega), Bool.false_and]
      rw [this] at hV
      subst hV
      exact rCheck_long a w h40
    · exact rCheck_mid V a w (by omega) (by omega) hV
set_option maxRecDepth 100000 in
set_option maxHeartbeats 400000 in
theorem rIsName_v (V : Bool) (s : ByteArray) (w : World) (hV : checkB ⟨1, s, 0⟩ = V) :
    Calls Tryz.prog 75 #[.string s] w fun e w' => e = .returned (.bool V) ∧ Below w.heap.size w w' := by
  have C := Lib.hid (rCheck_v V ⟨1, s, 0⟩ w hV)
  clear hV
  go_enter Tryz.func75, Tryz.ntmps75
  go_wp2_with fail
  refine C.out.mono ?_
  clear C
  rintro e w1 ⟨rfl, hb⟩
  cases V
  · go_wp2
    go_ret
    exact ⟨rfl, hb⟩
  · go_wp2
    go_ret
    exact ⟨rfl, hb⟩
set_option maxRecDepth 100000 in
set_option maxHeartbeats 400000 in
theorem rIsVar_v (V : Bool) (s : ByteArray) (w : World) (hV : checkB ⟨2, s, 0⟩ = V) :
    Calls Tryz.prog 76 #[.string s] w fun e w' => e = .returned (.bool V) ∧ Below w.heap.size w w' := by
  have C := Lib.hid (rCheck_v V ⟨2, s, 0⟩ w hV)
  clear hV
  go_enter Tryz.func76, Tryz.ntmps76
  go_wp2_with fail
  refine C.out.mono ?_
  clear C
  rintro e w1 ⟨rfl, hb⟩
  cases V
  · go_wp2
    go_ret
    exact ⟨rfl, hb⟩
  · go_wp2
    go_ret
    exact ⟨rfl, hb⟩
end Go.Proofs.YtgikhpmdpppenaaGreatDoor
namespace Go.Proofs.YtgikhpmdpppenaaGreatDoor
open Go.RowKit
theorem nd3 {w : World} {k : Int} {s : ByteArray} {v2 : Value} {t : TypeId} {h : Nat} (hh : w.heap.size = h) :
    (w.alloc (.cells #[.int .i64 k, .string s, v2] t)).cell? ⟨h, 0, none⟩ = some (.int .i64 k) ∧ (w.alloc (.cells #[.int .i64 k, .string s, v2] t)).cell? ⟨h, 1, none⟩ = some (.string s) ∧ (w.alloc (.cells #[.int .i64 k, .string s, v2] t)).cell? ⟨h, 2, none⟩ = some v2 := by
  rw [← hh]
  exact ⟨(World.cell?_alloc_at _ _ _ _ rfl).trans rfl, (World.cell?_alloc_at _ _ _ _ rfl).trans rfl, (World.cell?_alloc_at _ _ _ _ rfl).trans rfl⟩
set_option maxRecDepth 100000 in
set_option maxHeartbeats 2000000 in
theorem rIsType (n : Nat) : ∀ (t : Nd) (w : World) (v0 v1 v2 : Value), t.sz ≤ n → NdR w t v0 v1 v2 →
    Calls Tryz.prog 59 #[.agg #[v0, v1, v2]] w fun e w' => e = .returned (.bool (typB t)) ∧ Below w.heap.size w w' := by
  induction n with
  | zero => intro t w v0 v1 v2 h; cases t; simp only [Nd.sz] at h; omega
  | succ n ih =>
    intro t w v0 v1 v2 hsz ht
    obtain ⟨k, s, l, a, cap, rfl, rfl, rfl, rfl, hs, hl⟩ := ht.form
    have IH := Lib.hid ih
    clear ih
    unfold maxLen at hl
    by_cases hk : k = 31
    · subst hk
      cases hse : s.toList.isEmpty with
      | false =>
        have HS : Hid (typB (.mk 31 s l) = false) := Lib.hid (by simp only [typB]; rw [if_pos trivial]; unfold noneB; rw [hse]; rfl)
        clear ht
        go_enter Tryz.func59, Tryz.ntmps59
        go_wp2
        go_ret
        exact ⟨by rw [HS.out]; rfl, (Below.refl _ w).alloc (Nat.le_refl _) _⟩
      | true =>
        by_cases hll : l.length = 2
        · have hl2 : ((l.length : Int) == 2) = true := by rw [hll]; rfl
          obtain ⟨h, hh⟩ : ∃ h, w.heap.size = h := ⟨_, rfl⟩
          obtain ⟨b, o, k1, s1, l1, a1, c1, rfl, e1, x0, x1, x2, r1⟩ := ht.kid 0 (by omega)
          obtain ⟨b', o', k2, s2, l2, a2, c2, hbo, e2, y0, y1, y2, r2⟩ := ht.kid 1 (by omega)
          obtain ⟨rfl, rfl⟩ : b = b' ∧ o = o' := by simpa using hbo
          have hsz1 := Nd.kid_lt 31 s l 0 (by omega)
          have hsz2 := Nd.kid_lt 31 s l 1 (by omega)
          rw [e1] at hsz1
          rw [e2] at hsz2
          have HS : Hid (typB (.mk 31 s l) = (typB (.mk k1 s1 l1) && typB (.mk k2 s2 l2))) := Lib.hid (by
            match l, hll, e1, e2 with
            | [p, q], _, e1, e2 =>
              simp only [List.getElem_cons_zero, List.getElem_cons_succ] at e1 e2
              subst e1 e2
              rw [typB]
              rw [if_pos rfl]
              simp only [typL, Bool.and_true]
              unfold noneB
              rw [hse]
              simp)
          obtain ⟨V1, hV1⟩ : ∃ V, typB (.mk k1 s1 l1) = V := ⟨_, rfl⟩
          obtain ⟨V2, hV2⟩ : ∃ V, typB (.mk k2 s2 l2) = V := ⟨_, rfl⟩
          rw [hV1, hV2] at HS
          have C1 := Lib.hid (fun w h => IH.out (.mk k1 s1 l1) w _ _ _ (by omega) (h : NdR w _ (.int .i64 k1) (.string s1) (.slice a1 l1.length c1)))
          have C2 := Lib.hid (fun w h => IH.out (.mk k2 s2 l2) w _ _ _ (by omega) (h : NdR w _ (.int .i64 k2) (.string s2) (.slice a2 l2.length c2)))
          rw [hV1] at C1
          rw [hV2] at C2
          simp only [Nat.zero_mul, Nat.add_zero] at x0 x1 x2
          have nb := lt_of_cell x0
          have R1 := Lib.hid r1
          have R2 := Lib.hid r2
          have X0 := Lib.hid x0
          have Y0 := Lib.hid (And.intro y0 (And.intro y1 y2))
          have hb0 := Lib.hid ((Below.refl w.heap.size w).alloc (Nat.le_refl _) (.cells #[.int .i64 31, .string s, .slice (some ⟨b, o, none⟩) l.length cap] 24))
          have D0 := Lib.hid (nd3 (w := w) (k := 31) (s := s) (v2 := .slice (some ⟨b, o, none⟩) l.length cap) (t := 24) hh)
          have HH := Lib.hid hh
          have i0 : (0 : Int) < (l.length : Int) := by omega
          have i1 : (1 : Int) < (l.length : Int) := by omega
          have j0 : 0 < l.length := by omega
          have j1 : 1 < l.length := by omega
          clear ht e1 e2 hV1 hV2 hsz hsz1 hsz2 r1 r2 y0 y1 y2 hbo hh hll
          go_enter Tryz.func59, Tryz.ntmps59
          go_wp2_with fail
          refine (C1.out _ (R1.out.later hb0.out)).mono ?_
          rintro e w1 ⟨rfl, hb1⟩
          have B1 : Hid (Below w.heap.size w w1) := Lib.hid (hb0.out.trans (hb1.mono hb0.out.size))
          have hz1 := hb1.size
          have hh := HH.out
          rw [World.size_alloc] at hz1
          rw [hh]
          rw [hh] at hz1 nb
          have d2 : w1.cell? ⟨h, 2, none⟩ = some (.slice (some ⟨b, o, none⟩) l.length cap) := (hb1.cell (p := ⟨h, 2, none⟩) (by rw [World.size_alloc, hh]; exact Nat.lt_succ_self h)).trans D0.out.2.2
          obtain ⟨y0, y1, y2⟩ := Y0.out
          have z0 := (B1.out.cell (p := ⟨b, o + 1 * 3, none⟩) (by rw [hh]; exact nb)).trans y0
          have z1 := (B1.out.cell (p := ⟨b, o + 1 * 3 + 1, none⟩) (by rw [hh]; exact nb)).trans y1
          have z2 := (B1.out.cell (p := ⟨b, o + 1 * 3 + 2, none⟩) (by rw [hh]; exact nb)).trans y2
          simp only [Nat.one_mul] at z0 z1 z2
          have l1 := lt_of_cell z0
          clear C1 hb1 x0 x1 x2 y0 y1 y2 hh
          cases V1 with
          | false =>
            go_wp2
            go_ret
            exact ⟨by rw [HS.out]; rfl, by rw [HH.out] at *; exact B1.out⟩
          | true =>
            go_wp2_with fail
            refine (C2.out _ (R2.out.later B1.out)).mono ?_
            rintro e w2 ⟨rfl, hb2⟩
            have B2 : Hid (Below w.heap.size w w2) := Lib.hid (B1.out.trans (hb2.mono B1.out.size))
            clear C2 hb2 z0 z1 z2 d2
            go_wp2
            go_ret
            exact ⟨by rw [HS.out]; rfl, B2.out⟩
        · have hl2 : ((l.length : Int) == 2) = false := by rw [beq_eq_false_iff_ne]; omega
          have HS : Hid (typB (.mk 31 s l) = false) := Lib.hid (by rw [typB, if_pos rfl, decide_eq_false hll, Bool.false_and, Bool.and_false])
          clear ht hll
          go_enter Tryz.func59, Tryz.ntmps59
          go_wp2
          go_ret
          exact ⟨by rw [HS.out]; rfl, (Below.refl _ w).alloc (Nat.le_refl _) _⟩
    · have hk2 : ((k : Int) == 31) = false := by rw [beq_eq_false_iff_ne]; exact hk
      have HS : Hid (typB (.mk k s l) = (decide (k = 15) && (decide (l.length = 0) && nameB s))) := Lib.hid (by rw [typB, if_neg hk])
      obtain ⟨V, hV⟩ : ∃ V, nameB s = V := ⟨_, rfl⟩
      have C := Lib.hid (fun w => rIsName_v V s w hV)
      rw [hV] at HS
      clear hk ht hsz hV
      by_cases h15 : k = 15
      · subst h15
        by_cases hll : l.length = 0
        · have hl2 : ((l.length : Int) == 0) = true := by rw [hll]; rfl
          rw [decide_eq_true rfl, decide_eq_true hll, Bool.true_and, Bool.true_and] at HS
          clear hll
          go_enter Tryz.func59, Tryz.ntmps59
          go_wp2_with fail
          refine (C.out _).mono ?_
          rintro e w1 ⟨rfl, hb1⟩
          have Hb1 := Lib.hid hb1
          clear C hb1
          go_wp2
          go_ret
          exact ⟨by rw [HS.out]; rfl, ((Below.refl _ w).alloc (Nat.le_refl _) _).trans (Hb1.out.mono (by simp))⟩
        · have hl2 : ((l.length : Int) == 0) = false := by rw [beq_eq_false_iff_ne]; omega
          rw [decide_eq_false hll, Bool.false_and, Bool.and_false] at HS
          clear hll
          go_enter Tryz.func59, Tryz.ntmps59
          go_wp2
          go_ret
          exact ⟨by rw [HS.out]; rfl, (Below.refl _ w).alloc (Nat.le_refl _) _⟩
      · have hk3 : ((k : Int) == 15) = false := by rw [beq_eq_false_iff_ne]; exact h15
        rw [decide_eq_false h15, Bool.false_and] at HS
        clear h15
        go_enter Tryz.func59, Tryz.ntmps59
        go_wp2
        go_ret
        exact ⟨by rw [HS.out]; rfl, (Below.refl _ w).alloc (Nat.le_refl _) _⟩
end Go.Proofs.YtgikhpmdpppenaaGreatDoor
namespace Go.Proofs.YtgikhpmdpppenaaGreatDoor
open Go.RowKit
mutual
def Nd.dp : Nd → Nat
  | .mk _ _ l => 1 + Nd.dpL l
def Nd.dpL : List Nd → Nat
  | [] => 0
  | a :: l => max (Nd.dp a) (Nd.dpL l)
end
theorem dpL_take : ∀ (l : List Nd) (i : Nat) (h : i < l.length), Nd.dpL (l.take (i + 1)) = max (Nd.dpL (l.take i)) (l[i]).dp
  | a :: l, 0, _ => by simp [Nd.dpL]
  | a :: l, i + 1, h => by
    have := dpL_take l i (by simpa using h)
    simp only [List.take_succ_cons, Nd.dpL, List.getElem_cons_succ] at this ⊢
    omega
set_option maxRecDepth 100000 in
set_option maxHeartbeats 2000000 in
theorem rDeep (n : Nat) : ∀ (t : Nd) (m : Nat) (w : World) (v0 v1 v2 : Value), t.sz ≤ n → m ≤ 1000000000 → NdR w t v0 v1 v2 →
    Calls Tryz.prog 58 #[.agg #[v0, v1, v2], .int .i64 (m : Int)] w fun e w' => e = .returned (.int .i64 ((min t.dp (m + 1) : Nat) : Int)) ∧ Below w.heap.size w w' := by
  induction n with
  | zero => intro t m w v0 v1 v2 h; cases t; simp only [Nd.sz] at h; omega
  | succ n ih =>
    intro t m w v0 v1 v2 hsz hm ht
    obtain ⟨k, s, l, a, cap, rfl, rfl, rfl, rfl, hs, hl⟩ := ht.form
    have IH := Lib.hid ih
    clear ih
    unfold maxLen at hl
    have HT := Lib.hid ht
    have Hsz : Hid (∀ i, (h : i < l.length) → (l[i]).sz ≤ n) := Lib.hid fun i h => by have := Nd.kid_lt k s l i h; omega
    obtain ⟨K, hK⟩ : ∃ K, min (Nd.mk k s l).dp (m + 1) = K := ⟨_, rfl⟩
    have HK := Lib.hid hK
    rw [hK]
    clear ht hsz hK
    go_enter Tryz.func58, Tryz.ntmps58
    go_wp2
    obtain ⟨h, hh⟩ : ∃ h, w.heap.size = h := ⟨_, rfl⟩
    obtain ⟨wz, hwz⟩ : ∃ wz, w.alloc (Obj.cells #[Value.int IntKind.i64 k, Value.string s, Value.slice a l.length cap] 24) = wz := ⟨_, rfl⟩
    have hB : Hid (Below w.heap.size w wz) := Lib.hid (by rw [← hwz]; exact (Below.refl _ w).alloc (Nat.le_refl _) _)
    have hz : wz.heap.size = h + 1 := by rw [← hwz]; simp [hh]
    have g0 : wz.cell? ⟨h, 2, none⟩ = some (.slice a l.length cap) := by
      rw [← hwz, ← hh]; exact (World.cell?_alloc_at _ _ _ _ rfl).trans rfl
    have HG0 := Lib.hid g0
    have Hz := Lib.hid hz
    have HTz := Lib.hid (HT.out.later hB.out)
    rw [hwz, hh]
    clear hwz hh hz g0 HT
    go_loopw [5, 6] (fun v5 v6 wr => ∃ i q : Nat, i ≤ l.length ∧ q ≤ m ∧ v5 = .int .i64 (q : Int) ∧ v6 = .int .i64 (i : Int) ∧ Hid (min (Nd.dpL (l.take i)) m = q) ∧ Hid (Below wz.heap.size wz wr)) (fun _ v6 _ => l.length - (intOf v6).toNat)
    case atStart => exact ⟨0, 0, Nat.zero_le _, Nat.zero_le _, rfl, rfl, Lib.hid (by simp [Nd.dpL]), Below.refl _ _⟩
    case round =>
      obtain ⟨i, q, hi, hqm, rfl, rfl, hrun, hbl⟩ := hrel
      have g0 := (hbl.out.cell (p := ⟨h, 2, none⟩) (by have := Hz.out; simp only; omega)).trans HG0.out
      by_cases hlt : i < l.length
      · have hlt' : (i : Int) < (l.length : Int) := by omega
        have hi0 : (0 : Int) ≤ (i : Int) := by omega
        by_cases hqq : 0 < m
        · have hqq' : (0 : Int) < (m : Int) := by omega
          obtain ⟨b, o, k1, s1, l1, a1, c1, rfl, e1, x0, x1, x2, r1⟩ := (HTz.out.later hbl.out).kid i hlt
          have hsz1 := Hsz.out i hlt
          have Hst := Lib.hid (dpL_take l i hlt)
          rw [e1] at hsz1 Hst
          obtain ⟨Q, hQ⟩ : ∃ Q, min (Nd.mk k1 s1 l1).dp (m - 1 + 1) = Q := ⟨_, rfl⟩
          have C := Lib.hid (IH.out (.mk k1 s1 l1) (m - 1) wr _ _ _ hsz1 (by omega) r1)
          rw [hQ, show ((m - 1 : Nat) : Int) = (m : Int) - 1 from by omega] at C
          have hQm : Q ≤ m := by omega
          have HQ := Lib.hid hQ
          have L0 := lt_of_cell g0
          have L2 := lt_of_cell x0
          clear e1 hQ r1
          go_wp2_with fail
          refine C.out.mono ?_
          clear C
          rintro e w5 ⟨rfl, hb5⟩
          have Hb5 : Hid (Below wz.heap.size wz w5) := Lib.hid (hbl.out.trans (hb5.mono hbl.out.size))
          clear hb5 x0 x1 x2 g0
          go_wp2
          go_roundw
          case rel => exact ⟨i + 1, max q Q, hlt, by omega, by push_cast; rw [show max (q : Int) (Q : Int) = ((max q Q : Nat) : Int) from by omega], by push_cast; rfl, Lib.hid (by
            have h1 := hrun.out
            have h2 := Hst.out
            have h3 := HQ.out
            omega), Hb5⟩
          case measure => simp [intOf]; omega
        · have hqq' : ¬ ((0 : Int) < (m : Int)) := by omega
          have HE : Hid (q + 1 = K) := Lib.hid (by
            have h2 := HK.out
            simp only [Nd.dp] at h2
            omega)
          go_wp2
          go_ret
          exact ⟨by rw [← HE.out]; push_cast; rfl, hB.out.trans (hbl.out.mono hB.out.size)⟩
      · have hlt' : ¬ ((i : Int) < (l.length : Int)) := by omega
        have HE : Hid (q + 1 = K) := Lib.hid (by
          have h1 := hrun.out
          have h2 := HK.out
          rw [List.take_of_length_le (by omega)] at h1
          simp only [Nd.dp] at h2
          omega)
        go_wp2
        go_ret
        exact ⟨by rw [← HE.out]; push_cast; rfl, hB.out.trans (hbl.out.mono hB.out.size)⟩
end Go.Proofs.YtgikhpmdpppenaaGreatDoor
namespace Go.Proofs.YtgikhpmdpppenaaGreatDoor
open Go.RowKit
def NdL (w : World) (l : List Nd) (v : Value) : Prop := ∃ k s v0 v1, NdR w (.mk k s l) v0 v1 v
theorem NdL.later {w w' : World} (hb : Below w.heap.size w w') {l : List Nd} {v : Value} (h : NdL w l v) : NdL w' l v := by
  obtain ⟨k, s, v0, v1, h⟩ := h
  exact ⟨k, s, v0, v1, h.later hb⟩
theorem NdL.form {w : World} {l : List Nd} {v : Value} (h : NdL w l v) : ∃ a cap, v = .slice a l.length cap ∧ l.length ≤ maxLen := by
  obtain ⟨k, s, v0, v1, h⟩ := h
  obtain ⟨k', s', l', a, cap, e, _, _, rfl, _, hl⟩ := h.form
  cases e
  exact ⟨a, cap, rfl, hl⟩
theorem termL_iff : ∀ (l : List Nd), termL l = true ↔ ∀ i, (h : i < l.length) → termB l[i] = true
  | [] => by simp [termL]
  | a :: l => by
    simp only [termL, Bool.and_eq_true, termL_iff l]
    constructor
    · rintro ⟨h1, h2⟩ i hi
      cases i with
      | zero => exact h1
      | succ i => exact h2 i (by simpa using hi)
    · intro h
      exact ⟨h 0 (by simp), fun i hi => h (i + 1) (by simpa using hi)⟩
set_option maxRecDepth 100000 in
set_option maxHeartbeats 1000000 in
theorem rAreTerms (n : Nat) (ih : ∀ (t : Nd) (w : World) (v0 v1 v2 : Value), t.sz ≤ n → NdR w t v0 v1 v2 →
    Calls Tryz.prog 60 #[.agg #[v0, v1, v2]] w fun e w' => e = .returned (.bool (termB t)) ∧ Below w.heap.size w w')
    (l : List Nd) (v : Value) (w : World) (hsz : ∀ i, (h : i < l.length) → (l[i]).sz ≤ n) (hv : NdL w l v) :
    Calls Tryz.prog 109 #[v] w fun e w' => e = .returned (.bool (termL l && decide (l.length ≤ 8))) ∧ Below w.heap.size w w' := by
  obtain ⟨a, cap, rfl, hl⟩ := hv.form
  have IH := Lib.hid ih
  have Hsz := Lib.hid hsz
  have HV := Lib.hid hv
  unfold maxLen at hl
  clear ih hsz hv
  go_enter Tryz.func109, Tryz.ntmps109
  go_wp2
  go_loopw [3] (fun v3 wr => ∃ i : Nat, i ≤ l.length ∧ i ≤ 9 ∧ v3 = .int .i64 i ∧ Hid (∀ j, (h : j < l.length) → j < i → termB l[j] = true) ∧ Hid (Below w.heap.size w wr)) (fun v3 _ => 10 - (intOf v3).toNat)
  case atStart => exact ⟨0, Nat.zero_le _, by omega, rfl, Lib.hid (fun j _ h => absurd h (Nat.not_lt_zero _)), Below.refl _ _⟩
  case round =>
    obtain ⟨i, hi, hi9, rfl, hall, hbl⟩ := hrel
    by_cases hlt : i < l.length
    · have hlt' : (i : Int) < (l.length : Int) := by omega
      by_cases h8 : i ≤ 8
      · have h8' : (i : Int) ≤ 8 := by omega
        have hi0 : (0 : Int) ≤ (i : Int) := by omega
        obtain ⟨kk, ss, w0, w1, hR⟩ := HV.out.later hbl.out
        obtain ⟨b, o, k1, s1, l1, a1, c1, rfl, e1, x0, x1, x2, r1⟩ := hR.kid i hlt
        have hs1 := Hsz.out i hlt
        obtain ⟨V, hV⟩ : ∃ V, termB l[i] = V := ⟨_, rfl⟩
        have HVi := Lib.hid hV
        rw [e1] at hs1 hV
        have C := Lib.hid (IH.out (.mk k1 s1 l1) wr _ _ _ hs1 r1)
        rw [hV] at C
        have nb := lt_of_cell x0
        clear e1 hV r1 hR
        go_wp2_with fail
        refine C.out.mono ?_
        clear C
        rintro e w5 ⟨rfl, hb5⟩
        have Hb5 : Hid (Below w.heap.size w w5) := Lib.hid (hbl.out.trans (hb5.mono hbl.out.size))
        clear hb5 x0 x1 x2
        cases V with
        | false =>
          have HS : Hid (termL l = false) := Lib.hid (by
            rw [Bool.eq_false_iff]
            intro h
            have := (termL_iff l).1 h i hlt
            rw [HVi.out] at this
            cases this)
          go_wp2
          go_ret
          exact ⟨by rw [HS.out]; rfl, Hb5.out⟩
        | true =>
          go_wp2
          go_roundw
          case rel => exact ⟨i + 1, hlt, by omega, by push_cast; rfl, Lib.hid (fun j hj hji => by
            by_cases e : j = i
            · subst e; exact HVi.out
            · exact hall.out j hj (by omega)), Hb5⟩
          case measure => simp [intOf]; omega
      · have h8' : ¬ ((i : Int) ≤ 8) := by omega
        have hd : decide (l.length ≤ 8) = false := by rw [decide_eq_false_iff_not]; omega
        have hd2 : decide ((l.length : Int) ≤ 8) = false := by rw [decide_eq_false_iff_not]; omega
        have HD := Lib.hid hd
        clear hd
        go_wp2
        go_ret
        exact ⟨by rw [HD.out, Bool.and_false]; simp, hbl.out⟩
    · have hlt' : ¬ ((i : Int) < (l.length : Int)) := by omega
      have HS : Hid (termL l = true) := Lib.hid ((termL_iff l).2 fun j hj => hall.out j hj (by omega))
      have HDD : Hid (decide ((l.length : Int) ≤ 8) = decide (l.length ≤ 8)) := Lib.hid (by rw [decide_eq_decide]; omega)
      go_wp2
      go_ret
      exact ⟨by rw [HS.out, Bool.true_and, ← HDD.out]; rfl, hbl.out⟩
theorem headTyp_get {l : List Nd} (h : 0 < l.length) : headTyp l = typB l[0] := by
  cases l with
  | nil => simp at h
  | cons a l => rfl
set_option maxRecDepth 100000 in
set_option maxHeartbeats 2000000 in
theorem rIsBinder (k : Int) (s : ByteArray) (l : List Nd) (w : World) (v0 v1 v2 : Value) (ht : NdR w (.mk k s l) v0 v1 v2) :
    Calls Tryz.prog 110 #[.agg #[v0, v1, v2]] w fun e w' => e = .returned (.bool (bindB s l)) ∧ Below w.heap.size w w' := by
  obtain ⟨k', s', l', a, cap, he, rfl, rfl, rfl, hs, hl⟩ := ht.form
  cases he
  unfold maxLen at hl
  obtain ⟨V1, hV1⟩ : ∃ V, nameB s = V := ⟨_, rfl⟩
  obtain ⟨V2, hV2⟩ : ∃ V, varB s = V := ⟨_, rfl⟩
  have CN := Lib.hid (fun w => rIsName_v V1 s w hV1)
  have CV := Lib.hid (fun w => rIsVar_v V2 s w hV2)
  obtain ⟨h, hh⟩ : ∃ h, w.heap.size = h := ⟨_, rfl⟩
  have hb0 := Lib.hid ((Below.refl w.heap.size w).alloc (Nat.le_refl _) (.cells #[.int .i64 k, .string s, .slice a l.length cap] 24))
  have D0 := Lib.hid (nd3 (w := w) (k := k) (s := s) (v2 := .slice a l.length cap) (t := 24) hh)
  have HH := Lib.hid hh
  have HT := Lib.hid ht
  have HS : Hid (bindB s l = ((V1 || V2) && (decide (l.length = 1) || (decide (l.length = 2) && headTyp l)))) := Lib.hid (by unfold bindB; rw [hV1, hV2])
  clear hV1 hV2 ht
  cases V1 with
  | false =>
    cases V2 with
    | false =>
      clear hh
      go_enter Tryz.func110, Tryz.ntmps110
      go_wp2_with fail
      refine (CN.out _).mono ?_
      rintro e w1 ⟨rfl, hb1⟩
      have B1 : Hid (Below w.heap.size w w1) := Lib.hid (hb0.out.trans (hb1.mono hb0.out.size))
      have d1 : w1.cell? ⟨w.heap.size, 1, none⟩ = some (.string s) := (hb1.cell (p := ⟨w.heap.size, 1, none⟩) (by rw [World.size_alloc]; exact Nat.lt_succ_self _)).trans (by rw [HH.out]; exact D0.out.2.1)
      clear CN hb1
      go_wp2_with fail
      refine (CV.out _).mono ?_
      rintro e w2 ⟨rfl, hb2⟩
      have B2 : Hid (Below w.heap.size w w2) := Lib.hid (B1.out.trans (hb2.mono B1.out.size))
      clear CV hb2 d1
      go_wp2
      go_ret
      exact ⟨by rw [HS.out]; rfl, B2.out⟩
    | true =>
      clear hh
      go_enter Tryz.func110, Tryz.ntmps110
      go_wp2_with fail
      refine (CN.out _).mono ?_
      rintro e w1 ⟨rfl, hb1⟩
      have B1 : Hid (Below w.heap.size w w1) := Lib.hid (hb0.out.trans (hb1.mono hb0.out.size))
      have d1 : w1.cell? ⟨w.heap.size, 1, none⟩ = some (.string s) := (hb1.cell (p := ⟨w.heap.size, 1, none⟩) (by rw [World.size_alloc]; exact Nat.lt_succ_self _)).trans (by rw [HH.out]; exact D0.out.2.1)
      have d3 := Lib.hid (show w1.cell? ⟨w.heap.size, 2, none⟩ = some (.slice a l.length cap) from (hb1.cell (p := ⟨w.heap.size, 2, none⟩) (by rw [World.size_alloc]; exact Nat.lt_succ_self _)).trans (by rw [HH.out]; exact D0.out.2.2))
      have l3 := hb1.size
      rw [World.size_alloc] at l3
      clear CN hb1
      go_wp2_with fail
      refine (CV.out _).mono ?_
      rintro e w2 ⟨rfl, hb2⟩
      have B2 : Hid (Below w.heap.size w w2) := Lib.hid (B1.out.trans (hb2.mono B1.out.size))
      have d2 : w2.cell? ⟨w.heap.size, 2, none⟩ = some (.slice a l.length cap) := (hb2.cell (p := ⟨w.heap.size, 2, none⟩) l3).trans d3.out
      clear CV hb2 d1 d3 l3
      by_cases hl1 : l.length = 1
      · have e1 : ((l.length : Int) == 1) = true := by rw [hl1]; rfl
        have HR : Hid (bindB s l = true) := Lib.hid (by rw [HS.out, decide_eq_true hl1]; simp)
        clear hl1
        go_wp2
        go_ret
        exact ⟨by rw [HR.out]; rfl, B2.out⟩
      · have e1 : ((l.length : Int) == 1) = false := by rw [beq_eq_false_iff_ne]; omega
        by_cases hl2 : l.length = 2
        · have e2 : ((l.length : Int) == 2) = true := by rw [hl2]; rfl
          have i0 : (0 : Int) < (l.length : Int) := by omega
          have j0 : 0 < l.length := by omega
          obtain ⟨b, o, k1, s1, l1, a1, c1, rfl, eq1, x0, x1, x2, r1⟩ := (HT.out.later B2.out).kid 0 j0
          simp only [Nat.zero_mul, Nat.add_zero] at x0 x1 x2
          obtain ⟨V, hV⟩ : ∃ V, typB (.mk k1 s1 l1) = V := ⟨_, rfl⟩
          have HR : Hid (bindB s l = V) := Lib.hid (by rw [HS.out, decide_eq_false hl1, decide_eq_true hl2, headTyp_get j0, eq1, hV]; simp)
          have CT := Lib.hid (rIsType _ (.mk k1 s1 l1) w2 _ _ _ (Nat.le_refl _) r1)
          rw [hV] at CT
          have nb := lt_of_cell x0
          clear eq1 hV r1 hl1 hl2
          go_wp2_with fail
          refine CT.out.mono ?_
          clear CT
          rintro e w9 ⟨rfl, hb9⟩
          have B9 : Hid (Below w.heap.size w w9) := Lib.hid (B2.out.trans (hb9.mono B2.out.size))
          clear hb9 x0 x1 x2 d2
          go_wp2
          go_ret
          exact ⟨by rw [HR.out]; rfl, B9.out⟩
        · have e2 : ((l.length : Int) == 2) = false := by rw [beq_eq_false_iff_ne]; omega
          have HR : Hid (bindB s l = false) := Lib.hid (by rw [HS.out, decide_eq_false hl1, decide_eq_false hl2]; simp)
          clear hl1 hl2
          go_wp2
          go_ret
          exact ⟨by rw [HR.out]; rfl, B2.out⟩
  | true =>
    clear hh
    go_enter Tryz.func110, Tryz.ntmps110
    go_wp2_with fail
    refine (CN.out _).mono ?_
    rintro e w1 ⟨rfl, hb1⟩
    have B1 : Hid (Below w.heap.size w w1) := Lib.hid (hb0.out.trans (hb1.mono hb0.out.size))
    have d2 : w1.cell? ⟨w.heap.size, 2, none⟩ = some (.slice a l.length cap) := (hb1.cell (p := ⟨w.heap.size, 2, none⟩) (by rw [World.size_alloc]; exact Nat.lt_succ_self _)).trans (by rw [HH.out]; exact D0.out.2.2)
    clear CN CV hb1
    by_cases hl1 : l.length = 1
    · have e1 : ((l.length : Int) == 1) = true := by rw [hl1]; rfl
      have HR : Hid (bindB s l = true) := Lib.hid (by rw [HS.out, decide_eq_true hl1]; simp)
      clear hl1
      go_wp2
      go_ret
      exact ⟨by rw [HR.out]; rfl, B1.out⟩
    · have e1 : ((l.length : Int) == 1) = false := by rw [beq_eq_false_iff_ne]; omega
      by_cases hl2 : l.length = 2
      · have e2 : ((l.length : Int) == 2) = true := by rw [hl2]; rfl
        have i0 : (0 : Int) < (l.length : Int) := by omega
        have j0 : 0 < l.length := by omega
        obtain ⟨b, o, k1, s1, l1, a1, c1, rfl, eq1, x0, x1, x2, r1⟩ := (HT.out.later B1.out).kid 0 j0
        simp only [Nat.zero_mul, Nat.add_zero] at x0 x1 x2
        obtain ⟨V, hV⟩ : ∃ V, typB (.mk k1 s1 l1) = V := ⟨_, rfl⟩
        have HR : Hid (bindB s l = V) := Lib.hid (by rw [HS.out, decide_eq_false hl1, decide_eq_true hl2, headTyp_get j0, eq1, hV]; simp)
        have CT := Lib.hid (rIsType _ (.mk k1 s1 l1) w1 _ _ _ (Nat.le_refl _) r1)
        rw [hV] at CT
        have nb := lt_of_cell x0
        clear eq1 hV r1 hl1 hl2
        go_wp2_with fail
        refine CT.out.mono ?_
        clear CT
        rintro e w9 ⟨rfl, hb9⟩
        have B9 : Hid (Below w.heap.size w w9) := Lib.hid (B1.out.trans (hb9.mono B1.out.size))
        clear hb9 x0 x1 x2 d2
        go_wp2
        go_ret
        exact ⟨by rw [HR.out]; rfl, B9.out⟩
      · have e2 : ((l.length : Int) == 2) = false := by rw [beq_eq_false_iff_ne]; omega
        have HR : Hid (bindB s l = false) := Lib.hid (by rw [HS.out, decide_eq_false hl1, decide_eq_false hl2]; simp)
        clear hl1 hl2
        go_wp2
        go_ret
        exact ⟨by rw [HR.out]; rfl, B1.out⟩
end Go.Proofs.YtgikhpmdpppenaaGreatDoor
namespace Go.Proofs.YtgikhpmdpppenaaGreatDoor
open Go.RowKit
theorem termE_get : ∀ {l : List Nd} (h : 0 < l.length), termE l = termB (l[l.length - 1]'(by omega))
  | [a], _ => by simp [termE]
  | a :: b :: l, _ => by
    simp only [termE]
    rw [if_neg (by simp)]
    have := termE_get (l := b :: l) (by simp)
    rw [termE] at this
    rw [this]
    simp
theorem bindB_len {s : ByteArray} {l : List Nd} (h : bindB s l = true) : l.length = 1 ∨ l.length = 2 := by
  unfold bindB at h
  rw [Bool.and_eq_true] at h
  have h2 := h.2
  rw [Bool.or_eq_true, Bool.and_eq_true, decide_eq_true_eq, decide_eq_true_eq] at h2
  rcases h2 with h | h
  · exact .inl h
  · exact .inr h.1
set_option maxRecDepth 100000 in
set_option maxHeartbeats 2000000 in
theorem rIsTerm (n : Nat) : ∀ (t : Nd) (w : World) (v0 v1 v2 : Value), t.sz ≤ n → NdR w t v0 v1 v2 →
    Calls Tryz.prog 60 #[.agg #[v0, v1, v2]] w fun e w' => e = .returned (.bool (termB t)) ∧ Below w.heap.size w w' := by
  induction n with
  | zero => intro t w v0 v1 v2 h; cases t; simp only [Nd.sz] at h; omega
  | succ n ih =>
    intro t w v0 v1 v2 hsz ht
    obtain ⟨k, s, l, a, cap, rfl, rfl, rfl, rfl, hs, hl⟩ := ht.form
    have hsi : ∀ i, (h : i < l.length) → (l[i]).sz ≤ n := fun i h => by have := Nd.kid_lt k s l i h; omega
    have CA := Lib.hid (fun w (hv : NdL w l (.slice a l.length cap)) => rAreTerms n ih l _ w hsi hv)
    have IH := Lib.hid ih
    have Hsi := Lib.hid hsi
    unfold maxLen at hl
    obtain ⟨A, hA⟩ : ∃ A, (termL l && decide (l.length ≤ 8)) = A := ⟨_, rfl⟩
    rw [hA] at CA
    have HA := Lib.hid hA
    obtain ⟨h, hh⟩ : ∃ h, w.heap.size = h := ⟨_, rfl⟩
    have hb0 := Lib.hid ((Below.refl w.heap.size w).alloc (Nat.le_refl _) (.cells #[.int .i64 k, .string s, .slice a l.length cap] 24))
    have D0 := Lib.hid (nd3 (w := w) (k := k) (s := s) (v2 := .slice a l.length cap) (t := 24) hh)
    have HH := Lib.hid hh
    have HT := Lib.hid ht
    clear ih hsi hA hh ht hsz
    by_cases hk : k = 15
    · subst hk
      obtain ⟨V, hV⟩ : ∃ V, nameB s = V := ⟨_, rfl⟩
      have CN := Lib.hid (fun w => rIsName_v V s w hV)
      have HS : Hid (termB (.mk 15 s l) = (V && A)) := Lib.hid (by rw [termB, if_pos rfl, hV, HA.out])
      clear hV
      go_enter Tryz.func60, Tryz.ntmps60
      go_wp2_with fail
      refine (CN.out _).mono ?_
      rintro e w1 ⟨rfl, hb1⟩
      have B1 : Hid (Below w.heap.size w w1) := Lib.hid (hb0.out.trans (hb1.mono hb0.out.size))
      have d2 : w1.cell? ⟨w.heap.size, 2, none⟩ = some (.slice a l.length cap) := (hb1.cell (p := ⟨w.heap.size, 2, none⟩) (by rw [World.size_alloc]; exact Nat.lt_succ_self _)).trans (by rw [HH.out]; exact D0.out.2.2)
      clear CN hb1
      cases V with
      | false =>
        go_wp2
        go_ret
        exact ⟨by rw [HS.out]; rfl, B1.out⟩
      | true =>
        go_wp2_with fail
        refine (CA.out _ ⟨_, _, _, _, HT.out.later B1.out⟩).mono ?_
        rintro e w2 ⟨rfl, hb2⟩
        have B2 : Hid (Below w.heap.size w w2) := Lib.hid (B1.out.trans (hb2.mono B1.out.size))
        clear CA hb2 d2
        go_wp2
        go_ret
        exact ⟨by rw [HS.out]; rfl, B2.out⟩
    · have hk15 : ((k : Int) == 15) = false := by rw [beq_eq_false_iff_ne]; exact hk
      by_cases hk : k = 16
      · subst hk
        obtain ⟨V, hV⟩ : ∃ V, varB s = V := ⟨_, rfl⟩
        have CN := Lib.hid (fun w => rIsVar_v V s w hV)
        have HS : Hid (termB (.mk 16 s l) = (V && A)) := Lib.hid (by rw [termB, if_neg (by decide), if_pos rfl, hV, HA.out])
        clear hV
        go_enter Tryz.func60, Tryz.ntmps60
        go_wp2_with fail
        refine (CN.out _).mono ?_
        rintro e w1 ⟨rfl, hb1⟩
        have B1 : Hid (Below w.heap.size w w1) := Lib.hid (hb0.out.trans (hb1.mono hb0.out.size))
        have d2 : w1.cell? ⟨w.heap.size, 2, none⟩ = some (.slice a l.length cap) := (hb1.cell (p := ⟨w.heap.size, 2, none⟩) (by rw [World.size_alloc]; exact Nat.lt_succ_self _)).trans (by rw [HH.out]; exact D0.out.2.2)
        clear CN hb1
        cases V with
        | false =>
          go_wp2
          go_ret
          exact ⟨by rw [HS.out]; rfl, B1.out⟩
        | true =>
          go_wp2_with fail
          refine (CA.out _ ⟨_, _, _, _, HT.out.later B1.out⟩).mono ?_
          rintro e w2 ⟨rfl, hb2⟩
          have B2 : Hid (Below w.heap.size w w2) := Lib.hid (B1.out.trans (hb2.mono B1.out.size))
          clear CA hb2 d2
          go_wp2
          go_ret
          exact ⟨by rw [HS.out]; rfl, B2.out⟩
      · have hk16 : ((k : Int) == 16) = false := by rw [beq_eq_false_iff_ne]; exact hk
        by_cases hk : k = 17
        · subst hk
          obtain ⟨V, hV⟩ : ∃ V, bindB s l = V := ⟨_, rfl⟩
          have CB := Lib.hid (fun w (ht : NdR w (.mk 17 s l) (.int .i64 17) (.string s) (.slice a l.length cap)) => rIsBinder 17 s l w _ _ _ ht)
          rw [hV] at CB
          have HS : Hid (termB (.mk 17 s l) = (V && termE l)) := Lib.hid (by rw [termB, if_neg (by decide), if_neg (by decide), decide_eq_true rfl, Bool.true_and, hV])
          have HV := Lib.hid hV
          clear hV
          go_enter Tryz.func60, Tryz.ntmps60
          go_wp2_with fail
          refine (CB.out _ (HT.out.later hb0.out)).mono ?_
          rintro e w1 ⟨rfl, hb1⟩
          have B1 : Hid (Below w.heap.size w w1) := Lib.hid (hb0.out.trans (hb1.mono hb0.out.size))
          have d2 : w1.cell? ⟨w.heap.size, 2, none⟩ = some (.slice a l.length cap) := (hb1.cell (p := ⟨w.heap.size, 2, none⟩) (by rw [World.size_alloc]; exact Nat.lt_succ_self _)).trans (by rw [HH.out]; exact D0.out.2.2)
          clear CB hb1
          cases V with
          | false =>
            go_wp2
            go_ret
            exact ⟨by rw [HS.out]; rfl, B1.out⟩
          | true =>
            have hln := bindB_len HV.out
            obtain ⟨m, hm⟩ : ∃ m, l.length = m + 1 := ⟨l.length - 1, by omega⟩
            have j0 : m < l.length := by omega
            have i1 : (l.length : Int) - 1 = (m : Int) := by omega
            have i2 : IntKind.i64.wrap (m : Int) = m := by rw [IntKind.wrap_i64]; omega
            have i3 : (m : Int) < (l.length : Int) := by omega
            have i4 : (0 : Int) ≤ (m : Int) := by omega
            obtain ⟨b, o, k1, s1, l1, a1, c1, rfl, eq1, x0, x1, x2, r1⟩ := (HT.out.later B1.out).kid m j0
            have hs1 := Hsi.out m j0
            obtain ⟨U, hU⟩ : ∃ U, termB l[m] = U := ⟨_, rfl⟩
            have HE : Hid (termE l = U) := Lib.hid (by
              rw [termE_get (by omega), ← hU]
              congr 2
              omega)
            rw [eq1] at hs1 hU
            have CT := Lib.hid (IH.out (.mk k1 s1 l1) w1 _ _ _ hs1 r1)
            rw [hU] at CT
            have nb := lt_of_cell x0
            clear eq1 hU r1 hln hm hs1
            go_wp2_with fail
            refine CT.out.mono ?_
            clear CT
            rintro e w9 ⟨rfl, hb9⟩
            have B9 : Hid (Below w.heap.size w w9) := Lib.hid (B1.out.trans (hb9.mono B1.out.size))
            clear hb9 x0 x1 x2 d2
            go_wp2
            go_ret
            exact ⟨by rw [HS.out, HE.out]; rfl, B9.out⟩
        · have hk17 : ((k : Int) == 17) = false := by rw [beq_eq_false_iff_ne]; exact hk
          have HS : Hid (termB (.mk k s l) = false) := Lib.hid (by rw [termB, if_neg (by intro e; rw [e] at hk15; simp at hk15), if_neg (by intro e; rw [e] at hk16; simp at hk16), decide_eq_false hk, Bool.false_and])
          clear hk
          go_enter Tryz.func60, Tryz.ntmps60
          go_wp2
          go_ret
          exact ⟨by rw [HS.out]; rfl, hb0.out⟩
end Go.Proofs.YtgikhpmdpppenaaGreatDoor
namespace Go.Proofs.YtgikhpmdpppenaaGreatDoor
open Go.RowKit
theorem formE_get : ∀ {l : List Nd} (h : 0 < l.length), formE l = formB (l[l.length - 1]'(by omega))
  | [a], _ => by simp [formE]
  | a :: b :: l, _ => by
    simp only [formE]
    rw [if_neg (by simp)]
    have := formE_get (l := b :: l) (by simp)
    rw [formE] at this
    rw [this]
    simp
theorem formL_one {l : List Nd} (h : l.length = 1) : formL l = formB (l[0]'(by omega)) := by
  match l, h with
  | [a], _ => simp [formL]
theorem formL_two {l : List Nd} (h : l.length = 2) : formL l = (formB (l[0]'(by omega)) && formB (l[1]'(by omega))) := by
  match l, h with
  | [a, b], _ => simp [formL]
def lvl (k : Int) : Int := if k = 27 ∨ k = 28 then 1 else if k = 25 ∨ k = 26 then 2 else if k = 24 then 3 else if k = 23 then 4 else if k = 22 then 5 else 6
theorem lvl_binary (k : Int) : decide (lvl k < 6) = isBinary k := by
  unfold lvl isBinary
  by_cases h : 22 ≤ k ∧ k ≤ 28
  · rw [decide_eq_true h.1, decide_eq_true h.2, Bool.true_and, decide_eq_true_eq]
    split
    · omega
    · split
      · omega
      · split
        · omega
        · split
          · omega
          · split
            · omega
            · omega
  · have e : (decide (22 ≤ k) && decide (k ≤ 28)) = false := by
      rw [Bool.and_eq_false_iff, decide_eq_false_iff_not, decide_eq_false_iff_not]; omega
    rw [e, decide_eq_false_iff_not, if_neg (by omega), if_neg (by omega), if_neg (by omega), if_neg (by omega), if_neg (by omega)]
    omega
set_option maxRecDepth 100000 in
set_option maxHeartbeats 1000000 in
theorem rLevel (k : Int) (w : World) : Calls Tryz.prog 111 #[.int .i64 k] w fun e w' => e = .returned (.int .i64 (lvl k)) ∧ w = w' := by
  by_cases n27 : k = 27
  · subst n27
    go_enter Tryz.func111, Tryz.ntmps111
    go_wp2
    go_ret
    exact ⟨rfl, rfl⟩
  · have b27 : ((k : Int) == 27) = false := by rw [beq_eq_false_iff_ne]; exact n27
    by_cases n28 : k = 28
    · subst n28
      go_enter Tryz.func111, Tryz.ntmps111
      go_wp2
      go_ret
      exact ⟨rfl, rfl⟩
    · have b28 : ((k : Int) == 28) = false := by rw [beq_eq_false_iff_ne]; exact n28
      by_cases n25 : k = 25
      · subst n25
        go_enter Tryz.func111, Tryz.ntmps111
        go_wp2
        go_ret
        exact ⟨rfl, rfl⟩
      · have b25 : ((k : Int) == 25) = false := by rw [beq_eq_false_iff_ne]; exact n25
        by_cases n26 : k = 26
        · subst n26
          go_enter Tryz.func111, Tryz.ntmps111
          go_wp2
          go_ret
          exact ⟨rfl, rfl⟩
        · have b26 : ((k : Int) == 26) = false := by rw [beq_eq_false_iff_ne]; exact n26
          by_cases n24 : k = 24
          · subst n24
            go_enter Tryz.func111, Tryz.ntmps111
            go_wp2
            go_ret
            exact ⟨rfl, rfl⟩
          · have b24 : ((k : Int) == 24) = false := by rw [beq_eq_false_iff_ne]; exact n24
            by_cases n23 : k = 23
            · subst n23
              go_enter Tryz.func111, Tryz.ntmps111
              go_wp2
              go_ret
              exact ⟨rfl, rfl⟩
            · have b23 : ((k : Int) == 23) = false := by rw [beq_eq_false_iff_ne]; exact n23
              by_cases n22 : k = 22
              · subst n22
                go_enter Tryz.func111, Tryz.ntmps111
                go_wp2
                go_ret
                exact ⟨rfl, rfl⟩
              · have b22 : ((k : Int) == 22) = false := by rw [beq_eq_false_iff_ne]; exact n22
                have HL : Hid (lvl k = 6) := Lib.hid (by unfold lvl; rw [if_neg (by omega), if_neg (by omega), if_neg (by omega), if_neg (by omega), if_neg (by omega)])
                clear n27 n28 n25 n26 n24 n23 n22
                go_enter Tryz.func111, Tryz.ntmps111
                go_wp2
                go_ret
                exact ⟨by rw [HL.out]; rfl, rfl⟩
set_option maxRecDepth 100000 in
set_option maxHeartbeats 4000000 in
theorem rIsForm (n : Nat) : ∀ (t : Nd) (w : World) (v0 v1 v2 : Value), t.sz ≤ n → NdR w t v0 v1 v2 →
    Calls Tryz.prog 61 #[.agg #[v0, v1, v2]] w fun e w' => e = .returned (.bool (formB t)) ∧ Below w.heap.size w w' := by
  induction n with
  | zero => intro t w v0 v1 v2 h; cases t; simp only [Nd.sz] at h; omega
  | succ n ih =>
    intro t w v0 v1 v2 hsz ht
    obtain ⟨k, s, l, a, cap, rfl, rfl, rfl, rfl, hs, hl⟩ := ht.form
    have Hsi := Lib.hid (show ∀ i, (h : i < l.length) → (l[i]).sz ≤ n from fun i h => by have := Nd.kid_lt k s l i h; omega)
    have IH := Lib.hid ih
    unfold maxLen at hl
    obtain ⟨h, hh⟩ : ∃ h, w.heap.size = h := ⟨_, rfl⟩
    have hb0 := Lib.hid ((Below.refl w.heap.size w).alloc (Nat.le_refl _) (.cells #[.int .i64 k, .string s, .slice a l.length cap] 24))
    have D0 := Lib.hid (nd3 (w := w) (k := k) (s := s) (v2 := .slice a l.length cap) (t := 24) hh)
    have HH := Lib.hid hh
    have HT := Lib.hid ht
    clear ih hh ht hsz
    by_cases hk : k = 15
    · subst hk
      have CT := Lib.hid (fun w (h : NdR w (.mk 15 s l) (.int .i64 15) (.string s) (.slice a l.length cap)) => rIsTerm _ (.mk 15 s l) w _ _ _ (Nat.le_refl _) h)
      have HS : Hid (formB (.mk 15 s l) = termB (.mk 15 s l)) := Lib.hid (by rw [formB, if_pos rfl])
      obtain ⟨V, hV⟩ : ∃ V, termB (.mk 15 s l) = V := ⟨_, rfl⟩
      rw [hV] at CT HS
      clear hV
      go_enter Tryz.func61, Tryz.ntmps61
      go_wp2_with fail
      refine (CT.out _ (HT.out.later hb0.out)).mono ?_
      rintro e w1 ⟨rfl, hb1⟩
      have B1 : Hid (Below w.heap.size w w1) := Lib.hid (hb0.out.trans (hb1.mono hb0.out.size))
      clear CT hb1
      go_wp2
      go_ret
      exact ⟨by rw [HS.out]; rfl, B1.out⟩
    · have m15 : ¬ k = 15 := hk
      have hk15 : ((k : Int) == 15) = false := by rw [beq_eq_false_iff_ne]; exact hk
      clear hk
      by_cases hk : k = 18
      · subst hk
        obtain ⟨V, hV⟩ : ∃ V, bindB s l = V := ⟨_, rfl⟩
        have CB := Lib.hid (fun w (ht : NdR w (.mk 18 s l) (.int .i64 18) (.string s) (.slice a l.length cap)) => rIsBinder 18 s l w _ _ _ ht)
        rw [hV] at CB
        have HS : Hid (formB (.mk 18 s l) = (V && formE l)) := Lib.hid (by rw [formB, if_neg (by decide), if_pos (by decide), hV])
        have HV := Lib.hid hV
        clear hV
        go_enter Tryz.func61, Tryz.ntmps61
        go_wp2_with fail
        refine (CB.out _ (HT.out.later hb0.out)).mono ?_
        rintro e w1 ⟨rfl, hb1⟩
        have B1 : Hid (Below w.heap.size w w1) := Lib.hid (hb0.out.trans (hb1.mono hb0.out.size))
        have d2 : w1.cell? ⟨w.heap.size, 2, none⟩ = some (.slice a l.length cap) := (hb1.cell (p := ⟨w.heap.size, 2, none⟩) (by rw [World.size_alloc]; exact Nat.lt_succ_self _)).trans (by rw [HH.out]; exact D0.out.2.2)
        clear CB hb1
        cases V with
        | false =>
          go_wp2
          go_ret
          exact ⟨by rw [HS.out]; rfl, B1.out⟩
        | true =>
          have hln := bindB_len HV.out
          obtain ⟨m, hm⟩ : ∃ m, l.length = m + 1 := ⟨l.length - 1, by omega⟩
          have j0 : m < l.length := by omega
          have i1 : (l.length : Int) - 1 = (m : Int) := by omega
          have i2 : IntKind.i64.wrap (m : Int) = m := by rw [IntKind.wrap_i64]; omega
          have i3 : (m : Int) < (l.length : Int) := by omega
          have i4 : (0 : Int) ≤ (m : Int) := by omega
          obtain ⟨b, o, k1, s1, l1, a1, c1, rfl, eq1, x0, x1, x2, r1⟩ := (HT.out.later B1.out).kid m j0
          have hs1 := Hsi.out m j0
          obtain ⟨U, hU⟩ : ∃ U, formB l[m] = U := ⟨_, rfl⟩
          have HE : Hid (formE l = U) := Lib.hid (by
            rw [formE_get (by omega), ← hU]
            congr 2
            omega)
          rw [eq1] at hs1 hU
          have CT := Lib.hid (IH.out (.mk k1 s1 l1) w1 _ _ _ hs1 r1)
          rw [hU] at CT
          have nb := lt_of_cell x0
          clear eq1 hU r1 hln hm hs1
          go_wp2_with fail
          refine CT.out.mono ?_
          clear CT
          rintro e w9 ⟨rfl, hb9⟩
          have B9 : Hid (Below w.heap.size w w9) := Lib.hid (B1.out.trans (hb9.mono B1.out.size))
          clear hb9 x0 x1 x2 d2
          go_wp2
          go_ret
          exact ⟨by rw [HS.out, HE.out]; rfl, B9.out⟩
      · have m18 : ¬ k = 18 := hk
        have hk18 : ((k : Int) == 18) = false := by rw [beq_eq_false_iff_ne]; exact hk
        clear hk
        by_cases hk : k = 19
        · subst hk
          obtain ⟨V, hV⟩ : ∃ V, bindB s l = V := ⟨_, rfl⟩
          have CB := Lib.hid (fun w (ht : NdR w (.mk 19 s l) (.int .i64 19) (.string s) (.slice a l.length cap)) => rIsBinder 19 s l w _ _ _ ht)
          rw [hV] at CB
          have HS : Hid (formB (.mk 19 s l) = (V && formE l)) := Lib.hid (by rw [formB, if_neg (by decide), if_pos (by decide), hV])
          have HV := Lib.hid hV
          clear hV
          go_enter Tryz.func61, Tryz.ntmps61
          go_wp2_with fail
          refine (CB.out _ (HT.out.later hb0.out)).mono ?_
          rintro e w1 ⟨rfl, hb1⟩
          have B1 : Hid (Below w.heap.size w w1) := Lib.hid (hb0.out.trans (hb1.mono hb0.out.size))
          have d2 : w1.cell? ⟨w.heap.size, 2, none⟩ = some (.slice a l.length cap) := (hb1.cell (p := ⟨w.heap.size, 2, none⟩) (by rw [World.size_alloc]; exact Nat.lt_succ_self _)).trans (by rw [HH.out]; exact D0.out.2.2)
          clear CB hb1
          cases V with
          | false =>
            go_wp2
            go_ret
            exact ⟨by rw [HS.out]; rfl, B1.out⟩
          | true =>
            have hln := bindB_len HV.out
            obtain ⟨m, hm⟩ : ∃ m, l.length = m + 1 := ⟨l.length - 1, by omega⟩
            have j0 : m < l.length := by omega
            have i1 : (l.length : Int) - 1 = (m : Int) := by omega
            have i2 : IntKind.i64.wrap (m : Int) = m := by rw [IntKind.wrap_i64]; omega
            have i3 : (m : Int) < (l.length : Int) := by omega
            have i4 : (0 : Int) ≤ (m : Int) := by omega
            obtain ⟨b, o, k1, s1, l1, a1, c1, rfl, eq1, x0, x1, x2, r1⟩ := (HT.out.later B1.out).kid m j0
            have hs1 := Hsi.out m j0
            obtain ⟨U, hU⟩ : ∃ U, formB l[m] = U := ⟨_, rfl⟩
            have HE : Hid (formE l = U) := Lib.hid (by
              rw [formE_get (by omega), ← hU]
              congr 2
              omega)
            rw [eq1] at hs1 hU
            have CT := Lib.hid (IH.out (.mk k1 s1 l1) w1 _ _ _ hs1 r1)
            rw [hU] at CT
            have nb := lt_of_cell x0
            clear eq1 hU r1 hln hm hs1
            go_wp2_with fail
            refine CT.out.mono ?_
            clear CT
            rintro e w9 ⟨rfl, hb9⟩
            have B9 : Hid (Below w.heap.size w w9) := Lib.hid (B1.out.trans (hb9.mono B1.out.size))
            clear hb9 x0 x1 x2 d2
            go_wp2
            go_ret
            exact ⟨by rw [HS.out, HE.out]; rfl, B9.out⟩
        · have m19 : ¬ k = 19 := hk
          have hk19 : ((k : Int) == 19) = false := by rw [beq_eq_false_iff_ne]; exact hk
          clear hk
          by_cases hk : k = 20
          · subst hk
            have HS : Hid (formB (.mk 20 s l) = (noneB s && decide (l.length = 0))) := Lib.hid (by rw [formB, if_neg (by decide), if_neg (by decide), if_pos (by decide)])
            cases hse : s.toList.isEmpty with
            | false =>
              have HR : Hid (formB (.mk 20 s l) = false) := Lib.hid (by rw [HS.out]; unfold noneB; rw [hse]; rfl)
              go_enter Tryz.func61, Tryz.ntmps61
              go_wp2
              go_ret
              exact ⟨by rw [HR.out]; rfl, hb0.out⟩
            | true =>
              by_cases hll : l.length = 0
              · have e0 : ((l.length : Int) == 0) = true := by rw [hll]; rfl
                have HR : Hid (formB (.mk 20 s l) = true) := Lib.hid (by rw [HS.out, decide_eq_true hll]; unfold noneB; rw [hse]; rfl)
                clear hll
                go_enter Tryz.func61, Tryz.ntmps61
                go_wp2
                go_ret
                exact ⟨by rw [HR.out]; rfl, hb0.out⟩
              · have e0 : ((l.length : Int) == 0) = false := by rw [beq_eq_false_iff_ne]; omega
                have HR : Hid (formB (.mk 20 s l) = false) := Lib.hid (by rw [HS.out, decide_eq_false hll, Bool.and_false])
                clear hll
                go_enter Tryz.func61, Tryz.ntmps61
                go_wp2
                go_ret
                exact ⟨by rw [HR.out]; rfl, hb0.out⟩
          · have m20 : ¬ k = 20 := hk
            have hk20 : ((k : Int) == 20) = false := by rw [beq_eq_false_iff_ne]; exact hk
            clear hk
            by_cases hk : k = 21
            · subst hk
              have HS : Hid (formB (.mk 21 s l) = (noneB s && decide (l.length = 0))) := Lib.hid (by rw [formB, if_neg (by decide), if_neg (by decide), if_pos (by decide)])
              cases hse : s.toList.isEmpty with
              | false =>
                have HR : Hid (formB (.mk 21 s l) = false) := Lib.hid (by rw [HS.out]; unfold noneB; rw [hse]; rfl)
                go_enter Tryz.func61, Tryz.ntmps61
                go_wp2
                go_ret
                exact ⟨by rw [HR.out]; rfl, hb0.out⟩
              | true =>
                by_cases hll : l.length = 0
                · have e0 : ((l.length : Int) == 0) = true := by rw [hll]; rfl
                  have HR : Hid (formB (.mk 21 s l) = true) := Lib.hid (by rw [HS.out, decide_eq_true hll]; unfold noneB; rw [hse]; rfl)
                  clear hll
                  go_enter Tryz.func61, Tryz.ntmps61
                  go_wp2
                  go_ret
                  exact ⟨by rw [HR.out]; rfl, hb0.out⟩
                · have e0 : ((l.length : Int) == 0) = false := by rw [beq_eq_false_iff_ne]; omega
                  have HR : Hid (formB (.mk 21 s l) = false) := Lib.hid (by rw [HS.out, decide_eq_false hll, Bool.and_false])
                  clear hll
                  go_enter Tryz.func61, Tryz.ntmps61
                  go_wp2
                  go_ret
                  exact ⟨by rw [HR.out]; rfl, hb0.out⟩
            · have m21 : ¬ k = 21 := hk
              have hk21 : ((k : Int) == 21) = false := by rw [beq_eq_false_iff_ne]; exact hk
              clear hk
              by_cases hk : k = 29
              · subst hk
                have HS : Hid (formB (.mk 29 s l) = (noneB s && (decide (l.length = 1) && formL l))) := Lib.hid (by rw [formB, if_neg (by decide), if_neg (by decide), if_neg (by decide), if_pos (by decide)])
                cases hse : s.toList.isEmpty with
                | false =>
                  have HR : Hid (formB (.mk 29 s l) = false) := Lib.hid (by rw [HS.out]; unfold noneB; rw [hse]; rfl)
                  go_enter Tryz.func61, Tryz.ntmps61
                  go_wp2
                  go_ret
                  exact ⟨by rw [HR.out]; rfl, hb0.out⟩
                | true =>
                  by_cases hll : l.length = 1
                  · have e0 : ((l.length : Int) == 1) = true := by rw [hll]; rfl
                    have j0 : 0 < l.length := by omega
                    have i0 : (0 : Int) < (l.length : Int) := by omega
                    obtain ⟨b, o, k1, s1, l1, a1, c1, rfl, eq1, x0, x1, x2, r1⟩ := HT.out.kid 0 j0
                    simp only [Nat.zero_mul, Nat.add_zero] at x0 x1 x2
                    obtain ⟨U, hU⟩ : ∃ U, formB (.mk k1 s1 l1) = U := ⟨_, rfl⟩
                    have hs1 := Hsi.out 0 j0
                    rw [eq1] at hs1
                    have HR : Hid (formB (.mk 29 s l) = U) := Lib.hid (by rw [HS.out, decide_eq_true hll, formL_one hll, eq1, hU]; unfold noneB; rw [hse]; simp)
                    have CT := Lib.hid (fun w h => IH.out (.mk k1 s1 l1) w (.int .i64 k1) (.string s1) (.slice a1 l1.length c1) hs1 h)
                    rw [hU] at CT
                    have R1 := Lib.hid r1
                    have nb := lt_of_cell x0
                    clear eq1 hU r1 hll hs1
                    go_enter Tryz.func61, Tryz.ntmps61
                    go_wp2_with fail
                    refine (CT.out _ (R1.out.later hb0.out)).mono ?_
                    rintro e w1 ⟨rfl, hb1⟩
                    have B1 : Hid (Below w.heap.size w w1) := Lib.hid (hb0.out.trans (hb1.mono hb0.out.size))
                    clear CT hb1 x0 x1 x2
                    go_wp2
                    go_ret
                    exact ⟨by rw [HR.out]; rfl, B1.out⟩
                  · have e0 : ((l.length : Int) == 1) = false := by rw [beq_eq_false_iff_ne]; omega
                    have HR : Hid (formB (.mk 29 s l) = false) := Lib.hid (by rw [HS.out, decide_eq_false hll, Bool.false_and, Bool.and_false])
                    clear hll
                    go_enter Tryz.func61, Tryz.ntmps61
                    go_wp2
                    go_ret
                    exact ⟨by rw [HR.out]; rfl, hb0.out⟩
              · have m29 : ¬ k = 29 := hk
                have hk29 : ((k : Int) == 29) = false := by rw [beq_eq_false_iff_ne]; exact hk
                clear hk
                by_cases hk : k = 30
                · subst hk
                  have HS : Hid (formB (.mk 30 s l) = (noneB s && (decide (l.length = 1) && formL l))) := Lib.hid (by rw [formB, if_neg (by decide), if_neg (by decide), if_neg (by decide), if_pos (by decide)])
                  cases hse : s.toList.isEmpty with
                  | false =>
                    have HR : Hid (formB (.mk 30 s l) = false) := Lib.hid (by rw [HS.out]; unfold noneB; rw [hse]; rfl)
                    go_enter Tryz.func61, Tryz.ntmps61
                    go_wp2
                    go_ret
                    exact ⟨by rw [HR.out]; rfl, hb0.out⟩
                  | true =>
                    by_cases hll : l.length = 1
                    · have e0 : ((l.length : Int) == 1) = true := by rw [hll]; rfl
                      have j0 : 0 < l.length := by omega
                      have i0 : (0 : Int) < (l.length : Int) := by omega
                      obtain ⟨b, o, k1, s1, l1, a1, c1, rfl, eq1, x0, x1, x2, r1⟩ := HT.out.kid 0 j0
                      simp only [Nat.zero_mul, Nat.add_zero] at x0 x1 x2
                      obtain ⟨U, hU⟩ : ∃ U, formB (.mk k1 s1 l1) = U := ⟨_, rfl⟩
                      have hs1 := Hsi.out 0 j0
                      rw [eq1] at hs1
                      have HR : Hid (formB (.mk 30 s l) = U) := Lib.hid (by rw [HS.out, decide_eq_true hll, formL_one hll, eq1, hU]; unfold noneB; rw [hse]; simp)
                      have CT := Lib.hid (fun w h => IH.out (.mk k1 s1 l1) w (.int .i64 k1) (.string s1) (.slice a1 l1.length c1) hs1 h)
                      rw [hU] at CT
                      have R1 := Lib.hid r1
                      have nb := lt_of_cell x0
                      clear eq1 hU r1 hll hs1
                      go_enter Tryz.func61, Tryz.ntmps61
                      go_wp2_with fail
                      refine (CT.out _ (R1.out.later hb0.out)).mono ?_
                      rintro e w1 ⟨rfl, hb1⟩
                      have B1 : Hid (Below w.heap.size w w1) := Lib.hid (hb0.out.trans (hb1.mono hb0.out.size))
                      clear CT hb1 x0 x1 x2
                      go_wp2
                      go_ret
                      exact ⟨by rw [HR.out]; rfl, B1.out⟩
                    · have e0 : ((l.length : Int) == 1) = false := by rw [beq_eq_false_iff_ne]; omega
                      have HR : Hid (formB (.mk 30 s l) = false) := Lib.hid (by rw [HS.out, decide_eq_false hll, Bool.false_and, Bool.and_false])
                      clear hll
                      go_enter Tryz.func61, Tryz.ntmps61
                      go_wp2
                      go_ret
                      exact ⟨by rw [HR.out]; rfl, hb0.out⟩
                · have m30 : ¬ k = 30 := hk
                  have hk30 : ((k : Int) == 30) = false := by rw [beq_eq_false_iff_ne]; exact hk
                  clear hk
                  have HS : Hid (formB (.mk k s l) = (isBinary k && (noneB s && (decide (l.length = 2) && formL l)))) := Lib.hid (by rw [formB, if_neg m15, if_neg (by omega), if_neg (by omega), if_neg (by omega)])
                  clear m15 m18 m19 m20 m21 m29 m30
                  have CL := Lib.hid (fun w => rLevel k w)
                  have HL := Lib.hid (lvl_binary k)
                  obtain ⟨L, hL⟩ : ∃ L, lvl k = L := ⟨_, rfl⟩
                  rw [hL] at CL HL
                  clear hL
                  cases hb : isBinary k with
                  | false =>
                    rw [hb] at HL HS
                    have hd := HL.out
                    have HR : Hid (formB (.mk k s l) = false) := Lib.hid (by rw [HS.out]; rfl)
                    clear hb
                    go_enter Tryz.func61, Tryz.ntmps61
                    go_wp2_with fail
                    refine (CL.out _).mono ?_
                    rintro e w1 ⟨rfl, rfl⟩
                    go_wp2
                    go_ret
                    exact ⟨by rw [HR.out]; rfl, hb0.out⟩
                  | true =>
                    rw [hb] at HL HS
                    have hd := HL.out
                    have hd' : L < 6 := by simpa using hd
                    clear hb hd
                    cases hse : s.toList.isEmpty with
                    | false =>
                      have HR : Hid (formB (.mk k s l) = false) := Lib.hid (by rw [HS.out]; unfold noneB; rw [hse]; rfl)
                      go_enter Tryz.func61, Tryz.ntmps61
                      go_wp2_with fail
                      refine (CL.out _).mono ?_
                      rintro e w1 ⟨rfl, rfl⟩
                      go_wp2
                      go_ret
                      exact ⟨by rw [HR.out]; rfl, hb0.out⟩
                    | true =>
                      by_cases hll : l.length = 2
                      · have e0 : ((l.length : Int) == 2) = true := by rw [hll]; rfl
                        have j0 : 0 < l.length := by omega
                        have j1 : 1 < l.length := by omega
                        have i0 : (0 : Int) < (l.length : Int) := by omega
                        have i1 : (1 : Int) < (l.length : Int) := by omega
                        obtain ⟨b, o, k1, s1, l1, a1, c1, rfl, eq1, x0, x1, x2, r1⟩ := HT.out.kid 0 j0
                        obtain ⟨b', o', k2, s2, l2, a2, c2, hbo, eq2, y0, y1, y2, r2⟩ := HT.out.kid 1 j1
                        obtain ⟨rfl, rfl⟩ : b = b' ∧ o = o' := by simpa using hbo
                        simp only [Nat.zero_mul, Nat.add_zero] at x0 x1 x2
                        simp only [Nat.one_mul] at y0 y1 y2
                        obtain ⟨U1, hU1⟩ : ∃ U, formB (.mk k1 s1 l1) = U := ⟨_, rfl⟩
                        obtain ⟨U2, hU2⟩ : ∃ U, formB (.mk k2 s2 l2) = U := ⟨_, rfl⟩
                        have hs1 := Hsi.out 0 j0
                        have hs2 := Hsi.out 1 j1
                        rw [eq1] at hs1
                        rw [eq2] at hs2
                        have HR : Hid (formB (.mk k s l) = (U1 && U2)) := Lib.hid (by rw [HS.out, decide_eq_true hll, formL_two hll, eq1, eq2, hU1, hU2]; unfold noneB; rw [hse]; simp)
                        have C1 := Lib.hid (fun w h => IH.out (.mk k1 s1 l1) w (.int .i64 k1) (.string s1) (.slice a1 l1.length c1) hs1 h)
                        have C2 := Lib.hid (fun w h => IH.out (.mk k2 s2 l2) w (.int .i64 k2) (.string s2) (.slice a2 l2.length c2) hs2 h)
                        rw [hU1] at C1
                        rw [hU2] at C2
                        have R1 := Lib.hid r1
                        have R2 := Lib.hid r2
                        have nb := lt_of_cell x0
                        have Y := Lib.hid (And.intro y0 (And.intro y1 y2))
                        clear eq1 eq2 hU1 hU2 r1 r2 hll hs1 hs2 hbo y0 y1 y2
                        go_enter Tryz.func61, Tryz.ntmps61
                        go_wp2_with fail
                        refine (CL.out _).mono ?_
                        rintro e w0 ⟨rfl, rfl⟩
                        go_wp2_with fail
                        refine (C1.out _ (R1.out.later hb0.out)).mono ?_
                        rintro e w1 ⟨rfl, hb1⟩
                        have B1 : Hid (Below w.heap.size w w1) := Lib.hid (hb0.out.trans (hb1.mono hb0.out.size))
                        have d2 : w1.cell? ⟨w.heap.size, 2, none⟩ = some (.slice (some ⟨b, o, none⟩) l.length cap) := (hb1.cell (p := ⟨w.heap.size, 2, none⟩) (by rw [World.size_alloc]; exact Nat.lt_succ_self _)).trans (by rw [HH.out]; exact D0.out.2.2)
                        obtain ⟨y0, y1, y2⟩ := Y.out
                        have z0 := (B1.out.cell (p := ⟨b, o + 3, none⟩) nb).trans y0
                        have z1 := (B1.out.cell (p := ⟨b, o + 3 + 1, none⟩) nb).trans y1
                        have z2 := (B1.out.cell (p := ⟨b, o + 3 + 2, none⟩) nb).trans y2
                        have l1 := lt_of_cell z0
                        clear C1 hb1 x0 x1 x2 y0 y1 y2
                        cases U1 with
                        | false =>
                          go_wp2
                          go_ret
                          exact ⟨by rw [HR.out]; rfl, B1.out⟩
                        | true =>
                          go_wp2_with fail
                          refine (C2.out _ (R2.out.later B1.out)).mono ?_
                          rintro e w2 ⟨rfl, hb2⟩
                          have B2 : Hid (Below w.heap.size w w2) := Lib.hid (B1.out.trans (hb2.mono B1.out.size))
                          clear C2 hb2 z0 z1 z2 d2
                          go_wp2
                          go_ret
                          exact ⟨by rw [HR.out]; rfl, B2.out⟩
                      · have e0 : ((l.length : Int) == 2) = false := by rw [beq_eq_false_iff_ne]; omega
                        have HR : Hid (formB (.mk k s l) = false) := Lib.hid (by rw [HS.out, decide_eq_false hll, Bool.false_and, Bool.and_false, Bool.and_false])
                        clear hll
                        go_enter Tryz.func61, Tryz.ntmps61
                        go_wp2_with fail
                        refine (CL.out _).mono ?_
                        rintro e w1 ⟨rfl, rfl⟩
                        go_wp2
                        go_ret
                        exact ⟨by rw [HR.out]; rfl, hb0.out⟩
end Go.Proofs.YtgikhpmdpppenaaGreatDoor
namespace Go.Proofs.YtgikhpmdpppenaaGreatDoor
open Go.RowKit
theorem typL_iff : ∀ (l : List Nd), typL l = true ↔ ∀ i, (h : i < l.length) → typB l[i] = true
  | [] => by simp [typL]
  | a :: l => by
    simp only [typL, Bool.and_eq_true, typL_iff l]
    constructor
    · rintro ⟨h1, h2⟩ i hi
      cases i with
      | zero => exact h1
      | succ i => exact h2 i (by simpa using hi)
    · intro h
      exact ⟨h 0 (by simp), fun i hi => h (i + 1) (by simpa using hi)⟩
set_option maxRecDepth 100000 in
set_option maxHeartbeats 1000000 in
theorem rAreTypes (l : List Nd) (v : Value) (w : World) (hv : NdL w l v) :
    Calls Tryz.prog 113 #[v] w fun e w' => e = .returned (.bool (typL l && decide (l.length ≤ 8))) ∧ Below w.heap.size w w' := by
  obtain ⟨a, cap, rfl, hl⟩ := hv.form
  have HV := Lib.hid hv
  unfold maxLen at hl
  clear hv
  go_enter Tryz.func113, Tryz.ntmps113
  go_wp2
  go_loopw [3] (fun v3 wr => ∃ i : Nat, i ≤ l.length ∧ v3 = .int .i64 i ∧ Hid (∀ j, (h : j < l.length) → j < i → typB l[j] = true) ∧ Hid (Below w.heap.size w wr)) (fun v3 _ => l.length - (intOf v3).toNat)
  case atStart => exact ⟨0, Nat.zero_le _, rfl, Lib.hid (fun j _ h => absurd h (Nat.not_lt_zero _)), Below.refl _ _⟩
  case round =>
    obtain ⟨i, hi, rfl, hall, hbl⟩ := hrel
    by_cases hlt : i < l.length
    · have hlt' : (i : Int) < (l.length : Int) := by omega
      have hi0 : (0 : Int) ≤ (i : Int) := by omega
      obtain ⟨kk, ss, w0, w1, hR⟩ := HV.out.later hbl.out
      obtain ⟨b, o, k1, s1, l1, a1, c1, rfl, e1, x0, x1, x2, r1⟩ := hR.kid i hlt
      obtain ⟨V, hV⟩ : ∃ V, typB l[i] = V := ⟨_, rfl⟩
      have HVi := Lib.hid hV
      rw [e1] at hV
      have C := Lib.hid (rIsType _ (.mk k1 s1 l1) wr _ _ _ (Nat.le_refl _) r1)
      rw [hV] at C
      have nb := lt_of_cell x0
      clear e1 hV r1 hR
      go_wp2_with fail
      refine C.out.mono ?_
      clear C
      rintro e w5 ⟨rfl, hb5⟩
      have Hb5 : Hid (Below w.heap.size w w5) := Lib.hid (hbl.out.trans (hb5.mono hbl.out.size))
      clear hb5 x0 x1 x2
      cases V with
      | false =>
        have HS : Hid (typL l = false) := Lib.hid (by
          rw [Bool.eq_false_iff]
          intro h
          have := (typL_iff l).1 h i hlt
          rw [HVi.out] at this
          cases this)
        go_wp2
        go_ret
        exact ⟨by rw [HS.out]; rfl, Hb5.out⟩
      | true =>
        go_wp2
        go_roundw
        case rel => exact ⟨i + 1, hlt, by push_cast; rfl, Lib.hid (fun j hj hji => by
          by_cases e : j = i
          · subst e; exact HVi.out
          · exact hall.out j hj (by omega)), Hb5⟩
        case measure => simp [intOf]; omega
    · have hlt' : ¬ ((i : Int) < (l.length : Int)) := by omega
      have HS : Hid (typL l = true) := Lib.hid ((typL_iff l).2 fun j hj => hall.out j hj (by omega))
      have HDD : Hid (decide ((l.length : Int) ≤ 8) = decide (l.length ≤ 8)) := Lib.hid (by rw [decide_eq_decide]; omega)
      go_wp2
      go_ret
      exact ⟨by rw [HS.out, Bool.true_and, ← HDD.out]; rfl, hbl.out⟩
end Go.Proofs.YtgikhpmdpppenaaGreatDoor
namespace Go.Proofs.YtgikhpmdpppenaaGreatDoor
open Go.RowKit
theorem szL_take : ∀ (l : List Nd) (i : Nat) (h : i < l.length), Nd.szL (l.take (i + 1)) = Nd.szL (l.take i) + (l[i]).sz
  | a :: l, 0, _ => by simp [Nd.szL]
  | a :: l, i + 1, h => by
    have := szL_take l i (by simpa using h)
    simp only [List.take_succ_cons, Nd.szL, List.getElem_cons_succ] at this ⊢
    omega
theorem szL_take_le : ∀ (l : List Nd) (i : Nat), Nd.szL (l.take i) ≤ Nd.szL l
  | [], i => by simp [Nd.szL]
  | a :: l, 0 => by simp [Nd.szL]
  | a :: l, i + 1 => by
    have := szL_take_le l i
    simp only [List.take_succ_cons, Nd.szL]
    omega
set_option maxRecDepth 100000 in
set_option maxHeartbeats 2000000 in
theorem rCount (n : Nat) : ∀ (t : Nd) (m : Nat) (w : World) (v0 v1 v2 : Value), t.sz ≤ n → m ≤ 1000000000 → NdR w t v0 v1 v2 →
    Calls Tryz.prog 57 #[.agg #[v0, v1, v2], .int .i64 (m : Int)] w fun e w' => e = .returned (.int .i64 ((min t.sz (m + 1) : Nat) : Int)) ∧ Below w.heap.size w w' := by
  induction n with
  | zero => intro t m w v0 v1 v2 h; cases t; simp only [Nd.sz] at h; omega
  | succ n ih =>
    intro t m w v0 v1 v2 hsz hm ht
    obtain ⟨k, s, l, a, cap, rfl, rfl, rfl, rfl, hs, hl⟩ := ht.form
    have IH := Lib.hid ih
    clear ih
    unfold maxLen at hl
    have HT := Lib.hid ht
    have Hsz : Hid (∀ i, (h : i < l.length) → (l[i]).sz ≤ n) := Lib.hid fun i h => by have := Nd.kid_lt k s l i h; omega
    obtain ⟨K, hK⟩ : ∃ K, min (Nd.mk k s l).sz (m + 1) = K := ⟨_, rfl⟩
    have HK := Lib.hid hK
    rw [hK]
    clear ht hsz hK
    go_enter Tryz.func57, Tryz.ntmps57
    go_wp2
    obtain ⟨h, hh⟩ : ∃ h, w.heap.size = h := ⟨_, rfl⟩
    obtain ⟨wz, hwz⟩ : ∃ wz, w.alloc (Obj.cells #[Value.int IntKind.i64 k, Value.string s, Value.slice a l.length cap] 24) = wz := ⟨_, rfl⟩
    have hB : Hid (Below w.heap.size w wz) := Lib.hid (by rw [← hwz]; exact (Below.refl _ w).alloc (Nat.le_refl _) _)
    have hz : wz.heap.size = h + 1 := by rw [← hwz]; simp [hh]
    have g0 : wz.cell? ⟨h, 2, none⟩ = some (.slice a l.length cap) := by
      rw [← hwz, ← hh]; exact (World.cell?_alloc_at _ _ _ _ rfl).trans rfl
    have HG0 := Lib.hid g0
    have Hz := Lib.hid hz
    have HTz := Lib.hid (HT.out.later hB.out)
    rw [hwz, hh]
    clear hwz hh hz g0 HT
    go_loopw [5, 6] (fun v5 v6 wr => ∃ i q : Nat, i ≤ l.length ∧ 1 ≤ q ∧ q ≤ m + 1 ∧ v5 = .int .i64 (q : Int) ∧ v6 = .int .i64 (i : Int) ∧ Hid (min (1 + Nd.szL (l.take i)) (m + 1) = q) ∧ Hid (Below wz.heap.size wz wr)) (fun _ v6 _ => l.length - (intOf v6).toNat)
    case atStart => exact ⟨0, 1, Nat.zero_le _, Nat.le_refl _, by omega, rfl, rfl, Lib.hid (by simp [Nd.szL]), Below.refl _ _⟩
    case round =>
      obtain ⟨i, q, hi, hq1, hqm, rfl, rfl, hrun, hbl⟩ := hrel
      have g0 := (hbl.out.cell (p := ⟨h, 2, none⟩) (by have := Hz.out; simp only; omega)).trans HG0.out
      by_cases hlt : i < l.length
      · have hlt' : (i : Int) < (l.length : Int) := by omega
        have hi0 : (0 : Int) ≤ (i : Int) := by omega
        by_cases hqq : q ≤ m
        · have hqq' : (q : Int) ≤ (m : Int) := by omega
          obtain ⟨b, o, k1, s1, l1, a1, c1, rfl, e1, x0, x1, x2, r1⟩ := (HTz.out.later hbl.out).kid i hlt
          have hsz1 := Hsz.out i hlt
          have Hst := Lib.hid (szL_take l i hlt)
          rw [e1] at hsz1 Hst
          obtain ⟨Q, hQ⟩ : ∃ Q, min (Nd.mk k1 s1 l1).sz (m - q + 1) = Q := ⟨_, rfl⟩
          have C := Lib.hid (IH.out (.mk k1 s1 l1) (m - q) wr _ _ _ hsz1 (by omega) r1)
          rw [hQ, show ((m - q : Nat) : Int) = (m : Int) - (q : Int) from by omega] at C
          have hQm : Q ≤ m - q + 1 := by omega
          have HQ := Lib.hid hQ
          have L0 := lt_of_cell g0
          have L2 := lt_of_cell x0
          clear e1 hQ r1
          go_wp2_with fail
          refine C.out.mono ?_
          clear C
          rintro e w5 ⟨rfl, hb5⟩
          have Hb5 : Hid (Below wz.heap.size wz w5) := Lib.hid (hbl.out.trans (hb5.mono hbl.out.size))
          clear hb5 x0 x1 x2 g0
          have e5 : IntKind.i64.wrap ((q : Int) + (Q : Int)) = (q : Int) + (Q : Int) := by rw [IntKind.wrap_i64]; omega
          have e6 : IntKind.i64.wrap ((i : Int) + 1) = (i : Int) + 1 := by rw [IntKind.wrap_i64]; omega
          go_wp2
          go_roundw
          case rel => exact ⟨i + 1, q + Q, hlt, by omega, by omega, by push_cast; rfl, by push_cast; rfl, Lib.hid (by
            have h1 := hrun.out
            have h2 := Hst.out
            have h3 := HQ.out
            omega), Hb5⟩
          case measure => simp [intOf]; omega
        · have hqq' : ¬ ((q : Int) ≤ (m : Int)) := by omega
          have HE : Hid (q = K) := Lib.hid (by
            have h1 := hrun.out
            have h2 := HK.out
            have h3 := szL_take_le l i
            simp only [Nd.sz] at h2
            omega)
          go_wp2
          go_ret
          exact ⟨by rw [HE.out]; rfl, hB.out.trans (hbl.out.mono hB.out.size)⟩
      · have hlt' : ¬ ((i : Int) < (l.length : Int)) := by omega
        have HE : Hid (q = K) := Lib.hid (by
          have h1 := hrun.out
          have h2 := HK.out
          rw [List.take_of_length_le (by omega)] at h1
          simp only [Nd.sz] at h2
          omega)
        go_wp2
        go_ret
        exact ⟨by rw [HE.out]; rfl, hB.out.trans (hbl.out.mono hB.out.size)⟩
end Go.Proofs.YtgikhpmdpppenaaGreatDoor
namespace Go.Proofs.YtgikhpmdpppenaaGreatDoor
open Go.RowKit
def nameL : List Nd → Bool
  | [] => true
  | a :: l => loneB a && nameL l
theorem nameL_iff : ∀ (l : List Nd), nameL l = true ↔ ∀ i, (h : i < l.length) → loneB l[i] = true
  | [] => by simp [nameL]
  | a :: l => by
    simp only [nameL, Bool.and_eq_true, nameL_iff l]
    constructor
    · rintro ⟨h1, h2⟩ i hi
      cases i with
      | zero => exact h1
      | succ i => exact h2 i (by simpa using hi)
    · intro h
      exact ⟨h 0 (by simp), fun i hi => h (i + 1) (by simpa using hi)⟩
theorem NdL.take {w : World} {l : List Nd} {a : Option Addr} {n cap : Nat} (h : NdL w l (.slice a n cap)) (m : Nat) (hm : m ≤ l.length) (c : Nat) (hc : m ≤ c) : NdL w (l.take m) (.slice a m c) := by
  obtain ⟨k, s, v0, v1, h⟩ := h
  cases h with
  | mk _ _ _ _ _ b o f0 f1 f2 hs hl hc0 ha h0 h1 h2 hr =>
    have e : (l.take m).length = m := by rw [List.length_take]; omega
    have := NdR.mk (w := w) k s (l.take m) a c b o f0 f1 f2 hs (by omega) (by omega) (fun hne => ha (by rintro rfl; simp at hne))
      (fun i hi => h0 i (by omega)) (fun i hi => h1 i (by omega)) (fun i hi => h2 i (by omega))
      (fun i hi => by rw [List.getElem_take]; exact hr i (by omega))
    rw [e] at this
    exact ⟨k, s, _, _, this⟩
set_option maxRecDepth 100000 in
set_option maxHeartbeats 1000000 in
theorem rAreNames (l : List Nd) (v : Value) (w : World) (hv : NdL w l v) :
    Calls Tryz.prog 112 #[v] w fun e w' => e = .returned (.bool (nameL l)) ∧ Below w.heap.size w w' := by
  obtain ⟨a, cap, rfl, hl⟩ := hv.form
  have HV := Lib.hid hv
  unfold maxLen at hl
  clear hv
  go_enter Tryz.func112, Tryz.ntmps112
  go_wp2
  go_loopw [3] (fun v3 wr => ∃ i : Nat, i ≤ l.length ∧ v3 = .int .i64 i ∧ Hid (∀ j, (h : j < l.length) → j < i → loneB l[j] = true) ∧ Hid (Below w.heap.size w wr)) (fun v3 _ => l.length - (intOf v3).toNat)
  case atStart => exact ⟨0, Nat.zero_le _, rfl, Lib.hid (fun j _ h => absurd h (Nat.not_lt_zero _)), Below.refl _ _⟩
  case round =>
    obtain ⟨i, hi, rfl, hall, hbl⟩ := hrel
    by_cases hlt : i < l.length
    · have hlt' : (i : Int) < (l.length : Int) := by omega
      have hi0 : (0 : Int) ≤ (i : Int) := by omega
      obtain ⟨kk, ss, w0, w1, hR⟩ := HV.out.later hbl.out
      obtain ⟨b, o, k1, s1, l1, a1, c1, rfl, e1, x0, x1, x2, r1⟩ := hR.kid i hlt
      obtain ⟨V, hV⟩ : ∃ V, nameB s1 = V := ⟨_, rfl⟩
      have HL : Hid (loneB l[i] = (decide (k1 = 15) && (decide (l1.length = 0) && V))) := Lib.hid (by rw [e1, loneB, hV])
      have HF : Hid (loneB l[i] = false → nameL l = false) := Lib.hid (fun hf => by
        rw [Bool.eq_false_iff]
        intro h
        have := (nameL_iff l).1 h i hlt
        rw [hf] at this
        cases this)
      have C := Lib.hid (fun w => rIsName_v V s1 w hV)
      have nb := lt_of_cell x0
      clear e1 hV r1 hR
      by_cases hk : k1 = 15
      · subst hk
        by_cases hll : l1.length = 0
        · have hl0 : ¬ ((0 : Int) < (l1.length : Int)) := by omega
          have hd0 : decide (0 < l1.length) = false := by rw [decide_eq_false_iff_not]; omega
          have hd1 : (0 < l1.length) = False := eq_false (by omega)
          rw [decide_eq_true rfl, decide_eq_true hll, Bool.true_and, Bool.true_and] at HL
          clear hll
          go_wp2_with fail
          refine (C.out _).mono ?_
          clear C
          rintro e w5 ⟨rfl, hb5⟩
          have Hb5 : Hid (Below w.heap.size w w5) := Lib.hid (hbl.out.trans (hb5.mono hbl.out.size))
          clear hb5 x0 x1 x2
          cases V with
          | false =>
            go_wp2
            go_ret
            exact ⟨by rw [HF.out HL.out]; rfl, Hb5.out⟩
          | true =>
            go_wp2
            go_roundw
            case rel => exact ⟨i + 1, hlt, by push_cast; rfl, Lib.hid (fun j hj hji => by
              by_cases e : j = i
              · subst e; exact HL.out
              · exact hall.out j hj (by omega)), Hb5⟩
            case measure => simp [intOf]; omega
        · have hl0 : (0 : Int) < (l1.length : Int) := by omega
          have hd0 : decide (0 < l1.length) = true := by rw [decide_eq_true_eq]; omega
          have hd1 : 0 < l1.length := by omega
          rw [decide_eq_false hll, Bool.false_and, Bool.and_false] at HL
          clear hll
          go_wp2
          go_ret
          exact ⟨by rw [HF.out HL.out]; rfl, hbl.out⟩
      · have hk2 : ((k1 : Int) != 15) = true := by rw [bne_iff_ne]; exact hk
        rw [decide_eq_false hk, Bool.false_and] at HL
        clear hk
        go_wp2
        go_ret
        exact ⟨by rw [HF.out HL.out]; rfl, hbl.out⟩
    · have hlt' : ¬ ((i : Int) < (l.length : Int)) := by omega
      have HS : Hid (nameL l = true) := Lib.hid ((nameL_iff l).2 fun j hj => hall.out j hj (by omega))
      go_wp2
      go_ret
      exact ⟨by rw [HS.out]; rfl, hbl.out⟩
set_option maxRecDepth 100000 in
theorem rSize (t : Nd) (w : World) (v0 v1 v2 : Value) (ht : NdR w t v0 v1 v2) :
    Calls Tryz.prog 15 #[.agg #[v0, v1, v2]] w fun e w' => e = .returned (.int .i64 ((min t.sz 4001 : Nat) : Int)) ∧ Below w.heap.size w w' := by
  obtain ⟨k, s, l, a, cap, rfl, rfl, rfl, rfl, hs, hl⟩ := ht.form
  obtain ⟨K, hK⟩ : ∃ K, min (Nd.mk k s l).sz 4001 = K := ⟨_, rfl⟩
  have C := Lib.hid (fun w h => rCount _ (.mk k s l) 4000 w (.int .i64 k) (.string s) (.slice a l.length cap) (Nat.le_refl _) (by omega) h)
  rw [hK] at C ⊢
  have hK2 : K ≤ 4001 := by omega
  have hb0 := Lib.hid ((Below.refl w.heap.size w).alloc (Nat.le_refl _) (.cells #[.int .i64 k, .string s, .slice a l.length cap] 24))
  have HT := Lib.hid ht
  clear hK ht
  go_enter Tryz.func15, Tryz.ntmps15
  go_wp2_with fail
  refine (C.out _ (HT.out.later hb0.out)).mono ?_
  rintro e w1 ⟨rfl, hb1⟩
  have B1 : Hid (Below w.heap.size w w1) := Lib.hid (hb0.out.trans (hb1.mono hb0.out.size))
  clear C hb1
  go_wp2
  go_ret
  exact ⟨congrArg (fun x => Ending.returned (.int .i64 x)) (show min (K : Int) 4001 = (K : Int) from by omega), B1.out⟩
end Go.Proofs.YtgikhpmdpppenaaGreatDoor
namespace Go.Proofs.YtgikhpmdpppenaaGreatDoor
open Go.RowKit
def modeB : Nd → Bool
  | .mk k s l => decide (k = 15) && (decide (l.length = 0) && (decide (s = ⟨#[105, 110]⟩) || (decide (s = ⟨#[111, 117, 116]⟩) || decide (s = ⟨#[97, 110, 121]⟩))))
def modeL : List Nd → Bool
  | [] => true
  | a :: l => modeB a && modeL l
theorem modeL_iff : ∀ (l : List Nd), modeL l = true ↔ ∀ i, (h : i < l.length) → modeB l[i] = true
  | [] => by simp [modeL]
  | a :: l => by
    simp only [modeL, Bool.and_eq_true, modeL_iff l]
    constructor
    · rintro ⟨h1, h2⟩ i hi
      cases i with
      | zero => exact h1
      | succ i => exact h2 i (by simpa using hi)
    · intro h
      exact ⟨h 0 (by simp), fun i hi => h (i + 1) (by simpa using hi)⟩
theorem toList_inj9 {a b : ByteArray} (h : a.toList = b.toList) : a = b := by
  rw [ByteArray.toList_eq, ByteArray.toList_eq] at h
  cases a; cases b; congr; exact Array.toList_inj.1 h
set_option maxRecDepth 100000 in
set_option maxHeartbeats 1000000 in
theorem rAreModes (l : List Nd) (v : Value) (w : World) (hv : NdL w l v) :
    Calls Tryz.prog 114 #[v] w fun e w' => e = .returned (.bool (modeL l && decide (l.length ≤ 8))) ∧ Below w.heap.size w w' := by
  obtain ⟨a, cap, rfl, hl⟩ := hv.form
  have HV := Lib.hid hv
  unfold maxLen at hl
  clear hv
  go_enter Tryz.func114, Tryz.ntmps114
  go_wp2
  go_loopw [3] (fun v3 wr => ∃ i : Nat, i ≤ l.length ∧ v3 = .int .i64 i ∧ Hid (∀ j, (h : j < l.length) → j < i → modeB l[j] = true) ∧ Hid (Below w.heap.size w wr)) (fun v3 _ => l.length - (intOf v3).toNat)
  case atStart => exact ⟨0, Nat.zero_le _, rfl, Lib.hid (fun j _ h => absurd h (Nat.not_lt_zero _)), Below.refl _ _⟩
  case round =>
    obtain ⟨i, hi, rfl, hall, hbl⟩ := hrel
    by_cases hlt : i < l.length
    · have hlt' : (i : Int) < (l.length : Int) := by omega
      have hi0 : (0 : Int) ≤ (i : Int) := by omega
      obtain ⟨kk, ss, w0, w1, hR⟩ := HV.out.later hbl.out
      obtain ⟨b, o, k1, s1, l1, a1, c1, rfl, e1, x0, x1, x2, r1⟩ := hR.kid i hlt
      have HL : Hid (modeB l[i] = (decide (k1 = 15) && (decide (l1.length = 0) && (decide (s1 = ⟨#[105, 110]⟩) || (decide (s1 = ⟨#[111, 117, 116]⟩) || decide (s1 = ⟨#[97, 110, 121]⟩)))))) := Lib.hid (by rw [e1, modeB])
      have HF : Hid (modeB l[i] = false → modeL l = false) := Lib.hid (fun hf => by
        rw [Bool.eq_false_iff]
        intro h
        have := (modeL_iff l).1 h i hlt
        rw [hf] at this
        cases this)
      have nb := lt_of_cell x0
      clear e1 r1 hR
      by_cases hk : k1 = 15
      · subst hk
        by_cases hll : l1.length = 0
        · have hl0 : ¬ ((0 : Int) < (l1.length : Int)) := by omega
          have hd0 : decide (0 < l1.length) = false := by rw [decide_eq_false_iff_not]; omega
          have hd1 : (0 < l1.length) = False := eq_false (by omega)
          rw [decide_eq_true (rfl : (15 : Int) = 15), decide_eq_true hll, Bool.true_and, Bool.true_and] at HL
          clear hll
          by_cases h1 : s1 = ⟨#[105, 110]⟩
          · subst h1
            go_wp2
            go_roundw
            case rel => exact ⟨i + 1, hlt, by push_cast; rfl, Lib.hid (fun j hj hji => by
              by_cases e : j = i
              · subst e; rw [HL.out]; simp
              · exact hall.out j hj (by omega)), hbl⟩
            case measure => simp [intOf]; omega
          · have h1f := eq_false h1
            rw [decide_eq_false h1, Bool.false_or] at HL
            by_cases h2 : s1 = ⟨#[111, 117, 116]⟩
            · subst h2
              go_wp2
              go_roundw
              case rel => exact ⟨i + 1, hlt, by push_cast; rfl, Lib.hid (fun j hj hji => by
                by_cases e : j = i
                · subst e; rw [HL.out]; simp
                · exact hall.out j hj (by omega)), hbl⟩
              case measure => simp [intOf]; omega
            · have h2f := eq_false h2
              rw [decide_eq_false h2, Bool.false_or] at HL
              by_cases h3 : s1 = ⟨#[97, 110, 121]⟩
              · subst h3
                go_wp2
                go_roundw
                case rel => exact ⟨i + 1, hlt, by push_cast; rfl, Lib.hid (fun j hj hji => by
                  by_cases e : j = i
                  · subst e; rw [HL.out]; simp
                  · exact hall.out j hj (by omega)), hbl⟩
                case measure => simp [intOf]; omega
              · have h3f := eq_false h3
                rw [decide_eq_false h3] at HL
                have m1 : (s1.toList == [105, 110]) = false := by
                  rw [beq_eq_false_iff_ne]; intro h; exact h1 (toList_inj9 (h.trans (by decide +kernel)))
                have m2 : (s1.toList == [111, 117, 116]) = false := by
                  rw [beq_eq_false_iff_ne]; intro h; exact h2 (toList_inj9 (h.trans (by decide +kernel)))
                have m3 : (s1.toList == [97, 110, 121]) = false := by
                  rw [beq_eq_false_iff_ne]; intro h; exact h3 (toList_inj9 (h.trans (by decide +kernel)))
                go_wp2
                go_ret
                exact ⟨by rw [HF.out HL.out]; rfl, hbl.out⟩
        · have hl0 : (0 : Int) < (l1.length : Int) := by omega
          have hd0 : decide (0 < l1.length) = true := by rw [decide_eq_true_eq]; omega
          have hd1 : 0 < l1.length := by omega
          rw [decide_eq_false hll, Bool.false_and, Bool.and_false] at HL
          clear hll
          go_wp2
          go_ret
          exact ⟨by rw [HF.out HL.out]; rfl, hbl.out⟩
      · have hk2 : ((k1 : Int) != 15) = true := by rw [bne_iff_ne]; exact hk
        rw [decide_eq_false hk, Bool.false_and] at HL
        clear hk
        go_wp2
        go_ret
        exact ⟨by rw [HF.out HL.out]; rfl, hbl.out⟩
    · have hlt' : ¬ ((i : Int) < (l.length : Int)) := by omega
      have HS : Hid (modeL l = true) := Lib.hid ((modeL_iff l).2 fun j hj => hall.out j hj (by omega))
      have HDD : Hid (decide ((l.length : Int) ≤ 8) = decide (l.length ≤ 8)) := Lib.hid (by rw [decide_eq_decide]; omega)
      go_wp2
      go_ret
      exact ⟨by rw [HS.out, Bool.true_and, ← HDD.out]; rfl, hbl.out⟩
end Go.Proofs.YtgikhpmdpppenaaGreatDoor
