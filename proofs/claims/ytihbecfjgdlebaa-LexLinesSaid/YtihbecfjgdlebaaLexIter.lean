/- Walks of layer 1: the iterator over a text's tokens. -/
import Derived.Test.YtihbecfjgdlebaaLexFinder
import Derived.Test.YtihbecfjgdlebaaLexSkip
import Derived.Test.YtihbecfjgdlebaaLexRound
namespace Go.Proofs.Ytihbecfjgdlebaa
open Go.RowKit
attribute [local go_sem] Oper.semAt_some

def mkTok (l : Lx.Bs) (k i j : Nat) : Lx.Tok := ⟨k, Lx.slice l i j, i⟩

/-- What the iterator ends with: all tokens have been handed over, or a refusal passes up. -/
def IterOut (s : ByteArray) (J : Nat → List Lx.Tok → World → Prop) (Jx : World → Prop) (e : Ending) (w' : World) : Prop :=
  (∃ v E pre, e = .returned v ∧ Lx.scan (bs s) = .toks pre ∧ J E pre w') ∨ (∃ i er, e = .panicked [{ v := refuse i er, recovered := false }] ∧ Lx.scan (bs s) = .bad i er ∧ Jx w')

theorem scan_start {s : ByteArray} (hs : s.size ≤ 20000) : Lx.scan (bs s) = Lx.scanT (bs s) (s.size + 1) [] (Lx.skipTo (bs s) 0) := by
  unfold Lx.scan
  rw [if_neg (by rw [bs_len]; omega), bs_len]

theorem scan_step {l : Lx.Bs} {f i k j : Nat} {pre : List Lx.Tok} (hi : i < l.length) (h : Lx.tokAt l i = some (k, j)) (h6 : pre.length ≠ 6000) (h4 : ¬ 40 < j - i) :
    Lx.scanT l (f + 1) pre i = Lx.scanT l f (pre ++ [mkTok l k i j]) (Lx.skipTo l j) := by
  simp only [Lx.scanT, h, mkTok]
  rw [if_neg (by omega), if_neg h6, if_neg h4]
theorem scan_bad {l : Lx.Bs} {f i k j er : Nat} {pre : List Lx.Tok} (hi : i < l.length) (h : Lx.tokAt l i = some (k, j)) (hc : pre.length = 6000 ∧ er = 2 ∨ pre.length ≠ 6000 ∧ 40 < j - i ∧ er = 11) :
    Lx.scanT l (f + 1) pre i = .bad i er := by
  simp only [Lx.scanT, h]
  rw [if_neg (by omega)]
  rcases hc with ⟨h1, rfl⟩ | ⟨h1, h2, rfl⟩
  · rw [if_pos h1]
  · rw [if_neg h1, if_pos h2]
theorem scan_none {l : Lx.Bs} {f i : Nat} {pre : List Lx.Tok} (hi : i < l.length) (h : Lx.tokAt l i = none) : Lx.scanT l (f + 1) pre i = .bad i 10 := by
  simp only [Lx.scanT, h]
  rw [if_neg (by omega)]
theorem scan_end {l : Lx.Bs} {f i : Nat} {pre : List Lx.Tok} (hi : l.length ≤ i) : Lx.scanT l f pre i = .toks pre := by
  cases f with
  | zero => rfl
  | succ f => simp only [Lx.scanT]; rw [if_pos hi]

/-- What a round keeps: every block but those of X, among those below E and those from b on. -/
def Kept (X : Nat → Prop) (E b : Nat) (w w' : World) : Prop := w.heap.size ≤ w'.heap.size ∧ ∀ k, k < w.heap.size → (k < E ∨ b ≤ k) → ¬ X k → w'.heap[k]? = w.heap[k]?

/-- What one round does. -/
def RoundOut (s : ByteArray) (J : Nat → List Lx.Tok → World → Prop) (Jx : World → Prop) (X : Nat → Prop) (E b : Nat) (pre : List Lx.Tok) (k i j : Nat) (w : World) (e : Ending) (w' : World) : Prop :=
  (e = .returned (.bool true) ∧ J E (pre ++ [mkTok (bs s) k i j]) w' ∧ Kept X E b w w' ∧ pre.length ≠ 6000 ∧ ¬ 40 < j - i) ∨
  (∃ er, e = .panicked [{ v := refuse i er, recovered := false }] ∧ Jx w' ∧ (pre.length = 6000 ∧ er = 2 ∨ pre.length ≠ 6000 ∧ 40 < j - i ∧ er = 11))

theorem FEnv.kept {q : FA} {s : ByteArray} {w w' : World} {X : Nat → Prop} {E b n : Nat} (h : FEnv q s w) (hl : q.lt E) (hg : q.ge n) (hX : ∀ k, X k → k < n) (hk : Kept X E b w w') : FEnv q s w' := by
  have hw := h.lt
  obtain ⟨g1, g2, g3, g4, g5, g6, g7, g8, g9, g10, g11, g12⟩ := hg
  have cl : ∀ a o, a < w.heap.size → a < E → n ≤ a → w'.cell? ⟨a, o, none⟩ = w.cell? ⟨a, o, none⟩ := fun a o h1 h2 h3 =>
    World.cell?_of_block (w := w) (hk.2 a h1 (.inl h2) (fun hx => by have := hX a hx; omega))
  exact ⟨(cl _ _ hw.t hl.t g1).trans h.hT, fun c => (cl _ _ hw.sm hl.sm g2).trans (h.hS c), fun c => (cl _ _ hw.ca hl.ca g3).trans (h.hC c), fun c => (cl _ _ hw.sg hl.sg g4).trans (h.hG c),
    fun c => (cl _ _ hw.nm hl.nm g5).trans (h.hN c), (cl _ _ hw.wd hl.wd g6).trans h.hWd, fun k hk => (cl _ _ hw.wl hl.wl g7).trans (h.hWl k hk), (cl _ _ hw.tk hl.tk g8).trans h.hTk,
    (cl _ _ hw.fo hl.fo g9).trans h.hFo, (cl _ _ hw.ne hl.ne g10).trans h.hNe, (cl _ _ hw.sc hl.sc g11).trans h.hSc, (cl _ _ hw.lo hl.lo g12).trans h.hLo⟩

set_option maxRecDepth 100000 in
set_option maxHeartbeats 400000 in
theorem iter_in (n : Nat) (hn : 1 ≤ n) (s : ByteArray) (T l : Nat) (hs : s.size ≤ 20000) (J : Nat → List Lx.Tok → World → Prop) (Jx : World → Prop) (X : Nat → Prop) (W : World)
    (hX : ∀ k, X k → k < W.heap.size) (hXT : ¬ X T)
    (hJ : ∀ E pre w w', J E pre w → Below w.heap.size w w' → J E pre w') (hJx : ∀ E pre w w', J E pre w → Below w.heap.size w w' → Jx w')
    (hY : ∀ E pre w0 w k i j, J E pre w0 → W.heap.size ≤ E → E ≤ w0.heap.size → Below w0.heap.size w0 w → Lx.tokAt (bs s) i = some (k, j) → YieldAt Fence.wide (n - 1) Try.prog l #[tokV s k i j] w (RoundOut s J Jx X E w0.heap.size pre k i j w))
    (hT : W.cell? ⟨T, 0, none⟩ = some (.string s)) (h0 : ∀ w', Below W.heap.size W w' → J w'.heap.size [] w') :
    CallsIn Fence.wide n Try.prog 71 #[.func (.yield l) #[] #[], .pointer (some ⟨T, 0, none⟩)] W (IterOut s J Jx) := by
  have hm := small_max hs
  have hTl := block_lt_of_cell hT
  simp only at hTl
  refine callsIn_of_wp Try.func71 rfl trivial ?_ rfl
  simp only [Try.ntmps71, List.size_toArray, List.length_cons, List.length_nil, Nat.reduceAdd, Nat.reduceSub, Array.replicate_succ, Array.replicate_zero, List.push_toArray, List.append_toArray, List.nil_append, List.cons_append]
  gi_wp2_with fail
  refine ⟨trivial, ((callsIn_wide (n := n - 1)).2 (finder_any s _ hs)).mono ?_⟩
  rintro e w1 ⟨q, rfl, hE, hb, hg⟩
  have hT1 : w1.cell? ⟨T, 0, none⟩ = some (.string s) := (hb.cell (p := ⟨T, 0, none⟩) hTl).trans hT
  unfold findF
  gi_wp2_with fail
  refine ⟨trivial, ((callsIn_wide (n := n - 1)).2 (skip_int s 0 _ hm (by omega) (by omega))).mono ?_⟩
  rintro e w2 ⟨rfl, rfl⟩
  gi_wp2_with fail
  obtain ⟨E, hEq⟩ : ∃ E, w1.heap.size = E := ⟨_, rfl⟩
  have hqE : q.lt E := hEq ▸ hE.lt
  have hWE : W.heap.size ≤ E := hEq ▸ hb.size
  have hJ0 : J E [] w1 := hEq ▸ h0 w1 hb
  have hE1 : E ≤ w1.heap.size := by omega
  clear hEq
  have hlen := bs_len s
  have hsk := Lx.skipTo_le (l := bs s) (i := 0) (Nat.zero_le _)
  rw [hlen] at hsk
  have Hscan := Lib.hid (scan_start hs)
  have Hlen := Lib.hid hlen; clear hlen
  gi_loopw [4] (fun a wr => ∃ (f : Nat) (pre : List Lx.Tok) (i : Nat), a = .int .i64 i ∧ i ≤ s.size ∧ s.size + 1 ≤ i + f ∧ Hid (Lx.scan (bs s) = Lx.scanT (bs s) f pre i) ∧ J E pre wr ∧ FEnv q s wr ∧ wr.cell? ⟨T, 0, none⟩ = some (.string s) ∧ E ≤ wr.heap.size)
    (fun a _ => s.size - (intOf a).toNat)
  case atStart =>
    exact ⟨s.size + 1, [], _, rfl, hsk.2, by omega, Hscan, hJ0, hE, hT1, hE1⟩
  case round =>
    obtain ⟨f, pre, i, rfl, hi, hf, hsc, hJr, hEr, hTr, hle⟩ := hrel
    clear hE hT1 hE1 hJ0 hb
    by_cases hlt : i < s.size
    · obtain ⟨f, rfl⟩ : ∃ f', f = f' + 1 := ⟨f - 1, by omega⟩
      gi_wp2_with fail
      refine ⟨trivial, ((callsIn_wide (n := n - 1)).2 (find_any q s i wr hs hlt hEr)).mono ?_⟩
      rintro e w2 (⟨k, j, htok, rfl, hb2⟩ | ⟨hnone, rfl, hb2⟩)
      · obtain ⟨hij, hj⟩ := Lx.tokAt_lt htok
        rw [Hlen.out] at hj
        have hJ2 := hJ E pre wr w2 hJr hb2
        have hE2 := hEr.below hEr.lt hb2
        have hT2 : w2.cell? ⟨T, 0, none⟩ = some (.string s) := (hb2.cell (p := ⟨T, 0, none⟩) (by simp only; omega)).trans hTr
        have hs2 := hb2.size
        have hz2 : ∀ o, E ≤ (w2.alloc o).heap.size := fun o => by rw [World.size_alloc]; omega
        obtain ⟨fn, tmps, assign, body, hy, hR⟩ := hY E pre w2 (w2.alloc (.cells #[.int .i64 k, .string (s.extract i j), .int .i64 i] 33)) k i j hJ2 hWE (by omega) ((Below.refl _ _).alloc (Nat.le_refl _) _) htok
        unfold tokV at hy ⊢
        have Htok := Lib.hid htok
        clear htok hb2 hJr hEr hTr
        gi_wp2_with fail
        refine hR.mono ?_
        clear hy hR
        rintro e w3 (⟨rfl, hJ3, hk3, h6, h40⟩ | ⟨er, rfl, hx, hc⟩)
        · have hE3 := FEnv.kept (n := W.heap.size) (hE2.alloc _) hqE hg hX hk3
          have hT3 : w3.cell? ⟨T, 0, none⟩ = some (.string s) :=
            (World.cell?_of_block (w := w2.alloc _) (hk3.2 T (by rw [World.size_alloc]; omega) (.inl (by omega)) hXT)).trans ((World.cell?_alloc_past _ _ _ (by omega)).trans hT2)
          have hc3 : w3.cell? ⟨w2.heap.size, 1, none⟩ = some (.string (s.extract i j)) :=
            (World.cell?_of_block (w := w2.alloc _) (hk3.2 w2.heap.size (by rw [World.size_alloc]; omega) (.inr (Nat.le_refl _)) (fun hx => by have := hX _ hx; omega))).trans (by simp [World.cell?_alloc_at])
          have hl3 : E ≤ w3.heap.size := Nat.le_trans (hz2 _) hk3.1
          have Hst := Lib.hid (hsc.out.trans (scan_step (by rw [Hlen.out]; exact hlt) Htok.out h6 h40))
          clear hE2 hT2 hk3 h6 h40 hz2
          have hsj := Lx.skipTo_le (l := bs s) (i := j) (by rw [Hlen.out]; exact hj)
          rw [Hlen.out] at hsj
          gi_wp2_with fail
          refine ⟨trivial, ((callsIn_wide (n := n - 1)).2 (skip_int s _ _ hm (by omega) (by omega))).mono ?_⟩
          rintro e w4 ⟨rfl, rfl⟩
          rw [show ((i : Int) + ((j - i : Nat) : Int)).toNat = j from by omega]
          gi_wp2_with fail
          go_roundw
          case rel => exact ⟨f, pre ++ [mkTok (bs s) k i j], Lx.skipTo (bs s) j, rfl, hsj.2, by omega, Hst, hJ3, hE3, hT3, hl3⟩
          case measure => simp [intOf]; omega
        · exact ⟨rfl, .inr ⟨i, er, rfl, hsc.out.trans (scan_bad (by rw [Hlen.out]; exact hlt) Htok.out hc), hx⟩⟩
      · exact ⟨rfl, .inr ⟨i, 10, rfl, hsc.out.trans (scan_none (by rw [Hlen.out]; exact hlt) hnone), hJx E pre wr w2 hJr hb2⟩⟩
    · gi_wp2
      refine bodyPost_ret (results_none rfl _ _ _) rfl ?_
      exact .inl ⟨_, E, pre, rfl, hsc.out.trans (scan_end (by rw [Hlen.out]; omega)), hJr⟩
end Go.Proofs.Ytihbecfjgdlebaa
