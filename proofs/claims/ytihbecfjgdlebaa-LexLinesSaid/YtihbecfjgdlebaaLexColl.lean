/- Walks of layer 1: Comments. -/
import Derived.Test.YtihbecfjgdlebaaLexComs
namespace Go.Proofs.Ytihbecfjgdlebaa
open Go.RowKit
attribute [local go_sem] Oper.semAt_some

def flatC (l : List (Nat × Nat)) : List Value := l.flatMap fun c => [.int .i64 c.1, .int .i64 c.2]
theorem flatC_snoc (l : List (Nat × Nat)) (c : Nat × Nat) : flatC (l ++ [c]) = flatC l ++ [.int .i64 c.1, .int .i64 c.2] := by
  rw [flatC, List.flatMap_append]; simp only [flatC, List.flatMap_cons, List.flatMap_nil, List.append_nil]
/-- A slice value that owns these places, from block B on. -/
def Coms (B : Nat) (v : Value) (l : List (Nat × Nat)) (w : World) : Prop := w.ownsRow B 55 2 v l.length (flatC l)
theorem infoPair : (Try.prog.info? 55).map (fun i => (i.zero, i.size, i.bytes)) = some (some (.agg #[.int .i64 0, .int .i64 0]), 2, 16) := by kernel_rfl

set_option maxRecDepth 100000 in
theorem comments_any (s : ByteArray) (w : World) :
    Calls Try.prog 68 #[.string s] w fun e w' => e = .returned (.func (.func 91) #[] #[.pointer (some ⟨w.heap.size, 0, none⟩)]) ∧ w' = w.alloc (.cells #[.string s] 9) := by
  have hmf : ∀ (fn : Fn) (first cap : Array Value) (w : World), (Instr.makeFunc fn first cap).run Try.prog w = .ok (.func fn first cap) w := fun _ _ _ _ => rfl
  go_enter Try.func68, Try.ntmps68
  go_wp2
  go_ret
  exact ⟨rfl, rfl⟩

theorem cells2 (W : World) (a b : Value) (t : TypeId) (n : Nat) (hn : n = W.heap.size) : ∀ (j : Nat) (u : Value), [a, b][j]? = some u → (W.alloc (.cells #[a, b] t)).cell? ((⟨n, 0, none⟩ : Addr).add j) = some u := by
  intro j u hj
  subst hn
  have hadd : (⟨W.heap.size, 0, none⟩ : Addr).add j = ⟨W.heap.size, j, none⟩ := by unfold Addr.add; split <;> simp_all
  rw [hadd, World.cell?_alloc_at _ _ _ _ rfl]
  simpa using hj

/-- Between two rounds. -/
def JC (s : ByteArray) (w : World) (h D L T : Nat) (r : Loop) (pre : List (Nat × Nat)) (W : World) : Prop :=
  Below h w W ∧ L < W.heap.size ∧ W.cell? ⟨T, 0, none⟩ = some (.string s) ∧ W.heap[D]? = some (.deferred (some [])) ∧ W.heap[L]? = some (.loop r) ∧ ∃ v, Boxed W h 49 v ∧ Coms (L + 1) v pre W

set_option maxRecDepth 100000 in
set_option maxHeartbeats 400000 in
theorem appendSeq_any (n : Nat) (hn : 3 ≤ n) (s : ByteArray) (T : Nat) (w : World) (hs : s.size ≤ 1000000000) (hT : w.cell? ⟨T, 0, none⟩ = some (.string s)) :
    CallsIn Fence.wide n Try.prog 90 #[.slice none 0 0, .func (.func 91) #[] #[.pointer (some ⟨T, 0, none⟩)]] w fun e w' =>
      ∃ v, e = .returned v ∧ Coms w.heap.size v (coms (bs s)) w' ∧ Below w.heap.size w w' := by
  have eg : ∀ args w, (callFunc 91 args).run Try.prog w = .ok (.enter 91 args) w := enters_of Try.func91 (by kernel_rfl) rfl
  have hn1 : 1 ≤ n := by omega
  have hTl := block_lt_of_cell hT
  simp only at hTl
  refine callsIn_of_wpAt Try.func90 rfl ?_
  simp only [Try.ntmps90, List.size_toArray, List.length_cons, List.length_nil, Nat.reduceAdd, Nat.reduceSub, Array.replicate_succ, Array.replicate_zero, List.push_toArray, List.append_toArray, List.nil_append, List.cons_append]
  refine wpAt_seq (wpAt_of_wpIn ?_)
  gi_wp2
  refine wpAt_seq (wpAt_seq (wpAt_of_wpIn ?_))
  gi_wp2
  refine wpAt_block (wpAt_rangeFunc_fn (gf := 91) (lb := #[.pointer (some ⟨T, 0, none⟩)]) rfl eg ?_)
  intro r hr
  have hr1 : r.state = .ready := by rw [hr]
  have hr2 : r.pending = none := by rw [hr]
  have hr3 : r.params = #[7] := by rw [hr]
  obtain ⟨h, hh⟩ : ∃ h, w.heap.size = h := ⟨_, rfl⟩
  have hD : (w.alloc (.cells #[.slice none 0 0] 49)).heap.size = h + 1 := by simp [hh]
  have hcall : CallsIn Fence.wide (n - 1) Try.prog 91 #[.func (.yield (h + 1 + 1)) #[] #[], .pointer (some ⟨T, 0, none⟩)] (((w.alloc (.cells #[.slice none 0 0] 49)).alloc (.deferred (some []))).alloc (.loop r))
      (fun e w' => (∃ v, e = .returned v) ∧ JC s w h (h + 1) (h + 1 + 1) T r (coms (bs s)) w') := by
    refine coms_in (n - 1) (by omega) s T (h + 1 + 1) (by unfold maxLen; omega) (JC s w h (h + 1) (h + 1 + 1) T r) _ (fun pre w' hj => hj.2.2.1) ?_ ?_
    · intro pre W i hJ hi h37 hpr hie hel
      obtain ⟨R, hR⟩ : ∃ R : Ending → World → Prop, (fun e w' => e = .returned (.bool true) ∧ JC s w h (h + 1) (h + 1 + 1) T r (pre ++ [(i, Lx.lineTo (bs s) i)]) w') = R := ⟨_, rfl⟩
      rw [hR]
      have HR := Lib.hid hR; clear hR
      obtain ⟨E, hE⟩ : ∃ E, Lx.lineTo (bs s) i = E := ⟨_, rfl⟩
      rw [hE] at hie hel HR ⊢
      clear hE h37
      have j3 : pre.length ≤ s.size := by have := hpr.1; omega
      obtain ⟨j1, j2, j4, j5, j6, v, j7, j8⟩ := hJ
      obtain ⟨a, cap, rfl⟩ := ownsRow_shape j8
      have hrow0 := ownBlock_lt j8
      refine ⟨_, _, _, _, run_yield (P := Try.prog) j6 (by rw [hr3]; rfl), ?_⟩
      have hr4 : r.fn = 90 := by rw [hr]
      have hrs := hr1
      rw [hr4]
      refine roundIn_of_wpIn_p trivial Try.func90 ?_
      simp only [hr]
      have HRQ := Lib.hid (show ({ r with state := .ready, pending := none } : Loop) = r from by rw [hr])
      clear hr hr1 hr2 hr3 hr4
      unfold comV
      gi_wp2
      refine ⟨_, run_beginRound (r := r) ((Below.heap_alloc _ _ _ (heap_lt j6)).trans j6) hrs, ?_⟩
      obtain ⟨W2, hW2⟩ : ∃ W2, (W.alloc (.cells #[.int .i64 i, .int .i64 E] 55)).putObj (h + 1 + 1) (.loop { r with state := .busy }) = W2 := ⟨_, rfl⟩
      have ltL := heap_lt j6
      have m6 : W2.heap[h + 1 + 1]? = some (.loop { r with state := .busy }) := by rw [← hW2]; exact World.putObj_heap_same (by rw [World.size_alloc]; omega)
      have ko : ∀ b, b < W.heap.size → b ≠ h + 1 + 1 → W2.heap[b]? = W.heap[b]? := fun b hb1 hb2 => by
        rw [← hW2]; exact (World.putObj_heap_other hb2).trans (Below.heap_alloc _ _ _ hb1)
      have mz : W2.heap.size = W.heap.size + 1 := by rw [← hW2, World.putObj_size, World.size_alloc]
      have mt : W2.heap[W.heap.size]? = some (.cells #[.int .i64 i, .int .i64 E] 55 (0, 0)) := by
        rw [← hW2]; exact (World.putObj_heap_other (by omega)).trans (World.alloc_heap_new _ _)
      have mb : Below h w W2 := by rw [← hW2]; exact below_put (j1.alloc (by have := j1.size; omega) _) _ _ (by omega)
      rw [hW2]
      have m5 := (ko (h + 1) (by omega) (by omega)).trans j5
      have m7 : Boxed W2 h 49 (.slice a pre.length cap) := (ko _ (by omega) (by omega)).trans j7
      have m8 : Coms (h + 1 + 1 + 1) (.slice a pre.length cap) pre W2 := ownsRow_blocks j8 fun b hb1 hb2 _ => ko b hb2 (by omega)
      have t0 : W2.cell? ⟨W.heap.size, 0, none⟩ = some (.int .i64 i) := cell_of_row _ _ _ _ _ _ mt
      have t1 : W2.cell? ⟨W.heap.size, 1, none⟩ = some (.int .i64 E) := cell_of_row _ _ _ _ _ _ mt
      have c0 := m7.cell
      have f0 := m7.frozen
      have koH := Lib.hid ko
      clear hW2 ko mt
      obtain ⟨i0, hi0, hz0, hz1, hz2⟩ := info_parts infoPair
      have m8' : Hid (W2.ownsRow (h + 1 + 1 + 1) 55 2 (.slice a pre.length cap) pre.length (flatC pre)) := m8
      have hz3 := Lib.hid mz
      clear mz
      gi_wp2_with (gi_at_builtin; refine wpListIn_append_own _ rfl _ _ 49 rfl (h + 1 + 1 + 1) 55 i0 _ 2 16 Try.underlying49 hi0 hz0 hz1 hz2 rfl (by decide) _ _ _ rfl (m8'.out.alloc _) ⟨W2.heap.size, 0, none⟩ 1 1 [.int .i64 i, .int .i64 E] (by rw [hz3.out]; rfl) rfl (cells2 W2 _ _ _ _ rfl) (by simp [Value.oneCell']) (by unfold maxLen; omega) (by omega) (by simp only [World.size_alloc]; have := hz3.out; omega) ?_; intro v' w3 hown' hgrow _; obtain ⟨g, cap', rfl⟩ := ownsRow_succ hown'; have hv1 : Boxed w3 h 49 (.slice a pre.length cap) := (boxed_alloc m7 _).kept hgrow (m7.not_row (by decide) m8); have hvc := hv1.cell; have hvf := hv1.frozen; have Hown := Lib.hid hown'; have Hgrow : Hid ((W2.alloc (.cells #[.int .i64 i, .int .i64 E] 55)).grownBy w3 (Value.slice a pre.length cap).ownBlock) := hgrow; clear hown' hgrow)
      have hsz := hz3.out
      have gl : ∀ b, b < W2.heap.size → (∀ g0, (Value.slice a pre.length cap).ownBlock = some g0 → b ≠ g0) → w3.heap[b]? = W2.heap[b]? := fun b hb1 hb2 =>
        (Hgrow.out.block b (by rw [World.size_alloc]; omega) (fun e => hb2 b e.symm rfl)).trans (Below.heap_alloc _ _ _ hb1)
      have gE : ∀ b, b < h + 1 + 1 + 1 → ∀ g0, (Value.slice a pre.length cap).ownBlock = some g0 → b ≠ g0 := fun b hb1 g0 hg0 => by have := (hrow0 g0 hg0).1; omega
      have l3 : w3.heap[h + 1 + 1]? = some (.loop { r with state := .busy }) := (gl _ (by omega) (gE _ (by omega))).trans m6
      obtain ⟨W5, hW5⟩ : ∃ W5, w3.setCell ⟨h, 0, none⟩ (.slice (some ⟨g, 0, none⟩) (pre.length + 1) cap') = W5 := ⟨_, rfl⟩
      have so : ∀ b, b ≠ h → W5.heap[b]? = w3.heap[b]? := fun b hb1 => by rw [← hW5]; exact Below.heap_setCell _ _ _ _ hb1
      have sz : W5.heap.size = w3.heap.size := by rw [← hW5]; simp [World.setCell]
      have gz : W2.heap.size + 1 ≤ w3.heap.size := by have := Hgrow.out.size; rwa [World.size_alloc] at this
      have l5 : W5.heap[h + 1 + 1]? = some (.loop { r with state := .busy }) := (so _ (by omega)).trans l3
      have b5 : Boxed W5 h 49 (.slice (some ⟨g, 0, none⟩) (pre.length + 1) cap') := by rw [← hW5]; exact hv1.set _
      have o5 : W5.ownsRow (h + 1 + 1 + 1) 55 2 (.slice (some ⟨g, 0, none⟩) (pre.length + 1) cap') (pre.length + 1) (flatC pre ++ [.int .i64 i, .int .i64 E]) := by
        rw [← hW5]; exact Hown.out.kept (grownBy_setCell' w3 h _) (.inr (hv1.not_row (by decide) Hown.out).symm)
      have bl5 : Below h w W5 := by
        rw [← hW5]
        exact ((mb.alloc (by have := mb.size; omega) _).grown Hgrow.out (by rw [World.size_alloc]; omega) (fun b hb1 => by have := (hrow0 b hb1).1; omega)).setCell (p := ⟨h, 0, none⟩) (Nat.le_refl _) _
      rw [hW5]
      refine ⟨_, _, run_endRound none l5, ?_⟩
      have HQ := HRQ.out
      have e0 : ({ ({ r with state := .busy } : Loop) with state := .ready, pending := none } : Loop) = r := HQ
      simp only [Option.isNone_none, if_true]
      rw [e0, ← HR.out]
      have po : ∀ b, b ≠ h + 1 + 1 → (W5.putObj (h + 1 + 1) (.loop r)).heap[b]? = W5.heap[b]? := fun b hb1 => World.putObj_heap_other hb1
      refine ⟨rfl, below_put bl5 _ _ (by omega), by rw [World.putObj_size]; omega, ?_, ?_, World.putObj_heap_same (by omega), _, boxed_put b5 (by omega), ?_⟩
      · refine (World.cell?_of_block (w := W) ?_).trans j4
        exact (po T (by omega)).trans ((so T (by omega)).trans ((gl T (by omega) (gE T (by omega))).trans (koH.out T (by omega) (by omega))))
      · exact (po _ (by omega)).trans ((so _ (by omega)).trans ((gl _ (by omega) (gE _ (by omega))).trans m5))
      · have ht : flatC (pre ++ [(i, E)]) = flatC pre ++ [.int .i64 i, .int .i64 E] := flatC_snoc pre (i, E)
        unfold Coms
        rw [ht, List.length_append]
        exact ownsRow_blocks o5 fun b hb1 hb2 _ => po b (by omega)
    · have hb0 : Below h w (((w.alloc (.cells #[.slice none 0 0] 49)).alloc (.deferred (some []))).alloc (.loop r)) := by
        rw [← hh]; exact (((Below.refl _ w).alloc (Nat.le_refl _) _).alloc (by simp) _).alloc (by simp; omega) _
      refine ⟨hb0, by simp [hh], (hb0.cell (p := ⟨T, 0, none⟩) (by simp only; omega)).trans hT, ?_, ?_, _, ?_, World.ownsRow_nil _ _ _ _⟩
      · rw [← hh]; exact heap3_2 w _ _ _
      · rw [← hh]; exact heap3_3 w _ _ _
      · rw [← hh]; exact heap3_1 w _ _ _
  rw [hD]
  refine hcall.mono ?_
  rintro e w' ⟨⟨v0, rfl⟩, j1, j2, j4, j5, j6, v, j7, j8⟩
  refine ⟨none, w'.putObj (h + 1 + 1) (.loop { r with state := .exhausted }), ?_, ?_⟩
  · refine (run_endLoop (P := Try.prog) j6 (by rw [hr1]; simp)).trans ?_
    rw [hr2]
  · obtain ⟨W4, hW4⟩ : ∃ W4, w'.putObj (h + 1 + 1) (.loop { r with state := .exhausted }) = W4 := ⟨_, rfl⟩
    have ko : ∀ k, k ≠ h + 1 + 1 → W4.heap[k]? = w'.heap[k]? := fun k hk => by rw [← hW4]; exact World.putObj_heap_other hk
    have kz : W4.heap.size = w'.heap.size := by rw [← hW4]; exact World.putObj_size
    have kb : Below h w W4 := by rw [← hW4]; exact below_put j1 _ _ (by omega)
    rw [hW4]
    clear hW4
    have k7 : Boxed W4 h 49 v := (ko _ (by omega)).trans j7
    have k8 : Coms (h + 1 + 1 + 1) v (coms (bs s)) W4 := ownsRow_blocks j8 fun k hk _ _ => ko k (by omega)
    have k5 := (ko (h + 1) (by omega)).trans j5
    obtain ⟨a, cap, rfl⟩ := ownsRow_shape k8
    have c0 := k7.cell
    have f0 := k7.frozen
    clear hcall ko j1 j2 j4 j5 j6 j7 j8
    rw [hh]
    refine wpAt_of_wpIn (n := n) ?_
    dsimp only [List.cons_append, List.nil_append]
    gi_wp2
    refine ⟨by simp, .inl ⟨_, _, rfl, run_takeDeferred k5, ?_⟩⟩
    refine ⟨_, by simp [results, Try.results90, go_sem]; rfl, _, rfl, ?_, below_put kb _ _ (by omega)⟩
    exact ownsRow_base (ownsRow_blocks k8 fun k hk _ _ => World.putObj_heap_other (by omega)) (by omega)
end Go.Proofs.Ytihbecfjgdlebaa
